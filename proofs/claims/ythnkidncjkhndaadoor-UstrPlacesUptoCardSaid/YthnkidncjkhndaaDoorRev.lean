/-
  Contracts of slices.Reverse over units and of reverse.
-/
import Derived.BigRegion
import Derived.Test.YthnkidncjkhndaaDoorLast
namespace Go.Proofs.YthnkidncjkhndaaDoor
open Go.RowKit
def rvF (N k : Nat) (g : Nat → Nat) (x : Nat) : Nat := if x < k ∨ N < x + 1 + k then g (N - 1 - x) else g x
set_option maxRecDepth 100000 in
set_option maxHeartbeats 2000000 in
theorem rev93_any (b N : Nat) (g : Nat → Nat) (w : World) (hN : (N : Int) ≤ 4611686018427387903) (hr : w.rowIs b 29 N (fun j => .int .u16 (g j : Nat))) :
    Calls Tryd.prog 93 #[.slice (some ⟨b, 0, none⟩) N N] w fun e w' => e = .returned (.tuple #[]) ∧ w'.rowIs b 29 N (fun j => .int .u16 (g (N - 1 - j) : Nat)) ∧ Below b w w' := by
  have HR0 := Lib.hid (show w.rowIs b 29 N (fun j => .int .u16 (rvF N 0 g j : Nat)) from hr.congr fun j hj => by unfold rvF; rw [if_neg (by omega)])
  clear hr
  go_enter Tryd.func93, Tryd.ntmps93
  go_wp2
  go_loopw [2, 3] (fun i j wr => ∃ k : Nat, i = .int .i64 k ∧ j = .int .i64 ((N : Int) - 1 - k) ∧ 2 * k ≤ N + 1 ∧ Hid (wr.rowIs b 29 N (fun j => .int .u16 (rvF N k g j : Nat))) ∧ Below b w wr) (fun i _ _ => N - (intOf i).toNat)
  case atStart => exact ⟨0, rfl, by go_num, by omega, HR0, Below.refl _ _⟩
  case round =>
    obtain ⟨k, rfl, rfl, hk, HI, hbw⟩ := hrel
    clear HR0
    by_cases hlt : 2 * k + 1 < N
    · obtain ⟨m, hm⟩ : ∃ m, N - 1 - k = m := ⟨_, rfl⟩
      have hmi : (N : Int) - 1 - k = (m : Nat) := by omega
      have hkm : k < m := by omega
      have hmN : m < N := by omega
      have a1 : (k : Int) < (m : Nat) := by omega
      have a2 : (m : Int) < (N : Nat) := by omega
      have a3 : (k : Int) < (N : Nat) := by omega
      have k1 : wr.cell? ⟨b, k, none⟩ = some (.int .u16 (g k : Nat)) := by
        have := HI.out.cell (show k < N by omega)
        rw [show rvF N k g k = g k by unfold rvF; rw [if_neg (by omega)]] at this
        simpa using this
      have k2 : wr.cell? ⟨b, m, none⟩ = some (.int .u16 (g m : Nat)) := by
        have := HI.out.cell hmN
        rw [show rvF N k g m = g m by unfold rvF; rw [if_neg (by omega)]] at this
        simpa using this
      have f1 := HI.out.frozen k
      have f2 := HI.out.frozen m
      have HI2 := Lib.hid (show ((wr.setCell ⟨b, k, none⟩ (.int .u16 (g m : Nat))).setCell ⟨b, m, none⟩ (.int .u16 (g k : Nat))).rowIs b 29 N (fun j => .int .u16 (rvF N (k + 1) g j : Nat)) from
        ((HI.out.set k (.int .u16 (g m : Nat))).set m (.int .u16 (g k : Nat))).congr fun j hj => by
          by_cases h1 : j = m
          · subst h1
            have : rvF N (k + 1) g j = g k := by unfold rvF; rw [if_pos (by omega), show N - 1 - j = k by omega]
            simp [this]
          · by_cases h2 : j = k
            · subst h2
              have : rvF N (j + 1) g j = g m := by unfold rvF; rw [if_pos (by omega), hm]
              simp [this, h1]
            · have : rvF N (k + 1) g j = rvF N k g j := by
                unfold rvF
                by_cases h3 : j < k ∨ N < j + 1 + k
                · rw [if_pos h3, if_pos (by omega)]
                · rw [if_neg h3, if_neg (by omega)]
              simp [this, h1, h2])
      rw [hmi]
      go_wp2
      go_region
      go_wp2
      go_roundw
      case rel => exact ⟨k + 1, by go_num, by go_num, by omega, HI2, ((hbw.setCell (p := ⟨b, k, none⟩) (Nat.le_refl _) _).setCell (p := ⟨b, m, none⟩) (Nat.le_refl _) _).drew⟩
      case measure => simp [intOf]; omega
    · have HZ := Lib.hid (show wr.rowIs b 29 N (fun j => .int .u16 (g (N - 1 - j) : Nat)) from HI.out.congr fun j hj => by
        unfold rvF
        by_cases h : j < k ∨ N < j + 1 + k
        · rw [if_pos h]
        · rw [if_neg h, show N - 1 - j = j by omega])
      have a1 : ¬ (k : Int) < (N : Int) - 1 - k := by omega
      go_wp2
      go_end0
      exact ⟨rfl, HZ.out, hbw⟩
set_option maxRecDepth 100000 in
theorem reverse_any (t : ByteArray) (w : World) (ht : t.size ≤ 140737488355328) :
    Calls Tryd.prog 77 #[.string t] w fun e w' => e = .returned (.string (rvS t)) ∧ Below w.heap.size w w' := by
  have hl := ln_le t
  have c1 := units_any t w ht
  have H2 := Lib.hid (fun W hr => rev93_any w.heap.size (ln t) (un t) W (by omega) hr)
  have hlen : (us t).reverse.length = ln t := by rw [List.length_reverse, us_length]
  have H3 := Lib.hid (fun W (hb : w.heap.size < W.heap.size) (hc : Cells16 (us t).reverse w.heap.size 0 W) => by
    have h := make_any (us t).reverse (fun u hu => us_lt t u (List.mem_reverse.1 hu)) w.heap.size 0 (ln t) W hb hc (by omega)
    rw [hlen] at h
    exact h)
  have HLn := Lib.hid hlen
  clear ht hl hlen
  go_enter Tryd.func77, Tryd.ntmps77
  go_wp2_with fail
  refine c1.mono ?_
  rintro e w1 ⟨rfl, hrow, hb1⟩
  have hlt : w.heap.size < w1.heap.size := hrow.lt
  have C2 := Lib.hid (H2.out w1 hrow)
  clear hrow c1
  go_wp2_with fail
  refine C2.out.mono ?_
  rintro e w2 ⟨rfl, hrow2, hb2⟩
  have hlt2 : w.heap.size < w2.heap.size := Nat.lt_of_lt_of_le hlt hb2.size
  have C3 := Lib.hid (H3.out w2 hlt2 (fun k u hk => by
    have hk2 : k < (us t).reverse.length := (List.getElem?_eq_some_iff.1 hk).1
    have hk3 := HLn.out
    have h := hrow2.cell (show k < ln t by omega)
    have hu : un t (ln t - 1 - k) = u := by
      rw [List.getElem?_reverse (by rw [us_length]; omega), us_length, us_some t _ (by omega)] at hk
      exact Option.some.inj hk
    rw [hu] at h
    simpa using h))
  have hb12 := hb1.trans hb2
  clear hrow2 hb1 hb2
  go_wp2_with fail
  refine C3.out.mono ?_
  rintro e w3 ⟨rfl, hb3⟩
  go_wp2
  go_ret
  exact ⟨rfl, below_le hb12 hb3⟩
end Go.Proofs.YthnkidncjkhndaaDoor
