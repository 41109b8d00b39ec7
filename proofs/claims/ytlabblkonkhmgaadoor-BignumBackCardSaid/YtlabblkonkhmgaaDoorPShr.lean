/-
  Contract of Shr of the program.
-/
import Derived.Test.YtlabblkonkhmgaaDoorLoses
namespace Go.Proofs.YtlabblkonkhmgaaDoor
open Go.RowKit
/-- What Shr tells: a quotient, and whether something is lost. -/
def ShrQ (v q : Nat) (w : World) (e : Ending) (w' : World) : Prop :=
  ∃ A n c, e = .returned (.tuple #[.slice A n c, .bool (decide (v % 2 ^ q ≠ 0))]) ∧ n = (wds (v / 2 ^ q)).length ∧ n ≤ c ∧ RW w' w'.heap.size A (wds (v / 2 ^ q)) ∧ Below w.heap.size w w'
theorem ShrQ.same {v : Nat} {w w' : World} {A : Option Addr} {n c : Nat} (hn : n = (wds v).length) (hc : n ≤ c) (hr : RW w' w'.heap.size A (wds v)) (hb : Below w.heap.size w w') : ShrQ v 0 w (.returned (.tuple #[.slice A n c, .bool false])) w' :=
  ⟨A, n, c, by simp [Nat.mod_one], by simpa using hn, hc, by simpa using hr, hb⟩
theorem ShrQ.none {v q : Nat} {w w' : World} {b : Bool} (hv : v < 2 ^ q) (hb : b = decide (v ≠ 0)) (hw : Below w.heap.size w w') : ShrQ v q w (.returned (.tuple #[.slice none 0 0, .bool b])) w' :=
  ⟨Option.none, 0, 0, by rw [Nat.mod_eq_of_lt hv, hb], by rw [Nat.div_eq_of_lt hv]; rfl, Nat.le_refl _, by rw [Nat.div_eq_of_lt hv]; exact RW.nil _ _ _, hw⟩
set_option maxHeartbeats 1000000 in
theorem pshr_low (A : Option Addr) (n c : Nat) (p : Int) (l : List Nat) (w : World) (hn : l.length = n) (hc : n ≤ c) (hm : n ≤ 35184372087808) (h : RW w w.heap.size A l) (hp : p ≤ 0) :
    Calls Tryd.prog 45 #[.slice A n c, .int .i64 p] w (ShrQ (val l) 0 w) := by
  have c1 := cut_any A n c l w.heap.size w hn hc (by omega) h
  have hle := nrm_len l
  obtain ⟨N, hN⟩ : ∃ N, (nrm l).length = N := ⟨_, rfl⟩
  rw [hN] at c1 hle
  have c2 := (norm_any A N N (nrm l) w hN (Nat.le_refl _) (by omega) h.nrm).mono fun _ _ x => SlPost.of h.1.nrm.nrm x
  rw [nrm_nrm, nrm_wds h.1] at c2
  clear hn hc hm h hle hN
  go_enter Tryd.func45, Tryd.ntmps45
  go_wp2_with fail
  refine c1.mono ?_
  rintro e w1 ⟨rfl, rfl⟩
  go_wp2_with fail
  refine c2.mono ?_
  rintro e w1 ⟨v1, rfl, ⟨A1, d1, rfl, hd, hr⟩, hb⟩
  have HD := Lib.hid hd
  have HR := Lib.hid hr
  have HB := Lib.hid hb
  clear hd hr hb
  go_wp2
  go_ret2
  exact ShrQ.same rfl HD.out HR.out HB.out
set_option maxHeartbeats 1000000 in
theorem pshr_far (A : Option Addr) (n c p : Nat) (l : List Nat) (w : World) (hn : l.length = n) (hc : n ≤ c) (hm : n ≤ 35184372087808) (h : RW w w.heap.size A l) (hp : 0 < p) (hf : btl (nrm l) ≤ p) :
    Calls Tryd.prog 45 #[.slice A n c, .int .i64 p] w (ShrQ (val l) p w) := by
  have c1 := cut_any A n c l w.heap.size w hn hc (by omega) h
  have hle := nrm_len l
  have HV := Lib.hid (show val l < 2 ^ p by
    by_cases h0 : nrm l = []
    · rw [← val_nrm l, h0]; exact Nat.two_pow_pos p
    · have := (btl_bounds h.1.nrm (by rw [nrm_nrm]; exact h0)).2.1
      rw [val_nrm] at this
      exact Nat.lt_of_lt_of_le this (Nat.pow_le_pow_right (by omega) hf))
  have hz : (val l ≠ 0) ↔ 0 < (nrm l).length := by
    constructor
    · intro a
      refine List.length_pos_iff.2 fun e => a ?_
      rw [← val_nrm l, e]; rfl
    · intro a e
      rw [nrm_val_zero e] at a
      exact absurd a (by simp)
  obtain ⟨N, hN⟩ : ∃ N, (nrm l).length = N := ⟨_, rfl⟩
  rw [hN] at c1 hle hz
  have HZ := Lib.hid hz
  have c2 := bits_any A N N (nrm l) w.heap.size w hN (Nat.le_refl _) (by omega) h.nrm
  have hp1 : ¬ (p : Int) ≤ 0 := by omega
  obtain ⟨t, ht⟩ : ∃ t, btl (nrm l) = t := ⟨_, rfl⟩
  rw [ht] at c2 hf
  have hf1 : (t : Int) ≤ (p : Int) := by omega
  clear hn hc hm h hle hN hz hp hf ht
  go_enter Tryd.func45, Tryd.ntmps45
  go_wp2_with fail
  refine c1.mono ?_
  rintro e w1 ⟨rfl, rfl⟩
  go_wp2_with fail
  refine c2.mono ?_
  rintro e w1 ⟨rfl, rfl⟩
  go_wp2
  go_ret2
  exact ShrQ.none HV.out (decide_eq_decide.2 HZ.out.symm) (Below.refl _ _)
set_option maxRecDepth 100000 in
set_option maxHeartbeats 4000000 in
theorem pshr_mid (A : Option Addr) (n c p o s : Nat) (l : List Nat) (w : World) (hn : l.length = n) (hc : n ≤ c) (hm : n ≤ 35184372087808) (h : RW w w.heap.size A l) (hp : 0 < p) (hf : p < btl (nrm l)) (hpo : p = 32 * o + s) (hs : s < 32) :
    Calls Tryd.prog 45 #[.slice A n c, .int .i64 p] w (ShrQ (val l) p w) := by
  have c1 := cut_any A n c l w.heap.size w hn hc (by omega) h
  have hle := nrm_len l
  have hbt := btl_le h.1.nrm
  rw [nrm_nrm] at hbt
  obtain ⟨N, hN⟩ : ∃ N, (nrm l).length = N := ⟨_, rfl⟩
  rw [hN] at c1 hle hbt
  have hoN : o < N := by omega
  obtain ⟨b, off, rfl, _, _⟩ := h.2 (by omega)
  have hA := h.nrm
  have c2 := bits_any (some ⟨b, off, none⟩) N N (nrm l) w.heap.size w hN (Nat.le_refl _) (by omega) hA
  obtain ⟨a, ha⟩ : ∃ a, nrm l = a := ⟨_, rfl⟩
  rw [← val_nrm l]
  rw [ha] at c2 hN hA hf ⊢
  have hmk := run_make_row' (P := Tryd.prog) 22 42 (.int .u32 0) 4 Tryd.underlying22 infoW rfl .i64 .i64 (N - o) (by omega) (by omega) w
  rw [show ((N - o : Nat) : Int) = (N : Int) - (o : Int) by omega] at hmk
  have hrow := Row.made w (N - o)
  have hbl0 : Below w.heap.size w (w.alloc (.cells (madeCells #[.int .u32 0] (N - o)) 42)) := (Below.refl _ _).alloc (Nat.le_refl _) _
  have C4 := Lib.hid (shr_any w.heap.size 0 (N - o) (N - o) s (List.replicate (N - o) 0) (some ⟨b, off + o, none⟩) (N - o) (N - o) (a.drop o) w.heap.size _ hrow (Ws.zeros _) (by rw [List.length_replicate]; omega) (by rw [List.length_drop, hN]) (by omega) (by omega) ((hA.drop o (by omega)).below hbl0) (Nat.le_refl _) hs)
  have C5 := Lib.hid (fun (W2 : World) (hb : Below w.heap.size w W2) => loses_any b off N N p o s a w.heap.size W2 hN (Nat.le_refl _) (by omega) (hA.below hb) hpo hs hoN)
  have C6 := Lib.hid (fun (S : List Nat) (W2 : World) (hS : ShrP (List.replicate (N - o) 0) 0 (a.drop o) s (N - o) S) (hr : Row W2 w.heap.size S) =>
    show Calls Tryd.prog 24 #[.slice (some ⟨w.heap.size, 0, none⟩) (N - o) (N - o)] W2 (fun e w' => e = .returned (.slice (some ⟨w.heap.size, 0, none⟩) (wds (val a / 2 ^ p)).length (wds (val a / 2 ^ p)).length) ∧ W2 = w') from by
      have hlen : S.length = N - o := by rw [hS.len, List.length_replicate]
      have hv : val S = val a / 2 ^ p := by
        have := hS.whole (by rw [List.length_drop, hN]; exact Nat.le_refl _)
        rw [List.drop_zero, List.take_of_length_le (by omega)] at this
        rw [this, hpo, drop_div hA.1 o s (by omega)]
      have := cut_any (some ⟨w.heap.size, 0, none⟩) (N - o) (N - o) S (w.heap.size + 1) W2 hlen (Nat.le_refl _) (by omega) (hr.rw0 hS.ws)
      rw [nrm_wds hS.ws, hv] at this
      exact this)
  have C7 := Lib.hid (fun (S : List Nat) (W2 : World) (hS : ShrP (List.replicate (N - o) 0) 0 (a.drop o) s (N - o) S) (hr : Row W2 w.heap.size S) =>
    show RW W2 W2.heap.size (some ⟨w.heap.size, 0, none⟩) (wds (val a / 2 ^ p)) from by
      have hlen : S.length = N - o := by rw [hS.len, List.length_replicate]
      have hv : val S = val a / 2 ^ p := by
        have := hS.whole (by rw [List.length_drop, hN]; exact Nat.le_refl _)
        rw [List.drop_zero, List.take_of_length_le (by omega)] at this
        rw [this, hpo, drop_div hA.1 o s (by omega)]
      have := ((hr.rw0 hS.ws).nrm).more hr.lt
      rw [nrm_wds hS.ws, hv] at this
      exact this)
  obtain ⟨t, ht⟩ : ∃ t, btl a = t := ⟨_, rfl⟩
  rw [ht] at c2 hf
  obtain ⟨M, hM⟩ : ∃ M, (wds (val a / 2 ^ p)).length = M := ⟨_, rfl⟩
  rw [hM] at C6
  obtain ⟨lo, hlo⟩ : ∃ lo, decide (val a % 2 ^ p ≠ 0) = lo := ⟨_, rfl⟩
  rw [hlo] at C5
  have HM := Lib.hid hM
  have HLO := Lib.hid hlo
  have HBL := Lib.hid hbl0
  have hp1 : ¬ (p : Int) ≤ 0 := by omega
  have hf1 : ¬ (t : Int) ≤ (p : Int) := by omega
  have hoN1 : (o : Int) < (N : Int) := by omega
  have hN1 : (N : Int) ≤ 35184372087808 := by omega
  have e3 : (p : Int) / 32 = (o : Int) := by omega
  have e4 : (p : Int) % 32 = (s : Int) := by omega
  clear hn hc hm h hle hN hp hf hpo hs hrow hbl0 hA ha hbt ht hM hlo
  go_enter Tryd.func45, Tryd.ntmps45
  go_wp2_with fail
  refine c1.mono ?_
  rintro e w1 ⟨rfl, rfl⟩
  go_wp2_with fail
  refine c2.mono ?_
  rintro e w1 ⟨rfl, rfl⟩
  clear c1 c2
  go_wp2_with fail
  refine C4.out.mono ?_
  rintro e w4 ⟨rfl, S, hS, hr, hb⟩
  have D6 := Lib.hid (C6.out S w4 hS hr)
  have D7 := Lib.hid (C7.out S w4 hS hr)
  have HB4 := Lib.hid (HBL.out.trans hb)
  have D5 := Lib.hid (C5.out w4 HB4.out)
  clear hS hr hb C4 C5 C6 C7
  go_wp2_with fail
  refine D6.out.mono ?_
  rintro e w5 ⟨rfl, rfl⟩
  go_wp2_with fail
  refine D5.out.mono ?_
  rintro e w5 ⟨rfl, rfl⟩
  go_wp2
  go_ret2
  exact ⟨some ⟨w.heap.size, 0, none⟩, M, M, by rw [HLO.out]; rfl, HM.out.symm, Nat.le_refl _, D7.out, HB4.out⟩
end Go.Proofs.YtlabblkonkhmgaaDoor
