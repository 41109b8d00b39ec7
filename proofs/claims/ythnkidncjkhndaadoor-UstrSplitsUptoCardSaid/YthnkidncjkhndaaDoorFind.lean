/-
  Contracts of step, borders and find (the program's looking for a text by its borders).
-/
import Derived.Test.YthnkidncjkhndaaDoorUnitLaw
import Derived.Test.YthnkidncjkhndaaDoorKmpPure
namespace Go.Proofs.YthnkidncjkhndaaDoor
open Go.RowKit
theorem us_some (t : ByteArray) (k : Nat) (h : k < ln t) : (us t)[k]? = some (un t k) := by
  have h2 : k < (us t).length := by rw [us_length]; exact h
  rw [List.getElem?_eq_getElem h2, us_getElem]
set_option maxRecDepth 100000 in
set_option maxHeartbeats 2000000 in
theorem step_any (t : ByteArray) (b N : Nat) (f : Nat → Nat) (p : List Nat) (met u : Nat) (w : World) (ht : t.size ≤ maxLen) (hmet : met < ln t) (hN : met ≤ N)
    (hc : ∀ k : Nat, k < met → w.cell? ⟨b, k, none⟩ = some (.int .i64 (f k : Nat))) (hB : ∀ k, k < met → Bd (us t) (k + 1) (f k)) (hM : Mx (us t) p met) :
    Calls Tryd.prog 78 #[.string t, .slice (some ⟨b, 0, none⟩) N N, .int .i64 met, .int .u16 (u : Nat)] w fun e w' => ∃ m : Nat, e = .returned (.int .i64 m) ∧ m ≤ met + 1 ∧ Mx (us t) (p ++ [u]) m ∧ ∃ n, w' = w.drewN n := by
  have hl := ln_le t
  have hm : ((ln t : Nat) : Int) ≤ 4611686018427387903 := by unfold maxLen at ht; omega
  have HJ := Lib.hid (Jn_start (us t) p u met hM (by rw [us_length]; exact hmet))
  have H63 := Lib.hid ht
  have HB := Lib.hid hB
  have HC := Lib.hid hc
  clear ht hl hM hB hc
  go_enter Tryd.func78, Tryd.ntmps78
  go_wp2
  go_loopw [2] (fun i wr => ∃ k : Nat, i = .int .i64 k ∧ k ≤ met ∧ Hid (Jn (us t) p u k) ∧ ∃ n, wr = w.drewN n) (fun i _ => (intOf i).toNat)
  case atStart => exact ⟨met, rfl, Nat.le_refl _, HJ, 0, rfl⟩
  case round =>
    obtain ⟨k, rfl, hk, HK, n, rfl⟩ := hrel
    have hkl : k < ln t := by omega
    have c1 := fun W => at_any t k W hkl H63.out
    clear HJ
    have c1' := Lib.hid c1
    clear c1
    rcases Nat.eq_zero_or_pos k with h0 | h0
    · subst h0
      have c1 := c1'.out
      by_cases hu : un t 0 = u
      · have HY := Lib.hid (Jn_yes (us t) p u 0 HK.out (by rw [us_some t 0 hkl, hu]))
        have hu' : ((un t 0 : Nat) : Int) = (u : Nat) := by omega
        clear hu HK HC HB
        go_wp2_with (go_at_call 65; refine (c1 _).mono ?_; rintro e w' ⟨rfl, n2, rfl⟩)
        go_ret
        exact ⟨1, rfl, by omega, HY.out, _, rfl⟩
      · have HY := Lib.hid (Jn_no (us t) p u HK.out (by rw [us_some t 0 hkl]; exact fun h => hu (Option.some.inj h)))
        have hu' : ¬ ((un t 0 : Nat) : Int) = (u : Nat) := by omega
        clear hu HK HC HB
        go_wp2_with (go_at_call 65; refine (c1 _).mono ?_; rintro e w' ⟨rfl, n2, rfl⟩)
        go_ret
        exact ⟨0, rfl, by omega, HY.out, _, rfl⟩
    · have c1 := c1'.out
      have h0' : (0 : Int) < (k : Int) := by omega
      by_cases hu : un t k = u
      · have HY := Lib.hid (Jn_yes (us t) p u k HK.out (by rw [us_some t k hkl, hu]))
        have hu' : ((un t k : Nat) : Int) = (u : Nat) := by omega
        clear hu HK HC HB
        go_wp2_with (go_at_call 65; refine (c1 _).mono ?_; rintro e w' ⟨rfl, n2, rfl⟩)
        go_ret
        exact ⟨k + 1, by go_num, by omega, HY.out, _, rfl⟩
      · obtain ⟨j, rfl⟩ : ∃ j, k = j + 1 := ⟨k - 1, by omega⟩
        have hb := HB.out j (by omega)
        have HY := Lib.hid (Jn_fall (us t) p u (j + 1) (f j) HK.out (by rw [us_some t _ hkl]; exact fun h => hu (Option.some.inj h)) hb)
        have hlt : f j < j + 1 := hb.1
        have HL := Lib.hid (fun m => show (w.drewN m).cell? ⟨b, j, none⟩ = some (.int .i64 (f j : Nat)) from HC.out j (by omega))
        have hu' : ¬ ((un t (j + 1) : Nat) : Int) = (u : Nat) := by omega
        clear hu HK HC HB hb
        go_wp2_with fail
        refine (c1 _).mono ?_
        rintro e w' ⟨rfl, n2, rfl⟩
        have hcell := HL.out (n + n2)
        go_wp2
        go_roundw
        case rel => exact ⟨f j, rfl, by omega, HY, _, rfl⟩
        case measure => simp [intOf]; omega
theorem info3 : (Tryd.prog.info? 3).map (fun i => (i.zero, i.size, i.bytes)) = some (some (.int .i64 0), 1, 8) := by kernel_rfl
theorem Bd_zero (t : List Nat) : Bd t 1 0 := ⟨by omega, by simp, fun k hk _ => by omega⟩
set_option maxRecDepth 100000 in
set_option maxHeartbeats 2000000 in
theorem borders_any (t : ByteArray) (w : World) (ht : t.size ≤ 35184372088832) :
    Calls Tryd.prog 75 #[.string t] w fun e w' => ∃ f : Nat → Nat, e = .returned (.slice (some ⟨w.heap.size, 0, none⟩) (ln t) (ln t)) ∧ w'.rowIs w.heap.size 3 (ln t) (fun j => .int .i64 (f j : Nat)) ∧ (∀ k, k < ln t → Bd (us t) (k + 1) (f k)) ∧ Below w.heap.size w w' := by
  have hl := ln_le t
  have hs63 : t.size ≤ maxLen := by unfold maxLen; omega
  have hm : ((ln t : Nat) : Int) ≤ 17592186044416 := by omega
  have hmk := run_make_row' (P := Tryd.prog) 74 3 (.int .i64 0) 8 Tryd.underlying74 info3 rfl .i64 .i64 (ln t) (by omega) (by omega) w
  have hmade := World.rowIs_made w (.int .i64 0) (ln t) 3
  have H63 := Lib.hid hs63
  have c1 := fun W => len_any t W H63.out
  clear ht hl hs63
  have HR0 := Lib.hid hmade
  clear hmade
  go_enter Tryd.func75, Tryd.ntmps75
  go_wp2_with (go_at_call 28; refine (c1 _).mono ?_; rintro e w' ⟨rfl, rfl⟩)
  clear hmk
  go_loopw [4, 5] (fun v i wr => ∃ (k met : Nat) (f : Nat → Nat), v = .int .i64 met ∧ i = .int .i64 k ∧ met < k ∧ (k ≤ ln t ∨ k = 1) ∧ Hid (Mx (us t) (((us t).take k).drop 1) met) ∧ Hid (∀ j, j < k → j < ln t → Bd (us t) (j + 1) (f j)) ∧ Hid (wr.rowIs w.heap.size 3 (ln t) (fun j => .int .i64 (f j : Nat))) ∧ Below w.heap.size w wr) (fun _ i _ => ln t - (intOf i).toNat)
  case atStart => exact ⟨1, 0, fun _ => 0, rfl, rfl, by omega, .inr rfl, Lib.hid (Mx_one _), Lib.hid (fun j hj _ => by rw [show j = 0 by omega]; exact Bd_zero _), HR0, (Below.refl _ _).alloc (Nat.le_refl _) _⟩
  case round =>
    obtain ⟨k, met, f, rfl, rfl, hk, hk2, HM, HF, HI, hbw⟩ := hrel
    by_cases hlt : k < ln t
    · have hcell : wr.cell? ⟨w.heap.size, k, none⟩ = some (.int .i64 (f k : Nat)) := by
        have := HI.out.cell hlt
        simpa using this
      have hfz := HI.out.frozen k
      have c2 := fun W => at_any t k W hlt H63.out
      have C3 := Lib.hid (fun n => step_any t w.heap.size (ln t) f (((us t).take k).drop 1) met (un t k) (wr.drewN n) H63.out (by omega) (by omega) (fun j hj => by have := HI.out.cell (show j < ln t by omega); simpa using this) (fun j hj => HF.out j (by omega) (by omega)) HM.out)
      go_wp2_with fail
      refine (c2 _).mono ?_
      rintro e w' ⟨rfl, n, rfl⟩
      go_wp2_with fail
      refine (C3.out n).mono ?_
      rintro e w' ⟨m, rfl, hm2, hM2, n2, rfl⟩
      have hM3 : Mx (us t) (((us t).take (k + 1)).drop 1) m := by
        rw [drop_take_succ (us t) k 1 (by rw [us_length]; exact hlt) (by omega), us_getElem]
        exact hM2
      have HB2 := Lib.hid (Bd_of_Mx (us t) k m (by rw [us_length]; exact hlt) hM3)
      have HM3 := Lib.hid hM3
      have hcell2 : (wr.drewN (n + n2)).cell? ⟨w.heap.size, k, none⟩ = some (.int .i64 (f k : Nat)) := hcell
      have HI2 := Lib.hid (show ((wr.drewN (n + n2)).setCell ⟨w.heap.size, k, none⟩ (.int .i64 (m : Nat))).rowIs w.heap.size 3 (ln t) (fun j => .int .i64 ((if j = k then m else f j : Nat) : Int)) from
        ((row_drewN HI.out (n + n2)).set k (.int .i64 (m : Nat))).congr fun j _ => by by_cases h : j = k <;> simp [h])
      have hfz2 := (row_drewN HI.out (n + n2)).frozen k
      clear hM2 hM3 c2 hcell hfz
      go_wp2
      go_roundw
      case rel => exact ⟨k + 1, m, fun j => if j = k then m else f j, rfl, by go_num, by omega, .inl (by omega), HM3, Lib.hid (fun j hj hj2 => by
                    by_cases h : j = k
                    · subst h; simpa using HB2.out
                    · simpa [h] using HF.out j (by omega) hj2), HI2, (below_drewN' hbw (n + n2)).setCell (Nat.le_refl _) _⟩
      case measure => simp [intOf]; omega
    · go_wp2
      go_ret
      exact ⟨f, rfl, HI.out, fun j hj => HF.out j (by omega) hj, hbw⟩
/-- r is the first place, at fr or after it, where t stands in s; -1 where there is none. -/
def FindIs (s t : List Nat) (fr : Nat) (r : Int) : Prop := (r = -1 ∧ ∀ j, fr ≤ j → ¬ St s t j) ∨ (∃ j : Nat, r = j ∧ fr ≤ j ∧ St s t j ∧ ∀ k, fr ≤ k → k < j → ¬ St s t k)
theorem FindIs_unique {s t : List Nat} {fr : Nat} {r q : Int} (h : FindIs s t fr r) (g : FindIs s t fr q) : r = q := by
  rcases h with ⟨h1, h2⟩ | ⟨j, h1, h2, h3, h4⟩ <;> rcases g with ⟨g1, g2⟩ | ⟨k, g1, g2, g3, g4⟩
  · omega
  · exact absurd g3 (h2 k g2)
  · exact absurd h3 (g2 j h2)
  · rcases Nat.lt_trichotomy j k with h | h | h
    · exact absurd h3 (g4 j h2 h)
    · omega
    · exact absurd g3 (h4 k g2 h)
set_option maxRecDepth 100000 in
set_option maxHeartbeats 2000000 in
theorem find_any (s t : ByteArray) (b : Nat) (f : Nat → Nat) (fr : Nat) (w : World) (hs : s.size ≤ maxLen) (ht : t.size ≤ maxLen) (hp : 0 < ln t) (hfr : fr ≤ 4611686018427387903)
    (hr : w.rowIs b 3 (ln t) (fun j => .int .i64 (f j : Nat))) (hB : ∀ k, k < ln t → Bd (us t) (k + 1) (f k)) :
    Calls Tryd.prog 74 #[.string s, .string t, .slice (some ⟨b, 0, none⟩) (ln t) (ln t), .int .i64 fr] w fun e w' => ∃ r : Int, e = .returned (.int .i64 r) ∧ FindIs (us s) (us t) fr r ∧ ∃ n, w' = w.drewN n := by
  have hl := ln_le t
  have hl2 := ln_le s
  have hm : ((ln t : Nat) : Int) ≤ 4611686018427387903 := by unfold maxLen at ht; omega
  have hm2 : ((ln s : Nat) : Int) ≤ 4611686018427387903 := by unfold maxLen at hs; omega
  have H63 := Lib.hid hs
  have T63 := Lib.hid ht
  have HB := Lib.hid hB
  have HR := Lib.hid hr
  have c1 := fun W => len_any s W H63.out
  clear hs ht hl hl2 hB hr
  go_enter Tryd.func74, Tryd.ntmps74
  go_wp2
  go_loopw [9, 10] (fun v i wr => ∃ k met : Nat, v = .int .i64 met ∧ i = .int .i64 k ∧ met < ln t ∧ fr ≤ k ∧ (k ≤ ln s ∨ k = fr) ∧ Hid (Mx (us t) (((us s).take k).drop fr) met) ∧ Hid (∀ j, fr ≤ j → j + ln t ≤ k → ¬ St (us s) (us t) j) ∧ ∃ n, wr = w.drewN n) (fun _ i _ => ln s - (intOf i).toNat)
  case atStart => exact ⟨fr, 0, rfl, rfl, hp, Nat.le_refl _, .inr rfl, Lib.hid (by
                    rw [show ((us s).take fr).drop fr = [] from List.drop_eq_nil_iff.2 (List.length_take_le _ _)]
                    exact Mx_nil _), Lib.hid (fun j h1 h2 => by omega), 0, rfl⟩
  case round =>
    obtain ⟨k, met, rfl, rfl, hk, hk1, hk2, HM, HF, n, rfl⟩ := hrel
    by_cases hlt : k < ln s
    · have c2 := fun W => at_any s k W hlt H63.out
      have C3 := Lib.hid (fun n2 => step_any t b (ln t) f (((us s).take k).drop fr) met (un s k) (w.drewN (n + n2)) T63.out hk (by omega) (fun j hj => by have := HR.out.cell (show j < ln t by omega); simpa using this) (fun j hj => HB.out j (by omega)) HM.out)
      go_wp2_with (first | (go_at_call 28; refine (c1 _).mono ?_; rintro e w' ⟨rfl, rfl⟩) | fail)
      refine (c2 _).mono ?_
      rintro e w' ⟨rfl, n2, rfl⟩
      go_wp2_with fail
      refine (C3.out n2).mono ?_
      rintro e w' ⟨m, rfl, hm3, hM2, n3, rfl⟩
      have hM3 : Mx (us t) (((us s).take (k + 1)).drop fr) m := by
        rw [drop_take_succ (us s) k fr (by rw [us_length]; exact hlt) hk1, us_getElem]
        exact hM2
      have htl := us_length t
      have hsl := us_length s
      by_cases hmm : m = ln t
      · have hsuf := hM3.2.1
        rw [hmm, us_take_all] at hsuf
        have hst := St_suf (us s) (us t) fr (k + 1) (by omega) (by omega) hsuf
        have HE := Lib.hid (show FindIs (us s) (us t) fr ((k + 1 - ln t : Nat) : Int) from .inr ⟨_, rfl, by omega, by rw [← htl]; exact hst.2, fun j h1 h2 => HF.out j h1 (by omega)⟩)
        have h9 : ln t ≤ k + 1 := by omega
        subst hmm
        clear hsuf hst hM2 hM3 c2 htl hsl C3
        go_wp2
        go_ret
        exact ⟨_, rfl, by have := HE.out; rw [show ((k + 1 - ln t : Nat) : Int) = (k : Int) + 1 - (ln t : Nat) by omega] at this; simpa using this, _, rfl⟩
      · have hml : m < ln t := by have := hM3.1; omega
        have HM3 := Lib.hid hM3
        have HF2 := Lib.hid (show ∀ j, fr ≤ j → j + ln t ≤ k + 1 → ¬ St (us s) (us t) j from fun j h1 h2 h3 => by
          by_cases h4 : j + ln t ≤ k
          · exact HF.out j h1 h4 h3
          · have h5 := suf_St (us s) (us t) fr j h1 h3
            rw [htl, show j + ln t = k + 1 by omega] at h5
            have h6 := HM3.out.2.2 (ln t) (by omega) (by rw [us_take_all]; exact h5)
            omega)
        have hne : ¬ ((m : Int) = (ln t : Nat)) := by omega
        clear hM2 hM3 c2 htl hsl C3 hmm
        go_wp2
        go_roundw
        case rel => exact ⟨k + 1, m, rfl, by go_num, hml, by omega, .inl (by omega), HM3, HF2, _, rfl⟩
        case measure => simp [intOf]; omega
    · have HE := Lib.hid (show FindIs (us s) (us t) fr (-1) from .inl ⟨rfl, fun j h1 h2 => HF.out j h1 (by have := h2.1; rw [us_length, us_length] at this; omega) h2⟩)
      go_wp2_with (go_at_call 28; refine (c1 _).mono ?_; rintro e w' ⟨rfl, rfl⟩)
      go_ret
      exact ⟨_, rfl, HE.out, _, rfl⟩
end Go.Proofs.YthnkidncjkhndaaDoor
