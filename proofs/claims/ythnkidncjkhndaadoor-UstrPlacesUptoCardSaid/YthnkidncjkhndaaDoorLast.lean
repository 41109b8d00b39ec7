/-
  The contract of the program's LastIndex, given reverse's.
-/
import Derived.Test.YthnkidncjkhndaaDoorRlast
import Derived.Test.YthnkidncjkhndaaDoorKmpRev
namespace Go.Proofs.YthnkidncjkhndaaDoor
open Go.RowKit
def rvS (t : ByteArray) : ByteArray := ⟨(bL (us t).reverse).toArray⟩
theorem rvS_us (t : ByteArray) : us (rvS t) = (us t).reverse := by
  unfold rvS us
  exact uL_bL _ (fun u hu => us_lt t u (List.mem_reverse.1 hu))
theorem rvS_size (t : ByteArray) : (rvS t).size = 2 * ln t := by
  rw [Lib.size_eq]
  show (bL (us t).reverse).length = _
  rw [bL_length, List.length_reverse, us_length]
theorem rvS_ln (t : ByteArray) : ln (rvS t) = ln t := by unfold ln; rw [rvS_size]; unfold ln; omega
set_option maxRecDepth 100000 in
set_option maxHeartbeats 2000000 in
theorem last_any (s t : ByteArray) (fr : Int) (w : World) (hs : s.size ≤ 35184372088832) (ht : t.size ≤ 35184372088832)
    (hrev : ∀ W, Calls Tryd.prog 77 #[.string t] W fun e w' => e = .returned (.string (rvS t)) ∧ Below W.heap.size W w') :
    Calls Tryd.prog 34 #[.string s, .string t, .int .i64 fr] w fun e w' => ∃ r : Int, e = .returned (.int .i64 r) ∧ LastIs (us s) (us t) fr r ∧ Below w.heap.size w w' := by
  have hl := ln_le s
  have hl2 := ln_le t
  have hm : ((ln s : Nat) : Int) ≤ 17592186044416 := by omega
  have hm2 : ((ln t : Nat) : Int) ≤ 17592186044416 := by omega
  have h63 : s.size ≤ maxLen := by unfold maxLen; omega
  have t63 : t.size ≤ maxLen := by unfold maxLen; omega
  have S63 := Lib.hid h63
  have R63 := Lib.hid (show (rvS t).size ≤ maxLen by rw [rvS_size]; omega)
  have HBR := Lib.hid (fun W => borders_any (rvS t) W (by rw [rvS_size]; omega))
  have c1 := fun W => len_any s W h63
  have c2 := fun W => len_any t W t63
  have hsl := us_length s
  have htl := us_length t
  have hrl := rvS_ln t
  have HRU := Lib.hid (rvS_us t)
  have HREV := Lib.hid hrev
  clear hs ht hl hl2 h63 t63 hrev
  obtain ⟨m, hm0⟩ : ∃ m : Int, min fr ((ln s : Nat) - ((ln t : Nat) : Int)) = m := ⟨_, rfl⟩
  have hmf : m ≤ fr := by omega
  have hml : m ≤ (ln s : Nat) - ((ln t : Nat) : Int) := by omega
  have HM := Lib.hid (show ∀ j : Nat, (j : Int) ≤ fr → St (us s) (us t) j → (j : Int) ≤ m from fun j h1 h2 => by have := h2.1; omega)
  by_cases hA : m < 0
  · have HE := Lib.hid (show LastIs (us s) (us t) fr (-1) from .inl ⟨rfl, fun j h1 h2 => by have := HM.out j h1 h2; omega⟩)
    clear hsl htl hrl
    go_enter Tryd.func34, Tryd.ntmps34
    go_wp2_with (first | (go_at_call 28; first | (refine (c1 _).mono ?_; rintro e w' ⟨rfl, rfl⟩) | (refine (c2 _).mono ?_; rintro e w' ⟨rfl, rfl⟩)))
    go_ret
    exact ⟨_, rfl, HE.out, Below.refl _ _⟩
  · obtain ⟨M, rfl⟩ := Int.eq_ofNat_of_zero_le (show 0 ≤ m by omega)
    by_cases hB : ln t = 0
    · have hB' : ((ln t : Nat) : Int) = 0 := by omega
      have HE := Lib.hid (show LastIs (us s) (us t) fr (M : Nat) from .inr ⟨M, rfl, hmf, ⟨by omega, by rw [htl, hB, List.take_zero]; exact (List.length_eq_zero_iff.1 (by omega)).symm⟩, fun j h1 h2 h3 => by have := HM.out j h2 h3; omega⟩)
      clear hsl htl hrl hB
      go_enter Tryd.func34, Tryd.ntmps34
      go_wp2_with (first | (go_at_call 28; first | (refine (c1 _).mono ?_; rintro e w' ⟨rfl, rfl⟩) | (refine (c2 _).mono ?_; rintro e w' ⟨rfl, rfl⟩)))
      go_ret
      exact ⟨_, rfl, by rw [show min fr ((ln s : Nat) : Int) = (M : Nat) by omega]; exact HE.out, Below.refl _ _⟩
    · have hB' : ¬ ((ln t : Nat) : Int) = 0 := by omega
      obtain ⟨E, hE⟩ : ∃ E, M + ln t = E := ⟨_, rfl⟩
      have hEs : E ≤ ln s := by omega
      have hEi : (M : Int) + (ln t : Nat) = (E : Nat) := by omega
      have c3 := HREV.out
      have c4 := HBR.out
      go_enter Tryd.func34, Tryd.ntmps34
      go_wp2_with (first | (go_at_call 28; first | (refine (c1 _).mono ?_; rintro e w' ⟨rfl, rfl⟩) | (refine (c2 _).mono ?_; rintro e w' ⟨rfl, rfl⟩)) | fail)
      refine (c3 _).mono ?_
      rintro e w1 ⟨rfl, hb1⟩
      go_wp2_with fail
      refine (c4 _).mono ?_
      rintro e w2 ⟨f, rfl, hrow, hbd, hb2⟩
      rw [hrl] at hrow hbd ⊢
      have HROW := Lib.hid hrow
      have HBD := Lib.hid hbd
      have hbel := below_le hb1 hb2
      clear hrow hbd hb1 hb2 c3 c4
      go_wp2_with (go_at_call 28; refine (c2 _).mono ?_; rintro e w' ⟨rfl, rfl⟩)
      go_loopw [9, 10] (fun v i wr => ∃ k met : Nat, v = .int .i64 met ∧ i = .int .i64 ((k : Int) - 1) ∧ k ≤ E ∧ met < ln t ∧ Hid (Mx (us t).reverse ((((us s).take E).drop k).reverse) met) ∧ Hid (∀ j, k ≤ j → j + ln t ≤ E → ¬ St (us s) (us t) j) ∧ ∃ n, wr = w2.drewN n) (fun _ i _ => (intOf i + 1).toNat)
      case atStart => exact ⟨E, 0, rfl, by go_num, Nat.le_refl _, by omega, Lib.hid (by
                        rw [show ((us s).take E).drop E = [] from List.drop_eq_nil_iff.2 (List.length_take_le _ _)]
                        exact Mx_nil _), Lib.hid (fun j h1 h2 => by omega), 0, rfl⟩
      case round =>
        obtain ⟨k, met, rfl, rfl, hk, hmet, HX, HF, n, rfl⟩ := hrel
        rcases Nat.eq_zero_or_pos k with h0 | h0
        · subst h0
          have HE2 := Lib.hid (show LastIs (us s) (us t) fr (-1) from .inl ⟨rfl, fun j h1 h2 => HF.out j (by omega) (by have := HM.out j h1 h2; omega) h2⟩)
          clear hsl htl
          go_wp2
          go_ret
          exact ⟨_, rfl, HE2.out, below_drewN' hbel n⟩
        · obtain ⟨k, rfl⟩ : ∃ k', k = k' + 1 := ⟨k - 1, by omega⟩
          have d1 := fun W => at_any s k W (by omega) S63.out
          have hX := HX.out
          have C3 := Lib.hid (fun n2 => step_any (rvS t) w1.heap.size (ln t) f ((((us s).take E).drop (k + 1)).reverse) met (un s k) (w2.drewN (n + n2)) R63.out (by omega) (by omega) (fun j hj => by have := HROW.out.cell (show j < ln t by omega); simpa using this) (fun j hj => HBD.out j (by omega)) (by rw [HRU.out]; exact hX))
          have e1 : ((k + 1 : Nat) : Int) - 1 = (k : Nat) := by omega
          clear hX
          rw [e1]
          go_wp2_with fail
          refine (d1 _).mono ?_
          rintro e w' ⟨rfl, n2, rfl⟩
          go_wp2_with fail
          refine (C3.out n2).mono ?_
          rintro e w' ⟨q, rfl, hq, hM2, n3, rfl⟩
          have hM3 : Mx (us t).reverse ((((us s).take E).drop k).reverse) q := by
            rw [rev_step (us s) E k (by omega) (by omega), us_getElem, ← HRU.out]
            exact hM2
          have hRl : (us t).reverse.length = ln t := by rw [List.length_reverse, htl]
          by_cases hqq : q = ln t
          · have hsuf := hM3.2.1
            rw [List.take_of_length_le (by omega)] at hsuf
            have hst := rev_St (us s) (us t) E k (by omega) (by omega) hsuf
            have HE2 := Lib.hid (show LastIs (us s) (us t) fr (k : Nat) from .inr ⟨k, rfl, by omega, hst.2, fun j h1 h2 h3 => HF.out j (by omega) (by have := HM.out j h2 h3; omega) h3⟩)
            have hq' : (q : Int) = (ln t : Nat) := by omega
            clear hsuf hst hM2 hM3 C3 hsl htl hRl hqq d1
            go_wp2
            go_ret
            exact ⟨_, rfl, HE2.out, below_drewN' hbel _⟩
          · have hql : q < ln t := by have := hM3.1; omega
            have HM3 := Lib.hid hM3
            have HF2 := Lib.hid (show ∀ j, k ≤ j → j + ln t ≤ E → ¬ St (us s) (us t) j from fun j h1 h2 h3 => by
              by_cases h4 : k + 1 ≤ j
              · exact HF.out j h4 h2 h3
              · have h5 := St_rev (us s) (us t) E j (by omega) h3
                rw [show j = k by omega] at h5
                have h6 := HM3.out.2.2 (ln t) (by omega) (by rw [List.take_of_length_le (by omega)]; exact h5)
                omega)
            have hq' : ¬ (q : Int) = (ln t : Nat) := by omega
            clear hM2 hM3 C3 hsl htl hRl hqq d1
            go_wp2
            go_roundw
            case rel => exact ⟨k, q, rfl, by go_num, by omega, hql, HM3, HF2, _, rfl⟩
            case measure => simp [intOf]
end Go.Proofs.YthnkidncjkhndaaDoor
