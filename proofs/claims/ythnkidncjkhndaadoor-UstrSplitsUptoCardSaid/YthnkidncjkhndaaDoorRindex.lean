/-
  Contracts of the reference's stands and Index.
-/
import Derived.Test.YthnkidncjkhndaaDoorIndex
namespace Go.Proofs.YthnkidncjkhndaaDoor
open Go.RowKit
set_option maxRecDepth 100000 in
set_option maxHeartbeats 2000000 in
theorem stands_any (s t : ByteArray) (i : Nat) (w : World) (hs : s.size ≤ 35184372088832) (ht : t.size ≤ 35184372088832) (hi : i ≤ ln s) :
    Calls Tryd.prog 76 #[.string s, .string t, .int .i64 i] w fun e w' => ∃ q : Bool, e = .returned (.bool q) ∧ (q = true ↔ St (us s) (us t) i) ∧ ∃ n, w' = w.drewN n := by
  have hl := ln_le s
  have hl2 := ln_le t
  have hm : ((ln s : Nat) : Int) ≤ 17592186044416 := by omega
  have hm2 : ((ln t : Nat) : Int) ≤ 17592186044416 := by omega
  have h63 : s.size ≤ maxLen := by unfold maxLen; omega
  have t63 : t.size ≤ maxLen := by unfold maxLen; omega
  have c1 := fun W => (rlen_any s W h63).mono (R' := fun e w' => e = .returned (.int .i64 (ln s)) ∧ w' = W) (fun _ _ h => ⟨h.1, h.2.symm⟩)
  have c2 := fun W => (rlen_any t W t63).mono (R' := fun e w' => e = .returned (.int .i64 (ln t)) ∧ w' = W) (fun _ _ h => ⟨h.1, h.2.symm⟩)
  have b0 : IntKind.i64.wrap (2 * (i : Int)) = 2 * (i : Int) := IntWalk.i64_in _ (by omega)
  have b1 : IntKind.i64.wrap (2 * ((ln t : Nat) : Int)) = 2 * (ln t : Nat) := IntWalk.i64_in _ (by omega)
  have b2 : IntKind.i64.wrap (2 * (i : Int) + 2 * (ln t : Nat)) = 2 * (i : Int) + 2 * (ln t : Nat) := IntWalk.i64_in _ (by omega)
  have b3 : IntKind.i64.wrap ((i : Int) + (ln t : Nat)) = (i : Int) + (ln t : Nat) := IntWalk.i64_in _ (by omega)
  have hsl := us_length s
  have htl := us_length t
  by_cases hA : i + ln t ≤ ln s
  · have hA' : (i : Int) + (ln t : Nat) ≤ (ln s : Nat) := by omega
    have HC := Lib.hid (cut_St s t i hA)
    have k1 : 2 * (i : Int) ≤ 2 * (i : Int) + 2 * (ln t : Nat) := by omega
    have k2 : 2 * (i : Int) + 2 * (ln t : Nat) ≤ (s.size : Int) := by omega
    have k3 : 0 ≤ 2 * (i : Int) := by omega
    have k4 : 0 ≤ 2 * ((ln t : Nat) : Int) := by omega
    have k5 : 2 * ((ln t : Nat) : Int) ≤ (t.size : Int) := by omega
    have k6 : 0 ≤ 2 * (i : Int) + 2 * (ln t : Nat) := by omega
    have e1 : (2 * (i : Int)).toNat = 2 * i := by omega
    have e2 : (2 * ((ln t : Nat) : Int)).toNat = 2 * ln t := by omega
    have e3 : (2 * (i : Int) + 2 * (ln t : Nat)).toNat = 2 * i + 2 * ln t := by omega
    have e4 : wh t = t.extract 0 (2 * ln t) := rfl
    rw [e4] at HC
    clear hs ht hl hl2 h63 t63 hsl htl e4
    have HQ := Lib.hid (show ((s.extract (2 * i) (2 * i + 2 * ln t)).toList == (t.extract 0 (2 * ln t)).toList) = true ↔ St (us s) (us t) i by
      rw [beq_iff_eq, Lib.toList_data, Lib.toList_data, ← HC.out]
      exact ⟨fun h => ByteArray.ext (Array.toList_inj.1 h), fun h => by rw [h]⟩)
    clear HC
    go_enter Tryd.func76, Tryd.ntmps76
    go_wp2
    go_quiet ((go_at_call 29; first | exact Calls.quiet_of_same (c1 _) | exact Calls.quiet_of_same (c2 _)))
    go_wp2
    go_ret
    exact ⟨_, rfl, HQ.out, _, rfl⟩
  · have hA' : ¬ (i : Int) + (ln t : Nat) ≤ (ln s : Nat) := by omega
    have HQ := Lib.hid (show ¬ St (us s) (us t) i from fun h => by have := h.1; omega)
    clear hs ht hl hl2 h63 t63 hsl htl
    go_enter Tryd.func76, Tryd.ntmps76
    go_wp2
    have hA2 : ¬ (i : Int) + (ln t : Nat) ≤ (ln s : Nat) := by omega
    have hA3 : decide ((i : Int) + (ln t : Nat) ≤ (ln s : Nat)) = false := by simp only [decide_eq_false_iff_not]; exact hA2
    go_quiet ((go_at_call 29; first | exact Calls.quiet_of_same (c1 _) | exact Calls.quiet_of_same (c2 _)))
    go_wp2
    go_ret
    exact .inl ⟨rfl, HQ.out, _, rfl⟩
set_option maxRecDepth 100000 in
set_option maxHeartbeats 2000000 in
theorem rindex_any (s t : ByteArray) (fr : Int) (w : World) (hs : s.size ≤ 35184372088832) (ht : t.size ≤ 35184372088832) :
    Calls Tryd.prog 33 #[.string s, .string t, .int .i64 fr] w fun e w' => ∃ r : Int, e = .returned (.int .i64 r) ∧ FindIs (us s) (us t) (max fr 0).toNat r ∧ ∃ n, w' = w.drewN n := by
  have hl := ln_le s
  have hm : ((ln s : Nat) : Int) ≤ 17592186044416 := by omega
  have h63 : s.size ≤ maxLen := by unfold maxLen; omega
  have c1 := fun W => rlen_any s W h63
  have HS := Lib.hid (fun W (k : Nat) (hk : k ≤ ln s) => stands_any s t k W hs ht hk)
  have hsl := us_length s
  clear hs ht hl h63
  have main : ∀ m : Nat, ((fr < 0 ∧ m = 0) ∨ (¬ fr < 0 ∧ fr = (m : Int))) → Calls Tryd.prog 33 #[.string s, .string t, .int .i64 fr] w fun e w' => ∃ r : Int, e = .returned (.int .i64 r) ∧ FindIs (us s) (us t) m r ∧ ∃ n, w' = w.drewN n := by
    intro m hf
    rcases hf with ⟨hf, rfl⟩ | ⟨hf, rfl⟩
    all_goals
      go_enter Tryd.func33, Tryd.ntmps33
      go_wp2
    · go_loopw [7] (fun i wr => ∃ k : Nat, i = .int .i64 k ∧ k ≤ ln s + 1 ∧ Hid (∀ j, 0 ≤ j → j < k → ¬ St (us s) (us t) j) ∧ ∃ n, wr = w.drewN n) (fun i _ => ln s + 1 - (intOf i).toNat)
      case atStart => exact ⟨0, rfl, by omega, Lib.hid (fun j _ h => by omega), 0, rfl⟩
      case round =>
        obtain ⟨k, rfl, hk, HF, n, rfl⟩ := hrel
        by_cases hlt : k ≤ ln s
        · have c2 := HS.out (w.drewN n) k hlt
          have hlt' : (k : Int) ≤ (ln s : Nat) := by omega
          go_wp2_with (first | (go_at_call 29; refine (c1 _).mono ?_; rintro e w' ⟨rfl, rfl⟩) | fail)
          refine c2.mono ?_
          rintro e w' ⟨q, rfl, hq, n2, rfl⟩
          cases q
          · have HF2 := Lib.hid (show ∀ j, 0 ≤ j → j < k + 1 → ¬ St (us s) (us t) j from fun j h1 h2 h3 => by
              by_cases h4 : j = k
              · subst h4; exact absurd (hq.2 h3) (by simp)
              · exact HF.out j h1 (by omega) h3)
            clear hq
            go_wp2
            go_roundw
            case rel => exact ⟨k + 1, by go_num, by omega, HF2, _, rfl⟩
            case measure => simp [intOf]; omega
          · have HE := Lib.hid (show FindIs (us s) (us t) 0 (k : Nat) from .inr ⟨k, rfl, by omega, hq.1 rfl, HF.out⟩)
            clear hq
            go_wp2
            go_ret
            exact ⟨_, rfl, HE.out, _, rfl⟩
        · have HE := Lib.hid (show FindIs (us s) (us t) 0 (-1) from .inl ⟨rfl, fun j h1 h2 => HF.out j h1 (by have := h2.1; omega) h2⟩)
          have hlt' : ¬ (k : Int) ≤ (ln s : Nat) := by omega
          go_wp2_with (go_at_call 29; refine (c1 _).mono ?_; rintro e w' ⟨rfl, rfl⟩)
          go_ret
          exact ⟨_, rfl, HE.out, _, rfl⟩
    · go_loopw [7] (fun i wr => ∃ k : Nat, i = .int .i64 k ∧ m ≤ k ∧ (k ≤ ln s + 1 ∨ k = m) ∧ Hid (∀ j, m ≤ j → j < k → ¬ St (us s) (us t) j) ∧ ∃ n, wr = w.drewN n) (fun i _ => ln s + 1 - (intOf i).toNat)
      case atStart => exact ⟨m, rfl, Nat.le_refl _, .inr rfl, Lib.hid (fun j h1 h2 => by omega), 0, rfl⟩
      case round =>
        obtain ⟨k, rfl, hk0, hk, HF, n, rfl⟩ := hrel
        by_cases hlt : k ≤ ln s
        · have c2 := HS.out (w.drewN n) k hlt
          have hlt' : (k : Int) ≤ (ln s : Nat) := by omega
          go_wp2_with (first | (go_at_call 29; refine (c1 _).mono ?_; rintro e w' ⟨rfl, rfl⟩) | fail)
          refine c2.mono ?_
          rintro e w' ⟨q, rfl, hq, n2, rfl⟩
          cases q
          · have HF2 := Lib.hid (show ∀ j, m ≤ j → j < k + 1 → ¬ St (us s) (us t) j from fun j h1 h2 h3 => by
              by_cases h4 : j = k
              · subst h4; exact absurd (hq.2 h3) (by simp)
              · exact HF.out j h1 (by omega) h3)
            clear hq
            go_wp2
            go_roundw
            case rel => exact ⟨k + 1, by go_num, by omega, .inl (by omega), HF2, _, rfl⟩
            case measure => simp [intOf]; omega
          · have HE := Lib.hid (show FindIs (us s) (us t) m (k : Nat) from .inr ⟨k, rfl, hk0, hq.1 rfl, HF.out⟩)
            clear hq
            go_wp2
            go_ret
            exact ⟨_, rfl, HE.out, _, rfl⟩
        · have HE := Lib.hid (show FindIs (us s) (us t) m (-1) from .inl ⟨rfl, fun j h1 h2 => HF.out j h1 (by have := h2.1; omega) h2⟩)
          have hlt' : ¬ (k : Int) ≤ (ln s : Nat) := by omega
          go_wp2_with (go_at_call 29; refine (c1 _).mono ?_; rintro e w' ⟨rfl, rfl⟩)
          go_ret
          exact ⟨_, rfl, HE.out, _, rfl⟩
  exact main _ (by omega)
end Go.Proofs.YthnkidncjkhndaaDoor
