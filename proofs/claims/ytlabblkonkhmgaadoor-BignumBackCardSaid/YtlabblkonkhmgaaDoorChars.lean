/-
  Contracts of the functions on one digit, of group and of small.
-/
import Derived.Test.YtlabblkonkhmgaaDoorDig
import Derived.Test.YtlabblkonkhmgaaDoorWordN
import Derived.Test.YtlabblkonkhmgaaDoorOr
namespace Go.Proofs.YtlabblkonkhmgaaDoor
open Go.RowKit
theorem pdigit_any (c : Nat) (w : World) (hc : c < 256) :
    Calls Tryd.prog 55 #[.int .u8 c] w fun e w' => e = .returned (.int .i64 (dgt c : Nat)) ∧ w = w' := by
  have k0 : IntKind.u8.wrap ((c : Int) - 48) = (c : Int) - 48 ∨ ¬ (48 ≤ c) := by
    by_cases h : 48 ≤ c
    · exact .inl (by rw [IntKind.wrap_u8]; omega)
    · exact .inr h
  have k1 : IntKind.u8.wrap ((c : Int) - 97) = (c : Int) - 97 ∨ ¬ (97 ≤ c) := by
    by_cases h : 97 ≤ c
    · exact .inl (by rw [IntKind.wrap_u8]; omega)
    · exact .inr h
  have k2 : IntKind.u8.wrap ((c : Int) - 65) = (c : Int) - 65 ∨ ¬ (65 ≤ c) := by
    by_cases h : 65 ≤ c
    · exact .inl (by rw [IntKind.wrap_u8]; omega)
    · exact .inr h
  unfold dgt
  by_cases h1 : 48 ≤ c ∧ c ≤ 57
  · rw [if_pos h1]
    have a1 : (48 : Int) ≤ (c : Int) := by omega
    have a2 : (c : Int) ≤ 57 := by omega
    have e := k0.resolve_right (fun h => h h1.1)
    have e2 : IntKind.i64.wrap ((c : Int) - 48) = ((c - 48 : Nat) : Int) := by rw [IntWalk.i64_in _ (by omega)]; omega
    clear h1 k0 k1 k2 hc
    go_enter Tryd.func55, Tryd.ntmps55
    go_wp2
    go_ret
    exact ⟨by first | rfl | (rw [e2]), rfl⟩
  · rw [if_neg h1]
    by_cases h2 : 97 ≤ c ∧ c ≤ 122
    · rw [if_pos h2]
      have a1 : (48 : Int) ≤ (c : Int) := by omega
      have a2 : ¬ (c : Int) ≤ 57 := by omega
      have a3 : (97 : Int) ≤ (c : Int) := by omega
      have a4 : (c : Int) ≤ 122 := by omega
      have e := k1.resolve_right (fun h => h h2.1)
      have e2 : IntKind.i64.wrap ((c : Int) - 97) = (c : Int) - 97 := IntWalk.i64_in _ (by omega)
      have e3 : IntKind.i64.wrap ((c : Int) - 97 + 10) = ((c - 97 + 10 : Nat) : Int) := by rw [IntWalk.i64_in _ (by omega)]; omega
      clear h1 h2 k0 k1 k2 hc
      go_enter Tryd.func55, Tryd.ntmps55
      go_wp2
      go_ret
      exact ⟨by first | rfl | (rw [e3]), rfl⟩
    · rw [if_neg h2]
      by_cases h3 : 65 ≤ c ∧ c ≤ 90
      · rw [if_pos h3]
        have a1 : (48 : Int) ≤ (c : Int) := by omega
        have a2 : ¬ (c : Int) ≤ 57 := by omega
        have a3 : ¬ (97 : Int) ≤ (c : Int) := by omega
        have a5 : (65 : Int) ≤ (c : Int) := by omega
        have a6 : (c : Int) ≤ 90 := by omega
        have e := k2.resolve_right (fun h => h h3.1)
        have e2 : IntKind.i64.wrap ((c : Int) - 65) = (c : Int) - 65 := IntWalk.i64_in _ (by omega)
        have e3 : IntKind.i64.wrap ((c : Int) - 65 + 10) = ((c - 65 + 10 : Nat) : Int) := by rw [IntWalk.i64_in _ (by omega)]; omega
        clear h1 h2 h3 k0 k1 k2 hc
        go_enter Tryd.func55, Tryd.ntmps55
        go_wp2
        go_ret
        exact ⟨by first | rfl | (rw [e3]), rfl⟩
      · rw [if_neg h3]
        clear k0 k1 k2
        have hcc : ((48 : Int) ≤ (c : Int) ∧ ¬ (c : Int) ≤ 57) ∨ ¬ (48 : Int) ≤ (c : Int) := by omega
        have hcd : ((97 : Int) ≤ (c : Int) ∧ ¬ (c : Int) ≤ 122) ∨ ¬ (97 : Int) ≤ (c : Int) := by omega
        have hce : ((65 : Int) ≤ (c : Int) ∧ ¬ (c : Int) ≤ 90) ∨ ¬ (65 : Int) ≤ (c : Int) := by omega
        clear h1 h2 h3 hc
        rcases hcc with ⟨a1, a2⟩ | a1 <;> rcases hcd with ⟨a3, a4⟩ | a3 <;> rcases hce with ⟨a5, a6⟩ | a5
        all_goals
          go_enter Tryd.func55, Tryd.ntmps55
          go_wp2
          go_ret
          exact ⟨rfl, rfl⟩
/-- What a letter counts as a digit; 99, if it is none. -/
def dgz (c : Nat) : Nat := if 48 ≤ c ∧ c ≤ 57 then c - 48 else if 97 ≤ c ∧ c ≤ 122 then c - 97 + 10 else if 65 ≤ c ∧ c ≤ 90 then c - 65 + 10 else 99
theorem dgz_lt {c r : Nat} (hr : r ≤ 36) : dgz c < r ↔ dgt c < r := by unfold dgz dgt; split <;> (try split) <;> (try split) <;> omega
theorem dgz_eq {c r : Nat} (hr : r ≤ 36) (h : dgt c < r) : dgz c = dgt c := by unfold dgz; unfold dgt at h ⊢; split <;> (try split) <;> (try split) <;> simp_all <;> omega
theorem dgz_le (c : Nat) : dgz c ≤ 99 := by unfold dgz; split <;> (try split) <;> (try split) <;> omega
theorem rdigit_any (c : Nat) (w : World) (hc : c < 256) :
    Calls Tryd.prog 33 #[.int .u8 c] w fun e w' => e = .returned (.int .i64 (dgz c : Nat)) ∧ w = w' := by
  have k0 : IntKind.u8.wrap ((c : Int) - 48) = (c : Int) - 48 ∨ ¬ (48 ≤ c) := by
    by_cases h : 48 ≤ c
    · exact .inl (by rw [IntKind.wrap_u8]; omega)
    · exact .inr h
  have k1 : IntKind.u8.wrap ((c : Int) - 97) = (c : Int) - 97 ∨ ¬ (97 ≤ c) := by
    by_cases h : 97 ≤ c
    · exact .inl (by rw [IntKind.wrap_u8]; omega)
    · exact .inr h
  have k2 : IntKind.u8.wrap ((c : Int) - 65) = (c : Int) - 65 ∨ ¬ (65 ≤ c) := by
    by_cases h : 65 ≤ c
    · exact .inl (by rw [IntKind.wrap_u8]; omega)
    · exact .inr h
  unfold dgz
  by_cases h1 : 48 ≤ c ∧ c ≤ 57
  · rw [if_pos h1]
    have a1 : (48 : Int) ≤ (c : Int) := by omega
    have a2 : (c : Int) ≤ 57 := by omega
    have e := k0.resolve_right (fun h => h h1.1)
    have e2 : IntKind.i64.wrap ((c : Int) - 48) = ((c - 48 : Nat) : Int) := by rw [IntWalk.i64_in _ (by omega)]; omega
    clear h1 k0 k1 k2 hc
    go_enter Tryd.func33, Tryd.ntmps33
    go_wp2
    go_ret
    exact ⟨by first | rfl | (rw [e2]), rfl⟩
  · rw [if_neg h1]
    by_cases h2 : 97 ≤ c ∧ c ≤ 122
    · rw [if_pos h2]
      have a1 : (48 : Int) ≤ (c : Int) := by omega
      have a2 : ¬ (c : Int) ≤ 57 := by omega
      have a3 : (97 : Int) ≤ (c : Int) := by omega
      have a4 : (c : Int) ≤ 122 := by omega
      have e := k1.resolve_right (fun h => h h2.1)
      have e2 : IntKind.i64.wrap ((c : Int) - 97) = (c : Int) - 97 := IntWalk.i64_in _ (by omega)
      have e3 : IntKind.i64.wrap ((c : Int) - 97 + 10) = ((c - 97 + 10 : Nat) : Int) := by rw [IntWalk.i64_in _ (by omega)]; omega
      clear h1 h2 k0 k1 k2 hc
      go_enter Tryd.func33, Tryd.ntmps33
      go_wp2
      go_ret
      exact ⟨by first | rfl | (rw [e3]), rfl⟩
    · rw [if_neg h2]
      by_cases h3 : 65 ≤ c ∧ c ≤ 90
      · rw [if_pos h3]
        have a1 : (48 : Int) ≤ (c : Int) := by omega
        have a2 : ¬ (c : Int) ≤ 57 := by omega
        have a3 : ¬ (97 : Int) ≤ (c : Int) := by omega
        have a5 : (65 : Int) ≤ (c : Int) := by omega
        have a6 : (c : Int) ≤ 90 := by omega
        have e := k2.resolve_right (fun h => h h3.1)
        have e2 : IntKind.i64.wrap ((c : Int) - 65) = (c : Int) - 65 := IntWalk.i64_in _ (by omega)
        have e3 : IntKind.i64.wrap ((c : Int) - 65 + 10) = ((c - 65 + 10 : Nat) : Int) := by rw [IntWalk.i64_in _ (by omega)]; omega
        clear h1 h2 h3 k0 k1 k2 hc
        go_enter Tryd.func33, Tryd.ntmps33
        go_wp2
        go_ret
        exact ⟨by first | rfl | (rw [e3]), rfl⟩
      · rw [if_neg h3]
        clear k0 k1 k2
        have hcc : ((48 : Int) ≤ (c : Int) ∧ ¬ (c : Int) ≤ 57) ∨ ¬ (48 : Int) ≤ (c : Int) := by omega
        have hcd : ((97 : Int) ≤ (c : Int) ∧ ¬ (c : Int) ≤ 122) ∨ ¬ (97 : Int) ≤ (c : Int) := by omega
        have hce : ((65 : Int) ≤ (c : Int) ∧ ¬ (c : Int) ≤ 90) ∨ ¬ (65 : Int) ≤ (c : Int) := by omega
        clear h1 h2 h3 hc
        rcases hcc with ⟨a1, a2⟩ | a1 <;> rcases hcd with ⟨a3, a4⟩ | a3 <;> rcases hce with ⟨a5, a6⟩ | a5
        all_goals
          go_enter Tryd.func33, Tryd.ntmps33
          go_wp2
          go_ret
          exact ⟨rfl, rfl⟩
set_option maxHeartbeats 1000000 in
theorem group_any (r : Nat) (w : World) (h2 : 2 ≤ r) (h36 : r ≤ 36) :
    Calls Tryd.prog 22 #[.int .i64 r] w fun e w' => (∃ c p : Nat, e = .returned (.tuple #[.int .i64 (c : Nat), .int .u32 (p : Nat)]) ∧ p = r ^ c ∧ 1 ≤ c ∧ c ≤ 32 ∧ p < 4294967296) ∧ w = w' := by
  have k0 : IntKind.u64.wrap (r : Int) = (r : Int) := IntWalk.u64_in _ (by omega)
  have H2 := Lib.hid h2
  have H36 := Lib.hid h36
  clear h2 h36
  go_enter Tryd.func22, Tryd.ntmps22
  go_wp2
  go_loopw [4, 5] (fun cv pw wr => ∃ c p : Nat, cv = .int .i64 (c : Nat) ∧ pw = .int .u64 (p : Nat) ∧ Hid (p = r ^ c) ∧ Hid (1 ≤ c) ∧ Hid (p < 4294967296) ∧ w = wr) (fun _ pw _ => 4294967296 - (intOf pw).toNat)
  case atStart => exact ⟨1, r, rfl, rfl, Lib.hid (by rw [Nat.pow_one]), Lib.hid (Nat.le_refl _), Lib.hid (by have := H36.out; omega), rfl⟩
  case round =>
    obtain ⟨c, p, rfl, rfl, HP, HC, HL, rfl⟩ := hrel
    have hc32 : c < 32 := by
      have h1 : 2 ^ c ≤ r ^ c := Nat.pow_le_pow_left H2.out c
      have h3 := HL.out
      rw [HP.out] at h3
      exact (Nat.pow_lt_pow_iff_right (a := 2) (by omega)).1 (Nat.lt_of_le_of_lt h1 (show r ^ c < 2 ^ 32 from h3))
    obtain ⟨t, ht⟩ : ∃ t, p * r = t := ⟨_, rfl⟩
    have htl : t ≤ 4294967295 * 36 := by rw [← ht]; exact Nat.mul_le_mul (by have := HL.out; omega) H36.out
    have k1 : IntKind.u64.wrap ((p : Int) * (r : Int)) = (t : Int) := by
      have e : ((p : Int) * (r : Int)) = ((p * r : Nat) : Int) := (Int.natCast_mul p r).symm
      rw [e, ht]
      exact IntWalk.u64_in _ (by omega)
    have HT := Lib.hid ht
    by_cases hle : t ≤ 4294967295
    · have a1 : (t : Int) ≤ 4294967295 := by omega
      have HPN := Lib.hid (show t = r ^ (c + 1) by rw [← HT.out, HP.out, Nat.pow_succ])
      have HTP := Lib.hid (show p < t by
        have h1 : p * 2 ≤ p * r := Nat.mul_le_mul_left _ H2.out
        have h3 : 0 < r ^ c := Nat.pow_pos (by have := H2.out; omega)
        have h4 := HP.out
        have h5 := HT.out
        omega)
      have hcc : (c : Int) < 32 := by omega
      clear ht htl hle
      go_wp2
      go_roundw
      case rel => exact ⟨c + 1, t, by go_num, rfl, HPN, Lib.hid (by omega), Lib.hid (by omega), trivial⟩
      case measure => have := HTP.out; simp [intOf]; omega
    · have a1 : ¬ (t : Int) ≤ 4294967295 := by omega
      have k2 : IntKind.u32.wrap (p : Int) = (p : Int) := IntWalk.u32_in _ (by have := HL.out; omega)
      clear ht htl hle
      go_wp2
      go_ret2
      exact ⟨⟨c, p, rfl, HP.out, HC.out, by omega, HL.out⟩, rfl⟩
end Go.Proofs.YtlabblkonkhmgaaDoor
