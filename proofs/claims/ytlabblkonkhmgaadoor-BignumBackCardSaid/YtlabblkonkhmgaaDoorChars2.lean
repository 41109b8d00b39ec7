/-
  Contracts of allDigits and small of the program.
-/
import Derived.Test.YtlabblkonkhmgaaDoorChars
namespace Go.Proofs.YtlabblkonkhmgaaDoor
open Go.RowKit
/-- Are these digits, and is there one? -/
def adB (r : Nat) (s : ByteArray) : Bool := decide (0 < s.size) && decide (∀ i, i < s.size → dgt (btn s i) < r)
theorem adB_no {r : Nat} {s : ByteArray} {i : Nat} (hi : i < s.size) (h : ¬ dgt (btn s i) < r) : adB r s = false := by
  unfold adB
  rw [decide_eq_false (p := ∀ i, i < s.size → dgt (btn s i) < r) (fun a => h (a i hi)), Bool.and_false]
theorem adB_yes {r : Nat} {s : ByteArray} (h : ∀ i, i < s.size → dgt (btn s i) < r) : adB r s = decide (0 < s.size) := by
  unfold adB
  rw [decide_eq_true h, Bool.and_true]
set_option maxHeartbeats 1000000 in
theorem allDigits_any (s : ByteArray) (r : Nat) (w : World) (hs : s.size ≤ 4611686018427387903) (h36 : r ≤ 36) :
    Calls Tryd.prog 29 #[.string s, .int .i64 r] w fun e w' => e = .returned (.bool (adB r s)) ∧ w = w' := by
  have hs1 : (s.size : Int) ≤ 4611686018427387903 := by omega
  have H36 := Lib.hid h36
  clear hs h36
  go_enter Tryd.func29, Tryd.ntmps29
  go_wp2
  go_loopw [8] (fun iv wr => ∃ k : Nat, iv = .int .i64 (k : Nat) ∧ k ≤ s.size ∧ Hid (∀ i, i < k → dgt (btn s i) < r) ∧ w = wr) (fun iv _ => s.size - (intOf iv).toNat)
  case atStart => exact ⟨0, rfl, Nat.zero_le _, Lib.hid (fun i hi => by omega), rfl⟩
  case round =>
    obtain ⟨k, rfl, hk, HD, rfl⟩ := hrel
    by_cases hlt : k < s.size
    · have C1 := Lib.hid (fun W => show Calls Tryd.prog 55 #[.int .u8 ((s[k]'hlt).toNat : Nat)] W fun e w' => e = .returned (.int .i64 (dgt (btn s k) : Nat)) ∧ W = w' from by
        rw [btn_eq s k hlt]; exact pdigit_any _ W (btn_lt s k))
      have hk1 : (k : Int) < (s.size : Int) := by omega
      have hd := dgt_le (btn s k)
      obtain ⟨d, hde⟩ : ∃ d, dgt (btn s k) = d := ⟨_, rfl⟩
      rw [hde] at C1 hd
      by_cases hdr : d < r
      · have HD2 := Lib.hid (show ∀ i, i < k + 1 → dgt (btn s i) < r from fun i hi => by
          by_cases e : i = k
          · rw [e, hde]; exact hdr
          · exact HD.out i (by omega))
        have a1 : ¬ (r : Int) ≤ (d : Int) := by omega
        clear hde hdr hd
        go_wp2_with fail
        refine (C1.out _).mono ?_
        rintro e w' ⟨rfl, rfl⟩
        go_wp2
        go_roundw
        case rel => exact ⟨k + 1, by go_num, by omega, HD2, trivial⟩
        case measure => simp [intOf]; omega
      · have HF := Lib.hid (adB_no (r := r) hlt (by rw [hde]; exact hdr))
        have a1 : (r : Int) ≤ (d : Int) := by omega
        clear hde hdr hd
        go_wp2_with fail
        refine (C1.out _).mono ?_
        rintro e w' ⟨rfl, rfl⟩
        go_wp2
        go_ret
        exact ⟨ret_bool HF.out.symm, rfl⟩
    · have HF := Lib.hid (adB_yes (r := r) (s := s) (fun i hi => HD.out i (by omega)))
      have hks : k = s.size := by omega
      subst hks
      clear hlt
      go_wp2
      go_ret
      exact ⟨(ret_bool (by simp)).trans (ret_bool HF.out.symm), rfl⟩
set_option maxHeartbeats 1000000 in
theorem small_any (s : ByteArray) (r : Nat) (w : World) (h36 : r ≤ 36) (h2 : 2 ≤ r) (hp : r ^ s.size < 4294967296) (hd : ∀ i, i < s.size → dgt (btn s i) < r) :
    Calls Tryd.prog 30 #[.string s, .int .i64 r] w fun e w' => e = .returned (.tuple #[.int .u32 (pv r (fun i => dgt (btn s i)) s.size : Nat), .int .u32 (r ^ s.size : Nat)]) ∧ w = w' := by
  have hs32 : s.size < 32 := by
    have h1 : 2 ^ s.size ≤ r ^ s.size := Nat.pow_le_pow_left h2 _
    exact (Nat.pow_lt_pow_iff_right (a := 2) (by omega)).1 (Nat.lt_of_le_of_lt h1 (show r ^ s.size < 2 ^ 32 from hp))
  have hs1 : (s.size : Int) ≤ 32 := by omega
  have k0 : IntKind.u32.wrap (r : Int) = (r : Int) := IntWalk.u32_in _ (by omega)
  have H2 := Lib.hid h2
  have HP := Lib.hid hp
  have HD := Lib.hid hd
  clear h36 h2 hp hd hs32
  go_enter Tryd.func30, Tryd.ntmps30
  go_wp2
  go_loopw [6, 7, 11] (fun vv pw iv wr => ∃ k : Nat, iv = .int .i64 (k : Nat) ∧ vv = .int .u32 (pv r (fun i => dgt (btn s i)) k : Nat) ∧ pw = .int .u32 (r ^ k : Nat) ∧ k ≤ s.size ∧ w = wr) (fun _ _ iv _ => s.size - (intOf iv).toNat)
  case atStart => exact ⟨0, rfl, rfl, rfl, Nat.zero_le _, rfl⟩
  case round =>
    obtain ⟨k, rfl, rfl, rfl, hk, rfl⟩ := hrel
    by_cases hlt : k < s.size
    · have C1 := Lib.hid (fun W => show Calls Tryd.prog 55 #[.int .u8 ((s[k]'hlt).toNat : Nat)] W fun e w' => e = .returned (.int .i64 (dgt (btn s k) : Nat)) ∧ W = w' from by
        rw [btn_eq s k hlt]; exact pdigit_any _ W (btn_lt s k))
      have hk1 : (k : Int) < (s.size : Int) := by omega
      have hle := dgt_le (btn s k)
      have hv1 : pv r (fun i => dgt (btn s i)) (k + 1) < r ^ (k + 1) := pv_lt (fun i hi => HD.out i (by omega))
      have hp1 : r ^ (k + 1) < 4294967296 := Nat.lt_of_le_of_lt (Nat.pow_le_pow_right (by have := H2.out; omega) hlt) HP.out
      have ev : pv r (fun i => dgt (btn s i)) (k + 1) = pv r (fun i => dgt (btn s i)) k * r + dgt (btn s k) := rfl
      have ep : r ^ (k + 1) = r ^ k * r := Nat.pow_succ _ _
      obtain ⟨d, hde⟩ : ∃ d, dgt (btn s k) = d := ⟨_, rfl⟩
      rw [hde] at C1 hle ev
      obtain ⟨V, hV⟩ : ∃ V, pv r (fun i => dgt (btn s i)) k = V := ⟨_, rfl⟩
      obtain ⟨V1, hV1⟩ : ∃ V1, pv r (fun i => dgt (btn s i)) (k + 1) = V1 := ⟨_, rfl⟩
      obtain ⟨P, hP⟩ : ∃ P, r ^ k = P := ⟨_, rfl⟩
      obtain ⟨P1, hP1⟩ : ∃ P1, r ^ (k + 1) = P1 := ⟨_, rfl⟩
      have HV1 := Lib.hid hV1
      have HP1 := Lib.hid hP1
      rw [hV, hV1] at ev
      rw [hP1, hP] at ep
      rw [hV1, hP1] at hv1
      rw [hP1] at hp1
      rw [hV, hP]
      obtain ⟨t, ht⟩ : ∃ t, V * r = t := ⟨_, rfl⟩
      rw [ht] at ev
      have k1 : IntKind.u32.wrap ((V : Int) * (r : Int)) = (t : Int) := by
        rw [show ((V : Int) * (r : Int)) = ((V * r : Nat) : Int) from (Int.natCast_mul V r).symm, ht]; exact IntWalk.u32_in _ (by omega)
      have k2 : IntKind.u32.wrap (d : Int) = (d : Int) := IntWalk.u32_in _ (by omega)
      have k3 : IntKind.u32.wrap ((t : Int) + (d : Int)) = (V1 : Int) := by rw [IntWalk.u32_in _ (by omega)]; omega
      have k4 : IntKind.u32.wrap ((P : Int) * (r : Int)) = (P1 : Int) := by
        rw [show ((P : Int) * (r : Int)) = ((P * r : Nat) : Int) from (Int.natCast_mul P r).symm, ← ep]; exact IntWalk.u32_in _ (by omega)
      clear hle hv1 hp1 ev ep hde hV hV1 hP hP1 ht
      go_wp2_with fail
      refine (C1.out _).mono ?_
      rintro e w' ⟨rfl, rfl⟩
      go_wp2
      go_roundw
      case rel => exact ⟨k + 1, by go_num, by rw [HV1.out], by rw [HP1.out], by omega, trivial⟩
      case measure => simp [intOf]; omega
    · have hks : k = s.size := by omega
      rw [hks]
      clear hlt hk hks
      go_wp2
      go_ret2
      exact ⟨rfl, rfl⟩
end Go.Proofs.YtlabblkonkhmgaaDoor
