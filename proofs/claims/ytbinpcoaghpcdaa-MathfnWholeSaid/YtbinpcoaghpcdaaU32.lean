/-
  Contracts of Uint32 of both: a float modulo 2^32.
-/
import Derived.Test.YtbinpcoaghpcdaaLawH
import Derived.Test.YtbinpcoaghpcdaaRB
import Derived.Test.YtbinpcoaghpcdaaParts2
namespace Go.Proofs.Ytbinpcoaghpcdaa
open Go.RowKit
/-- The whole number of an amount. -/
def trn (a : Nat) : Nat := fmag a / fmag 4607182418800017408
theorem trn_eq {a K : Nat} (hK : K = 1074) : trn a = fmag a / 2 ^ K := by unfold trn; rw [fmag_one hK]
theorem cut_zero (s : Bool) (n d : Nat) : Ieee.Toward.zero.cut s n d = n / 2 ^ d := by
  unfold Ieee.Toward.cut
  simp only
  rw [Nat.one_shiftLeft]
  show n / 2 ^ min d (n.log2 + 2) + 0 = _
  rw [Nat.add_zero]
  by_cases hm : d ≤ n.log2 + 2
  · rw [Nat.min_eq_left hm]
  · rw [Nat.min_eq_right (by omega)]
    have hlt : n < 2 ^ (n.log2 + 2) := by
      rcases Nat.eq_zero_or_pos n with h0 | h0
      · rw [h0]; exact Nat.two_pow_pos _
      · have := (log2_two n h0).2
        have h9 : 2 ^ (n.log2 + 1) ≤ 2 ^ (n.log2 + 2) := Nat.pow_le_pow_right (by omega) (by omega)
        omega
    have hlt2 : n < 2 ^ d := Nat.lt_of_lt_of_le hlt (Nat.pow_le_pow_right (by omega) (by omega))
    rw [Nat.div_eq_of_lt hlt, Nat.div_eq_of_lt hlt2]
theorem toInt_word (s : Bool) {r : Nat} (hr : r < 9218868437227405312) : (FloatKind.f64.decode (Ieee.double.word s r)).toInt .zero = some (if s = true then -(trn r : Int) else (trn r : Int)) := by
  obtain ⟨K, hK⟩ : ∃ K : Nat, K = 1074 := ⟨_, rfl⟩
  obtain ⟨m, e, h1, h2, h3⟩ := read_word s hr
  rw [show FloatKind.f64.decode (Ieee.double.word s r) = Ieee.double.read (Ieee.double.word s r) from rfl, h1]
  unfold Ieee.Datum.toInt Ieee.Datum.integral
  simp only [cut_zero, signed_eq, Nat.pow_zero, Nat.mul_one]
  have hq : (m <<< e.toNat) / 2 ^ (-e).toNat = trn r := by
    rw [trn_eq hK]
    have hA : fmag r * 2 ^ (-e).toNat = (m <<< e.toNat) * 2 ^ K := by
      rw [h3, Nat.shiftLeft_eq, Nat.mul_assoc, Nat.mul_assoc, ← Nat.pow_add, ← Nat.pow_add, show (e + 1074).toNat + (-e).toNat = e.toNat + K by omega]
    rw [← Nat.mul_div_mul_right (m <<< e.toNat) (2 ^ (-e).toNat) (Nat.two_pow_pos K), ← hA, Nat.mul_comm (2 ^ (-e).toNat), Nat.mul_div_mul_right _ _ (Nat.two_pow_pos _)]
  rw [hq]
theorem conv_i64 (s : Bool) {r : Nat} (hr : r < 9218868437227405312) (ht : trn r < 9223372036854775808) (w : World) :
    (convert 22 2 (.float .f64 (Ieee.double.word s r))).run Try.prog w = .ok (.int .i64 (if s = true then -(trn r : Int) else (trn r : Int))) w := by
  refine run_convert_float_int w 22 2 .f64 .i64 _ _ (by kernel_rfl) (by kernel_rfl) ?_
  unfold floatToIntVal
  rw [toInt_word s hr]
  simp only
  have e1 : IntKind.i64.min = -9223372036854775808 := rfl
  have e2 : IntKind.i64.max = 9223372036854775807 := rfl
  rw [if_pos (by rw [e1, e2]; cases s <;> simp <;> omega)]
theorem fmag_parts {a k m : Nat} (h0 : 0 < a) (ha : a < 9218868437227405312) (hkm : fwhole a = 2 ^ (k + 1) * m + 2 ^ k) : -1074 ≤ fpow a + (k : Nat) ∧ fmag a = (2 * m + 1) * 2 ^ (fpow a + (k : Nat) + 1074).toNat := by
  have h1 : fwhole a = (2 * m + 1) * 2 ^ k := by rw [hkm, Nat.pow_succ]; grind
  have h2 : fmag a = fwhole a * 2 ^ (fpow a + 1074).toNat ∧ -1074 ≤ fpow a := by
    unfold fmag fwhole fpow
    by_cases h : a < 4503599627370496
    · rw [if_pos h, Nat.div_eq_of_lt h, if_pos rfl, if_pos rfl, Nat.mod_eq_of_lt h]
      exact ⟨by simp, by omega⟩
    · have hq : ¬ a / 4503599627370496 = 0 := by omega
      rw [if_neg h, if_neg hq, if_neg hq, show (((a / 4503599627370496 : Nat) : Int) - 1075 + 1074).toNat = a / 4503599627370496 - 1 by omega, Nat.add_comm 4503599627370496]
      exact ⟨rfl, by omega⟩
  refine ⟨by omega, ?_⟩
  rw [h2.1, h1, Nat.mul_assoc, ← Nat.pow_add, show k + (fpow a + 1074).toNat = (fpow a + (k : Nat) + 1074).toNat by omega]
/-- What the reference reckons of parts. -/
theorem trn_parts {a k m : Nat} (h0 : 0 < a) (ha : a < 9218868437227405312) (hkm : fwhole a = 2 ^ (k + 1) * m + 2 ^ k) :
    (32 ≤ fpow a + (k : Nat) → trn a % 4294967296 = 0) ∧ (∀ q : Nat, fpow a + (k : Nat) = (q : Int) → trn a = (2 * m + 1) * 2 ^ q) ∧ (∀ q : Nat, fpow a + (k : Nat) = -(q : Int) → trn a = (2 * m + 1) / 2 ^ q) := by
  obtain ⟨K, hK⟩ : ∃ K : Nat, K = 1074 := ⟨_, rfl⟩
  obtain ⟨h1, h2⟩ := fmag_parts h0 ha hkm
  rw [trn_eq hK, h2]
  have hU := Nat.two_pow_pos K
  have up : ∀ q : Nat, fpow a + (k : Nat) = (q : Int) → (2 * m + 1) * 2 ^ (fpow a + (k : Nat) + 1074).toNat / 2 ^ K = (2 * m + 1) * 2 ^ q := fun q hq => by
    rw [hq, show ((q : Int) + 1074).toNat = q + K by omega, Nat.pow_add, ← Nat.mul_assoc, Nat.mul_div_cancel _ hU]
  refine ⟨fun h => ?_, up, fun q hq => ?_⟩
  · obtain ⟨q, hq⟩ : ∃ q : Nat, fpow a + (k : Nat) = ((q + 32 : Nat) : Int) := ⟨(fpow a + (k : Nat) - 32).toNat, by omega⟩
    rw [up _ hq, Nat.pow_add, show (4294967296 : Nat) = 2 ^ 32 from rfl, ← Nat.mul_assoc, Nat.mul_mod_left]
  · rw [hq, show (-(q : Int) + 1074).toNat = K - q by omega]
    obtain ⟨d, hd⟩ : ∃ d, K = d + q := ⟨K - q, by omega⟩
    rw [hd, Nat.add_sub_cancel, Nat.pow_add, Nat.mul_comm (2 ^ d) (2 ^ q), Nat.mul_div_mul_right _ _ (Nat.two_pow_pos d)]
/-- Parts of the reference, of a float above 0. -/
theorem rparts_told (a : Nat) (h0 : 0 < a) (ha : a < 9218868437227405312) : ∃ (o N : Nat) (p : Int), N = (wds o).length ∧ 0 < N ∧ N ≤ 2 ∧ 0 < o ∧ o < 9007199254740992 ∧ (-1074 ≤ p ∧ p < 1048576) ∧ fmag a = o * 2 ^ (p + 1074).toNat ∧
    ((32 ≤ p → trn a % 4294967296 = 0) ∧ (∀ q : Nat, p = (q : Int) → trn a = o * 2 ^ q) ∧ (∀ q : Nat, p = -(q : Int) → trn a = o / 2 ^ q)) ∧
    ∀ W, Calls Try.prog 89 #[.float .f64 a] W fun e w' => ∃ A c, e = .returned (.tuple #[.slice A N c, .int .i64 p, .int .i64 0]) ∧ (N ≤ c ∧ RW w' w'.heap.size A (wds o)) ∧ Below W.heap.size W w' := by
  obtain ⟨p1, p2, p3⟩ := pos_rung (x := a) (by omega)
  have hb : fbad a = false := by
    unfold fbad fnan finf
    rw [p1, p2, decide_eq_false (by omega), decide_eq_false (by omega)]; rfl
  obtain ⟨f1, f2⟩ := fwhole_pos (x := a) h0
  obtain ⟨k, m, hkm⟩ := odd_part _ f1
  have h9 : 2 ^ k * (2 * m + 1) = fwhole a := by rw [hkm, Nat.pow_succ]; grind
  have h7 : 1 * (2 * m + 1) ≤ 2 ^ k * (2 * m + 1) := Nat.mul_le_mul_right _ (Nat.two_pow_pos k)
  have hk64 : k < 53 := by
    have h8 : 2 ^ k * 1 ≤ 2 ^ k * (2 * m + 1) := Nat.mul_le_mul_left _ (by omega)
    have h6 : 2 ^ k < 2 ^ 53 := by have : (2 : Nat) ^ 53 = 9007199254740992 := rfl; omega
    exact (Nat.pow_lt_pow_iff_right (a := 2) (by omega)).1 h6
  refine ⟨2 * m + 1, _, fpow a + (k : Nat), rfl, ?_, wds_len_lt (by omega), by omega, by omega, ⟨(fmag_parts h0 ha hkm).1, by unfold fpow; split <;> omega⟩, (fmag_parts h0 ha hkm).2, trn_parts h0 ha hkm, fun W => (rparts_ok a W (by omega) hb (by rw [p1]; exact h0)).mono ?_⟩
  · rcases Nat.eq_zero_or_pos (wds (2 * m + 1)).length with h | h
    · have h5 := List.eq_nil_of_length_eq_zero h
      have h6 := wds_val (2 * m + 1)
      rw [h5] at h6
      have : val [] = 0 := rfl
      omega
    · exact h
  · rintro e w' ⟨k2, m2, A, n, c, hkm2, rfl, ⟨rfl, hc, hr⟩, hbw⟩
    obtain ⟨rfl, rfl⟩ := odd_one hkm hkm2 (by omega)
    exact ⟨A, c, rfl, ⟨hc, hr⟩, hbw⟩
end Go.Proofs.Ytbinpcoaghpcdaa
