/-
  The law NumberRests: what is left by % of the program.
-/
import Derived.Test.YtbinpcoaghpcdaaAwake
namespace Go.Proofs.Ytbinpcoaghpcdaa
open Go.RowKit
theorem read_word (s : Bool) {r : Nat} (h : r < 9218868437227405312) : ∃ m e, Ieee.double.read (Ieee.double.word s r) = .number s m e ∧ -1074 ≤ e ∧ fmag r = m * 2 ^ (e + 1074).toNat := by
  obtain ⟨a, b, _⟩ := word_rung s (r := r) (by omega)
  have := read_num (w := Ieee.double.word s r) (by rw [a]; exact h)
  rw [a, b] at this
  exact this
theorem fmag_fl {N : Nat} (h : N < 9007199254740992) {K : Nat} (hK : K = 1074) : fmag (fl N) = N * 2 ^ K ∧ fl N < 9218868437227405312 := by
  obtain ⟨r, hr⟩ := rep_of (N := N * 2 ^ K) rfl h
  have hlt : r < 9218868437227405312 := by
    obtain ⟨J, hJ⟩ : ∃ J : Nat, J = 2046 := ⟨_, rfl⟩
    have e1 := fmag_make 4503599627370496 J (by omega) (by omega)
    rw [show J * 4503599627370496 + 4503599627370496 = 9218868437227405312 by rw [hJ]] at e1
    refine fmag_lt.1 ?_
    rw [hr, e1]
    have h1 : N * 2 ^ K < 9007199254740992 * 2 ^ K := Nat.mul_lt_mul_of_pos_right h (Nat.two_pow_pos K)
    have h2 : 9007199254740992 * 2 ^ K ≤ 4503599627370496 * 2 ^ J := by
      rw [show (9007199254740992 : Nat) = 4503599627370496 * 2 by rfl, Nat.mul_assoc]
      refine Nat.mul_le_mul_left _ ?_
      rw [show 2 * 2 ^ K = 2 ^ (K + 1) by rw [Nat.pow_succ, Nat.mul_comm]]
      exact Nat.pow_le_pow_right (by omega) (by omega)
    omega
  have := near_gen false (r := r) (m := N) (a := K) (b := 0) (e := 0) hlt (by omega) (by rw [hr, Nat.pow_zero, Nat.mul_one])
  rw [fl_near, this]
  exact ⟨hr, hlt⟩
/-- The float of a whole number. -/
theorem near_int {n : Int} (h1 : -9007199254740992 < n) (h2 : n < 9007199254740992) : FloatKind.f64.nearest n = Ieee.double.word (decide (n < 0)) (fl n.natAbs) := by
  obtain ⟨K, hK⟩ : ∃ K : Nat, K = 1074 := ⟨_, rfl⟩
  obtain ⟨a, b⟩ := fmag_fl (N := n.natAbs) (by omega) hK
  exact near_gen (decide (n < 0)) (r := fl n.natAbs) (m := n.natAbs) (a := K) (b := 0) (e := 0) b (by omega) (by rw [a, Nat.pow_zero, Nat.mul_one])
theorem mul_signed {s : Bool} {x y r : Nat} (hx : x < 9218868437227405312) (hy : y < 9218868437227405312) (hr : r < 9218868437227405312) {K : Nat} (hK : K = 1074) (h : fmag x * fmag y = fmag r * 2 ^ K) : Ieee.double.mul (Ieee.double.word s x) (Ieee.double.word false y) = some (Ieee.double.word s r) := by
  obtain ⟨m, i, a1, a2, a3⟩ := read_word s hx
  obtain ⟨n, j, b1, b2, b3⟩ := read_word false hy
  unfold Ieee.Format.mul
  rw [a1, b1]
  simp only [Ieee.Datum.product, Option.map_some, Bool.xor_false]
  refine congrArg some ?_
  refine near_gen s (a := (i + 1074).toNat + (j + 1074).toNat) (b := K) hr (by omega) ?_
  rw [← h, a3, b3, Nat.pow_add]
  grind
theorem add_nought {s : Bool} {x : Nat} (hx : x < 9218868437227405312) (h : s = true → 0 < x) : Ieee.double.add (Ieee.double.word s x) 0 = some (Ieee.double.word s x) := by
  obtain ⟨m, i, a1, a2, a3⟩ := read_word s hx
  obtain ⟨n, j, b1, b2, b3⟩ := read_word false (r := 0) (by omega)
  unfold Ieee.Format.add
  rw [a1, show Ieee.double.read 0 = Ieee.double.read (Ieee.double.word false 0) from rfl, b1]
  have hn : n = 0 := (Nat.mul_eq_zero.1 (show n * 2 ^ (j + 1074).toNat = 0 from b3.symm)).resolve_right (by have := Nat.two_pow_pos (j + 1074).toNat; omega)
  subst hn
  simp only [Ieee.Datum.sum, Option.map_some, signed_eq, Nat.zero_mul, Int.natCast_zero, Int.neg_zero, ite_self, Int.add_zero, Bool.false_eq_true]
  obtain ⟨base, hbase⟩ : ∃ base, min i j = base := ⟨_, rfl⟩
  rw [hbase]
  have u1 := scale_up (m := m) (i := i) (base := base) (by omega) (by omega)
  rw [← a3] at u1
  obtain ⟨X, hX⟩ : ∃ X, m * 2 ^ (i - base).toNat = X := ⟨_, rfl⟩
  rw [hX] at u1 ⊢
  have hneg : (if (if s = true then -(X : Int) else (X : Int)) = 0 then s && false else decide ((if s = true then -(X : Int) else (X : Int)) < 0)) = s := by
    cases s
    · simp
    · have hx0 := fmag_pos.2 (h rfl)
      have hX0 : 0 < X := by
        rcases Nat.eq_zero_or_pos X with h1 | h1
        · rw [h1, Nat.zero_mul] at u1; omega
        · exact h1
      simp; omega
  have habs : (if s = true then -(X : Int) else (X : Int)).natAbs = X := by cases s <;> simp
  rw [hneg, habs]
  refine congrArg some ?_
  exact near_fmag s hx (by omega) u1
theorem modm_mult {N M a b : Nat} (hM : 0 < M) (hMl : M < 9007199254740992) (ha : a = fl (N * M)) (hNM : N * M < 9007199254740992) (hb : b = fl M) : modm a b = 0 := by
  obtain ⟨K, hK⟩ : ∃ K : Nat, K = 1074 := ⟨_, rfl⟩
  obtain ⟨a1, _⟩ := fmag_fl hNM hK
  obtain ⟨b1, _⟩ := fmag_fl hMl hK
  subst ha hb
  have h0 : 0 < fl M := fmag_pos.1 (by rw [b1]; exact Nat.mul_pos hM (Nat.two_pow_pos K))
  refine (modm_eq h0 ?_).symm
  rw [fmag_zero, a1, b1, Nat.mul_mod_mul_right, Nat.mul_mod_left, Nat.zero_mul]
theorem rem_any (x y : Nat) (hx : x < 18446744073709551616) (hx2 : rung x < 9218868437227405312) (hy : y < 18446744073709551616) (hY : 0 < rung y) (hY2 : rung y < 9218868437227405312) (w : World) :
    Calls Try.prog 74 #[.string ⟨#[37]⟩, .float .f64 x, .float .f64 y] w fun e w' => e = .returned (.tuple #[.float .f64 (Ieee.double.word (fneg x) (modm (rung x) (rung y))), .int .i64 0]) ∧ Below w.heap.size w w' := by
  have h := binary_at 4 (by omega) x y _ w (fun W => rest_any x y _ W (fun W => Mod_fin x y hx hx2 hy hY hY2 W))
  rw [cn_real (by
    have h1 := modm_lt (rung x) hY
    have h2 := (word_rung (fneg x) (r := modm (rung x) (rung y)) (by omega)).1
    unfold fnan; rw [h2]; exact decide_eq_false (by omega))] at h
  exact h
theorem fnan_fin {r : Nat} (s : Bool) (h : r < 9218868437227405312) : fnan (Ieee.double.word s r) = false := by
  unfold fnan
  rw [(word_rung s (r := r) (by omega)).1]
  exact decide_eq_false (by omega)
end Go.Proofs.Ytbinpcoaghpcdaa
