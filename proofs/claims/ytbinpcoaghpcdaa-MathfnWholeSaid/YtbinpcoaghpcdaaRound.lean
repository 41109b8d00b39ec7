/-
  Contracts of Copysign, and of Round of both.
-/
import Derived.Test.YtbinpcoaghpcdaaRnd
namespace Go.Proofs.Ytbinpcoaghpcdaa
open Go.RowKit
theorem and_sign (x : Nat) (hx : x < 18446744073709551616) : bits BinOp.and IntKind.u64 (x : Int) 9223372036854775808 = ((if fneg x = true then 9223372036854775808 else 0 : Nat) : Int) := by
  show IntKind.u64.wrap ((BitVec.ofInt 64 (x : Int) &&& BitVec.ofInt 64 9223372036854775808).toNat : Int) = _
  have e1 : (BitVec.ofInt 64 (x : Int)) = BitVec.ofNat 64 x := by rw [BitVec.ofInt_natCast]
  have e2 : (BitVec.ofInt 64 9223372036854775808) = BitVec.ofNat 64 (2 ^ 63) := by decide
  rw [e1, e2, BitVec.toNat_and, BitVec.toNat_ofNat, BitVec.toNat_ofNat, Nat.mod_eq_of_lt (by omega : x < 2 ^ 64), Nat.mod_eq_of_lt (by omega : 2 ^ 63 < 2 ^ 64), IntKind.wrap_u64]
  have h2 : x &&& 2 ^ 63 = x / 2 ^ 63 % 2 * 2 ^ 63 := by
    apply Nat.eq_of_testBit_eq
    intro i
    rw [Nat.testBit_and, Nat.testBit_two_pow]
    by_cases h : 63 = i
    · subst h
      rw [decide_eq_true rfl, Bool.and_true, Nat.testBit_mul_two_pow, Nat.testBit_eq_decide_div_mod_eq]
      simp
    · rw [decide_eq_false h, Bool.and_false, Nat.testBit_mul_two_pow]
      by_cases hi : 63 ≤ i
      · have : x / 2 ^ 63 % 2 < 2 ^ (i - 63) := Nat.lt_of_lt_of_le (Nat.mod_lt _ (by omega)) (by have := Nat.pow_le_pow_right (n := 2) (by omega) (show 1 ≤ i - 63 by omega); omega)
        rw [Nat.testBit_lt_two_pow this]; simp
      · simp [hi]
  rw [h2]
  unfold fneg
  have h4 : x / 2 ^ 63 % 2 = 0 ∨ x / 2 ^ 63 % 2 = 1 := by omega
  rw [show (9223372036854775808 : Nat) = 2 ^ 63 from rfl]
  rcases h4 with h4 | h4 <;> rw [h4] <;> simp
theorem or_sign (s : Bool) {r : Nat} (hr : r < 9223372036854775808) : bits BinOp.or IntKind.u64 (r : Int) ((if s = true then 9223372036854775808 else 0 : Nat) : Int) = ((Ieee.double.word s r : Nat) : Int) := by
  cases s
  · rw [if_neg (by simp), or_u64 r 0 (by omega) (by omega), Nat.or_zero]; rfl
  · rw [if_pos rfl, or_u64 r 9223372036854775808 (by omega) (by omega)]
    have := Nat.two_pow_add_eq_or_of_lt (i := 63) (b := r) hr 1
    rw [Nat.or_comm, show (9223372036854775808 : Nat) = 2 ^ 63 * 1 from rfl, ← this]
    rfl
set_option maxRecDepth 100000 in
theorem copysign_any (f x : Nat) (w : World) (hf : f < 18446744073709551616) (hx : x < 18446744073709551616) : Calls Try.prog 52 #[.float .f64 f, .float .f64 x] w fun e w' => e = .returned (.float .f64 (Ieee.double.word (fneg x) (rung f))) ∧ w = w' := by
  have h1 := f64bits_run f w
  have h2 := f64bits_run x w
  have h3 := not_sign f hf
  have h4 := and_sign x hx
  have hr : rung f < 9223372036854775808 := Nat.mod_lt _ (by omega)
  have h5 := or_sign (fneg x) hr
  have h6 := f64from_run (Ieee.double.word (fneg x) (rung f)) w
  obtain ⟨a, ha⟩ : ∃ a, rung f = a := ⟨_, rfl⟩
  obtain ⟨b, hb⟩ : ∃ b : Nat, (if fneg x = true then 9223372036854775808 else 0 : Nat) = b := ⟨_, rfl⟩
  rw [ha] at h3 h5 h6 ⊢
  rw [hb] at h4 h5
  obtain ⟨c, hc⟩ : ∃ c, Ieee.double.word (fneg x) a = c := ⟨_, rfl⟩
  rw [hc] at h5 h6 ⊢
  clear hf hx hr ha hb hc
  go_enter Try.func52, Try.ntmps52
  go_wp2
  go_ret
  exact ⟨rfl, rfl⟩
theorem near_rung (s : Bool) (m : Nat) (e : Int) : ∃ r, Ieee.double.nearest s m e = Ieee.double.word s r ∧ r ≤ 9218868437227405312 := by
  have e3 : Ieee.double.infRung = 9218868437227405312 := by decide
  unfold Ieee.Format.nearest
  split
  · exact ⟨0, rfl, by omega⟩
  · exact ⟨_, rfl, by rw [e3]; exact Nat.min_le_right _ _⟩
theorem near_real (s : Bool) (m : Nat) (e : Int) : fnan (Ieee.double.nearest s m e) = false ∧ Ieee.double.nearest s m e < 18446744073709551616 := by
  obtain ⟨r, h1, h2⟩ := near_rung s m e
  obtain ⟨a, b, c⟩ := word_rung s (r := r) (by omega)
  rw [h1]
  exact ⟨by unfold fnan; rw [a]; exact decide_eq_false (by omega), c⟩
theorem read_fin {x : Nat} (h : fnan x = false) (h2 : finf x = false) : ∃ m e, Ieee.double.read x = .number (fneg x) m e ∧ -1074 ≤ e ∧ fmag (rung x) = m * 2 ^ (e + 1074).toNat :=
  read_num (by unfold fnan at h; unfold finf at h2; have := of_decide_eq_false h; have := of_decide_eq_false h2; omega)
theorem itg_real (way : Ieee.Toward) {x : Nat} (h : fnan x = false) (h2 : finf x = false) : fnan (itg way x) = false ∧ itg way x < 18446744073709551616 := by
  obtain ⟨m, e, a, _, _⟩ := read_fin h h2
  unfold itg
  rw [show FloatKind.f64.decode x = Ieee.double.read x from rfl, a]
  exact near_real _ _ _
theorem itg_inf (way : Ieee.Toward) {x : Nat} (hx : x < 18446744073709551616) (h : finf x = true) : itg way x = x := by
  have h1 : rung x = 9218868437227405312 := by unfold finf at h; exact of_decide_eq_true h
  unfold itg
  rw [show FloatKind.f64.decode x = Ieee.double.read x from rfl, read_inf h1]
  show Ieee.double.word (fneg x) Ieee.double.infRung = x
  rw [show Ieee.double.infRung = 9218868437227405312 by decide, ← h1, ← word_split x hx]
/-- Sums and differences of floats that are numbers are told. -/
theorem datum_real {x : Nat} (h : fnan x = false) : (∃ m e, Ieee.double.read x = .number (fneg x) m e) ∨ Ieee.double.read x = .infinity (fneg x) := by
  rcases Nat.lt_or_ge (rung x) 9218868437227405312 with h2 | h2
  · obtain ⟨m, i, a, _⟩ := read_num h2
    exact .inl ⟨m, i, a⟩
  · unfold fnan at h
    have h1 := of_decide_eq_false h
    exact .inr (read_inf (by omega))
theorem sub_fin {x y : Nat} (h : fnan x = false) (h2 : finf x = false) (hy : fnan y = false) : ∃ d, Ieee.double.sub x y = some d := by
  obtain ⟨m, e, a, _, _⟩ := read_fin h h2
  unfold Ieee.Format.sub
  rw [a]
  rcases datum_real hy with ⟨n, j, b⟩ | b <;> rw [b] <;> exact ⟨_, rfl⟩
theorem write_real {d : Ieee.Datum} (h : ∀ s t, d ≠ .nan s t) : fnan (Ieee.double.write d) = false ∧ Ieee.double.write d < 18446744073709551616 := by
  rcases d with ⟨s, m, e⟩ | s | ⟨s, t⟩
  · exact near_real _ _ _
  · show fnan (Ieee.double.word s Ieee.double.infRung) = false ∧ _
    rw [show Ieee.double.infRung = 9218868437227405312 by decide]
    obtain ⟨a, b, c⟩ := word_rung s (r := 9218868437227405312) (by omega)
    exact ⟨by unfold fnan; rw [a]; exact decide_eq_false (by omega), c⟩
  · exact absurd rfl (h s t)
theorem add_one {x : Nat} (h : fnan x = false) : ∃ d, Ieee.double.add x 4607182418800017408 = some d ∧ fnan d = false ∧ d < 18446744073709551616 := by
  have h1 : fnan 4607182418800017408 = false := by decide
  obtain ⟨n, j, b, _⟩ := read_fin h1 (by decide)
  unfold Ieee.Format.add
  rw [b]
  rcases datum_real h with ⟨m, i, a⟩ | a
  · rw [a]
    exact ⟨_, rfl, write_real (fun s t e => by cases e)⟩
  · rw [a]
    exact ⟨_, rfl, write_real (fun s t e => by cases e)⟩
/-- A float less one that counts as much is nought. -/
theorem sub_alike {x y : Nat} (h : fnan x = false) (h2 : finf x = false) (hr : rung y = rung x) (hk : frank y = frank x) : ∃ d, Ieee.double.sub x y = some d ∧ rung d = 0 ∧ d < 18446744073709551616 := by
  have hy : fnan y = false := by unfold fnan at h ⊢; rw [hr]; exact h
  have hy2 : finf y = false := by unfold finf at h2 ⊢; rw [hr]; exact h2
  obtain ⟨m, i, a1, a2, a3⟩ := read_fin h h2
  obtain ⟨n, j, b1, b2, b3⟩ := read_fin hy hy2
  unfold Ieee.Format.sub
  rw [a1, b1]
  simp only [Ieee.Datum.opposite, Ieee.Datum.sum, Option.map_some, signed_eq]
  obtain ⟨base, hbase⟩ : ∃ base, min i j = base := ⟨_, rfl⟩
  rw [hbase]
  have u1 := scale_up (m := m) (i := i) (base := base) (by omega) (by omega)
  have u2 := scale_up (m := n) (i := j) (base := base) (by omega) (by omega)
  rw [← a3] at u1
  rw [← b3, hr, ← u1] at u2
  have u3 := Nat.eq_of_mul_eq_mul_right (Nat.two_pow_pos _) u2
  rw [u3]
  obtain ⟨X, hX⟩ : ∃ X, m * 2 ^ (i - base).toNat = X := ⟨_, rfl⟩
  rw [hX] at u1 ⊢
  have key : (if fneg x = true then -(X : Int) else (X : Int)) + (if (!fneg y) = true then -(X : Int) else (X : Int)) = 0 := by
    unfold frank at hk
    rw [hr] at hk
    cases h3 : fneg x <;> cases h4 : fneg y <;> rw [h3, h4] at hk <;> simp at hk ⊢
    · omega
    · have h5 : rung x = 0 := by omega
      have h6 : fmag (rung x) = 0 := by rw [h5]; rfl
      rw [h6] at u1
      have := Nat.two_pow_pos (base + 1074).toNat
      rcases Nat.mul_eq_zero.1 u1 with h7 | h7 <;> omega
    · have h5 : rung x = 0 := by omega
      have h6 : fmag (rung x) = 0 := by rw [h5]; rfl
      rw [h6] at u1
      have := Nat.two_pow_pos (base + 1074).toNat
      rcases Nat.mul_eq_zero.1 u1 with h7 | h7 <;> omega
    · omega
  rw [key]
  refine ⟨_, rfl, ?_⟩
  show rung (Ieee.double.nearest _ 0 base) = 0 ∧ Ieee.double.nearest _ 0 base < _
  have : ∀ s : Bool, Ieee.double.nearest s 0 base = Ieee.double.word s 0 := fun s => by unfold Ieee.Format.nearest; rw [if_pos rfl]
  rw [this]
  exact ⟨(word_rung _ (by omega)).1, (word_rung _ (by omega)).2.2⟩

end Go.Proofs.Ytbinpcoaghpcdaa
