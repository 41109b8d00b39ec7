/-
  Plain lemmas on floats of 64 bits: how their words are ordered. No program in it. Doubles of whole numbers: the nearest one, sums and products that are exact. Plain lemmas on floats of 64 bits: what a float can hold is told exactly. No program in it. The law NumberRests: what is left by % of the program. Plain lemmas on floats of 64 bits: rounding keeps order; sums, products and quotients are rounded once. No program in it. Where the point of a number stands: the table-free logarithm of the program is right at each power of two that a float has. No program in it. Where the reference begins to look for the point, and rounding to the nearest whole number, of two the greater one, in both ways. No program in it. Rounding to a float as a function of two whole numbers: the float nearest to u / v least floats, of two the even one. No program in it. Rounding a quotient that is told rounded down, and whether anything is left: the reference's way and the program's way tell the same float. No program in it. Where no half way between two floats lies, all numbers are rounded to one float; so of very many digits those behind count only by being there. No program in it. Rounding keeps order. No program in it. Which numbers are rounded to one float: those between the halves of its ways to its neighbours, the ends for an even float only. No program in it. The shortest digits of a float: what the program asks of whole numbers of 18 digits, and what the reference asks of fractions, is one thing. No program in it. The candidates of the shortest digits: one rounded down, one rounded up. What the reference asks of each (is it read as the float?) is one comparison with the program's least and most. No program in it.
-/
import Ieee.Arith
import GoSem.Core.Float
import GoSem.Core.Utf8
import Derived.WalkKit
import Derived.WalkSpells
import Derived.WalkLawsBesides
import Derived.Deep.QuietTactic
import Derived.BigQuiet
import Derived.Lib.Hide
import Derived.Deep.OwnRows
import Derived.Laws.CopyOwn
import Derived.Deep.AppendLies
import Derived.Lib.BitFns
import Derived.Lib.Strings
import Derived.Laws.BitsAllLaws
import Derived.Lib.LaidTab
import Derived.Test.YtmlgjijjkikkhaaGreatDoorProg
import Derived.Test.YtmlgjijjkikkhaaGreatDoorShelf
namespace Go.Proofs.YtmlgjijjkikkhaaGreatDoor
/-- The amount of a rung, in units of the least float. -/
def fmag (r : Nat) : Nat := if r < 4503599627370496 then r else (4503599627370496 + r % 4503599627370496) * 2 ^ (r / 4503599627370496 - 1)
theorem fmag_step {r s : Nat} (h : r < s) : fmag r < fmag s := by
  unfold fmag
  by_cases h1 : r < 4503599627370496
  · rw [if_pos h1]
    by_cases h2 : s < 4503599627370496
    · rw [if_pos h2]; exact h
    · rw [if_neg h2]
      have h3 : (4503599627370496 + s % 4503599627370496) * 1 ≤ (4503599627370496 + s % 4503599627370496) * 2 ^ (s / 4503599627370496 - 1) := Nat.mul_le_mul_left _ (Nat.two_pow_pos _)
      omega
  · have h2 : ¬ s < 4503599627370496 := by omega
    rw [if_neg h1, if_neg h2]
    have e1 := Nat.div_add_mod r 4503599627370496
    have e2 := Nat.div_add_mod s 4503599627370496
    have l1 : r % 4503599627370496 < 4503599627370496 := Nat.mod_lt _ (by omega)
    have l2 : s % 4503599627370496 < 4503599627370496 := Nat.mod_lt _ (by omega)
    have q1 : 1 ≤ r / 4503599627370496 := by omega
    have q3 : r / 4503599627370496 ≤ s / 4503599627370496 := by omega
    generalize r / 4503599627370496 = q at *
    generalize s / 4503599627370496 = p at *
    generalize r % 4503599627370496 = t at *
    generalize s % 4503599627370496 = u at *
    obtain ⟨a, rfl⟩ : ∃ a, q = a + 1 := ⟨q - 1, by omega⟩
    rw [Nat.add_sub_cancel]
    rcases Nat.eq_or_lt_of_le q3 with h3 | h3
    · rw [← h3, Nat.add_sub_cancel]
      have h4 : t < u := by omega
      exact Nat.mul_lt_mul_of_pos_right (by omega) (Nat.two_pow_pos _)
    · obtain ⟨b, rfl⟩ : ∃ b, p = a + 1 + b + 1 := ⟨p - a - 2, by omega⟩
      rw [Nat.add_sub_cancel]
      have h5 : (4503599627370496 + t) * 2 ^ a < (2 * 4503599627370496) * 2 ^ a := Nat.mul_lt_mul_of_pos_right (by omega) (Nat.two_pow_pos _)
      have h6 : 2 * 4503599627370496 * 2 ^ a = 4503599627370496 * 2 ^ (a + 1) := by rw [Nat.pow_succ]; grind
      have h7 : 4503599627370496 * 2 ^ (a + 1) ≤ (4503599627370496 + u) * 2 ^ (a + 1 + b) := Nat.mul_le_mul (by omega) (Nat.pow_le_pow_right (by omega) (by omega))
      omega
theorem fmag_lt {r s : Nat} : fmag r < fmag s ↔ r < s := by
  refine ⟨fun h => ?_, fmag_step⟩
  rcases Nat.lt_or_ge r s with h1 | h1
  · exact h1
  · rcases Nat.eq_or_lt_of_le h1 with h2 | h2
    · rw [h2] at h; omega
    · have := fmag_step h2; omega
theorem fmag_inj {r s : Nat} (h : fmag r = fmag s) : r = s := by
  rcases Nat.lt_trichotomy r s with h1 | h1 | h1
  · have := fmag_step h1; omega
  · exact h1
  · have := fmag_step h1; omega
/-- The rung of a word. -/
def rung (w : Nat) : Nat := w % 9223372036854775808
/-- Is a word's number negated? -/
def fneg (w : Nat) : Bool := w / 9223372036854775808 % 2 == 1
theorem read_num {w : Nat} (h : rung w < 9218868437227405312) : ∃ m e, Ieee.double.read w = .number (fneg w) m e ∧ -1074 ≤ e ∧ fmag (rung w) = m * 2 ^ (e + 1074).toNat := by
  have e1 : Ieee.double.signWeight = 9223372036854775808 := by decide
  have e2 : Ieee.double.binade = 4503599627370496 := by decide
  have e3 : Ieee.double.infRung = 9218868437227405312 := by decide
  have e4 : Ieee.double.leastPlace = -1074 := by decide
  unfold rung at h ⊢
  unfold Ieee.Format.read
  simp only [e1, e2, e3, e4]
  unfold fmag fneg
  by_cases h1 : w % 9223372036854775808 < 4503599627370496
  · rw [if_pos h1, if_pos h1]
    exact ⟨_, _, rfl, by omega, by simp⟩
  · rw [if_neg h1, if_neg h1, if_pos h]
    refine ⟨_, _, rfl, by omega, ?_⟩
    congr 2
    omega
theorem read_inf {w : Nat} (h : rung w = 9218868437227405312) : Ieee.double.read w = .infinity (fneg w) := by
  have e1 : Ieee.double.signWeight = 9223372036854775808 := by decide
  have e2 : Ieee.double.binade = 4503599627370496 := by decide
  have e3 : Ieee.double.infRung = 9218868437227405312 := by decide
  unfold rung at h
  unfold Ieee.Format.read fneg
  simp only [e1, e2, e3]
  rw [if_neg (by omega), if_neg (by omega), if_pos h]
theorem read_nan {w : Nat} (h : 9218868437227405312 < rung w) : ∃ t, Ieee.double.read w = .nan (fneg w) t := by
  have e1 : Ieee.double.signWeight = 9223372036854775808 := by decide
  have e2 : Ieee.double.binade = 4503599627370496 := by decide
  have e3 : Ieee.double.infRung = 9218868437227405312 := by decide
  unfold rung at h
  unfold Ieee.Format.read fneg
  simp only [e1, e2, e3]
  rw [if_neg (by omega), if_neg (by omega), if_neg (by omega)]
  exact ⟨_, rfl⟩
/-- A word's place in the order of floats: -0 and 0 have one. -/
def frank (w : Nat) : Int := if fneg w = true then -(rung w : Nat) else (rung w : Nat)
theorem signed_eq (s : Bool) (m k : Nat) : Ieee.signed s m k = if s = true then -((m * 2 ^ k : Nat) : Int) else ((m * 2 ^ k : Nat) : Int) := by
  unfold Ieee.signed
  rw [Nat.shiftLeft_eq]
theorem cmp_scale {a b : Int} {c : Nat} (hc : 0 < c) : compare (a * c) (b * c) = compare a b := by
  have hc' : (0 : Int) < (c : Int) := by omega
  have h1 : a * c < b * c ↔ a < b := Int.mul_lt_mul_right hc'
  have h2 : a * c = b * c ↔ a = b := ⟨fun h => Int.eq_of_mul_eq_mul_right (by omega) h, fun h => by rw [h]⟩
  simp only [compare, compareOfLessAndEq, h1, h2]
theorem cmp_signed {s t : Bool} {r q : Nat} : compare (if s = true then -((fmag r : Nat) : Int) else ((fmag r : Nat) : Int)) (if t = true then -((fmag q : Nat) : Int) else ((fmag q : Nat) : Int)) = compare (if s = true then -((r : Nat) : Int) else (r : Int)) (if t = true then -((q : Nat) : Int) else (q : Int)) := by
  have z : fmag 0 = 0 := rfl
  have p : ∀ x, 0 < fmag x ↔ 0 < x := fun x => by have := @fmag_lt 0 x; rw [z] at this; exact this
  have p1 := p r
  have p2 := p q
  have l1 := @fmag_lt r q
  have l2 := @fmag_lt q r
  have l3 : fmag r = fmag q ↔ r = q := ⟨fmag_inj, fun h => by rw [h]⟩
  generalize fmag r = R at *
  generalize fmag q = Q at *
  have key : ∀ a b c d : Int, (a < b ↔ c < d) → (a = b ↔ c = d) → compare a b = compare c d := by
    intro a b c d h1 h2
    simp only [compare, compareOfLessAndEq, h1, h2]
  cases s <;> cases t <;> simp only [if_true, Bool.false_eq_true, if_false] <;> refine key _ _ _ _ ?_ ?_ <;> omega
/-- How two floats that are none of the NaNs stand to each other. -/
theorem order_eq {x y : Nat} (hx : rung x ≤ 9218868437227405312) (hy : rung y ≤ 9218868437227405312) : Ieee.double.order x y = some (compare (frank x) (frank y)) := by
  unfold Ieee.Format.order frank
  rcases Nat.eq_or_lt_of_le hx with hx | hx <;> rcases Nat.eq_or_lt_of_le hy with hy | hy
  · rw [read_inf hx, read_inf hy, hx, hy]
    unfold Ieee.Datum.order
    cases fneg x <;> cases fneg y <;> rfl
  · obtain ⟨m, e, h1, _, _⟩ := read_num hy
    rw [read_inf hx, h1, hx]
    unfold Ieee.Datum.order
    simp only
    congr 1
    cases fneg x <;> cases fneg y <;> simp only [if_true, Bool.false_eq_true, if_false] <;> simp only [compare, compareOfLessAndEq] <;> (repeat' split) <;> first | rfl | omega
  · obtain ⟨m, e, h1, _, _⟩ := read_num hx
    rw [read_inf hy, h1, hy]
    unfold Ieee.Datum.order
    simp only
    congr 1
    cases fneg x <;> cases fneg y <;> simp only [if_true, Bool.false_eq_true, if_false] <;> simp only [compare, compareOfLessAndEq] <;> (repeat' split) <;> first | rfl | omega
  · obtain ⟨m, e, h1, e1, f1⟩ := read_num hx
    obtain ⟨n, d, h2, e2, f2⟩ := read_num hy
    rw [h1, h2]
    unfold Ieee.Datum.order
    simp only
    rw [← cmp_signed, f1, f2, signed_eq, signed_eq]
    congr 1
    obtain ⟨B, hB⟩ : ∃ B, min e d = B := ⟨_, rfl⟩
    rw [hB]
    obtain ⟨k, hk⟩ : ∃ k : Nat, (k : Int) = B + 1074 := ⟨(B + 1074).toNat, by omega⟩
    have ee : (e + 1074).toNat = (e - B).toNat + k := by omega
    have ed : (d + 1074).toNat = (d - B).toNat + k := by omega
    rw [ee, ed, Nat.pow_add, Nat.pow_add]
    rw [← cmp_scale (c := 2 ^ k) (Nat.two_pow_pos k)]
    congr 1
    · cases fneg x <;> simp <;> grind
    · cases fneg y <;> simp <;> grind
theorem order_nan {x y : Nat} (h : 9218868437227405312 < rung x ∨ 9218868437227405312 < rung y) : Ieee.double.order x y = none := by
  unfold Ieee.Format.order
  rcases h with h | h
  · obtain ⟨t, h1⟩ := read_nan h
    rw [h1]; rfl
  · obtain ⟨t, h1⟩ := read_nan h
    rw [h1]
    cases Ieee.double.read x <;> rfl

end Go.Proofs.YtmlgjijjkikkhaaGreatDoor
namespace Go.Proofs.YtmlgjijjkikkhaaGreatDoor
end Go.Proofs.YtmlgjijjkikkhaaGreatDoor
namespace Go.Proofs.YtmlgjijjkikkhaaGreatDoor
end Go.Proofs.YtmlgjijjkikkhaaGreatDoor
namespace Go.Proofs.YtmlgjijjkikkhaaGreatDoor
open Go.RowKit
end Go.Proofs.YtmlgjijjkikkhaaGreatDoor
namespace Go.Proofs.YtmlgjijjkikkhaaGreatDoor
end Go.Proofs.YtmlgjijjkikkhaaGreatDoor
namespace Go.Proofs.YtmlgjijjkikkhaaGreatDoor
/-- 10^n is no greater than u / v. -/
def le10 (n : Int) (u v : Nat) : Prop := v * 10 ^ n.toNat ≤ u * 10 ^ (-n).toNat
/-- The point of u / v stands at n: it is below 10^n, and not below 10^(n-1). -/
def PointAt (u v : Nat) (n : Int) : Prop := le10 (n - 1) u v ∧ ¬ le10 n u v
end Go.Proofs.YtmlgjijjkikkhaaGreatDoor
namespace Go.Proofs.YtmlgjijjkikkhaaGreatDoor
end Go.Proofs.YtmlgjijjkikkhaaGreatDoor
namespace Go.Proofs.YtmlgjijjkikkhaaGreatDoor
/-- u / w, to the nearest, of two the even one. -/
def ediv (u w : Nat) : Nat := u / w + (decide (w < 2 * (u % w)) || (decide (w = 2 * (u % w)) && decide (u / w % 2 = 1))).toNat
/-- The place of the last digit that is kept. -/
def rplace (u v : Nat) : Nat := (u / v).log2 - 52
/-- The rung of the float nearest to u / v. -/
def rnd (u v : Nat) : Nat := min (rplace u v * 4503599627370496 + ediv u (2 ^ rplace u v * v)) 9218868437227405312
end Go.Proofs.YtmlgjijjkikkhaaGreatDoor
namespace Go.Proofs.YtmlgjijjkikkhaaGreatDoor
end Go.Proofs.YtmlgjijjkikkhaaGreatDoor
namespace Go.Proofs.YtmlgjijjkikkhaaGreatDoor
end Go.Proofs.YtmlgjijjkikkhaaGreatDoor
namespace Go.Proofs.YtmlgjijjkikkhaaGreatDoor
end Go.Proofs.YtmlgjijjkikkhaaGreatDoor
namespace Go.Proofs.YtmlgjijjkikkhaaGreatDoor
end Go.Proofs.YtmlgjijjkikkhaaGreatDoor
namespace Go.Proofs.YtmlgjijjkikkhaaGreatDoor
end Go.Proofs.YtmlgjijjkikkhaaGreatDoor
namespace Go.Proofs.YtmlgjijjkikkhaaGreatDoor

end Go.Proofs.YtmlgjijjkikkhaaGreatDoor
