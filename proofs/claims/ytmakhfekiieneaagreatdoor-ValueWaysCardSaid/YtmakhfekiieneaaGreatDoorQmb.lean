/-
  Merged texts (BP, BF, Cp, E1, F0, F1, F2, T0, Us, Cm).
-/
import Derived.Test.YtmakhfekiieneaaGreatDoorQma
import Derived.Laws.FloatArith
import Derived.Laws.Externs
import Derived.Deep.RegionHeld3
import Derived.Laws.StructEq
import Derived.Deep.WholeRow
import Derived.Laws.Rows
import Derived.Laws.Tables
import Derived.Laws.EntriesVeiled
open Go.RowKit
set_option maxRecDepth 100000
set_option maxHeartbeats 40000000
namespace Go.Proofs.YtmakhfekiieneaaGreatDoor
section
def Ac (r : Nat) : Nat := if r < 4503599627370496 then r else (4503599627370496 + r % 4503599627370496) * 2 ^ (r / 4503599627370496 - 1)
theorem Bf {r s : Nat} (h : r < s) : Ac r < Ac s := by
 unfold Ac
 by_cases h1 : r < 4503599627370496
 ·rw [if_pos h1]
  by_cases h2 : s < 4503599627370496
  ·rw [if_pos h2]; exact h
  ·rw [if_neg h2]
   have h3 : (4503599627370496 + s % 4503599627370496) * 1 ≤ (4503599627370496 + s % 4503599627370496) * 2 ^ (s / 4503599627370496 - 1) := Nat.mul_le_mul_left _ (Nat.two_pow_pos _)
   omega
 ·have h2 : ¬ s < 4503599627370496 := by omega
  rw [if_neg h1, if_neg h2]
  have e1 := Nat.div_add_mod r 4503599627370496
  have e2 := Nat.div_add_mod s 4503599627370496
  have l1 : r % 4503599627370496 < 4503599627370496 := Nat.mod_lt _ (by omega)
  have l2 : s % 4503599627370496 < 4503599627370496 := Nat.mod_lt _ (by omega)
  have q1 : 1 ≤ r / 4503599627370496 := by omega
  have q3 : r / 4503599627370496 ≤ s / 4503599627370496 := by omega
  generalize r / 4503599627370496 = q at *
  generalize s / 4503599627370496 = p at *
  generalize r % 4503599627370496 = t at *
  generalize s % 4503599627370496 = u at *
  obtain ⟨a, rfl⟩ : ∃ a, q = a + 1 := ⟨q - 1, by omega⟩
  rw [Nat.add_sub_cancel]
  rcases Nat.eq_or_lt_of_le q3 with h3 | h3
  ·rw [← h3, Nat.add_sub_cancel]
   have h4 : t < u := by omega
   exact Nat.mul_lt_mul_of_pos_right (by omega) (Nat.two_pow_pos _)
  ·obtain ⟨b, rfl⟩ : ∃ b, p = a + 1 + b + 1 := ⟨p - a - 2, by omega⟩
   rw [Nat.add_sub_cancel]
   have h5 : (4503599627370496 + t) * 2 ^ a < (2 * 4503599627370496) * 2 ^ a := Nat.mul_lt_mul_of_pos_right (by omega) (Nat.two_pow_pos _)
   have h6 : 2 * 4503599627370496 * 2 ^ a = 4503599627370496 * 2 ^ (a + 1) := by rw [Nat.pow_succ]; grind
   have h7 : 4503599627370496 * 2 ^ (a + 1) ≤ (4503599627370496 + u) * 2 ^ (a + 1 + b) := Nat.mul_le_mul (by omega) (Nat.pow_le_pow_right (by omega) (by omega))
   omega
theorem D1 {r s : Nat} : Ac r < Ac s ↔ r < s := by
 refine ⟨fun h => ?_, Bf⟩
 rcases Nat.lt_or_ge r s with h1 | h1
 ·exact h1
 ·rcases Nat.eq_or_lt_of_le h1 with h2 | h2
  ·rw [h2] at h; omega
  ·have := Bf h2; omega
theorem Gb {r s : Nat} (h : Ac r = Ac s) : r = s := by
 rcases Nat.lt_trichotomy r s with h1 | h1 | h1
 ·have := Bf h1; omega
 ·exact h1
 ·have := Bf h1; omega
def Aw (w : Nat) : Nat := w % 9223372036854775808
def Bj (w : Nat) : Bool := w / 9223372036854775808 % 2 == 1
theorem Fx {w : Nat} (h : Aw w < 9218868437227405312) : ∃ m e, Ieee.double.read w = .number (Bj w) m e ∧ -1074 ≤ e ∧ Ac (Aw w) = m * 2 ^ (e + 1074).toNat := by
 have e1 : Ieee.double.signWeight = 9223372036854775808 := by decide
 have e2 : Ieee.double.binade = 4503599627370496 := by decide
 have e3 : Ieee.double.infRung = 9218868437227405312 := by decide
 have e4 : Ieee.double.leastPlace = -1074 := by decide
 unfold Aw at h ⊢
 unfold Ieee.Format.read
 simp only [e1, e2, e3, e4]
 unfold Ac Bj
 by_cases h1 : w % 9223372036854775808 < 4503599627370496
 ·rw [if_pos h1, if_pos h1]
  exact ⟨_, _, rfl, by omega, by simp⟩
 ·rw [if_neg h1, if_neg h1, if_pos h]
  refine ⟨_, _, rfl, by omega, ?_⟩
  congr 2
  omega
theorem Hl {w : Nat} (h : Aw w = 9218868437227405312) : Ieee.double.read w = .infinity (Bj w) := by
 have e1 : Ieee.double.signWeight = 9223372036854775808 := by decide
 have e2 : Ieee.double.binade = 4503599627370496 := by decide
 have e3 : Ieee.double.infRung = 9218868437227405312 := by decide
 unfold Aw at h
 unfold Ieee.Format.read Bj
 simp only [e1, e2, e3]
 rw [if_neg (by omega), if_neg (by omega), if_pos h]
theorem Sh {w : Nat} (h : 9218868437227405312 < Aw w) : ∃ t, Ieee.double.read w = .nan (Bj w) t := by
 have e1 : Ieee.double.signWeight = 9223372036854775808 := by decide
 have e2 : Ieee.double.binade = 4503599627370496 := by decide
 have e3 : Ieee.double.infRung = 9218868437227405312 := by decide
 unfold Aw at h
 unfold Ieee.Format.read Bj
 simp only [e1, e2, e3]
 rw [if_neg (by omega), if_neg (by omega), if_neg (by omega)]
 exact ⟨_, rfl⟩
def De (w : Nat) : Int := if Bj w = true then -(Aw w : Nat) else (Aw w : Nat)
theorem Iq (s : Bool) (m k : Nat) : Ieee.signed s m k = if s = true then -((m * 2 ^ k : Nat) : Int) else ((m * 2 ^ k : Nat) : Int) := by
 unfold Ieee.signed
 rw [Nat.shiftLeft_eq]
theorem Ym {a b : Int} {c : Nat} (hc : 0 < c) : compare (a * c) (b * c) = compare a b := by
 have hc' : (0 : Int) < (c : Int) := by omega
 have h1 : a * c < b * c ↔ a < b := Int.mul_lt_mul_right hc'
 have h2 : a * c = b * c ↔ a = b := ⟨fun h => Int.eq_of_mul_eq_mul_right (by omega) h, fun h => by rw [h]⟩
 simp only [compare, compareOfLessAndEq, h1, h2]
theorem T5 {s t : Bool} {r q : Nat} : compare (if s = true then -((Ac r : Nat) : Int) else ((Ac r : Nat) : Int)) (if t = true then -((Ac q : Nat) : Int) else ((Ac q : Nat) : Int)) = compare (if s = true then -((r : Nat) : Int) else (r : Int)) (if t = true then -((q : Nat) : Int) else (q : Int)) := by
 have z : Ac 0 = 0 := rfl
 have p : ∀ x, 0 < Ac x ↔ 0 < x := fun x => by have := @D1 0 x; rw [z] at this; exact this
 have p1 := p r
 have p2 := p q
 have l1 := @D1 r q
 have l2 := @D1 q r
 have l3 : Ac r = Ac q ↔ r = q := ⟨Gb, fun h => by rw [h]⟩
 generalize Ac r = R at *
 generalize Ac q = Q at *
 have key : ∀ a b c d : Int, (a < b ↔ c < d) → (a = b ↔ c = d) → compare a b = compare c d := by
  intro a b c d h1 h2
  simp only [compare, compareOfLessAndEq, h1, h2]
 cases s <;> cases t <;> simp only [if_true, Bool.false_eq_true, if_false] <;> refine key _ _ _ _ ?_ ?_ <;> omega
theorem Cz {x y : Nat} (hx : Aw x ≤ 9218868437227405312) (hy : Aw y ≤ 9218868437227405312) : Ieee.double.order x y = some (compare (De x) (De y)) := by
 unfold Ieee.Format.order De
 rcases Nat.eq_or_lt_of_le hx with hx | hx <;> rcases Nat.eq_or_lt_of_le hy with hy | hy
 ·rw [Hl hx, Hl hy, hx, hy]
  unfold Ieee.Datum.order
  cases Bj x <;> cases Bj y <;> rfl
 ·obtain ⟨m, e, h1, _, _⟩ := Fx hy
  rw [Hl hx, h1, hx]
  unfold Ieee.Datum.order
  simp only
  congr 1
  cases Bj x <;> cases Bj y <;> simp only [if_true, Bool.false_eq_true, if_false] <;> simp only [compare, compareOfLessAndEq] <;> (repeat' split) <;> first | rfl | omega
 ·obtain ⟨m, e, h1, _, _⟩ := Fx hx
  rw [Hl hy, h1, hy]
  unfold Ieee.Datum.order
  simp only
  congr 1
  cases Bj x <;> cases Bj y <;> simp only [if_true, Bool.false_eq_true, if_false] <;> simp only [compare, compareOfLessAndEq] <;> (repeat' split) <;> first | rfl | omega
 ·obtain ⟨m, e, h1, e1, f1⟩ := Fx hx
  obtain ⟨n, d, h2, e2, f2⟩ := Fx hy
  rw [h1, h2]
  unfold Ieee.Datum.order
  simp only
  rw [← T5, f1, f2, Iq, Iq]
  congr 1
  obtain ⟨B, hB⟩ : ∃ B, min e d = B := ⟨_, rfl⟩
  rw [hB]
  obtain ⟨k, hk⟩ : ∃ k : Nat, (k : Int) = B + 1074 := ⟨(B + 1074).toNat, by omega⟩
  have ee : (e + 1074).toNat = (e - B).toNat + k := by omega
  have ed : (d + 1074).toNat = (d - B).toNat + k := by omega
  rw [ee, ed, Nat.pow_add, Nat.pow_add]
  rw [← Ym (c := 2 ^ k) (Nat.two_pow_pos k)]
  congr 1
  ·cases Bj x <;> simp <;> grind
  ·cases Bj y <;> simp <;> grind
theorem Do {x y : Nat} (h : 9218868437227405312 < Aw x ∨ 9218868437227405312 < Aw y) : Ieee.double.order x y = none := by
 unfold Ieee.Format.order
 rcases h with h | h
 ·obtain ⟨t, h1⟩ := Sh h
  rw [h1]; rfl
 ·obtain ⟨t, h1⟩ := Sh h
  rw [h1]
  cases Ieee.double.read x <;> rfl
theorem Hr {N L : Nat} (h1 : 2 ^ L ≤ N) (h2 : N < 2 ^ (L + 1)) : N.log2 = L := by
 have h0 : N ≠ 0 := by have := Nat.two_pow_pos L; omega
 have a1 := (Nat.le_log2 h0).2 h1
 have a2 := (Nat.log2_lt h0).2 h2
 omega
theorem Di (N : Nat) (h : 0 < N) : 2 ^ N.log2 ≤ N ∧ N < 2 ^ (N.log2 + 1) := ⟨(Nat.le_log2 (by omega)).1 (Nat.le_refl _), (Nat.log2_lt (by omega)).1 (Nat.lt_succ_self _)⟩
def evn (n d : Nat) : Nat := n / 2 ^ d + (decide (2 ^ d < 2 * (n % 2 ^ d)) || (decide (2 ^ d = 2 * (n % 2 ^ d)) && decide (n / 2 ^ d % 2 = 1))).toNat
theorem D0 (n d : Nat) (h : d ≤ n.log2 + 2) : Ieee.Toward.even.cut false n d = evn n d := by
 unfold Ieee.Toward.cut evn
 rw [Nat.min_eq_left h, Nat.one_shiftLeft]
 rfl
theorem Dq (m d : Nat) : evn (m * 2 ^ d) d = m := by
 unfold evn
 have := Nat.two_pow_pos d
 rw [Nat.mul_mod_left, Nat.mul_div_cancel _ this]
 rw [decide_eq_false (by omega), decide_eq_false (by omega)]
 rfl
def fl (N : Nat) : Nat := FloatKind.f64.nearest (N : Int)
theorem Hy (N : Nat) : fl N = Ieee.double.nearest false N 0 := by
 unfold fl FloatKind.nearest FloatKind.encode Ieee.Format.write
 have : decide ((N : Int) < 0) = false := decide_eq_false (by omega)
 simp only [this, Int.natAbs_natCast]
 rfl
theorem Hs (f : Ieee.Format) (r : Nat) : f.word false r = r := rfl
theorem Z3 (N L k : Nat) (h1 : 2 ^ L ≤ N) (h2 : N < 2 ^ (L + 1)) (hL : L ≤ 52) : Ieee.double.nearest false (N * 2 ^ k) (-(k : Int)) = (L + 1022) * 4503599627370496 + N * 2 ^ (52 - L) := by
 have e2 : Ieee.double.binade = 4503599627370496 := by decide
 have e3 : Ieee.double.infRung = 9218868437227405312 := by decide
 have e4 : Ieee.double.leastPlace = -1074 := by decide
 have e5 : Ieee.double.fractionBits = 52 := rfl
 have hN := Nat.two_pow_pos L
 have hk := Nat.two_pow_pos k
 have hlog : (N * 2 ^ k).log2 = L + k := Hr (by rw [Nat.pow_add]; exact Nat.mul_le_mul_right _ h1) (by rw [show L + k + 1 = (L + 1) + k by omega, Nat.pow_add 2 (L + 1) k]; exact Nat.mul_lt_mul_of_pos_right h2 hk)
 have h0 : N * 2 ^ k ≠ 0 := by
  have := Nat.mul_pos (show 0 < N by omega) hk
  omega
 unfold Ieee.Format.nearest
 rw [if_neg h0, e2, e3, e4, e5, hlog]
 have e6 : max (-(k : Int) + ((L + k : Nat) : Int) - (52 : Nat)) (-1074) = (L : Int) - 52 := by omega
 rw [e6]
 dsimp only
 have h3 : N * 2 ^ (52 - L) < 9007199254740992 := by
  have : N * 2 ^ (52 - L) < 2 ^ (L + 1) * 2 ^ (52 - L) := Nat.mul_lt_mul_of_pos_right h2 (Nat.two_pow_pos _)
  rw [← Nat.pow_add, show L + 1 + (52 - L) = 53 by omega] at this
  exact this
 have hcut : Ieee.Toward.even.cut false ((N * 2 ^ k) <<< (-(k : Int) - ((L : Int) - 52)).toNat) ((L : Int) - 52 - -(k : Int)).toNat = N * 2 ^ (52 - L) := by
  rcases Nat.lt_or_ge (52 - L) k with hc | hc
  ·have q1 : (-(k : Int) - ((L : Int) - 52)).toNat = 0 := by omega
   have q2 : ((L : Int) - 52 - -(k : Int)).toNat = k - (52 - L) := by omega
   rw [q1, q2, Nat.shiftLeft_zero, D0 _ _ (by rw [hlog]; omega)]
   rw [show N * 2 ^ k = N * 2 ^ (52 - L) * 2 ^ (k - (52 - L)) by rw [Nat.mul_assoc, ← Nat.pow_add]; congr 2; omega]
   exact Dq _ _
  ·have q1 : (-(k : Int) - ((L : Int) - 52)).toNat = 52 - L - k := by omega
   have q2 : ((L : Int) - 52 - -(k : Int)).toNat = 0 := by omega
   rw [q1, q2, D0 _ _ (Nat.zero_le _), Nat.shiftLeft_eq, Nat.mul_assoc, ← Nat.pow_add, show k + (52 - L - k) = 52 - L by omega]
   have := Dq (N * 2 ^ (52 - L)) 0
   rwa [Nat.pow_zero, Nat.mul_one] at this
 rw [hcut]
 have e7 : ((L : Int) - 52 - -1074).toNat = L + 1022 := by omega
 rw [e7, Nat.min_eq_left (by omega), Hs]
theorem Ag3 {N L : Nat} (h1 : 2 ^ L ≤ N) (h2 : N < 2 ^ (L + 1)) (hL : L ≤ 52) : fl N = (L + 1022) * 4503599627370496 + N * 2 ^ (52 - L) := by
 rw [Hy]
 have h := Z3 N L 0 h1 h2 hL
 have e : -((0 : Nat) : Int) = 0 := rfl
 rw [Nat.pow_zero, Nat.mul_one, e] at h
 exact h
theorem Jn {N L : Nat} (h1 : 2 ^ L ≤ N) (h2 : N < 2 ^ (L + 1)) (hL : 52 ≤ L) : fl N = min ((L + 1022) * 4503599627370496 + evn N (L - 52)) 9218868437227405312 := by
 have e2 : Ieee.double.binade = 4503599627370496 := by decide
 have e3 : Ieee.double.infRung = 9218868437227405312 := by decide
 have e4 : Ieee.double.leastPlace = -1074 := by decide
 have e5 : Ieee.double.fractionBits = 52 := rfl
 have hN := Nat.two_pow_pos L
 have hlog := Hr h1 h2
 rw [Hy]
 unfold Ieee.Format.nearest
 rw [if_neg (by omega), e2, e3, e4, e5, hlog]
 have e6 : max (0 + (L : Int) - (52 : Nat)) (-1074) = (L : Int) - 52 := by omega
 rw [e6]
 dsimp only
 have q1 : ((0 : Int) - ((L : Int) - 52)).toNat = 0 := by omega
 have q2 : ((L : Int) - 52 - 0).toNat = L - 52 := by omega
 rw [q1, q2, Nat.shiftLeft_zero, D0 _ _ (by rw [hlog]; omega)]
 have e7 : ((L : Int) - 52 - -1074).toNat = L + 1022 := by omega
 rw [e7, Hs]
theorem Vv : fl 0 = 0 := by rw [Hy]; decide
theorem M9 : Ac 0 = 0 := rfl
theorem F3 {r : Nat} : 0 < Ac r ↔ 0 < r := by have := @D1 0 r; rw [M9] at this; exact this
theorem Dl {r : Nat} (h : r < 9007199254740992) : Ac r = r := by
 unfold Ac
 by_cases h1 : r < 4503599627370496
 ·rw [if_pos h1]
 ·rw [if_neg h1, show r / 4503599627370496 = 1 by omega, Nat.sub_self, Nat.pow_zero]; omega
theorem Ap (M d : Nat) (h1 : 4503599627370496 ≤ M) (h2 : M < 9007199254740992) : Ac (d * 4503599627370496 + M) = M * 2 ^ d := by
 unfold Ac
 rw [if_neg (by omega), show (d * 4503599627370496 + M) % 4503599627370496 = M - 4503599627370496 by omega, show (d * 4503599627370496 + M) / 4503599627370496 = d + 1 by omega, Nat.add_sub_cancel]
 rw [show 4503599627370496 + (M - 4503599627370496) = M by omega]
theorem Du {r : Nat} (h : 4503599627370496 ≤ r) : ∃ M d, 4503599627370496 ≤ M ∧ M < 9007199254740992 ∧ r = d * 4503599627370496 + M ∧ Ac r = M * 2 ^ d :=
 ⟨4503599627370496 + r % 4503599627370496, r / 4503599627370496 - 1, by omega, by omega, by omega, by unfold Ac; rw [if_neg (by omega)]⟩
theorem Ho {M d : Nat} (h : 0 < M) : (M * 2 ^ d).log2 = M.log2 + d := by
 obtain ⟨a1, a2⟩ := Di M h
 refine Hr ?_ ?_
 ·rw [Nat.pow_add]; exact Nat.mul_le_mul_right _ a1
 ·rw [show M.log2 + d + 1 = M.log2 + 1 + d by omega, Nat.pow_add]; exact Nat.mul_lt_mul_of_pos_right a2 (Nat.two_pow_pos d)
theorem Ada {M : Nat} (h1 : 4503599627370496 ≤ M) (h2 : M < 9007199254740992) : M.log2 = 52 := Hr (show 2 ^ 52 ≤ M by exact h1) (show M < 2 ^ 53 by exact h2)
theorem Ny (s : Bool) (n d : Nat) : Ieee.Toward.even.cut s n d = Ieee.Toward.even.cut false n d := rfl
theorem Db {x y a b : Nat} (h : x * 2 ^ (a + b) = y * 2 ^ b) : x * 2 ^ a = y := by
 rw [Nat.pow_add, ← Nat.mul_assoc] at h
 exact Nat.eq_of_mul_eq_mul_right (Nat.two_pow_pos b) h
theorem Qj (s : Bool) {r m a b : Nat} {e : Int} (hr : r < 9218868437227405312) (hab : (a : Int) - b = e + 1074) (h : m * 2 ^ a = Ac r * 2 ^ b) : Ieee.double.nearest s m e = Ieee.double.word s r := by
 have e2 : Ieee.double.binade = 4503599627370496 := by decide
 have e3 : Ieee.double.infRung = 9218868437227405312 := by decide
 have e4 : Ieee.double.leastPlace = -1074 := by decide
 have e5 : Ieee.double.fractionBits = 52 := rfl
 unfold Ieee.Format.nearest
 rcases Nat.eq_zero_or_pos r with h0 | h0
 ·subst h0
  rw [M9, Nat.zero_mul] at h
  have hm : m = 0 := (Nat.mul_eq_zero.1 h).resolve_right (by have := Nat.two_pow_pos a; omega)
  rw [if_pos hm]
 ·have hf := F3.2 h0
  have hm : 0 < m := by
   rcases Nat.eq_zero_or_pos m with h1 | h1
   ·rw [h1, Nat.zero_mul] at h
    have := Nat.mul_pos hf (Nat.two_pow_pos b)
    omega
   ·exact h1
  rw [if_neg (by omega), e2, e3, e4, e5]
  have hlog : m.log2 + a = (Ac r).log2 + b := by rw [← Ho hm, ← Ho hf, h]
  obtain ⟨L, hL⟩ : ∃ L, m.log2 = L := ⟨_, rfl⟩
  rw [hL] at hlog ⊢
  dsimp only
  by_cases hlow : r < 9007199254740992
  ·have hfr := Dl hlow
   rw [hfr] at hlog h
   have hl : r.log2 ≤ 52 := by have := (Nat.log2_lt (n := r) (k := 53) (by omega)).2 hlow; omega
   have e6 : max (e + (L : Int) - (52 : Nat)) (-1074) = -1074 := by omega
   rw [e6, Ny]
   have hcut : Ieee.Toward.even.cut false (m <<< (e - -1074).toNat) (-1074 - e).toNat = r := by
    rcases Nat.lt_or_ge a b with hlt | hge
    ·obtain ⟨c, rfl⟩ : ∃ c, b = c + a := ⟨b - a, by omega⟩
     have hmm : m = r * 2 ^ c := (Db (x := r) (y := m) h.symm).symm
     have q1 : (e - -1074).toNat = 0 := by omega
     have q2 : (-1074 - e).toNat = c := by omega
     rw [q1, q2, Nat.shiftLeft_zero, D0 _ _ (by rw [hmm, Ho h0]; omega), hmm, Dq]
    ·obtain ⟨c, rfl⟩ : ∃ c, a = c + b := ⟨a - b, by omega⟩
     have hmm : m * 2 ^ c = r := Db h
     have q1 : (e - -1074).toNat = c := by omega
     have q2 : (-1074 - e).toNat = 0 := by omega
     rw [q1, q2, Nat.shiftLeft_eq, hmm, D0 _ _ (Nat.zero_le _)]
     have := Dq r 0
     rwa [Nat.pow_zero, Nat.mul_one] at this
   rw [hcut, show (-1074 - -1074 : Int).toNat = 0 by omega, Nat.zero_mul, Nat.zero_add, Nat.min_eq_left (by omega)]
  ·obtain ⟨M, d, h1, h2, hrd, hfr⟩ := Du (r := r) (by omega)
   rw [hfr, Ho (by omega), Ada h1 h2] at hlog
   rw [hfr] at h
   have hd : 0 < d := by omega
   have e6 : max (e + (L : Int) - (52 : Nat)) (-1074) = (d : Int) - 1074 := by omega
   rw [e6, Ny]
   have hcut : Ieee.Toward.even.cut false (m <<< (e - ((d : Int) - 1074)).toNat) ((d : Int) - 1074 - e).toNat = M := by
    rw [Nat.mul_assoc, ← Nat.pow_add] at h
    rcases Nat.lt_or_ge a (d + b) with hlt | hge
    ·obtain ⟨c, hc⟩ : ∃ c, d + b = c + a := ⟨d + b - a, by omega⟩
     rw [hc] at h
     have hmm : m = M * 2 ^ c := (Db (x := M) (y := m) h.symm).symm
     have q1 : (e - ((d : Int) - 1074)).toNat = 0 := by omega
     have q2 : ((d : Int) - 1074 - e).toNat = c := by omega
     rw [q1, q2, Nat.shiftLeft_zero, D0 _ _ (by rw [hL]; omega), hmm, Dq]
    ·obtain ⟨c, hc⟩ : ∃ c, a = c + (d + b) := ⟨a - (d + b), by omega⟩
     rw [hc] at h
     have hmm : m * 2 ^ c = M := Db h
     have q1 : (e - ((d : Int) - 1074)).toNat = c := by omega
     have q2 : ((d : Int) - 1074 - e).toNat = 0 := by omega
     rw [q1, q2, Nat.shiftLeft_eq, hmm, D0 _ _ (Nat.zero_le _)]
     have := Dq M 0
     rwa [Nat.pow_zero, Nat.mul_one] at this
   rw [hcut, show ((d : Int) - 1074 - -1074).toNat = d by omega, Nat.min_eq_left (by omega), ← hrd]
theorem Ox {N M j : Nat} (hN : N = M * 2 ^ j) (hM : M < 9007199254740992) : ∃ r, Ac r = N := by
  by_cases hlow : N < 9007199254740992
  · exact ⟨N, Dl hlow⟩
  · have hM0 : 0 < M := by rcases Nat.eq_zero_or_pos M with h | h; · rw [h] at hN; omega
                           · exact h
    obtain ⟨a1, a2⟩ := Di M hM0
    have hl : M.log2 ≤ 52 := by have := (Nat.log2_lt (n := M) (k := 53) (by omega)).2 hM; omega
    obtain ⟨c, hc⟩ : ∃ c, c + M.log2 = 52 := ⟨52 - M.log2, by omega⟩
    have b1 : 4503599627370496 ≤ M * 2 ^ c := by
      have : 2 ^ M.log2 * 2 ^ c ≤ M * 2 ^ c := Nat.mul_le_mul_right _ a1
      rw [← Nat.pow_add, show M.log2 + c = 52 by omega] at this
      exact this
    have b2 : M * 2 ^ c < 9007199254740992 := by
      have : M * 2 ^ c < 2 ^ (M.log2 + 1) * 2 ^ c := Nat.mul_lt_mul_of_pos_right a2 (Nat.two_pow_pos c)
      rw [← Nat.pow_add, show M.log2 + 1 + c = 53 by omega] at this
      exact this
    have hjc : c ≤ j := by
      rcases Nat.lt_or_ge j c with h | h
      · have h1 : M * 2 ^ j ≤ M * 2 ^ c := Nat.mul_le_mul_left _ (Nat.pow_le_pow_right (by omega) (by omega))
        omega
      · exact h
    obtain ⟨d, rfl⟩ : ∃ d, j = c + d := ⟨j - c, by omega⟩
    exact ⟨d * 4503599627370496 + M * 2 ^ c, by rw [Ap _ _ b1 b2, hN, Nat.pow_add, Nat.mul_assoc]⟩
theorem K0 {w : Nat} (h : w < 9218868437227405312) : ∃ m e, Ieee.double.read w = .number false m e ∧ -1074 ≤ e ∧ Ac w = m * 2 ^ (e + 1074).toNat := by
 have h1 : Aw w = w := Nat.mod_eq_of_lt (by omega)
 have h2 : Bj w = false := by unfold Bj; rw [Nat.div_eq_of_lt (by omega)]; rfl
 obtain ⟨m, e, a, b, c⟩ := Fx (w := w) (by rw [h1]; exact h)
 rw [h2] at a
 rw [h1] at c
 exact ⟨m, e, a, b, c⟩
theorem Ik {x y r : Nat} (hx : x < 9218868437227405312) (hy : y < 9218868437227405312) (hr : r < 9218868437227405312) {K : Nat} (hK : K = 1074) (h : Ac x * Ac y = Ac r * 2 ^ K) : Ieee.double.mul x y = some r := by
 obtain ⟨m, i, a1, a2, a3⟩ := K0 hx
 obtain ⟨n, j, b1, b2, b3⟩ := K0 hy
 unfold Ieee.Format.mul
 rw [a1, b1]
 simp only [Ieee.Datum.product, Option.map_some, Bool.xor_self]
 refine congrArg some ?_
 refine Qj false (a := (i + 1074).toNat + (j + 1074).toNat) (b := K) hr (by omega) ?_
 rw [← h, a3, b3, Nat.pow_add]
 grind
theorem Ou {N : Nat} (h : N < 9007199254740992) {K : Nat} (hK : K = 1074) : Ac (fl N) = N * 2 ^ K ∧ fl N < 9218868437227405312 := by
 obtain ⟨r, hr⟩ := Ox (N := N * 2 ^ K) rfl h
 have hlt : r < 9218868437227405312 := by
  obtain ⟨J, hJ⟩ : ∃ J : Nat, J = 2046 := ⟨_, rfl⟩
  have e1 := Ap 4503599627370496 J (by omega) (by omega)
  rw [show J * 4503599627370496 + 4503599627370496 = 9218868437227405312 by rw [hJ]] at e1
  refine D1.1 ?_
  rw [hr, e1]
  have h1 : N * 2 ^ K < 9007199254740992 * 2 ^ K := Nat.mul_lt_mul_of_pos_right h (Nat.two_pow_pos K)
  have h2 : 9007199254740992 * 2 ^ K ≤ 4503599627370496 * 2 ^ J := by
   rw [show (9007199254740992 : Nat) = 4503599627370496 * 2 by rfl, Nat.mul_assoc]
   refine Nat.mul_le_mul_left _ ?_
   rw [show 2 * 2 ^ K = 2 ^ (K + 1) by rw [Nat.pow_succ, Nat.mul_comm]]
   exact Nat.pow_le_pow_right (by omega) (by omega)
  omega
 have := Qj false (r := r) (m := N) (a := K) (b := 0) (e := 0) hlt (by omega) (by rw [hr, Nat.pow_zero, Nat.mul_one])
 rw [Hy, this]
 exact ⟨hr, hlt⟩
theorem Wn {n d : Nat} (h : 2 * n < 2 ^ d) : evn n d = 0 := by
 have h1 : n < 2 ^ d := by omega
 unfold evn
 rw [Nat.div_eq_of_lt h1, Nat.mod_eq_of_lt h1, decide_eq_false (by omega), decide_eq_false (by omega)]
 rfl
theorem Ae3 (n d : Nat) (hn : 0 < n) : Ieee.Toward.even.cut false n d = evn n d := by
 rcases Nat.lt_or_ge (n.log2 + 2) d with h | h
 ·have h1 := (Di n hn).2
  have h2 : Ieee.Toward.even.cut false n d = evn n (n.log2 + 2) := by
   rw [← D0 n (n.log2 + 2) (Nat.le_refl _)]
   unfold Ieee.Toward.cut
   rw [Nat.min_eq_right (by omega), Nat.min_self]
  have h3 : 2 * n < 2 ^ (n.log2 + 2) := by rw [show n.log2 + 2 = n.log2 + 1 + 1 by omega, Nat.pow_succ]; omega
  rw [h2, Wn h3, Wn (Nat.lt_of_lt_of_le h3 (Nat.pow_le_pow_right (by omega) (by omega)))]
 ·exact D0 n d h
theorem Yp (R : Nat) : ∃ M d, R = d * 4503599627370496 + M ∧ Ac R = M * 2 ^ d ∧ M < 9007199254740992 ∧ (d = 0 ∨ 4503599627370496 ≤ M) := by
 rcases Nat.lt_or_ge R 4503599627370496 with h | h
 ·exact ⟨R, 0, by omega, by rw [Dl (by omega), Nat.pow_zero, Nat.mul_one], by omega, Or.inl rfl⟩
 ·obtain ⟨M, d, a, b, c, e⟩ := Du h
  exact ⟨M, d, c, e, b, Or.inr a⟩
def Ei (n : Int) (u v : Nat) : Prop := v * 10 ^ n.toNat ≤ u * 10 ^ (-n).toNat
theorem Xa {n : Int} {u v : Nat} (h : Ei (n + 1) u v) : Ei n u v := by
 unfold Ei at h ⊢
 rcases Int.lt_or_le n 0 with h0 | h0
 ·rw [show (n + 1).toNat = 0 by omega, Nat.pow_zero, Nat.mul_one] at h
  rw [show n.toNat = 0 by omega, Nat.pow_zero, Nat.mul_one]
  refine Nat.le_trans h (Nat.mul_le_mul_left _ (Nat.pow_le_pow_right (by omega) (by omega)))
 ·rw [show (-(n + 1)).toNat = 0 by omega, Nat.pow_zero, Nat.mul_one, show (n + 1).toNat = n.toNat + 1 by omega, Nat.pow_succ] at h
  rw [show (-n).toNat = 0 by omega, Nat.pow_zero, Nat.mul_one]
  refine Nat.le_trans ?_ h
  exact Nat.mul_le_mul_left _ (by omega)
theorem M4 {n : Int} {u v : Nat} : ∀ k : Nat, Ei (n + k) u v → Ei n u v
 | 0, h => by rwa [show n + ((0 : Nat) : Int) = n by omega] at h
 | k + 1, h => M4 k (Xa (by rwa [show n + (k : Int) + 1 = n + ((k + 1 : Nat) : Int) by omega]))
def Bo (u v : Nat) (n : Int) : Prop := Ei (n - 1) u v ∧ ¬ Ei n u v
theorem H9 {u v : Nat} {n k : Int} (h1 : Bo u v n) (h2 : Bo u v k) : n = k := by
 have key : ∀ {a b : Int}, Bo u v a → Bo u v b → ¬ a < b := by
  intro a b ha hb h
  refine ha.2 (M4 (b - 1 - a).toNat ?_)
  rw [show a + (((b - 1 - a).toNat : Nat) : Int) = b - 1 by omega]
  exact hb.1
 have a := key h1 h2
 have b := key h2 h1
 omega
theorem Ahb : ∀ k : Fin 1100, 10 ^ (k.val * 78913 / 262144) ≤ 2 ^ k.val ∧ 2 ^ k.val < 10 ^ (k.val * 78913 / 262144 + 1) := by decide +kernel
theorem Ag8 : ∀ k : Fin 1140, 2 ^ k.val ≤ 10 ^ ((k.val * 78913 + 262143) / 262144) ∧ (k.val = 0 ∨ 10 ^ ((k.val * 78913 + 262143) / 262144 - 1) < 2 ^ k.val) := by decide +kernel
def lg2 (e : Int) : Int := e * 78913 / 262144
theorem Agy {e : Int} (h1 : -1140 < e) (h2 : e < 1100) : Ei (lg2 e) (2 ^ e.toNat) (2 ^ (-e).toNat) ∧ ¬ Ei (lg2 e + 1) (2 ^ e.toNat) (2 ^ (-e).toNat) := by
 unfold Ei lg2
 rcases Int.lt_or_le e 0 with h | h
 ·obtain ⟨k, hk⟩ : ∃ k : Nat, e = -(k : Int) := ⟨(-e).toNat, by omega⟩
  subst hk
  have hk0 : k ≠ 0 := by omega
  obtain ⟨t1, t2⟩ := Ag8 ⟨k, by omega⟩
  dsimp only at t1 t2
  have t3 := t2.resolve_left hk0
  obtain ⟨N, hN⟩ : ∃ N, (k * 78913 + 262143) / 262144 = N := ⟨_, rfl⟩
  rw [hN] at t1 t3
  have hn : (-(k : Int)) * 78913 / 262144 = -(N : Int) := by omega
  have hN1 : 1 ≤ N := by omega
  rw [hn, show (-(k : Int)).toNat = 0 by omega, show (-(-(k : Int))).toNat = k by omega, show (-(N : Int)).toNat = 0 by omega, show (-(-(N : Int))).toNat = N by omega, show (-(N : Int) + 1).toNat = 0 by omega, show (-(-(N : Int) + 1)).toNat = N - 1 by omega]
  simp only [Nat.pow_zero, Nat.mul_one, Nat.one_mul]
  exact ⟨t1, by omega⟩
 ·obtain ⟨k, rfl⟩ := Int.eq_ofNat_of_zero_le h
  obtain ⟨t1, t2⟩ := Ahb ⟨k, by omega⟩
  dsimp only at t1 t2
  obtain ⟨N, hN⟩ : ∃ N, k * 78913 / 262144 = N := ⟨_, rfl⟩
  rw [hN] at t1 t2
  have hn : (k : Int) * 78913 / 262144 = (N : Int) := by omega
  rw [hn, show ((k : Nat) : Int).toNat = k by omega, show (-(k : Int)).toNat = 0 by omega, show ((N : Nat) : Int).toNat = N by omega, show (-(N : Int)).toNat = 0 by omega, show ((N : Int) + 1).toNat = N + 1 by omega, show (-((N : Int) + 1)).toNat = 0 by omega]
  simp only [Nat.pow_zero, Nat.mul_one, Nat.one_mul]
  exact ⟨t1, by omega⟩
theorem H7 {n : Int} {u v u' v' : Nat} (hv : 0 < v) (h : u * v' ≤ u' * v) (hl : Ei n u v) : Ei n u' v' := by
 unfold Ei at hl ⊢
 generalize 10 ^ n.toNat = P at *
 generalize 10 ^ (-n).toNat = Q at *
 refine Nat.le_of_mul_le_mul_right (c := v) ?_ hv
 have h1 : v * P * v' ≤ u * Q * v' := Nat.mul_le_mul_right _ hl
 have h2 : u * v' * Q ≤ u' * v * Q := Nat.mul_le_mul_right _ h
 have e1 : v' * P * v = v * P * v' := by grind
 have e2 : u * Q * v' = u * v' * Q := by grind
 have e3 : u' * Q * v = u' * v * Q := by grind
 omega
theorem Ps {u v : Nat} {e : Int} (hv : 0 < v) (h1 : -1140 < e) (h2 : e < 1100) (hlo : 2 ^ e.toNat * v ≤ u * 2 ^ (-e).toNat) (hhi : u * 2 ^ (-e).toNat < 2 * 2 ^ e.toNat * v) :
  (¬ Ei (lg2 e + 1) u v → Bo u v (lg2 e + 1)) ∧ (Ei (lg2 e + 1) u v → Bo u v (lg2 e + 2)) := by
 obtain ⟨t1, t2⟩ := Agy h1 h2
 have hp := Nat.two_pow_pos (-e).toNat
 have l0 : Ei (lg2 e) u v := H7 hp (by omega) t1
 refine ⟨fun h => ⟨by rw [show lg2 e + 1 - 1 = lg2 e by omega]; exact l0, h⟩, fun h => ⟨by rw [show lg2 e + 2 - 1 = lg2 e + 1 by omega]; exact h, fun hh => t2 ?_⟩⟩
 -- ten times is more than twice
 unfold Ei at hh ⊢
 obtain ⟨p, hp1⟩ : ∃ p, 2 ^ e.toNat = p := ⟨_, rfl⟩
 obtain ⟨r, hr⟩ : ∃ r, 2 ^ (-e).toNat = r := ⟨_, rfl⟩
 rw [hp1, hr] at hhi
 rw [hr] at hp
 rw [hp1, hr]
 have step : ∀ P Q P' Q' : Nat, 10 * P * Q' = P' * Q → v * P' ≤ u * Q' → 0 < Q' → r * P ≤ p * Q := by
  intro P Q P' Q' he hc hq
  -- u r < 2 p v, v P' <= u Q': so 10 r P Q' = r P' Q <= .. < 2 p Q Q'
  rcases Nat.lt_or_ge (p * Q) (r * P) with hlt | hge
  ·exfalso
   have a1 : v * P' * (r * Q) ≤ u * Q' * (r * Q) := Nat.mul_le_mul_right _ hc
   have a2 : u * r * (Q' * Q) ≤ 2 * p * v * (Q' * Q) := Nat.mul_le_mul_right _ (Nat.le_of_lt hhi)
   have a3 : (p * Q + 1) * (10 * v * Q') ≤ r * P * (10 * v * Q') := Nat.mul_le_mul_right _ hlt
   have e1 : v * P' * (r * Q) = r * P * (10 * v * Q') := by
    have : v * P' * (r * Q) = v * r * (P' * Q) := by grind
    rw [this, ← he]; grind
   have e2 : u * Q' * (r * Q) = u * r * (Q' * Q) := by grind
   have e3 : 2 * p * v * (Q' * Q) = p * Q * (2 * v * Q') := by grind
   have e4 : (p * Q + 1) * (10 * v * Q') = p * Q * (10 * v * Q') + 10 * v * Q' := by grind
   have e5 : p * Q * (2 * v * Q') ≤ p * Q * (10 * v * Q') := Nat.mul_le_mul_left _ (Nat.mul_le_mul_right _ (Nat.mul_le_mul_right _ (by omega)))
   have e6 : 0 < 10 * v * Q' := Nat.mul_pos (Nat.mul_pos (by omega) hv) hq
   omega
  ·exact hge
 refine step _ _ _ _ ?_ hh (Nat.pow_pos (by omega))
 obtain ⟨k, hk⟩ : ∃ k, lg2 e + 1 = k := ⟨_, rfl⟩
 rw [hk, show lg2 e + 2 = k + 1 by omega]
 rcases Int.lt_or_le k 0 with h0 | h0
 ·rw [show k.toNat = 0 by omega, show (k + 1).toNat = 0 by omega, show (-k).toNat = (-(k + 1)).toNat + 1 by omega, Nat.pow_succ]
  grind
 ·rw [show (-k).toNat = 0 by omega, show (-(k + 1)).toNat = 0 by omega, show (k + 1).toNat = k.toNat + 1 by omega, Nat.pow_succ]
  grind
def Cn (u w : Nat) : Nat := u / w + (decide (w < 2 * (u % w)) || (decide (w = 2 * (u % w)) && decide (u / w % 2 = 1))).toNat
theorem Abq (n d : Nat) : Cn n (2 ^ d) = evn n d := rfl
theorem Bz {u w k : Nat} (hk : 0 < k) : Cn (u * k) (w * k) = Cn u w := by
 unfold Cn
 rw [Nat.mul_div_mul_right _ _ hk, Nat.mul_mod_mul_right]
 have h1 : (w * k < 2 * (u % w * k)) ↔ (w < 2 * (u % w)) := by
  rw [← Nat.mul_assoc]
  exact Nat.mul_lt_mul_right hk
 have h2 : (w * k = 2 * (u % w * k)) ↔ (w = 2 * (u % w)) := by
  rw [← Nat.mul_assoc]
  exact ⟨fun h => Nat.eq_of_mul_eq_mul_right hk h, fun h => by rw [← h]⟩
 simp only [h1, h2]
theorem Wr {u w C : Nat} (hw : 0 < w) (h : u ≤ C * w) : Cn u w ≤ C := by
 unfold Cn
 have e1 := Nat.div_add_mod u w
 have hq : u / w ≤ C := Nat.div_le_of_le_mul (by rw [Nat.mul_comm]; exact h)
 rcases Nat.eq_or_lt_of_le hq with h1 | h1
 ·have h2 : u % w = 0 := by rw [h1, Nat.mul_comm] at e1; omega
  rw [h2, decide_eq_false (by omega), decide_eq_false (by omega)]
  simp only [Bool.false_and, Bool.or_self, Bool.toNat_false]
  omega
 ·have := Bool.toNat_le (decide (w < 2 * (u % w)) || (decide (w = 2 * (u % w)) && decide (u / w % 2 = 1)))
  omega
theorem Np {u w C : Nat} (hw : 0 < w) (h : C * w ≤ u) : C ≤ Cn u w := by
 unfold Cn
 have h1 : C ≤ u / w := (Nat.le_div_iff_mul_le hw).2 h
 omega
theorem Y4 (w : Nat) : Cn 0 w = 0 := by
 unfold Cn
 rw [Nat.zero_div, Nat.zero_mod, decide_eq_false (by omega), show decide (0 % 2 = 1) = false by decide, Bool.and_false]
 rfl
def Bk (u v : Nat) : Nat := (u / v).log2 - 52
def rnd (u v : Nat) : Nat := min (Bk u v * 4503599627370496 + Cn u (2 ^ Bk u v * v)) 9218868437227405312
theorem O4 {u v k : Nat} (hk : 0 < k) : Bk (u * k) (v * k) = Bk u v := by
 unfold Bk
 rw [Nat.mul_div_mul_right _ _ hk]
theorem Gg {u v k : Nat} (hk : 0 < k) : rnd (u * k) (v * k) = rnd u v := by
 unfold rnd
 rw [O4 hk, ← Nat.mul_assoc, Bz hk]
theorem Dz {u v D : Nat} (hv : 0 < v) (h1 : D = 0 ∨ 4503599627370496 * 2 ^ D * v ≤ u) (h2 : u < 9007199254740992 * 2 ^ D * v) : Bk u v = D := by
 unfold Bk
 have hlt : u / v < 9007199254740992 * 2 ^ D := (Nat.div_lt_iff_lt_mul hv).2 h2
 have e1 : 9007199254740992 * 2 ^ D = 2 ^ (D + 53) := by rw [Nat.pow_add, Nat.mul_comm]
 have e2 : 4503599627370496 * 2 ^ D = 2 ^ (D + 52) := by rw [Nat.pow_add, Nat.mul_comm]
 rw [e1] at hlt
 rcases Nat.eq_zero_or_pos (u / v) with h0 | h0
 ·rw [h0]
  rcases h1 with h1 | h1
  ·rw [h1]; rfl
  ·have := (Nat.le_div_iff_mul_le hv).2 h1
   rw [h0] at this
   have := Nat.two_pow_pos D
   omega
 ·have hl : (u / v).log2 < D + 53 := (Nat.log2_lt (by omega)).2 hlt
  rcases h1 with h1 | h1
  ·omega
  ·have h3 := (Nat.le_div_iff_mul_le hv).2 h1
   rw [e2] at h3
   have := (Nat.le_log2 (by omega)).2 h3
   omega
theorem Zq (s : Bool) {m a b : Nat} {e : Int} (hab : (a : Int) - b = e + 1074) : Ieee.double.nearest s m e = Ieee.double.word s (rnd (m * 2 ^ a) (2 ^ b)) := by
 have e2 : Ieee.double.binade = 4503599627370496 := by decide
 have e3 : Ieee.double.infRung = 9218868437227405312 := by decide
 have e4 : Ieee.double.leastPlace = -1074 := by decide
 have e5 : Ieee.double.fractionBits = 52 := rfl
 have hb := Nat.two_pow_pos b
 unfold Ieee.Format.nearest
 rcases Nat.eq_zero_or_pos m with h0 | h0
 ·subst h0
  rw [if_pos rfl]
  have : rnd (0 * 2 ^ a) (2 ^ b) = 0 := by
   unfold rnd
   rw [Nat.zero_mul, Y4]
   unfold Bk
   rw [Nat.zero_div]
   rfl
  rw [this]
 ·rw [if_neg (by omega), e2, e3, e4, e5]
  obtain ⟨L, hL⟩ : ∃ L, m.log2 = L := ⟨_, rfl⟩
  obtain ⟨a1, a2⟩ := Di m h0
  rw [hL] at a1 a2 ⊢
  obtain ⟨p, hp⟩ : ∃ p, max (e + (L : Int) - (52 : Nat)) (-1074) = p := ⟨_, rfl⟩
  rw [hp]
  dsimp only
  rw [Ny]
  obtain ⟨D, hD⟩ : ∃ D, (p - -1074).toNat = D := ⟨_, rfl⟩
  rw [hD]
  -- the place
  have hpl : Bk (m * 2 ^ a) (2 ^ b) = D := by
   refine Dz hb ?_ ?_
   ·rcases Nat.eq_zero_or_pos D with h1 | h1
    ·exact Or.inl h1
    ·refine Or.inr ?_
     rw [show (4503599627370496 : Nat) = 2 ^ 52 from rfl, ← Nat.pow_add, ← Nat.pow_add]
     refine Nat.le_trans ?_ (Nat.mul_le_mul_right _ a1)
     rw [← Nat.pow_add]
     exact Nat.pow_le_pow_right (by omega) (by omega)
   ·refine Nat.lt_of_lt_of_le (Nat.mul_lt_mul_of_pos_right a2 (Nat.two_pow_pos a)) ?_
    rw [show (9007199254740992 : Nat) = 2 ^ 53 from rfl, ← Nat.pow_add, ← Nat.pow_add, ← Nat.pow_add]
    exact Nat.pow_le_pow_right (by omega) (by omega)
  unfold rnd
  rw [hpl]
  have hc : Ieee.Toward.even.cut false (m <<< (e - p).toNat) (p - e).toNat = Cn (m * 2 ^ a) (2 ^ D * 2 ^ b) := by
   rw [Ae3 _ _ (by rw [Nat.shiftLeft_eq]; exact Nat.mul_pos h0 (Nat.two_pow_pos _)), Nat.shiftLeft_eq, ← Abq]
   obtain ⟨x, hx⟩ : ∃ x : Nat, (e - p).toNat = x := ⟨_, rfl⟩
   obtain ⟨y, hy⟩ : ∃ y : Nat, (p - e).toNat = y := ⟨_, rfl⟩
   rw [hx, hy, ← Nat.pow_add]
   -- a + y = D + b + x: scale both sides
   rcases Nat.le_total a x with h | h
   ·obtain ⟨k, rfl⟩ : ∃ k, x = a + k := ⟨x - a, by omega⟩
    have : y = D + b + k := by omega
    rw [this, Nat.pow_add 2 a k, Nat.pow_add 2 (D + b) k, ← Nat.mul_assoc, Bz (Nat.two_pow_pos k)]
   ·obtain ⟨k, rfl⟩ : ∃ k, a = x + k := ⟨a - x, by omega⟩
    have : D + b = y + k := by omega
    rw [this, Nat.pow_add 2 x k, Nat.pow_add 2 y k, ← Nat.mul_assoc, Bz (Nat.two_pow_pos k)]
  rw [hc]
theorem Fz {N n q t d : Nat} (hN : N = q * n + t) (h0 : 0 < t) (ht : t < n) (hd : 0 < d) : Cn N (n * 2 ^ d) = q / 2 ^ d + (decide (2 ^ d ≤ 2 * (q % 2 ^ d))).toNat := by
 obtain ⟨c, rfl⟩ : ∃ c, d = c + 1 := ⟨d - 1, by omega⟩
 have hP : 2 ^ (c + 1) = 2 * 2 ^ c := by rw [Nat.pow_succ, Nat.mul_comm]
 have hc := Nat.two_pow_pos c
 have e1 := Nat.div_add_mod q (2 ^ (c + 1))
 have e2 := Nat.mod_lt q (Nat.two_pow_pos (c + 1))
 obtain ⟨Q, hQ⟩ : ∃ Q, q / 2 ^ (c + 1) = Q := ⟨_, rfl⟩
 obtain ⟨r, hr⟩ : ∃ r, q % 2 ^ (c + 1) = r := ⟨_, rfl⟩
 rw [hQ, hr] at e1
 rw [hr] at e2
 rw [hQ, hr]
 have hlt : r * n + t < n * 2 ^ (c + 1) := by
  have : (r + 1) * n ≤ 2 ^ (c + 1) * n := Nat.mul_le_mul_right _ e2
  rw [Nat.add_mul, Nat.one_mul, Nat.mul_comm (2 ^ (c + 1))] at this
  omega
 have hNN : N = n * 2 ^ (c + 1) * Q + (r * n + t) := by rw [hN, ← e1]; grind
 have hdiv : N / (n * 2 ^ (c + 1)) = Q := by
  rw [hNN, Nat.mul_add_div (by omega), Nat.div_eq_of_lt hlt, Nat.add_zero]
 have hmod : N % (n * 2 ^ (c + 1)) = r * n + t := by
  rw [hNN, Nat.mul_add_mod, Nat.mod_eq_of_lt hlt]
 unfold Cn
 rw [hdiv, hmod, hP]
 have k1 : n * (2 * 2 ^ c) < 2 * (r * n + t) ↔ 2 ^ c ≤ r := by
  constructor
  ·intro h
   rcases Nat.lt_or_ge r (2 ^ c) with h1 | h1
   ·exfalso
    have : (r + 1) * n ≤ 2 ^ c * n := Nat.mul_le_mul_right _ h1
    rw [Nat.add_mul, Nat.one_mul] at this
    have e3 : n * (2 * 2 ^ c) = 2 * (2 ^ c * n) := by grind
    omega
   ·exact h1
  ·intro h
   have : 2 ^ c * n ≤ r * n := Nat.mul_le_mul_right _ h
   have e3 : n * (2 * 2 ^ c) = 2 * (2 ^ c * n) := by grind
   omega
 have k2 : ¬ n * (2 * 2 ^ c) = 2 * (r * n + t) := by
  intro h
  have e3 : n * (2 * 2 ^ c) = 2 * (2 ^ c * n) := by grind
  have h4 : 2 ^ c * n = r * n + t := by omega
  rcases Nat.lt_or_ge r (2 ^ c) with h1 | h1
  ·have : (r + 1) * n ≤ 2 ^ c * n := Nat.mul_le_mul_right _ h1
   rw [Nat.add_mul, Nat.one_mul] at this
   omega
  ·have : 2 ^ c * n ≤ r * n := Nat.mul_le_mul_right _ h1
   omega
 rw [decide_eq_false k2, Bool.false_and, Bool.or_false]
 congr 2
 exact decide_eq_decide.2 (k1.trans (by omega))
theorem Kf {q d : Nat} (hd : 0 < d) : Cn (2 * q + 1) (2 * 2 ^ d) = q / 2 ^ d + (decide (2 ^ d ≤ 2 * (q % 2 ^ d))).toNat := by
 have h := Fz (N := 2 * q + 1) (n := 2) (q := q) (t := 1) (d := d) (by omega) (by omega) (by omega) hd
 exact h
theorem Ae4 {q d : Nat} (hd : 1 < d) : Cn (q ||| 1) (2 ^ d) = q / 2 ^ d + (decide (2 ^ d ≤ 2 * (q % 2 ^ d))).toNat := by
 have ho : q ||| 1 = 2 * (q / 2) + 1 := by
  have h1 : q ||| 1 = (q / 2) * 2 + 1 := by
   have h2 : (q ||| 1) / 2 = q / 2 := by rw [Nat.or_div_two]; simp
   have h3 : (q ||| 1) % 2 = 1 := by rw [Nat.or_mod_two_eq_one]; simp
   omega
  omega
 obtain ⟨c, rfl⟩ : ∃ c, d = c + 1 := ⟨d - 1, by omega⟩
 obtain ⟨f, rfl⟩ : ∃ f, c = f + 1 := ⟨c - 1, by omega⟩
 have hP : 2 ^ (f + 1 + 1) = 2 * 2 ^ (f + 1) := by rw [Nat.pow_succ, Nat.mul_comm]
 rw [ho, hP, Kf (by omega)]
 have hP2 : 2 ^ (f + 1) = 2 * 2 ^ f := by rw [Nat.pow_succ, Nat.mul_comm]
 have hf := Nat.two_pow_pos f
 have e1 : q / 2 / 2 ^ (f + 1) = q / (2 * 2 ^ (f + 1)) := by rw [Nat.div_div_eq_div_mul]
 have e2 : q % (2 * 2 ^ (f + 1)) = q % 2 + 2 * (q / 2 % 2 ^ (f + 1)) := Nat.mod_mul
 rw [e1, e2]
 congr 2
 refine decide_eq_decide.2 ?_
 have := Nat.mod_lt q (show 0 < 2 by omega)
 rw [hP2]
 generalize q / 2 % (2 * 2 ^ f) = r
 omega
theorem Ef {u v D : Nat} (hv : 0 < v) (h : Bk u v = D) : (D = 0 ∨ 4503599627370496 * 2 ^ D * v ≤ u) ∧ u < 9007199254740992 * 2 ^ D * v := by
 unfold Bk at h
 rcases Nat.eq_zero_or_pos (u / v) with h0 | h0
 ·rw [h0, show Nat.log2 0 = 0 by decide] at h
  have hD : D = 0 := by omega
  refine ⟨Or.inl hD, ?_⟩
  have h1 : u < v := by
   rcases Nat.lt_or_ge u v with h2 | h2
   ·exact h2
   ·have := (Nat.le_div_iff_mul_le hv).2 (show 1 * v ≤ u by omega)
    omega
  rw [hD, Nat.pow_zero, Nat.mul_one]
  omega
 ·obtain ⟨a1, a2⟩ := Di _ h0
  constructor
  ·rcases Nat.eq_zero_or_pos D with h1 | h1
   ·exact Or.inl h1
   ·refine Or.inr ((Nat.le_div_iff_mul_le hv).1 ?_)
    rw [show (4503599627370496 : Nat) = 2 ^ 52 from rfl, ← Nat.pow_add, show 52 + D = (u / v).log2 by omega]
    exact a1
  ·refine (Nat.div_lt_iff_lt_mul hv).1 (Nat.lt_of_lt_of_le a2 ?_)
   rw [show (9007199254740992 : Nat) = 2 ^ 53 from rfl, ← Nat.pow_add]
   exact Nat.pow_le_pow_right (by omega) (by omega)
theorem Wm {N n q t C : Nat} (hN : N = q * n + t) (ht : t < n) : C * n ≤ N ↔ C ≤ q := by
 constructor
 ·intro h
  rcases Nat.lt_or_ge q C with h1 | h1
  ·have : (q + 1) * n ≤ C * n := Nat.mul_le_mul_right _ h1
   rw [Nat.add_mul, Nat.one_mul] at this
   omega
  ·exact h1
 ·intro h
  have : C * n ≤ q * n := Nat.mul_le_mul_right _ h
  omega
theorem Aa1 {N n q t s A B D d : Nat} (hn : 0 < n) (hN : N = q * n + t) (ht : t < n) (hs : s = if t = 0 then 0 else 1) (hD : Bk (N * 2 ^ A) (2 ^ B * n) = D) (hd : D + B = A + d) (hd0 : 0 < d) :
  rnd ((2 * q + s) * 2 ^ A) (2 ^ (B + 1)) = rnd (N * 2 ^ A) (2 ^ B * n) ∧ (1 < d → rnd ((q ||| s) * 2 ^ A) (2 ^ B) = rnd (N * 2 ^ A) (2 ^ B * n)) := by
 have hA := Nat.two_pow_pos A
 have hB := Nat.two_pow_pos B
 have hDB : 2 ^ D * 2 ^ B = 2 ^ d * 2 ^ A := by rw [← Nat.pow_add, ← Nat.pow_add, hd, Nat.add_comm]
 obtain ⟨s1, s2⟩ := Ef (Nat.mul_pos hB hn) hD
 have hs1 : s ≤ 1 := by rw [hs]; split <;> omega
 -- where the quotient lies
 have cN : ∀ C, C * 2 ^ D * (2 ^ B * n) = C * 2 ^ d * n * 2 ^ A := by
  intro C
  have : C * 2 ^ D * (2 ^ B * n) = C * n * (2 ^ D * 2 ^ B) := by grind
  rw [this, hDB]; grind
 rw [cN] at s1 s2
 have q1 : D = 0 ∨ 4503599627370496 * 2 ^ d ≤ q := by
  rcases s1 with h | h
  ·exact Or.inl h
  ·exact Or.inr ((Wm hN ht).1 (Nat.le_of_mul_le_mul_right h hA))
 have q2 : q < 9007199254740992 * 2 ^ d := by
  have h1 := Nat.lt_of_mul_lt_mul_right s2
  rcases Nat.lt_or_ge q (9007199254740992 * 2 ^ d) with h | h
  ·exact h
  ·have := (Wm hN ht).2 h
   omega
 have hR : rnd (N * 2 ^ A) (2 ^ B * n) = min (D * 4503599627370496 + Cn N (n * 2 ^ d)) 9218868437227405312 := by
  unfold rnd
  rw [hD]
  have : 2 ^ D * (2 ^ B * n) = n * 2 ^ d * 2 ^ A := by
   have e : 2 ^ D * (2 ^ B * n) = 2 ^ D * 2 ^ B * n := by grind
   rw [e, hDB]; grind
  rw [this, Bz hA]
 constructor
 ·have hp : Bk ((2 * q + s) * 2 ^ A) (2 ^ (B + 1)) = D := by
   refine Dz (Nat.two_pow_pos _) ?_ ?_
   ·rcases q1 with h | h
    ·exact Or.inl h
    ·refine Or.inr ?_
     have e : 4503599627370496 * 2 ^ D * 2 ^ (B + 1) = 2 * (4503599627370496 * 2 ^ d) * 2 ^ A := by
      rw [Nat.pow_succ]
      have : 4503599627370496 * 2 ^ D * (2 ^ B * 2) = 2 * 4503599627370496 * (2 ^ D * 2 ^ B) := by grind
      rw [this, hDB]; grind
     rw [e]
     exact Nat.mul_le_mul_right _ (by omega)
   ·have e : 9007199254740992 * 2 ^ D * 2 ^ (B + 1) = 2 * (9007199254740992 * 2 ^ d) * 2 ^ A := by
     rw [Nat.pow_succ]
     have : 9007199254740992 * 2 ^ D * (2 ^ B * 2) = 2 * 9007199254740992 * (2 ^ D * 2 ^ B) := by grind
     rw [this, hDB]; grind
    rw [e]
    exact Nat.mul_lt_mul_of_pos_right (by omega) hA
  rw [hR]
  unfold rnd
  rw [hp]
  have e : 2 ^ D * 2 ^ (B + 1) = 2 * 2 ^ d * 2 ^ A := by
   rw [Nat.pow_succ]
   have : 2 ^ D * (2 ^ B * 2) = 2 * (2 ^ D * 2 ^ B) := by grind
   rw [this, hDB]; grind
  rw [e, Bz hA]
  congr 2
  by_cases h0 : t = 0
  ·rw [hs, if_pos h0, Nat.add_zero, hN, h0, Nat.add_zero, Nat.mul_comm n, Bz hn, Nat.mul_comm 2 q, Nat.mul_comm 2 (2 ^ d), Bz (by omega)]
  ·rw [hs, if_neg h0, Kf hd0, Fz hN (by omega) ht hd0]
 ·intro hd1
  have hor : q ≤ q ||| s ∧ q ||| s ≤ q + 1 := by
   rcases Nat.eq_zero_or_pos s with h | h
   ·rw [h, Nat.or_zero]; omega
   ·have e1 : s = 1 := by omega
    rw [e1]
    have h2 : (q ||| 1) / 2 = q / 2 := by rw [Nat.or_div_two]; simp
    have h3 : (q ||| 1) % 2 = 1 := by rw [Nat.or_mod_two_eq_one]; simp
    omega
  have hup : q ||| s < 9007199254740992 * 2 ^ d := by
   rcases Nat.eq_zero_or_pos s with h | h
   ·rw [h, Nat.or_zero]; exact q2
   ·have e1 : s = 1 := by omega
    rw [e1]
    have h2 : (q ||| 1) / 2 = q / 2 := by rw [Nat.or_div_two]; simp
    obtain ⟨f, rfl⟩ : ∃ f, d = f + 1 := ⟨d - 1, by omega⟩
    rw [Nat.pow_succ] at q2 ⊢
    omega
  have hp : Bk ((q ||| s) * 2 ^ A) (2 ^ B) = D := by
   have e : ∀ C, C * 2 ^ D * 2 ^ B = C * 2 ^ d * 2 ^ A := by intro C; rw [Nat.mul_assoc, hDB, Nat.mul_assoc]
   refine Dz hB ?_ ?_
   ·rcases q1 with h | h
    ·exact Or.inl h
    ·exact Or.inr (by rw [e]; exact Nat.mul_le_mul_right _ (by omega))
   ·rw [e]; exact Nat.mul_lt_mul_of_pos_right hup hA
  rw [hR]
  unfold rnd
  rw [hp, hDB, Bz hA]
  congr 2
  by_cases h0 : t = 0
  ·rw [hs, if_pos h0, Nat.or_zero, hN, h0, Nat.add_zero, Nat.mul_comm n, Bz hn]
  ·rw [hs, if_neg h0, Ae4 hd1, Fz hN (by omega) ht hd0]
theorem Ne {u W a : Nat} (h1 : a * W < 2 * u) (h2 : 2 * u < (a + 1) * W) : Cn u W = a / 2 + a % 2 := by
 have hW : 0 < W := by
  rcases Nat.eq_zero_or_pos W with h | h
  ·rw [h, Nat.mul_zero] at h2; omega
  ·exact h
 have e1 := Nat.div_add_mod u W
 have e2 := Nat.mod_lt u hW
 obtain ⟨q, hq⟩ : ∃ q, a / 2 = q := ⟨_, rfl⟩
 have key : u / W = q := by
  have l1 : q ≤ u / W := by
   rw [Nat.le_div_iff_mul_le hW]
   have : 2 * q * W ≤ a * W := Nat.mul_le_mul_right _ (by omega)
   have e : 2 * q * W = 2 * (q * W) := Nat.mul_assoc _ _ _
   omega
  have l2 : u / W < q + 1 := by
   rw [Nat.div_lt_iff_lt_mul hW]
   have : (a + 1) * W ≤ 2 * (q + 1) * W := Nat.mul_le_mul_right _ (by omega)
   have e : 2 * (q + 1) * W = 2 * ((q + 1) * W) := Nat.mul_assoc _ _ _
   omega
  omega
 unfold Cn
 rw [key, hq]
 rw [key] at e1
 generalize u % W = r at *
 rcases Nat.mod_two_eq_zero_or_one a with hp | hp
 ·have ha : a = 2 * q := by omega
  rw [ha, Nat.add_mul, Nat.one_mul, Nat.mul_assoc] at h2
  rw [Nat.mul_comm W q] at e1
  rw [hp, decide_eq_false (by omega), decide_eq_false (by omega)]
  rfl
 ·have ha : a = 2 * q + 1 := by omega
  rw [ha, Nat.add_mul, Nat.one_mul, Nat.mul_assoc] at h1
  rw [Nat.mul_comm W q] at e1
  rw [hp, decide_eq_true (by omega)]
  rfl
def Af3 (u v u' v' : Nat) : Prop := ∀ c D, c ≤ 18014398509481984 → 2 * u ≤ c * 2 ^ D * v → c * 2 ^ D * v' ≤ 2 * u' → False
theorem Aay {u v u' v' : Nat} (hv : 0 < v) (hv' : 0 < v') (hle : u * v' ≤ u' * v) (H : Af3 u v u' v') : rnd u v = rnd u' v' := by
 obtain ⟨D, hD⟩ : ∃ D, Bk u v = D := ⟨_, rfl⟩
 obtain ⟨s1, s2⟩ := Ef hv hD
 have hp := Nat.two_pow_pos D
 -- the place is the same
 have hD' : Bk u' v' = D := by
  refine Dz hv' ?_ ?_
  ·rcases s1 with h | h
   ·exact Or.inl h
   ·refine Or.inr (Nat.le_of_mul_le_mul_right (c := v) ?_ hv)
    have a1 : 4503599627370496 * 2 ^ D * v * v' ≤ u * v' := Nat.mul_le_mul_right _ h
    have e : 4503599627370496 * 2 ^ D * v' * v = 4503599627370496 * 2 ^ D * v * v' := by grind
    omega
  ·rcases Nat.lt_or_ge u' (9007199254740992 * 2 ^ D * v') with h | h
   ·exact h
   ·exfalso
    rw [Nat.mul_assoc] at s2 h
    refine H 18014398509481984 D (Nat.le_refl _) ?_ ?_
    ·rw [Nat.mul_assoc]
     generalize 2 ^ D * v = X at *
     omega
    ·rw [Nat.mul_assoc]
     generalize 2 ^ D * v' = X at *
     omega
 -- and so are the halves
 obtain ⟨a, ha⟩ : ∃ a, 2 * u / (2 ^ D * v) = a := ⟨_, rfl⟩
 have hW : 0 < 2 ^ D * v := Nat.mul_pos hp hv
 have m1 := Nat.div_add_mod (2 * u) (2 ^ D * v)
 have m2 := Nat.mod_lt (2 * u) hW
 rw [ha] at m1
 have b1 : a * (2 ^ D * v) ≤ 2 * u := by rw [Nat.mul_comm a]; omega
 have b2 : 2 * u < (a + 1) * (2 ^ D * v) := by rw [Nat.add_mul, Nat.one_mul, Nat.mul_comm a]; omega
 have ha54 : a + 1 ≤ 18014398509481984 := by
  have h3 : a * (2 ^ D * v) < 18014398509481984 * (2 ^ D * v) := by
   have e : 18014398509481984 * (2 ^ D * v) = 2 * (9007199254740992 * 2 ^ D * v) := by grind
   omega
  have := Nat.lt_of_mul_lt_mul_right h3
  omega
 have sc : ∀ c, c * (2 ^ D * v) * v' = c * (2 ^ D * v') * v := by intro c; grind
 have up : ∀ c, c * (2 ^ D * v) ≤ 2 * u → c * (2 ^ D * v') ≤ 2 * u' := by
  intro c hc
  refine Nat.le_of_mul_le_mul_right (c := v) ?_ hv
  rw [← sc]
  have a1 : c * (2 ^ D * v) * v' ≤ 2 * u * v' := Nat.mul_le_mul_right _ hc
  have e1 : 2 * u * v' = 2 * (u * v') := Nat.mul_assoc _ _ _
  have e2 : 2 * u' * v = 2 * (u' * v) := Nat.mul_assoc _ _ _
  omega
 have c1 : a * (2 ^ D * v) < 2 * u := by
  rcases Nat.eq_or_lt_of_le b1 with h | h
  ·exfalso
   exact H a D (by omega) (by rw [Nat.mul_assoc, h]; exact Nat.le_refl _) (by rw [Nat.mul_assoc]; exact up a (Nat.le_of_eq h))
  ·exact h
 have c3 : 2 * u' < (a + 1) * (2 ^ D * v') := by
  rcases Nat.lt_or_ge (2 * u') ((a + 1) * (2 ^ D * v')) with h | h
  ·exact h
  ·exfalso
   exact H (a + 1) D ha54 (by rw [Nat.mul_assoc]; exact Nat.le_of_lt b2) (by rw [Nat.mul_assoc]; exact h)
 have c2 : a * (2 ^ D * v') < 2 * u' := by
  refine Nat.lt_of_mul_lt_mul_right (a := v) ?_
  rw [← sc]
  have a1 : a * (2 ^ D * v) * v' < 2 * u * v' := Nat.mul_lt_mul_of_pos_right c1 hv'
  have e1 : 2 * u * v' = 2 * (u * v') := Nat.mul_assoc _ _ _
  have e2 : 2 * u' * v = 2 * (u' * v) := Nat.mul_assoc _ _ _
  omega
 unfold rnd
 rw [hD, hD', Ne c1 b2, Ne c2 c3]
set_option exponentiation.threshold 2000 in
theorem Qb : ∀ K T : Nat, K = 1075 → T = 768 → 18014398509481984 * 5 ^ K < 10 ^ T := by
 intro K T hK hT
 subst hK
 subst hT
 decide +kernel
theorem Zz {c D K T : Nat} (hK : K = 1075) (hT : T = 768) (hc : c ≤ 18014398509481984) : ∃ C f : Nat, c * 2 ^ D * 10 ^ f = C * 2 ^ K ∧ (D < K → C < 10 ^ T) ∧ (K ≤ D → f = 0) := by
 rcases Nat.lt_or_ge D K with h | h
 ·obtain ⟨j, hj⟩ : ∃ j, K = D + j := ⟨K - D, by omega⟩
  refine ⟨c * 5 ^ j, j, ?_, fun _ => ?_, fun h2 => absurd h (by omega)⟩
  ·rw [hj, Nat.pow_add, show (10 : Nat) = 5 * 2 from rfl, Nat.mul_pow]
   grind
  ·refine Nat.lt_of_le_of_lt (Nat.le_trans (Nat.mul_le_mul_right _ hc) (Nat.mul_le_mul_left _ (Nat.pow_le_pow_right (by omega) (show j ≤ K by omega)))) (Qb K T hK hT)
 ·obtain ⟨j, hj⟩ : ∃ j, D = K + j := ⟨D - K, by omega⟩
  refine ⟨c * 2 ^ j, 0, ?_, fun h2 => absurd h (by omega), fun _ => rfl⟩
  rw [hj, Nat.pow_add, Nat.pow_zero, Nat.mul_one]
  grind
theorem Ab3 {p s t c D K T : Nat} (hK : K = 1075) (hT : T = 768) (hp : 10 ^ T ≤ p) (hc : c ≤ 18014398509481984) (h1 : p * 10 ^ s * 2 ^ K < c * 2 ^ D * 10 ^ t) (h2 : c * 2 ^ D * 10 ^ t < (p + 1) * 10 ^ s * 2 ^ K) (htop : (p + 1) * 10 ^ s ≤ 10 ^ T * 10 ^ t) : False := by
 obtain ⟨C, f, e1, e2, e3⟩ := Zz (D := D) hK hT hc
 have hTt := Nat.pow_pos (n := t) (show 0 < 10 by omega)
 have hF := Nat.pow_pos (n := f) (show 0 < 10 by omega)
 have hS := Nat.pow_pos (n := s) (show 0 < 10 by omega)
 have hU := Nat.two_pow_pos K
 -- in terms of C: p * 10^s * 10^f < C * 10^t < (p+1) * 10^s * 10^f
 have g1 : p * 10 ^ s * 10 ^ f < C * 10 ^ t := by
  refine Nat.lt_of_mul_lt_mul_right (a := 2 ^ K) ?_
  have a1 : p * 10 ^ s * 2 ^ K * 10 ^ f < c * 2 ^ D * 10 ^ t * 10 ^ f := Nat.mul_lt_mul_of_pos_right h1 hF
  have x1 : p * 10 ^ s * 10 ^ f * 2 ^ K = p * 10 ^ s * 2 ^ K * 10 ^ f := by grind
  have x2 : C * 10 ^ t * 2 ^ K = c * 2 ^ D * 10 ^ t * 10 ^ f := by
   have : c * 2 ^ D * 10 ^ t * 10 ^ f = c * 2 ^ D * 10 ^ f * 10 ^ t := by grind
   rw [this, e1]; grind
  omega
 have g2 : C * 10 ^ t < (p + 1) * 10 ^ s * 10 ^ f := by
  refine Nat.lt_of_mul_lt_mul_right (a := 2 ^ K) ?_
  have a1 : c * 2 ^ D * 10 ^ t * 10 ^ f < (p + 1) * 10 ^ s * 2 ^ K * 10 ^ f := Nat.mul_lt_mul_of_pos_right h2 hF
  have x1 : (p + 1) * 10 ^ s * 10 ^ f * 2 ^ K = (p + 1) * 10 ^ s * 2 ^ K * 10 ^ f := by grind
  have x2 : C * 10 ^ t * 2 ^ K = c * 2 ^ D * 10 ^ t * 10 ^ f := by
   have : c * 2 ^ D * 10 ^ t * 10 ^ f = c * 2 ^ D * 10 ^ f * 10 ^ t := by grind
   rw [this, e1]; grind
  omega
 have hC : C < 10 ^ T := by
  rcases Nat.lt_or_ge D K with h | h
  ·exact e2 h
  ·rw [e3 h, Nat.pow_zero, Nat.mul_one] at g2
   refine Nat.lt_of_mul_lt_mul_right (a := 10 ^ t) ?_
   omega
 rcases Nat.lt_or_ge (s + f) t with h | h
 ·-- p < C * 10^(t-s-f) < p + 1
  obtain ⟨j, hj⟩ : ∃ j, t = s + f + j := ⟨t - s - f, by omega⟩
  rw [hj, Nat.pow_add, Nat.pow_add] at g1 g2
  have y1 : C * (10 ^ s * 10 ^ f * 10 ^ j) = C * 10 ^ j * (10 ^ s * 10 ^ f) := by grind
  have y2 : (p + 1) * 10 ^ s * 10 ^ f = (p + 1) * (10 ^ s * 10 ^ f) := Nat.mul_assoc _ _ _
  have y3 : p * 10 ^ s * 10 ^ f = p * (10 ^ s * 10 ^ f) := Nat.mul_assoc _ _ _
  rw [y1, y2] at g2
  rw [y1, y3] at g1
  have z1 := Nat.lt_of_mul_lt_mul_right g1
  have z2 := Nat.lt_of_mul_lt_mul_right g2
  omega
 ·obtain ⟨j, hj⟩ : ∃ j, s + f = t + j := ⟨s + f - t, by omega⟩
  rw [Nat.mul_assoc, ← Nat.pow_add, hj, Nat.pow_add] at g1
  have y1 : p * (10 ^ t * 10 ^ j) = p * 10 ^ j * 10 ^ t := by grind
  rw [y1] at g1
  have z1 := Nat.lt_of_mul_lt_mul_right g1
  have z2 : p * 1 ≤ p * 10 ^ j := Nat.mul_le_mul_left _ (Nat.pow_pos (by omega))
  omega
theorem Yl {u u' W : Nat} (h : u ≤ u') : Cn u W ≤ Cn u' W := by
 have e1 := Nat.div_add_mod u W
 have e2 := Nat.div_add_mod u' W
 have hq : u / W ≤ u' / W := Nat.div_le_div_right h
 unfold Cn
 have hb : ∀ b : Bool, b.toNat ≤ 1 := Bool.toNat_le
 rcases Nat.eq_or_lt_of_le hq with h1 | h1
 ·rw [h1] at e1 ⊢
  have hr : u % W ≤ u' % W := by omega
  refine Nat.add_le_add_left ?_ _
  generalize u % W = r at *
  generalize u' % W = r' at *
  generalize u' / W = q at *
  by_cases c1 : W < 2 * r'
  ·rw [decide_eq_true c1, Bool.true_or]
   exact hb _
  ·rw [decide_eq_false c1, decide_eq_false (show ¬ W < 2 * r by omega), Bool.false_or, Bool.false_or]
   by_cases c2 : W = 2 * r
   ·rw [decide_eq_true c2, decide_eq_true (show W = 2 * r' by omega)]
    exact Nat.le_refl _
   ·rw [decide_eq_false c2, Bool.false_and]
    exact Nat.zero_le _
 ·have := hb (decide (W < 2 * (u % W)) || (decide (W = 2 * (u % W)) && decide (u / W % 2 = 1)))
  omega
theorem El {u u' v : Nat} (hv : 0 < v) (h : u ≤ u') : rnd u v ≤ rnd u' v := by
 obtain ⟨D, hD⟩ : ∃ D, Bk u v = D := ⟨_, rfl⟩
 obtain ⟨D', hD'⟩ : ∃ D', Bk u' v = D' := ⟨_, rfl⟩
 have hDD : D ≤ D' := by
  rw [← hD, ← hD']
  unfold Bk
  have h1 : u / v ≤ u' / v := Nat.div_le_div_right h
  rcases Nat.eq_zero_or_pos (u / v) with h0 | h0
  ·rw [h0, show Nat.log2 0 = 0 by decide]; omega
  ·have a1 := (Di _ h0).1
   have := (Nat.le_log2 (show u' / v ≠ 0 by omega)).2 (Nat.le_trans a1 h1)
   omega
 obtain ⟨s1, s2⟩ := Ef hv hD
 obtain ⟨s1', s2'⟩ := Ef hv hD'
 unfold rnd
 rw [hD, hD']
 refine Nat.le_min.2 ⟨Nat.le_trans (Nat.min_le_left _ _) ?_, Nat.min_le_right _ _⟩
 rcases Nat.eq_or_lt_of_le hDD with h1 | h1
 ·rw [← h1]
  have hm := Yl (W := 2 ^ D * v) h
  exact Nat.add_le_add_left hm _
 ·have c1 : Cn u (2 ^ D * v) ≤ 9007199254740992 := Wr (Nat.mul_pos (Nat.two_pow_pos D) hv) (by rw [← Nat.mul_assoc]; exact Nat.le_of_lt s2)
  have c2 : 4503599627370496 ≤ Cn u' (2 ^ D' * v) := Np (Nat.mul_pos (Nat.two_pow_pos D') hv) (by rw [← Nat.mul_assoc]; exact s1'.resolve_left (by omega))
  have c3 : (D + 1) * 4503599627370496 ≤ D' * 4503599627370496 := Nat.mul_le_mul_right _ h1
  generalize Cn u (2 ^ D * v) = x at *
  generalize Cn u' (2 ^ D' * v) = y at *
  omega
theorem Ro {u v u' v' : Nat} (hv : 0 < v) (hv' : 0 < v') (h : u * v' ≤ u' * v) : rnd u v ≤ rnd u' v' := by
 rw [← Gg (u := u) (v := v) hv', ← Gg (u := u') (v := v') hv, Nat.mul_comm v' v]
 exact El (Nat.mul_pos hv hv') h
theorem Cs (r : Nat) : ∃ D c, r = D * 4503599627370496 + c ∧ c < 9007199254740992 ∧ (D = 0 ∨ 4503599627370496 ≤ c) ∧ Ac r = c * 2 ^ D ∧ Ac (r + 1) = (c + 1) * 2 ^ D := by
 obtain ⟨c, D, h1, h2, h3, h4⟩ := Yp r
 refine ⟨D, c, h1, h3, h4, h2, ?_⟩
 rcases Nat.eq_or_lt_of_le (show c + 1 ≤ 9007199254740992 by omega) with h | h
 ·have e : r + 1 = (D + 1) * 4503599627370496 + 4503599627370496 := by omega
  rw [e, Ap _ _ (by omega) (by omega), h, Nat.pow_succ, Nat.mul_comm (2 ^ D) 2, ← Nat.mul_assoc]
 ·rcases h4 with h5 | h5
  ·have e : r + 1 = c + 1 := by rw [h1, h5]; omega
   rw [e, h5, Nat.pow_zero, Nat.mul_one]
   exact Dl h
  ·have e : r + 1 = D * 4503599627370496 + (c + 1) := by omega
   rw [e, Ap _ _ (by omega) h]
theorem Kd {u v r : Nat} (hv : 0 < v) (hr : r < 9218868437227405312) (h1 : Ac r * v ≤ u) (h2 : u < Ac (r + 1) * v) :
  rnd u v = if 2 * u < (Ac r + Ac (r + 1)) * v then r else if 2 * u = (Ac r + Ac (r + 1)) * v ∧ r % 2 = 0 then r else r + 1 := by
 obtain ⟨D, c, e1, e2, e3, e4, e5⟩ := Cs r
 have hp := Nat.two_pow_pos D
 rw [e4] at h1
 rw [e5] at h2
 rw [e4, e5]
 have hpl : Bk u v = D := by
  refine Dz hv ?_ ?_
  ·rcases e3 with h | h
   ·exact Or.inl h
   ·exact Or.inr (Nat.le_trans (Nat.mul_le_mul_right _ (Nat.mul_le_mul_right _ h)) h1)
  ·exact Nat.lt_of_lt_of_le h2 (Nat.mul_le_mul_right _ (Nat.mul_le_mul_right _ (by omega)))
 obtain ⟨W, hW⟩ : ∃ W, 2 ^ D * v = W := ⟨_, rfl⟩
 have hW0 : 0 < W := by rw [← hW]; exact Nat.mul_pos hp hv
 rw [Nat.mul_assoc, hW] at h1
 rw [Nat.mul_assoc, hW, Nat.add_mul, Nat.one_mul] at h2
 have hS : (c * 2 ^ D + (c + 1) * 2 ^ D) * v = 2 * (c * W) + W := by
  rw [← hW]; grind
 rw [hS]
 have hq : u / W = c := by
  have l1 : c ≤ u / W := (Nat.le_div_iff_mul_le hW0).2 h1
  have l2 : u / W < c + 1 := (Nat.div_lt_iff_lt_mul hW0).2 (by rw [Nat.add_mul, Nat.one_mul]; exact h2)
  omega
 have hm := Nat.div_add_mod u W
 rw [hq, Nat.mul_comm W c] at hm
 have hpar : r % 2 = c % 2 := by omega
 have hrnd : rnd u v = min (D * 4503599627370496 + Cn u W) 9218868437227405312 := by unfold rnd; rw [hpl, hW]
 rw [hrnd]
 unfold Cn
 rw [hq]
 generalize u % W = t at *
 generalize c * W = X at *
 have top : ∀ z, z ≤ 9218868437227405312 → min z 9218868437227405312 = z := fun z hz => Nat.min_eq_left hz
 by_cases k1 : 2 * u < 2 * X + W
 ·rw [if_pos k1, decide_eq_false (by omega), decide_eq_false (by omega), Bool.false_and, Bool.or_false]
  rw [Bool.toNat_false, Nat.add_zero, ← e1]
  exact top r (Nat.le_of_lt hr)
 ·rw [if_neg k1]
  by_cases k2 : 2 * u = 2 * X + W
  ·rw [decide_eq_false (show ¬ W < 2 * t by omega), decide_eq_true (show W = 2 * t by omega), Bool.false_or, Bool.true_and]
   rcases Nat.mod_two_eq_zero_or_one c with hc | hc
   ·rw [if_pos ⟨k2, by omega⟩, decide_eq_false (by omega), Bool.toNat_false, Nat.add_zero, ← e1]
    exact top r (Nat.le_of_lt hr)
   ·rw [if_neg (by omega), decide_eq_true hc, Bool.toNat_true, ← Nat.add_assoc, ← e1]
    exact top (r + 1) hr
  ·rw [if_neg (fun h => k2 h.1), decide_eq_true (show W < 2 * t by omega), Bool.true_or, Bool.toNat_true, ← Nat.add_assoc, ← e1]
   exact top (r + 1) hr
theorem Hv {v r : Nat} (hv : 0 < v) (hr : r < 9218868437227405312) : rnd (Ac r * v) v = r := by
 have hlt : Ac r < Ac (r + 1) := Bf (by omega)
 have h1 : Ac r * v < Ac (r + 1) * v := Nat.mul_lt_mul_of_pos_right hlt hv
 rw [Kd hv hr (Nat.le_refl _) h1, if_pos]
 rw [Nat.add_mul]; omega
theorem Jk {u v : Nat} (hv : 0 < v) (h : Ac 9218868437227405312 * v ≤ u) : rnd u v = 9218868437227405312 := by
 have h1 : rnd (Ac 9218868437227405312 * v) v = 9218868437227405312 := by
  obtain ⟨D, c, e1, e2, e3, e4, _⟩ := Cs 9218868437227405312
  have hp := Nat.two_pow_pos D
  have hc : 4503599627370496 ≤ c := by
   rcases e3 with h | h
   ·rw [h, Nat.zero_mul, Nat.zero_add] at e1; omega
   ·exact h
  have hpl : Bk (Ac 9218868437227405312 * v) v = D := by
   rw [e4]
   refine Dz hv (Or.inr (Nat.mul_le_mul_right _ (Nat.mul_le_mul_right _ hc))) (Nat.mul_lt_mul_of_pos_right (Nat.mul_lt_mul_of_pos_right e2 hp) hv)
  unfold rnd
  rw [hpl, e4, Nat.mul_assoc]
  have : c ≤ Cn (c * (2 ^ D * v)) (2 ^ D * v) := Np (Nat.mul_pos hp hv) (Nat.le_refl _)
  refine Nat.min_eq_right ?_
  rw [e1]
  exact Nat.add_le_add_left this _
 have h2 := El hv h
 rw [h1] at h2
 have h3 : rnd u v ≤ 9218868437227405312 := Nat.min_le_right _ _
 exact Nat.le_antisymm h3 h2
theorem Aet {u v r : Nat} (hv : 0 < v) (h0 : 0 < r) (hr : r < 9218868437227405312) :
  rnd u v = r ↔ ((Ac (r - 1) + Ac r) * v < 2 * u ∨ ((Ac (r - 1) + Ac r) * v = 2 * u ∧ r % 2 = 0)) ∧ (2 * u < (Ac r + Ac (r + 1)) * v ∨ (2 * u = (Ac r + Ac (r + 1)) * v ∧ r % 2 = 0)) := by
 obtain ⟨p, rfl⟩ : ∃ p, r = p + 1 := ⟨r - 1, by omega⟩
 rw [Nat.add_sub_cancel]
 have l1 : Ac p * v < Ac (p + 1) * v := Nat.mul_lt_mul_of_pos_right (Bf (by omega)) hv
 have l2 : Ac (p + 1) * v < Ac (p + 1 + 1) * v := Nat.mul_lt_mul_of_pos_right (Bf (by omega)) hv
 have s1 : (Ac p + Ac (p + 1)) * v = Ac p * v + Ac (p + 1) * v := Nat.add_mul _ _ _
 have s2 : (Ac (p + 1) + Ac (p + 1 + 1)) * v = Ac (p + 1) * v + Ac (p + 1 + 1) * v := Nat.add_mul _ _ _
 rcases Nat.lt_or_ge u (Ac (p + 1) * v) with hlt | hge
 ·rcases Nat.lt_or_ge u (Ac p * v) with hlow | hlow
  ·-- below the lower neighbour
   constructor
   ·intro h
    have := El hv (Nat.le_of_lt hlow)
    rw [Hv hv (by omega), h] at this
    omega
   ·intro h; omega
  ·rw [Kd hv (by omega) hlow hlt]
   constructor
   ·intro h
    by_cases k1 : 2 * u < (Ac p + Ac (p + 1)) * v
    ·rw [if_pos k1] at h; omega
    ·rw [if_neg k1] at h
     by_cases k2 : 2 * u = (Ac p + Ac (p + 1)) * v ∧ p % 2 = 0
     ·rw [if_pos k2] at h; omega
     ·refine ⟨?_, Or.inl (by omega)⟩
      rcases Nat.lt_or_ge ((Ac p + Ac (p + 1)) * v) (2 * u) with h3 | h3
      ·exact Or.inl h3
      ·refine Or.inr ⟨by omega, ?_⟩
       have : ¬ p % 2 = 0 := fun hp => k2 ⟨by omega, hp⟩
       omega
   ·rintro ⟨h, _⟩
    rw [if_neg (by omega), if_neg (by omega)]
 ·rcases Nat.lt_or_ge u (Ac (p + 1 + 1) * v) with hup | hup
  ·rw [Kd hv hr hge hup]
   constructor
   ·intro h
    refine ⟨Or.inl (by omega), ?_⟩
    by_cases k1 : 2 * u < (Ac (p + 1) + Ac (p + 1 + 1)) * v
    ·exact Or.inl k1
    ·rw [if_neg k1] at h
     by_cases k2 : 2 * u = (Ac (p + 1) + Ac (p + 1 + 1)) * v ∧ (p + 1) % 2 = 0
     ·exact Or.inr k2
     ·rw [if_neg k2] at h; omega
   ·rintro ⟨_, h⟩
    rcases h with h | h
    ·rw [if_pos h]
    ·rw [if_neg (by omega), if_pos h]
  ·constructor
   ·intro h
    exfalso
    rcases Nat.eq_or_lt_of_le (show p + 1 + 1 ≤ 9218868437227405312 by omega) with h3 | h3
    ·rw [h3] at hup
     rw [Jk hv hup] at h
     omega
    ·have := El hv hup
     rw [Hv hv h3, h] at this
     omega
   ·intro h; omega
theorem H0 {S w c : Nat} {ev : Bool} (hw : 0 < w) : (S < c * w ∨ (S = c * w ∧ ev = true)) ↔ S / w + (if S % w = 0 ∧ ev = true then 0 else 1) ≤ c := by
 have e1 := Nat.div_add_mod S w
 have e2 := Nat.mod_lt S hw
 obtain ⟨f, hf⟩ : ∃ f, S / w = f := ⟨_, rfl⟩
 rw [hf, Nat.mul_comm] at e1
 rw [hf]
 have a1 : S < c * w ↔ f + 1 ≤ c := by
  constructor
  ·intro h
   rcases Nat.lt_or_ge f c with h1 | h1
   ·exact h1
   ·have : c * w ≤ f * w := Nat.mul_le_mul_right _ h1
    omega
  ·intro h
   have : (f + 1) * w ≤ c * w := Nat.mul_le_mul_right _ h
   rw [Nat.add_mul, Nat.one_mul] at this
   omega
 have a2 : S = c * w ↔ S % w = 0 ∧ f = c := by
  constructor
  ·intro h
   have h1 : S % w = 0 := by rw [h, Nat.mul_mod_left]
   refine ⟨h1, ?_⟩
   rw [← hf, h, Nat.mul_div_cancel _ hw]
  ·rintro ⟨h1, h2⟩
   rw [h1, Nat.add_zero, h2] at e1
   exact e1.symm
 rw [a1, a2]
 by_cases h : S % w = 0 ∧ ev = true
 ·rw [if_pos h]
  have h1 := h.1
  have h2 := h.2
  constructor
  ·rintro (h3 | ⟨⟨_, h3⟩, _⟩) <;> omega
  ·intro h3
   rcases Nat.eq_or_lt_of_le (show f ≤ c by omega) with h4 | h4
   ·exact Or.inr ⟨⟨h1, h4⟩, h2⟩
   ·exact Or.inl h4
 ·rw [if_neg h]
  constructor
  ·rintro (h3 | ⟨⟨h3, _⟩, h4⟩)
   ·exact h3
   ·exact absurd ⟨h3, h4⟩ h
  ·intro h3; exact Or.inl h3
theorem K5 {S w c : Nat} {ev : Bool} (hw : 0 < w) : (c * w < S ∨ (c * w = S ∧ ev = true)) ↔ c + (if S % w = 0 ∧ ev = false then 1 else 0) ≤ S / w := by
 have e1 := Nat.div_add_mod S w
 have e2 := Nat.mod_lt S hw
 obtain ⟨f, hf⟩ : ∃ f, S / w = f := ⟨_, rfl⟩
 rw [hf, Nat.mul_comm] at e1
 rw [hf]
 have a1 : c * w ≤ S ↔ c ≤ f := by
  rw [← hf, Nat.le_div_iff_mul_le hw]
 have a2 : c * w = S ↔ S % w = 0 ∧ c = f := by
  constructor
  ·intro h
   have h1 : S % w = 0 := by rw [← h, Nat.mul_mod_left]
   refine ⟨h1, ?_⟩
   rw [← hf, ← h, Nat.mul_div_cancel _ hw]
  ·rintro ⟨h1, h2⟩
   rw [h1, Nat.add_zero] at e1
   rw [h2]
   exact e1
 have a3 : c * w < S ↔ c ≤ f ∧ ¬ (S % w = 0 ∧ c = f) := by
  rw [← a1, ← a2]
  omega
 rw [a3, a2]
 cases ev
 ·by_cases h : S % w = 0
  ·rw [if_pos ⟨h, rfl⟩]
   constructor
   ·rintro (⟨h1, h2⟩ | ⟨_, h2⟩)
    ·have : c ≠ f := fun h3 => h2 ⟨h, h3⟩
     omega
    ·cases h2
   ·intro h1; exact Or.inl ⟨by omega, fun h2 => by omega⟩
  ·rw [if_neg (fun h1 => h h1.1)]
   constructor
   ·rintro (⟨h1, _⟩ | ⟨⟨h1, _⟩, _⟩)
    ·exact h1
    ·exact absurd h1 h
   ·intro h1; exact Or.inl ⟨h1, fun h2 => h h2.1⟩
 ·rw [if_neg (by simp)]
  constructor
  ·rintro (⟨h1, _⟩ | ⟨⟨_, h1⟩, _⟩) <;> omega
  ·intro h1
   by_cases h2 : S % w = 0 ∧ c = f
   ·exact Or.inr ⟨h2, rfl⟩
   ·exact Or.inl ⟨h1, h2⟩
theorem Ds {a b c d : Nat} (hb : 0 < b) (hd : 0 < d) (h : a * d = c * b) : a / b = c / d ∧ (2 * (a % b) < b ↔ 2 * (c % d) < d) ∧ (2 * (a % b) = b ↔ 2 * (c % d) = d) := by
 have h1 : a * d / (b * d) = a / b := Nat.mul_div_mul_right _ _ hd
 have h2 : c * b / (d * b) = c / d := Nat.mul_div_mul_right _ _ hb
 have h3 : a * d % (b * d) = a % b * d := Nat.mul_mod_mul_right _ _ _
 have h4 : c * b % (d * b) = c % d * b := Nat.mul_mod_mul_right _ _ _
 rw [h, Nat.mul_comm b d] at h1 h3
 rw [h2] at h1
 rw [h4] at h3
 refine ⟨h1.symm, ?_, ?_⟩
 ·have e1 : 2 * (a % b) < b ↔ 2 * (a % b * d) < b * d := by
   rw [← Nat.mul_assoc]; exact (Nat.mul_lt_mul_right hd).symm
  have e2 : 2 * (c % d) < d ↔ 2 * (c % d * b) < d * b := by
   rw [← Nat.mul_assoc]; exact (Nat.mul_lt_mul_right hb).symm
  rw [e1, e2, h3, Nat.mul_comm b d]
 ·have e1 : 2 * (a % b) = b ↔ 2 * (a % b * d) = b * d := by
   rw [← Nat.mul_assoc]
   exact ⟨fun x => by rw [x], fun x => Nat.eq_of_mul_eq_mul_right hd x⟩
  have e2 : 2 * (c % d) = d ↔ 2 * (c % d * b) = d * b := by
   rw [← Nat.mul_assoc]
   exact ⟨fun x => by rw [x], fun x => Nat.eq_of_mul_eq_mul_right hb x⟩
  rw [e1, e2, h3, Nat.mul_comm b d]
theorem Xp {U V half : Nat} (hV : 0 < V) : U / (V * (2 * half)) = U / V / (2 * half) ∧ (2 * (U % (V * (2 * half))) < V * (2 * half) ↔ U / V % (2 * half) < half) ∧ (2 * (U % (V * (2 * half))) = V * (2 * half) ↔ U / V % (2 * half) = half ∧ U % V = 0) := by
 refine ⟨(Nat.div_div_eq_div_mul U V (2 * half)).symm, ?_⟩
 rw [Nat.mod_mul]
 have ht := Nat.mod_lt U hV
 generalize U % V = t at *
 generalize U / V % (2 * half) = h at *
 have e : V * (2 * half) = 2 * (V * half) := by grind
 rw [e]
 constructor
 ·constructor
  ·intro h1
   have h2 : V * h < V * half := by omega
   exact Nat.lt_of_mul_lt_mul_left h2
  ·intro h1
   have h2 : V * (h + 1) ≤ V * half := Nat.mul_le_mul_left _ h1
   rw [Nat.mul_add, Nat.mul_one] at h2
   omega
 ·constructor
  ·intro h1
   have h2 : t + V * h = V * half := by omega
   have h3 : h = half := by
    rcases Nat.lt_trichotomy h half with h4 | h4 | h4
    ·have h5 : V * (h + 1) ≤ V * half := Nat.mul_le_mul_left _ h4
     rw [Nat.mul_add, Nat.mul_one] at h5
     omega
    ·exact h4
    ·have h5 : V * (half + 1) ≤ V * h := Nat.mul_le_mul_left _ h4
     rw [Nat.mul_add, Nat.mul_one] at h5
     omega
   rw [h3] at h2
   exact ⟨h3, by omega⟩
  ·rintro ⟨h1, h2⟩
   rw [h1, h2]; omega
theorem W7 {A B r : Nat} (hA : 0 < A) (hB : 0 < B) (h0 : 0 < r) (hr : r < 9218868437227405312) {S1 S2 : Nat} (h1 : S1 = Ac (r - 1) + Ac r) (h2 : S2 = Ac r + Ac (r + 1)) (c : Nat) :
  rnd (c * A) B = r ↔ S1 * B / (2 * A) + (if S1 * B % (2 * A) = 0 ∧ (decide (r % 2 = 0)) = true then 0 else 1) ≤ c ∧ c + (if S2 * B % (2 * A) = 0 ∧ (decide (r % 2 = 0)) = false then 1 else 0) ≤ S2 * B / (2 * A) := by
 rw [Aet hB h0 hr, ← h1, ← h2]
 have e : 2 * (c * A) = c * (2 * A) := by grind
 rw [e, ← H0 (ev := decide (r % 2 = 0)) (Nat.mul_pos (by omega) hA), ← K5 (ev := decide (r % 2 = 0)) (Nat.mul_pos (by omega) hA)]
 simp only [decide_eq_true_eq]
theorem Nc {u v u' v' : Nat} (hv : 0 < v) (hv' : 0 < v') (h : u * v' = u' * v) : rnd u v = rnd u' v' := by
 rw [← Gg (u := u) (v := v) hv', ← Gg (u := u') (v := v') hv, h, Nat.mul_comm v' v]
theorem Ah0 {r : Nat} (h0 : 0 < r) : Ac r ≤ 9007199254740992 * (Ac r - Ac (r - 1)) ∧ Ac r ≤ 9007199254740992 * (Ac (r + 1) - Ac r) := by
 obtain ⟨D, c, e1, e2, e3, e4, e5⟩ := Cs r
 have hp := Nat.two_pow_pos D
 have hup : Ac (r + 1) - Ac r = 2 ^ D := by rw [e4, e5, Nat.add_mul, Nat.one_mul]; omega
 have hle : c * 2 ^ D ≤ 9007199254740992 * 2 ^ D := Nat.mul_le_mul_right _ (by omega)
 refine ⟨?_, by rw [hup, e4]; exact hle⟩
 obtain ⟨D', c', f1, f2, f3, f4, f5⟩ := Cs (r - 1)
 rw [show r - 1 + 1 = r by omega] at f5
 have hp' := Nat.two_pow_pos D'
 have hdn : Ac r - Ac (r - 1) = 2 ^ D' := by rw [f4, f5, Nat.add_mul, Nat.one_mul]; omega
 rw [hdn]
 rw [f5]
 exact Nat.mul_le_mul_right _ (by omega)
theorem Up {A B r : Nat} (hA : 0 < A) (hB : 0 < B) (h0 : 0 < r) (hbig : 100000000000000000 * A ≤ Ac r * B) {S1 S2 : Nat} (h1 : S1 = Ac (r - 1) + Ac r) (h2 : S2 = Ac r + Ac (r + 1)) :
  ∃ c, S1 * B < 2 * (10 * c * A) ∧ 2 * (10 * c * A) < S2 * B := by
 obtain ⟨g1, g2⟩ := Ah0 h0
 have k1 : Ac (r - 1) < Ac r := Bf (by omega)
 have k2 : Ac r < Ac (r + 1) := Bf (by omega)
 obtain ⟨X, hX⟩ : ∃ X, Ac r = X := ⟨_, rfl⟩
 rw [hX] at g1 g2 k1 k2 hbig h1 h2
 obtain ⟨a, ha⟩ : ∃ a, X = Ac (r - 1) + a := ⟨X - Ac (r - 1), by omega⟩
 obtain ⟨b, hb⟩ : ∃ b, Ac (r + 1) = X + b := ⟨Ac (r + 1) - X, by omega⟩
 rw [show X - Ac (r - 1) = a by omega] at g1
 rw [show Ac (r + 1) - X = b by omega] at g2
 -- the ends, in units of B
 have e1 : S1 * B + a * B = 2 * (X * B) := by rw [h1, ← Nat.add_mul, show Ac (r - 1) + X + a = 2 * X by omega, Nat.mul_assoc]
 have e2 : S2 * B = 2 * (X * B) + b * B := by rw [h2, hb, show X + (X + b) = 2 * X + b by omega, Nat.add_mul, Nat.mul_assoc]
 have a1 : X * B ≤ 9007199254740992 * (a * B) := by rw [← Nat.mul_assoc]; exact Nat.mul_le_mul_right _ g1
 have a2 : X * B ≤ 9007199254740992 * (b * B) := by rw [← Nat.mul_assoc]; exact Nat.mul_le_mul_right _ g2
 have pa : 0 < a * B := Nat.mul_pos (by omega) hB
 have pb : 0 < b * B := Nat.mul_pos (by omega) hB
 -- the greatest multiple of 20 A below the lower end
 obtain ⟨q, hq⟩ : ∃ q, S1 * B / (2 * (10 * A)) = q := ⟨_, rfl⟩
 have hw : 0 < 2 * (10 * A) := by omega
 have m1 := Nat.div_add_mod (S1 * B) (2 * (10 * A))
 have m2 := Nat.mod_lt (S1 * B) hw
 rw [hq] at m1
 refine ⟨q + 1, ?_, ?_⟩
 ·have e : 2 * (10 * (q + 1) * A) = 2 * (10 * A) * q + 2 * (10 * A) := by grind
  omega
 ·have e : 2 * (10 * (q + 1) * A) = 2 * (10 * A) * q + 2 * (10 * A) := by grind
  -- 20 A is less than both halves of the ways together
  omega
def Ca (A B r : Nat) : Nat := (Ac (r - 1) + Ac r) * B / (2 * A) + (if (Ac (r - 1) + Ac r) * B % (2 * A) = 0 ∧ decide (r % 2 = 0) = true then 0 else 1)
def Dc (A B r c : Nat) : Prop := c + (if (Ac r + Ac (r + 1)) * B % (2 * A) = 0 ∧ decide (r % 2 = 0) = false then 1 else 0) ≤ (Ac r + Ac (r + 1)) * B / (2 * A)
theorem R7 {A B r : Nat} (hA : 0 < A) (hB : 0 < B) (h0 : 0 < r) (hr : r < 9218868437227405312) (c : Nat) : rnd (c * A) B = r ↔ Ca A B r ≤ c ∧ Dc A B r c := by
 unfold Ca Dc
 exact W7 hA hB h0 hr rfl rfl c
theorem Ac0 {A B r c : Nat} (hA : 0 < A) (hB : 0 < B) (hc : c * A ≤ Ac r * B) : Dc A B r c := by
 unfold Dc
 rw [← K5 (ev := decide (r % 2 = 0)) (Nat.mul_pos (by omega) hA)]
 refine Or.inl ?_
 have k2 : Ac r < Ac (r + 1) := Bf (by omega)
 have h1 : (Ac r + Ac r) * B < (Ac r + Ac (r + 1)) * B := Nat.mul_lt_mul_of_pos_right (by omega) hB
 have e : c * (2 * A) = 2 * (c * A) := by grind
 have e2 : (Ac r + Ac r) * B = 2 * (Ac r * B) := by grind
 omega
theorem Adt {A B r c : Nat} (hA : 0 < A) (h0 : 0 < r) (hB : 0 < B) (hc : Ac r * B < c * A) : Ca A B r ≤ c := by
 unfold Ca
 rw [← H0 (ev := decide (r % 2 = 0)) (Nat.mul_pos (by omega) hA)]
 refine Or.inl ?_
 have k1 : Ac (r - 1) < Ac r := Bf (by omega)
 have h1 : (Ac (r - 1) + Ac r) * B ≤ (Ac r + Ac r) * B := Nat.mul_le_mul_right _ (by omega)
 have e : c * (2 * A) = 2 * (c * A) := by grind
 have e2 : (Ac r + Ac r) * B = 2 * (Ac r * B) := by grind
 have := hB
 omega
theorem Vg {A B r unit : Nat} (hA : 0 < A) (hB : 0 < B) (h0 : 0 < r) (hr : r < 9218868437227405312) : rnd (Ac r * B / A / unit * unit * A) B = r ↔ Ca A B r ≤ Ac r * B / A / unit * unit := by
 rw [R7 hA hB h0 hr]
 refine ⟨fun h => h.1, fun h => ⟨h, Ac0 hA hB ?_⟩⟩
 have h1 : Ac r * B / A / unit * unit ≤ Ac r * B / A := Nat.div_mul_le_self _ _
 exact Nat.le_trans (Nat.mul_le_mul_right _ h1) (Nat.div_mul_le_self _ _)
theorem Rj {A B r unit : Nat} (hA : 0 < A) (hB : 0 < B) (hu : 0 < unit) (h0 : 0 < r) (hr : r < 9218868437227405312) : rnd ((Ac r * B / A / unit + 1) * unit * A) B = r ↔ Dc A B r ((Ac r * B / A / unit + 1) * unit) := by
 rw [R7 hA hB h0 hr]
 refine ⟨fun h => h.2, fun h => ⟨Adt hA h0 hB ?_, h⟩⟩
 obtain ⟨H, hH⟩ : ∃ H, Ac r * B / A = H := ⟨_, rfl⟩
 rw [hH]
 have h1 : H < (H / unit + 1) * unit := by
  have e1 := Nat.div_add_mod H unit
  have e2 := Nat.mod_lt H hu
  rw [Nat.add_mul, Nat.one_mul, Nat.mul_comm (H / unit)]
  omega
 have h2 : Ac r * B < (H + 1) * A := by
  rw [← hH]
  have e1 := Nat.div_add_mod (Ac r * B) A
  have e2 := Nat.mod_lt (Ac r * B) hA
  rw [Nat.add_mul, Nat.one_mul, Nat.mul_comm (Ac r * B / A)]
  omega
 exact Nat.lt_of_lt_of_le h2 (Nat.mul_le_mul_right _ h1)
theorem Xq {A B r : Nat} (hA : 0 < A) (hB : 0 < B) (h0 : 0 < r) (hbig : 100000000000000000 * A ≤ Ac r * B) :
  Ca A B r ≤ Ac r * B / A / 10 * 10 ∨ Dc A B r ((Ac r * B / A / 10 + 1) * 10) := by
 obtain ⟨c, c1, c2⟩ := Up hA hB h0 hbig rfl rfl
 have w : 0 < 2 * A := Nat.mul_pos (by omega) hA
 have l1 : Ca A B r ≤ 10 * c := by
  unfold Ca
  rw [← H0 (ev := decide (r % 2 = 0)) w]
  refine Or.inl ?_
  have e : 10 * c * (2 * A) = 2 * (10 * c * A) := by grind
  omega
 have m1 : Dc A B r (10 * c) := by
  unfold Dc
  rw [← K5 (ev := decide (r % 2 = 0)) w]
  refine Or.inl ?_
  have e : 10 * c * (2 * A) = 2 * (10 * c * A) := by grind
  omega
 obtain ⟨H, hH⟩ : ∃ H, Ac r * B / A = H := ⟨_, rfl⟩
 rw [hH]
 rcases Nat.lt_or_ge (H / 10) c with h | h
 ·right
  unfold Dc at m1 ⊢
  have : (H / 10 + 1) * 10 ≤ 10 * c := by omega
  omega
 ·left
  have : 10 * c ≤ H / 10 * 10 := by omega
  omega
end
section
def Bh (x : Nat) : Bool := decide (9218868437227405312 < Aw x)
def Ee (x : Nat) : Bool := decide (Aw x = 9218868437227405312)
theorem Aa8 (x : Nat) : (FloatKind.f64.format.order x x != some .eq) = Bh x := by
 unfold Bh
 show (Ieee.double.order x x != some .eq) = _
 by_cases h : 9218868437227405312 < Aw x
 ·rw [Do (.inl h), decide_eq_true h]; rfl
 ·rw [Cz (by omega) (by omega), decide_eq_false h]
  have : compare (De x) (De x) = .eq := by simp [compare, compareOfLessAndEq]
  rw [this]; rfl
theorem Td (a b : Int) : (some (compare a b) == some Ordering.lt) = decide (a < b) := by
 simp only [compare, compareOfLessAndEq]
 by_cases h : a < b
 ·simp [h]
 ·by_cases h2 : a = b
  ·simp [h2]
  ·simp [h, h2]
theorem Agr (a b : Int) : (some (compare a b) == some Ordering.gt) = decide (b < a) := by
 simp only [compare, compareOfLessAndEq]
 by_cases h : a < b
 ·simp [h]; omega
 ·by_cases h2 : a = b
  ·simp [h2]
  ·simp [h, h2]; omega
theorem Aa6 (a b : Int) : (some (compare a b) == some Ordering.eq) = decide (a = b) := by
 simp only [compare, compareOfLessAndEq]
 by_cases h : a < b
 ·simp [h]; omega
 ·by_cases h2 : a = b
  ·simp [h2]
  ·simp [h, h2]
theorem Mx (x : Nat) : (FloatKind.f64.format.order x 0 == some .lt) = (!Bh x && (Bj x && decide (0 < Aw x))) := by
 show (Ieee.double.order x 0 == some .lt) = _
 unfold Bh
 by_cases h : 9218868437227405312 < Aw x
 ·rw [Do (.inl h), decide_eq_true h]; rfl
 ·rw [Cz (by omega) (by decide), decide_eq_false h, Td]
  have e : De 0 = 0 := by decide
  rw [e]
  unfold De
  cases Bj x <;> simp <;> omega
theorem Fd (x : Nat) : (FloatKind.f64.format.order x 0 == some .eq) = decide (Aw x = 0) := by
 show (Ieee.double.order x 0 == some .eq) = _
 by_cases h : 9218868437227405312 < Aw x
 ·rw [Do (.inl h)]
  have : ¬ Aw x = 0 := by omega
  rw [decide_eq_false this]; rfl
 ·rw [Cz (by omega) (by decide), Aa6]
  have e : De 0 = 0 := by decide
  rw [e]
  unfold De
  cases Bj x <;> simp
theorem Px (x : Nat) : (FloatKind.f64.format.order x 9218868437227405311 == some .gt) = (Ee x && !Bj x) := by
 show (Ieee.double.order x 9218868437227405311 == some .gt) = _
 unfold Ee
 by_cases h : 9218868437227405312 < Aw x
 ·rw [Do (.inl h)]
  have : ¬ Aw x = 9218868437227405312 := by omega
  rw [decide_eq_false this]; rfl
 ·rw [Cz (by omega) (by decide), Agr]
  have e : De 9218868437227405311 = 9218868437227405311 := by decide
  rw [e]
  unfold De
  cases Bj x
  ·simp; omega
  ·simp
theorem Bn (x : Nat) (w : World) : Cq 41 #[.float .f64 x] (.bool (Bh x)) w := by
 have h := Aa8 x
 go_enter Tryz.func41, Tryz.ntmps41
 go_wp2
 go_ret
 exact ⟨by rw [← h]; rfl, rfl⟩
theorem S9 (x : Nat) (w : World) : Cq 114 #[.float .f64 x, .int .i64 1] (.bool (Ee x && !Bj x)) w := by
 have h := Px x
 go_enter Tryz.func114, Tryz.ntmps114
 go_wp2
 go_ret
 exact ⟨by rw [← h]; rfl, rfl⟩
theorem Pn (x : Nat) (hx : x < 18446744073709551616) : bits BinOp.andNot IntKind.u64 (x : Int) 9223372036854775808 = ((Aw x : Nat) : Int) := by
 show IntKind.u64.wrap ((BitVec.ofInt 64 (x : Int) &&& ~~~ BitVec.ofInt 64 9223372036854775808).toNat : Int) = _
 have e1 : (BitVec.ofInt 64 (x : Int)) = BitVec.ofNat 64 x := by rw [BitVec.ofInt_natCast]
 have e2 : (~~~ BitVec.ofInt 64 9223372036854775808) = BitVec.ofNat 64 (2 ^ 63 - 1) := by decide
 rw [e1, e2, BitVec.toNat_and, BitVec.toNat_ofNat, BitVec.toNat_ofNat, Nat.mod_eq_of_lt (by omega : x < 2 ^ 64), Nat.mod_eq_of_lt (by omega : 2 ^ 63 - 1 < 2 ^ 64), Nat.and_two_pow_sub_one_eq_mod, IntKind.wrap_u64]
 unfold Aw
 omega
theorem Av (x : Nat) (w : World) : (callFunc 30 #[.float .f64 x]).run Tryz.prog w = .ok (.value (.int .u64 x)) w := by
 rw [run_callFunc_extern (e := Extern.MathFloatBits.float64bits) Tryz.func30 (by kernel_rfl) (by kernel_rfl) (by kernel_rfl) (by kernel_rfl)]
 rfl
theorem Bl (x : Nat) (w : World) : (callFunc 69 #[.int .u64 x]).run Tryz.prog w = .ok (.value (.float .f64 x)) w := by
 rw [run_callFunc_extern (e := Extern.MathFloatBits.float64frombits) Tryz.func69 (by kernel_rfl) (by kernel_rfl) (by kernel_rfl) (by kernel_rfl)]
 rfl
theorem Jl (x : Nat) (w : World) (hx : x < 18446744073709551616) : Cq 115 #[.float .f64 x] (.float .f64 (Aw x)) w := by
 have h := Pn x hx
 have h1 := Av x w
 have h2 := Bl (Aw x) w
 clear hx
 go_enter Tryz.func115, Tryz.ntmps115
 go_wp2
 go_ret
 exact ⟨by rfl, rfl⟩
theorem Mw (x : Nat) : Aw (Aw x) = Aw x ∧ Bj (Aw x) = false := by
 unfold Aw Bj
 refine ⟨by omega, ?_⟩
 rw [Nat.div_eq_of_lt (Nat.mod_lt _ (by omega))]; rfl
theorem Dy (x : Nat) (w : World) (hx : x < 18446744073709551616) : Cq 114 #[.float .f64 x, .int .i64 0] (.bool (Ee x)) w := by
 have h := Px (Aw x)
 have h2 : (Ee (Aw x) && !Bj (Aw x)) = Ee x := by
  unfold Ee
  rw [(Mw x).1, (Mw x).2]; simp
 rw [h2] at h
 have C1 := Lh (fun W => Jl x W hx)
 clear hx h2
 go_enter Tryz.func114, Tryz.ntmps114
 go_wp2_with fail
 refine Sm (C1.out _) ?_
 go_wp2
 go_ret
 exact ⟨by rw [← h]; rfl, rfl⟩
def Ci (x : Nat) : Nat := if x / 4503599627370496 = 0 then x % 4503599627370496 else x % 4503599627370496 + 4503599627370496
def Ji (x : Nat) : Int := if x / 4503599627370496 = 0 then -1074 else ((x / 4503599627370496 : Nat) : Int) - 1075
def Adp (x : Nat) : Bool := Bh x || Ee x || (Bj x && decide (0 < Aw x))
theorem Qg : ∀ n : Nat, 0 < n → ∃ k m, n = 2 ^ (k + 1) * m + 2 ^ k := by
 intro n
 induction n using Nat.strongRecOn with
 | _ n ih =>
  intro h
  by_cases h2 : n % 2 = 1
  ·exact ⟨0, n / 2, by simp; omega⟩
  ·obtain ⟨k, m, e⟩ := ih (n / 2) (by omega) (by omega)
   refine ⟨k + 1, m, ?_⟩
   rw [Nat.pow_succ 2 (k + 1), Nat.pow_succ 2 k]
   rw [Nat.pow_succ 2 k] at e
   have : n = 2 * (n / 2) := by omega
   rw [this, e]
   grind
theorem Zp (x : Nat) (hx : x < 18446744073709551616) : bits BinOp.and IntKind.u64 (x : Int) 4503599627370495 = ((x % 4503599627370496 : Nat) : Int) := by
 show IntKind.u64.wrap ((BitVec.ofInt 64 (x : Int) &&& BitVec.ofInt 64 4503599627370495).toNat : Int) = _
 have e1 : (BitVec.ofInt 64 (x : Int)) = BitVec.ofNat 64 x := by rw [BitVec.ofInt_natCast]
 have e2 : (BitVec.ofInt 64 4503599627370495) = BitVec.ofNat 64 (2 ^ 52 - 1) := by decide
 rw [e1, e2, BitVec.toNat_and, BitVec.toNat_ofNat, BitVec.toNat_ofNat, Nat.mod_eq_of_lt (by omega : x < 2 ^ 64), Nat.mod_eq_of_lt (by omega : 2 ^ 52 - 1 < 2 ^ 64), Nat.and_two_pow_sub_one_eq_mod, IntKind.wrap_u64]
 omega
theorem Zg (t : Nat) (ht : t < 4503599627370496) : bits BinOp.or IntKind.u64 (t : Int) 4503599627370496 = ((t + 4503599627370496 : Nat) : Int) := by
 rw [show (4503599627370496 : Int) = ((4503599627370496 : Nat) : Int) from rfl, E9 t 4503599627370496 (by omega) (by omega)]
 have := Nat.two_pow_add_eq_or_of_lt (i := 52) (b := t) ht 1
 rw [Nat.or_comm, show (4503599627370496 : Nat) = 2 ^ 52 * 1 from rfl, ← this, Nat.add_comm]
theorem Xv (x : Nat) (w : World) (hx : x < 9218868437227405312) : Cq 198 #[.float .f64 x] (.tuple #[.int .u64 (Ci x : Nat), .int .i64 (Ji x)]) w := by
 have h1 := Av x w
 have h2 := Zp x (by omega)
 have h3 := Zg (x % 4503599627370496) (Nat.mod_lt _ (by omega))
 unfold Ci Ji
 obtain ⟨q, hq⟩ : ∃ q, x / 4503599627370496 = q := ⟨_, rfl⟩
 obtain ⟨t, ht⟩ : ∃ t, x % 4503599627370496 = t := ⟨_, rfl⟩
 rw [ht] at h2 h3
 rw [hq, ht]
 have k1 : (x : Int) / 4503599627370496 = (q : Int) := by omega
 have k2 : IntKind.i64.wrap (q : Int) = (q : Int) := IntWalk.i64_in _ (by omega)
 have k3 : IntKind.i64.wrap (-1074 + (q : Int)) = -1074 + (q : Int) := IntWalk.i64_in _ (by omega)
 have k4 : IntKind.i64.wrap (-1074 + (q : Int) - 1) = (q : Int) - 1075 := by rw [IntWalk.i64_in _ (by omega)]; omega
 by_cases h0 : q = 0
 ·rw [if_pos h0, if_pos h0]
  have b0 : ((q : Int) == 0) = true := by rw [h0]; rfl
  clear hx hq ht h0
  go_enter Tryz.func198, Tryz.ntmps198
  go_wp2
  go_ret2
  exact ⟨rfl, rfl⟩
 ·rw [if_neg h0, if_neg h0]
  have b0 : ((q : Int) == 0) = false := by rw [beq_eq_false_iff_ne]; omega
  clear hx hq ht h0
  go_enter Tryz.func198, Tryz.ntmps198
  go_wp2
  go_ret2
  exact ⟨congrArg (fun z : Int => Ending.returned (.tuple #[.int .u64 ((t + 4503599627370496 : Nat) : Int), .int .i64 z])) (by first | exact k4 | omega), rfl⟩
theorem Lz {fn : Func} {t u v : Tmp} (h : fn.results = #[.tmp t, .tmp u, .tmp v]) (tmps : Array Value) (P : Program) (w : World) :
  (results fn tmps).run P w = .ok (.tuple #[tmps.getD t undef, tmps.getD u undef, tmps.getD v undef]) w := by
 simp [results, h]
def PartsP (x : Nat) (w : World) (e : Ending) (w' : World) : Prop :=
 ∃ k m A n c, Ci x = 2 ^ (k + 1) * m + 2 ^ k ∧ e = .returned (.tuple #[.slice A n c, .int .i64 (Ji x + (k : Nat)), .int .i64 0]) ∧ (n = (wds (2 * m + 1)).length ∧ n ≤ c ∧ RW w' w'.heap.size A (wds (2 * m + 1))) ∧ Below w.heap.size w w'
theorem Kv (n : Nat) (h : n < 18446744073709551616) : nrm (two n) = wds n := by rw [Cb (Ac6 h), Wg]
theorem Aho {x : Nat} (hx : x < 18446744073709551616) (hb : Adp x = false) : Bh x = false ∧ Ee x = false ∧ (Aw x = 0 ∨ (0 < Aw x ∧ Aw x = x ∧ x < 9218868437227405312 ∧ Bj x = false)) := by
 unfold Adp at hb
 have h1 : Bh x = false := by cases e : Bh x <;> rw [e] at hb <;> first | rfl | simp at hb
 have h2 : Ee x = false := by cases e : Ee x <;> rw [e] at hb <;> first | rfl | simp at hb
 refine ⟨h1, h2, ?_⟩
 rw [h1, h2] at hb
 have h3 := of_decide_eq_false h1
 have h4 := of_decide_eq_false h2
 rcases Nat.eq_zero_or_pos (Aw x) with h0 | h0
 ·exact .inl h0
 ·right
  have h5 : Bj x = false := by cases e : Bj x <;> rw [e] at hb <;> first | rfl | (simp at hb; omega)
  have h6 : Aw x = x := by
   unfold Bj at h5
   unfold Aw
   rw [beq_eq_false_iff_ne] at h5
   omega
  exact ⟨h0, h6, by omega, h5⟩
theorem He {x : Nat} (h0 : 0 < x) : 0 < Ci x ∧ Ci x < 9007199254740992 := by
 unfold Ci
 split <;> omega
theorem Yd (x : Nat) (w : World) (hx : x < 18446744073709551616) (hb : Adp x = false) (h0 : 0 < Aw x) (ht : Cg w) : Cp 145 #[.float .f64 x] w (PartsP x w) := by
 obtain ⟨g1, g2, g3⟩ := Aho hx hb
 obtain ⟨_, g4, g5, g6⟩ := g3.resolve_left (by omega)
 rw [g4] at h0
 obtain ⟨f1, f2⟩ := He h0
 obtain ⟨k, m, hkm⟩ := Qg _ f1
 have C1 := Lh (fun W => Bn x W)
 have C2 := Lh (fun W => S9 x W)
 have h1 := Mx x
 have h2 := Fd x
 rw [g1, g6] at h1
 rw [decide_eq_false (show ¬ Aw x = 0 by omega)] at h2
 rw [g1] at C1
 rw [g2] at C2
 simp only [Bool.not_false, Bool.true_and, Bool.false_and] at h1
 simp only [Bool.false_and] at C2
 have C3 := Lh (Xv x w g5)
 have C4 := Lh (Ag1 (Ci x) k m w hkm (by omega) ht)
 have hk64 : k < 53 := by
  have : 2 ^ k < 2 ^ 53 := by
   have h9 : 2 ^ k ≤ Ci x := by rw [hkm]; exact Nat.le_add_left _ _
   exact Nat.lt_of_le_of_lt h9 f2
  exact (Nat.pow_lt_pow_iff_right (a := 2) (by omega)).1 this
 have hodd : Ci x / 2 ^ k = 2 * m + 1 := by
  rw [hkm, Nat.pow_succ, show 2 ^ k * 2 * m + 2 ^ k = 2 ^ k * (2 * m + 1) by grind, Nat.mul_div_cancel_left _ (Nat.two_pow_pos k)]
 have hml : 2 * m + 1 < 18446744073709551616 := by
  rw [← hodd]
  exact Nat.lt_of_le_of_lt (Nat.div_le_self _ _) (by omega)
 have k1 : ((Ci x : Int) / 2 ^ k) = ((2 * m + 1 : Nat) : Int) := by rw [← hodd, Int.natCast_ediv, Int.natCast_pow]; rfl
 have C5 := Lh (fun W => (Kl (2 * m + 1) hml W).mono fun _ _ y => y.told (n := (wds (2 * m + 1)).length) (by rw [Kv _ hml]))
 rw [Kv _ hml] at C5
 have hp1 : -1074 ≤ Ji x ∧ Ji x ≤ 971 := by unfold Ji; split <;> omega
 have k2 : IntKind.i64.wrap (Ji x + (k : Nat)) = Ji x + (k : Nat) := IntWalk.i64_in _ (by omega)
 have HKM := Lh hkm
 obtain ⟨W0, hW0⟩ : ∃ v, Ci x = v := ⟨_, rfl⟩
 obtain ⟨p, hp⟩ : ∃ p, Ji x = p := ⟨_, rfl⟩
 have HP := Lh hp
 obtain ⟨o, ho⟩ : ∃ o, 2 * m + 1 = o := ⟨_, rfl⟩
 have HO := Lh ho
 rw [hW0] at C3 C4 k1
 rw [hp] at C3 k2
 rw [ho] at C5 k1
 have hk1 : (k : Int) < 53 := by omega
 have hk0 : (0 : Int) ≤ (k : Int) := by omega
 clear hx hb h0 ht g1 g2 g3 g4 g5 g6 f1 f2 hkm hodd hml hp1 hW0 hp ho hk64
 go_enter Tryz.func145, Tryz.ntmps145
 go_wp2_with fail
 refine Sm (C1.out _) ?_
 go_wp2_with fail
 refine Sm (C2.out _) ?_
 go_wp2_with fail
 refine C3.out.mono ?_
 rintro e w' ⟨rfl, rfl⟩
 go_wp2_with fail
 refine C4.out.mono ?_
 rintro e w' ⟨rfl, rfl⟩
 go_wp2_with fail
 refine (C5.out _).mono ?_
 rintro e w2 ⟨A2, c2, rfl, ⟨hc2, r2⟩, b2⟩
 have HF := Lh (show PartsP x w (.returned (.tuple #[.slice A2 (wds o).length c2, .int .i64 (p + (k : Nat)), .int .i64 0])) w2 from
  ⟨k, m, A2, _, c2, HKM.out, by rw [HP.out], ⟨by rw [HO.out], hc2, by rw [HO.out]; exact r2⟩, b2⟩)
 clear hc2 r2 b2 C5
 go_wp2
 refine bodyPost_ret (Lz rfl _ _ _) rfl ?_
 exact HF.out
def stk (N b : Nat) : Nat := if N % 2 ^ b = 0 then N / 2 ^ b else N / 2 ^ b / 2 * 2 + 1
theorem Aed (N b : Nat) : evn (stk N b) 11 = evn N (11 + b) := by
 have hP := Nat.two_pow_pos b
 have hr := Nat.mod_lt N hP
 have hN := Nat.div_add_mod N (2 ^ b)
 have hp : 2 ^ (11 + b) = 2048 * 2 ^ b := by rw [Nat.pow_add]
 have hdiv : N / 2 ^ (11 + b) = N / 2 ^ b / 2048 := by rw [hp, Nat.mul_comm, ← Nat.div_div_eq_div_mul]
 have hmod : N % 2 ^ (11 + b) = N / 2 ^ b % 2048 * 2 ^ b + N % 2 ^ b := by
  rw [hp, Nat.mul_comm 2048, Nat.mod_mul, Nat.mul_comm, Nat.add_comm]
 unfold evn stk
 rw [hdiv, hmod, hp]
 rw [show (2 : Nat) ^ 11 = 2048 from rfl]
 generalize 2 ^ b = P at *
 generalize N / P = H at *
 generalize N % P = r at *
 clear hN hdiv hmod hp
 have hh : H % 2048 < 2048 := Nat.mod_lt _ (by omega)
 have hW : (if r = 0 then H else H / 2 * 2 + 1) / 2048 = H / 2048 := by split <;> omega
 rw [hW]
 rcases Nat.lt_trichotomy (H % 2048) 1024 with h1 | h1 | h1
 ·have h2 : (H % 2048 + 1) * P ≤ 1024 * P := Nat.mul_le_mul_right _ (by omega)
  rw [Nat.add_mul, Nat.one_mul] at h2
  have h3 : (if r = 0 then H else H / 2 * 2 + 1) % 2048 < 1024 := by split <;> omega
  rw [decide_eq_false (show ¬ 2048 < 2 * ((if r = 0 then H else H / 2 * 2 + 1) % 2048) by omega), decide_eq_false (show ¬ 2048 = 2 * ((if r = 0 then H else H / 2 * 2 + 1) % 2048) by omega)]
  rw [decide_eq_false (show ¬ 2048 * P < 2 * (H % 2048 * P + r) by omega), decide_eq_false (show ¬ 2048 * P = 2 * (H % 2048 * P + r) by omega)]
 ·rw [h1]
  by_cases h0 : r = 0
  ·subst h0
   rw [if_pos rfl, h1]
   rw [decide_eq_false (show ¬ 2048 < 2 * 1024 by omega), decide_eq_true (show 2048 = 2 * 1024 by omega), decide_eq_false (show ¬ 2048 * P < 2 * (1024 * P + 0) by omega), decide_eq_true (show 2048 * P = 2 * (1024 * P + 0) by omega)]
  ·rw [if_neg h0, decide_eq_true (show 2048 < 2 * ((H / 2 * 2 + 1) % 2048) by omega), decide_eq_true (show 2048 * P < 2 * (1024 * P + r) by omega)]
   rfl
 ·have h2 : 1025 * P ≤ H % 2048 * P := Nat.mul_le_mul_right _ (by omega)
  have h3 : 1024 < (if r = 0 then H else H / 2 * 2 + 1) % 2048 := by split <;> omega
  rw [decide_eq_true (show 2048 < 2 * ((if r = 0 then H else H / 2 * 2 + 1) % 2048) by omega), decide_eq_true (show 2048 * P < 2 * (H % 2048 * P + r) by omega)]
  rfl
def scl (x b : Nat) : Nat := if x / 4503599627370496 + b < 2047 then x + b * 4503599627370496 else 9218868437227405312
theorem Ib {N L : Nat} (h1 : 2 ^ L ≤ N) (h2 : N < 2 ^ (L + 1)) (hL : 52 ≤ L) : 4503599627370496 ≤ evn N (L - 52) ∧ evn N (L - 52) ≤ 9007199254740992 := by
 have e1 : 4503599627370496 ≤ N / 2 ^ (L - 52) := by
  rw [Nat.le_div_iff_mul_le (Nat.two_pow_pos _), show 4503599627370496 = 2 ^ 52 from rfl, ← Nat.pow_add, show 52 + (L - 52) = L by omega]
  exact h1
 have e2 : N / 2 ^ (L - 52) < 9007199254740992 := by
  rw [Nat.div_lt_iff_lt_mul (Nat.two_pow_pos _), show 9007199254740992 = 2 ^ 53 from rfl, ← Nat.pow_add, show 53 + (L - 52) = L + 1 by omega]
  exact h2
 unfold evn
 have : ∀ c : Bool, c.toNat ≤ 1 := by decide
 have := this (decide (2 ^ (L - 52) < 2 * (N % 2 ^ (L - 52))) || (decide (2 ^ (L - 52) = 2 * (N % 2 ^ (L - 52))) && decide (N / 2 ^ (L - 52) % 2 = 1)))
 omega
theorem Mk {N b : Nat} (h1 : 2 ^ (63 + b) ≤ N) (h2 : N < 2 ^ (63 + b + 1)) : 2 ^ 63 ≤ stk N b ∧ stk N b < 2 ^ 64 := by
 have e1 : 2 ^ 63 ≤ N / 2 ^ b := by
  rw [Nat.le_div_iff_mul_le (Nat.two_pow_pos _), ← Nat.pow_add]
  exact h1
 have e2 : N / 2 ^ b < 2 ^ 64 := by
  rw [Nat.div_lt_iff_lt_mul (Nat.two_pow_pos _), ← Nat.pow_add, show 64 + b = 63 + b + 1 by omega]
  exact h2
 unfold stk
 rw [show (2 : Nat) ^ 63 = 9223372036854775808 from rfl] at *
 rw [show (2 : Nat) ^ 64 = 18446744073709551616 from rfl] at *
 split <;> omega
theorem Af9 {N b : Nat} (h1 : 2 ^ (63 + b) ≤ N) (h2 : N < 2 ^ (63 + b + 1)) : fl N = scl (fl (stk N b)) b := by
 obtain ⟨s1, s2⟩ := Mk h1 h2
 have f1 := Jn h1 h2 (by omega)
 have f2 := Jn s1 s2 (by omega)
 obtain ⟨r1, r2⟩ := Ib s1 s2 (by omega)
 rw [show 63 + b - 52 = 11 + b by omega] at f1
 rw [show 63 - 52 = 11 from rfl, Aed] at f2 r1 r2
 rw [f1, f2]
 generalize evn N (11 + b) = v at *
 clear f1 f2 h1 h2 s1 s2
 unfold scl
 split <;> omega
theorem Af6 {N : Nat} (K : Nat) (hK : K = 1024) (h : 2 ^ K ≤ N) : fl N = 9218868437227405312 := by
 have h0 : 0 < N := Nat.lt_of_lt_of_le (Nat.two_pow_pos K) h
 obtain ⟨a1, a2⟩ := Di N h0
 have hL : 1024 ≤ N.log2 := by
  have : 2 ^ K < 2 ^ (N.log2 + 1) := Nat.lt_of_le_of_lt h a2
  have := (Nat.pow_lt_pow_iff_right (a := 2) (by omega)).1 this
  omega
 obtain ⟨r1, r2⟩ := Ib a1 a2 (by omega)
 rw [Jn a1 a2 (by omega)]
 generalize N.log2 = L at *
 omega
theorem Aai {X : Nat} (h : X < 9218868437227405312) : scl X 0 = X := by
 unfold scl
 split <;> omega
theorem one_mul {y : Nat} (h1 : 4503599627370496 ≤ y) (h2 : y < 9218868437227405312) : Ieee.double.mul 4607182418800017408 y = some y := by
 have e1 : Ieee.double.signWeight = 9223372036854775808 := by decide
 have e2 : Ieee.double.binade = 4503599627370496 := by decide
 have e3 : Ieee.double.infRung = 9218868437227405312 := by decide
 have e4 : Ieee.double.leastPlace = -1074 := by decide
 have e5 : Ieee.double.fractionBits = 52 := rfl
 have r1 : Ieee.double.read 4607182418800017408 = .number false 4503599627370496 (-52) := by decide
 have r2 : Ieee.double.read y = .number false (4503599627370496 + y % 4503599627370496) (-1074 + ((y / 4503599627370496 - 1 : Nat) : Int)) := by
  unfold Ieee.Format.read
  rw [e1, e2, e3, e4]
  have q1 : y % 9223372036854775808 = y := Nat.mod_eq_of_lt (by omega)
  have q2 : y / 9223372036854775808 % 2 = 0 := by omega
  simp only [q1, q2]
  rw [if_neg (by omega), if_pos h2]
  rfl
 unfold Ieee.Format.mul
 rw [r1, r2]
 show some (Ieee.double.nearest false (4503599627370496 * (4503599627370496 + y % 4503599627370496)) (-52 + (-1074 + ((y / 4503599627370496 - 1 : Nat) : Int)))) = _
 have ht : y % 4503599627370496 < 4503599627370496 := Nat.mod_lt _ (by omega)
 have hq : y / 4503599627370496 < 2047 := by omega
 have hy := Nat.div_add_mod y 4503599627370496
 have hq1 : 1 ≤ y / 4503599627370496 := by omega
 generalize y % 4503599627370496 = t at *
 generalize y / 4503599627370496 = q at *
 have hlog : (4503599627370496 * (4503599627370496 + t)).log2 = 104 := by
  refine Hr ?_ ?_
  ·rw [show (2 : Nat) ^ 104 = 4503599627370496 * 4503599627370496 from rfl]; omega
  ·rw [show (2 : Nat) ^ (104 + 1) = 4503599627370496 * 9007199254740992 from rfl]; omega
 unfold Ieee.Format.nearest
 rw [if_neg (by omega), e2, e3, e4, e5, hlog]
 have e6 : max (-52 + (-1074 + ((q - 1 : Nat) : Int)) + ((104 : Nat) : Int) - ((52 : Nat) : Int)) (-1074) = (q : Int) - 1075 := by omega
 rw [e6]
 dsimp only
 have q1 : (-52 + (-1074 + ((q - 1 : Nat) : Int)) - ((q : Int) - 1075)).toNat = 0 := by omega
 have q2 : ((q : Int) - 1075 - (-52 + (-1074 + ((q - 1 : Nat) : Int)))).toNat = 52 := by omega
 have q3 : ((q : Int) - 1075 - -1074).toNat = q - 1 := by omega
 rw [q1, q2, q3, Nat.shiftLeft_zero, D0 _ _ (by rw [hlog]; omega), Nat.mul_comm 4503599627370496]
 have hev := Dq (4503599627370496 + t) 52
 rw [show (2 : Nat) ^ 52 = 4503599627370496 from rfl] at hev
 rw [hev, Hs, Nat.min_eq_left (by omega)]
 exact congrArg some (by omega)
theorem Dj {x : Nat} (h : x < 9223372036854775808) : Aw x = x ∧ Bj x = false ∧ De x = (x : Int) := by
 have h1 : Aw x = x := Nat.mod_eq_of_lt h
 have h2 : Bj x = false := by unfold Bj; rw [Nat.div_eq_of_lt h]; rfl
 refine ⟨h1, h2, ?_⟩
 unfold De
 rw [h1, h2]
 rfl
theorem Wi {x y : Nat} (hx : x ≤ 9218868437227405312) (hy : y ≤ 9218868437227405312) : (FloatKind.f64.format.order x y == some .lt) = decide (x < y) := by
 show (Ieee.double.order x y == some .lt) = _
 obtain ⟨a1, _, a3⟩ := Dj (x := x) (by omega)
 obtain ⟨b1, _, b3⟩ := Dj (x := y) (by omega)
 rw [Cz (by omega) (by omega), Td, a3, b3]
 simp
theorem F4 (w : World) : Cq 79 #[.int .i64 1] (.float .f64 9218868437227405312) w := by
 have h2 : (callFunc 69 #[.int .u64 9218868437227405312]).run Tryz.prog w = .ok (.value (.float .f64 9218868437227405312)) w := Bl 9218868437227405312 w
 go_enter Tryz.func79, Tryz.ntmps79
 go_wp2
 go_ret
 exact ⟨by rfl, rfl⟩
theorem Fa (x : Nat) (w : World) (h1 : 4503599627370496 ≤ x) (h2 : x < 9218868437227405312) : Cq 242 #[.float .f64 x] (.tuple #[.float .f64 x, .int .i64 0]) w := by
 have C1 := Lh (fun W => Jl x W (by omega))
 rw [(Dj (x := x) (by omega)).1] at C1
 have h := Wi (x := x) (y := 4503599627370496) (by omega) (by omega)
 rw [decide_eq_false (by omega)] at h
 clear h1 h2
 go_enter Tryz.func242, Tryz.ntmps242
 go_wp2_with fail
 refine Sm (C1.out _) ?_
 go_wp2
 go_ret2
 exact ⟨rfl, rfl⟩
theorem Afo {x : Nat} (hx : x < 9223372036854775808) : x &&& 2 ^ 63 = 0 := by
 apply Nat.eq_of_testBit_eq
 intro i
 rw [Nat.testBit_and, Nat.testBit_two_pow, Nat.zero_testBit]
 by_cases h : 63 = i
 ·subst h
  rw [Nat.testBit_lt_two_pow (show x < 2 ^ 63 from hx)]; rfl
 ·rw [decide_eq_false h, Bool.and_false]
theorem Hz (x : Nat) (hx : x < 9223372036854775808) : bits BinOp.andNot IntKind.u64 (x : Int) 9218868437227405312 = ((x % 4503599627370496 : Nat) : Int) := by
 show IntKind.u64.wrap ((BitVec.ofInt 64 (x : Int) &&& ~~~ BitVec.ofInt 64 9218868437227405312).toNat : Int) = _
 have e1 : (BitVec.ofInt 64 (x : Int)) = BitVec.ofNat 64 x := by rw [BitVec.ofInt_natCast]
 have e2 : (~~~ BitVec.ofInt 64 9218868437227405312) = BitVec.ofNat 64 (2 ^ 63 ||| (2 ^ 52 - 1)) := by decide
 rw [e1, e2, BitVec.toNat_and, BitVec.toNat_ofNat, BitVec.toNat_ofNat, Nat.mod_eq_of_lt (by omega : x < 2 ^ 64), Nat.mod_eq_of_lt (by decide : 2 ^ 63 ||| (2 ^ 52 - 1) < 2 ^ 64), Nat.and_or_distrib_left, Nat.and_two_pow_sub_one_eq_mod, Afo hx, Nat.zero_or, IntKind.wrap_u64]
 omega
theorem Fu (q : Nat) (hq : q < 2048) : bits BinOp.and IntKind.i64 (q : Int) 2047 = (q : Int) := by
 show IntKind.i64.wrap ((BitVec.ofInt 64 (q : Int) &&& BitVec.ofInt 64 2047).toNat : Int) = _
 have e1 : (BitVec.ofInt 64 (q : Int)) = BitVec.ofNat 64 q := by rw [BitVec.ofInt_natCast]
 have e2 : (BitVec.ofInt 64 2047) = BitVec.ofNat 64 (2 ^ 11 - 1) := by decide
 rw [e1, e2, BitVec.toNat_and, BitVec.toNat_ofNat, BitVec.toNat_ofNat, Nat.mod_eq_of_lt (by omega : q < 2 ^ 64), Nat.mod_eq_of_lt (by omega : 2 ^ 11 - 1 < 2 ^ 64), Nat.and_two_pow_sub_one_eq_mod, Nat.mod_eq_of_lt hq, IntWalk.i64_in _ (by omega)]
theorem Lq (t q : Nat) (ht : t < 4503599627370496) (hq : q < 2048) : bits BinOp.or IntKind.u64 (t : Int) ((q * 4503599627370496 : Nat) : Int) = ((t + q * 4503599627370496 : Nat) : Int) := by
 rw [E9 t (q * 4503599627370496) (by omega) (by omega)]
 have := Nat.two_pow_add_eq_or_of_lt (i := 52) (b := t) ht q
 rw [Nat.or_comm, show q * 4503599627370496 = 2 ^ 52 * q by rw [Nat.mul_comm], ← this, Nat.add_comm]
theorem Kp (b : Int) (w : World) : Cq 179 #[.float .f64 0, .int .i64 b] (.float .f64 0) w := by
 have h : (FloatKind.f64.format.order 0 0 == some .eq) = true := by decide
 have C : Cq 224 #[.float .f64 0, .int .i64 b] (.float .f64 0) w := by
  go_enter Tryz.func224, Tryz.ntmps224
  go_wp2
  go_ret
  exact ⟨rfl, rfl⟩
 have C := Lh C
 clear h
 go_enter Tryz.func179, Tryz.ntmps179
 go_wp2_with fail
 refine C.out.mono ?_
 rintro e w' ⟨rfl, rfl⟩
 go_wp2
 go_ret
 exact ⟨rfl, rfl⟩
theorem Kq (x b : Nat) (w : World) (h1 : 4503599627370496 ≤ x) (h2 : x < 9218868437227405312) (hb : b < 1048576) : Cq 224 #[.float .f64 x, .int .i64 b] (.float .f64 (scl x b)) w := by
 obtain ⟨p1, p2, p3⟩ := Dj (x := x) (by omega)
 have C1 := Lh (fun W => Bn x W)
 have C2 := Lh (fun W => Dy x W (by omega))
 rw [show Bh x = false from by unfold Bh; rw [p1]; exact decide_eq_false (by omega)] at C1
 rw [show Ee x = false from by unfold Ee; rw [p1]; exact decide_eq_false (by omega)] at C2
 have C3 := Lh (fun W => Fa x W h1 h2)
 have C4 := Lh (fun W => F4 W)
 have h3 := Fd x
 rw [p1, decide_eq_false (by omega)] at h3
 have h4 := Mx x
 rw [p2, Bool.false_and, Bool.and_false] at h4
 have h5 := Av x w
 have h6 := Hz x (by omega)
 unfold scl
 obtain ⟨q, hq⟩ : ∃ q, x / 4503599627370496 = q := ⟨_, rfl⟩
 obtain ⟨t, ht⟩ : ∃ t, x % 4503599627370496 = t := ⟨_, rfl⟩
 rw [ht] at h6
 rw [hq]
 have h7 := Fu q (by omega)
 have k1 : (x : Int) / 4503599627370496 = (q : Int) := by omega
 have k2 : IntKind.i64.wrap (q : Int) = (q : Int) := IntWalk.i64_in _ (by omega)
 have k3 : IntKind.i64.wrap ((q : Int) - 1023) = (q : Int) - 1023 := IntWalk.i64_in _ (by omega)
 have k4 : IntKind.i64.wrap ((b : Int) + ((q : Int) - 1023)) = (b : Int) + ((q : Int) - 1023) := IntWalk.i64_in _ (by omega)
 have k5 : IntKind.i64.wrap (b : Int) = (b : Int) := IntWalk.i64_in _ (by omega)
 have t1 : decide ((b : Int) + ((q : Int) - 1023) < -1075) = false := decide_eq_false (by omega)
 by_cases hlt : q + b < 2047
 ·rw [if_pos hlt]
  have h8 := Lq t (b + q) (by omega) (by omega)
  have h9 := Bl (t + (b + q) * 4503599627370496) w
  have h10 := one_mul (y := t + (b + q) * 4503599627370496) (by omega) (by omega)
  have h11 : (binOp BinOp.mul 22 (.float .f64 4607182418800017408) (.float .f64 (t + (b + q) * 4503599627370496))).run Tryz.prog w = .ok (.float .f64 (t + (b + q) * 4503599627370496)) w := run_float_arith _ _ _ _ _ _ _ h10
  clear h10
  have t2 : decide (1023 < (b : Int) + ((q : Int) - 1023)) = false := decide_eq_false (by omega)
  have t3 : decide ((b : Int) + ((q : Int) - 1023) < -1022) = false := decide_eq_false (by omega)
  have k6 : IntKind.i64.wrap ((b : Int) + ((q : Int) - 1023) + 1023) = ((b + q : Nat) : Int) := by rw [IntWalk.i64_in _ (by omega)]; omega
  have k7 : IntKind.u64.wrap ((b + q : Nat) : Int) = ((b + q : Nat) : Int) := by rw [IntKind.wrap_u64]; omega
  have hx : x + b * 4503599627370496 = t + (b + q) * 4503599627370496 := by omega
  rw [hx]
  obtain ⟨y, hy⟩ : ∃ y, t + (b + q) * 4503599627370496 = y := ⟨_, rfl⟩
  obtain ⟨z, hz⟩ : ∃ z, b + q = z := ⟨_, rfl⟩
  rw [hy] at h8 h9 h11 ⊢
  rw [hz] at h8 k6 k7
  have k8 : IntKind.u64.wrap ((z : Int) * 4503599627370496) = ((z * 4503599627370496 : Nat) : Int) := by rw [IntKind.wrap_u64]; omega
  rw [← k8] at h8
  clear k8
  clear h1 h2 hb p1 p2 p3 hq ht hlt hx hy hz
  go_enter Tryz.func224, Tryz.ntmps224
  go_wp2_with fail
  refine Sm (C2.out _) ?_
  go_wp2_with fail
  refine Sm (C1.out _) ?_
  go_wp2_with fail
  refine Sm (C3.out _) ?_
  go_wp2
  go_ret
  exact ⟨rfl, rfl⟩
 ·rw [if_neg hlt]
  have t2 : decide (1023 < (b : Int) + ((q : Int) - 1023)) = true := decide_eq_true (by omega)
  clear h1 h2 hb p1 p2 p3 hq ht hlt h6
  go_enter Tryz.func224, Tryz.ntmps224
  go_wp2_with fail
  refine Sm (C2.out _) ?_
  go_wp2_with fail
  refine Sm (C1.out _) ?_
  go_wp2_with fail
  refine Sm (C3.out _) ?_
  go_wp2_with fail
  refine Sm (C4.out _) ?_
  go_wp2
  go_ret
  exact ⟨rfl, rfl⟩
theorem Im (x b : Nat) (w : World) (h1 : 4503599627370496 ≤ x) (h2 : x < 9218868437227405312) (hb : b < 1048576) : Cq 179 #[.float .f64 x, .int .i64 b] (.float .f64 (scl x b)) w := by
 have C := Lh (Kq x b w h1 h2 hb)
 clear h1 h2 hb
 go_enter Tryz.func179, Tryz.ntmps179
 go_wp2_with fail
 refine C.out.mono ?_
 rintro e w' ⟨rfl, rfl⟩
 go_wp2
 go_ret
 exact ⟨rfl, rfl⟩
theorem Rl {l : List Nat} (h : Ws l) : l.getD 0 0 = val l % 4294967296 := by
 cases l with
 | nil => rfl
 | cons a r =>
  have := h.getD 0
  simp only [List.getD_cons_zero] at this ⊢
  simp only [val]
  omega
theorem Aes {l : List Nat} (h : Ws l) : l.getD 1 0 = val l / 4294967296 % 4294967296 := by
 cases l with
 | nil => rfl
 | cons a r =>
  have h0 := h.getD 0
  have h1 := Rl (l := r) (fun x hx => h x (List.mem_cons_of_mem _ hx))
  simp only [List.getD_cons_zero] at h0
  simp only [List.getD_cons_succ, val]
  omega
theorem Abg {N : Nat} (h : 0 < N) (hN : N < 2 ^ 65) : 4503599627370496 ≤ fl N ∧ fl N < 9218868437227405312 := by
 obtain ⟨a1, a2⟩ := Di N h
 have hL : N.log2 < 65 := by
  have : 2 ^ N.log2 < 2 ^ 65 := Nat.lt_of_le_of_lt a1 hN
  exact (Nat.pow_lt_pow_iff_right (a := 2) (by omega)).1 this
 rcases Nat.lt_or_ge N.log2 52 with h1 | h1
 ·rw [Ag3 a1 a2 (by omega)]
  have h3 : N * 2 ^ (52 - N.log2) < 9007199254740992 := by
   have : N * 2 ^ (52 - N.log2) < 2 ^ (N.log2 + 1) * 2 ^ (52 - N.log2) := Nat.mul_lt_mul_of_pos_right a2 (Nat.two_pow_pos _)
   rw [← Nat.pow_add, show N.log2 + 1 + (52 - N.log2) = 53 by omega] at this
   exact this
  omega
 ·obtain ⟨r1, r2⟩ := Ib a1 a2 h1
  rw [Jn a1 a2 h1]
  omega
theorem Zu {v n : Nat} (h1 : 2 ^ (n - 1) ≤ v) (h2 : v < 2 ^ n) (h0 : 0 < n) : stk v (n - 64) < 18446744073709551616 ∧ 0 < stk v (n - 64) ∧ fl v = scl (fl (stk v (n - 64))) (n - 64) := by
 rcases Nat.lt_or_ge 64 n with h | h
 ·obtain ⟨b, rfl⟩ : ∃ b, n = 64 + b := ⟨n - 64, by omega⟩
  have a1 : 2 ^ (63 + b) ≤ v := by rw [show 63 + b = 64 + b - 1 by omega]; exact h1
  have a2 : v < 2 ^ (63 + b + 1) := by rw [show 63 + b + 1 = 64 + b by omega]; exact h2
  rw [Nat.add_sub_cancel_left]
  obtain ⟨s1, s2⟩ := Mk a1 a2
  have := Nat.two_pow_pos 63
  exact ⟨s2, by omega, Af9 a1 a2⟩
 ·rw [show n - 64 = 0 by omega]
  have e : stk v 0 = v := by unfold stk; rw [Nat.pow_zero, Nat.mod_one, if_pos rfl, Nat.div_one]
  have hv : v < 2 ^ 64 := Nat.lt_of_lt_of_le h2 (Nat.pow_le_pow_right (by omega) h)
  have hp := Nat.two_pow_pos (n - 1)
  have hf := Abg (N := v) (by omega) (Nat.lt_of_lt_of_le hv (by decide))
  rw [e, Aai hf.2]
  exact ⟨hv, by omega, rfl⟩
theorem Aa3 (x : Nat) (hx : x < 18446744073709551616) : bits BinOp.or IntKind.u64 (x : Int) 1 = ((x / 2 * 2 + 1 : Nat) : Int) := by
 have h := E9 x 1 hx (by omega)
 rw [show ((1 : Nat) : Int) = 1 from rfl] at h
 rw [h]
 have e : x ||| 1 = x / 2 * 2 + 1 := by
  have h1 : x = 2 * (x / 2) + x % 2 := by omega
  have h2 := Nat.two_pow_add_eq_or_of_lt (i := 1) (b := 1) (by omega) (x / 2)
  rcases Nat.mod_two_eq_zero_or_one x with h3 | h3
  ·rw [h3, Nat.add_zero] at h1
   rw [Nat.pow_one] at h2
   rw [← h1] at h2
   omega
  ·have h4 := Nat.two_pow_add_eq_or_of_lt (i := 1) (b := 1) (by omega) (x / 2)
   rw [Nat.pow_one] at h4
   have h5 : x = 2 * (x / 2) ||| 1 := by rw [← h4]; omega
   rw [h5, Nat.or_assoc, Nat.or_self, ← h5]
   omega
 rw [e]
theorem Agt (y z : Nat) (hy : y < 4294967296) (hz : z < 4294967296) : bits BinOp.or IntKind.u64 (IntKind.u64.wrap ((y : Int) * 4294967296)) (z : Int) = ((z + y * 4294967296 : Nat) : Int) := by
 have e : IntKind.u64.wrap ((y : Int) * 4294967296) = ((y * 4294967296 : Nat) : Int) := by rw [IntKind.wrap_u64]; omega
 rw [e, E9 (y * 4294967296) z (by omega) (by omega)]
 have := Nat.two_pow_add_eq_or_of_lt (i := 32) (b := z) hz y
 rw [show y * 4294967296 = 2 ^ 32 * y by rw [Nat.mul_comm], ← this, Nat.add_comm]
theorem Uz (A : Option Addr) (n c : Nat) (l : List Nat) (w : World) (hn : l.length = n) (hc : n ≤ c) (hm : n ≤ 35184372087808) (h : RW w w.heap.size A l) (hb : 1024 < btl l) :
  Ct 131 #[.slice A n c] (.float .f64 (fl (val l))) w := by
 have C1 := Lh (Eu A n c l w.heap.size w hn hc (by omega) h)
 have C2 := Lh (fun W => F4 W)
 have h0 : nrm l ≠ [] := by intro e; unfold btl at hb; rw [if_pos e] at hb; omega
 obtain ⟨b1, b2, b3⟩ := Ev h.1 h0
 obtain ⟨K, hK⟩ : ∃ K, K = 1024 := ⟨_, rfl⟩
 have hf : fl (val l) = 9218868437227405312 := Af6 K hK (Nat.le_trans (Nat.pow_le_pow_right (by omega) (by omega)) b1)
 rw [hf]
 obtain ⟨m, hm2⟩ : ∃ m, btl l = m := ⟨_, rfl⟩
 rw [hm2] at C1 hb
 have t1 : (1024 : Int) < (m : Int) := by omega
 clear hn hc hm h h0 b1 b2 b3 hK hf hm2 hb
 go_enter Tryz.func131, Tryz.ntmps131
 go_wp2_with fail
 refine C1.out.mono ?_
 rintro e w' ⟨rfl, rfl⟩
 go_wp2_with fail
 refine Sm (C2.out _) ?_
 go_wp2
 go_ret
 exact ⟨rfl, Below.refl _ _⟩
theorem Ya (A : Option Addr) (n c : Nat) (l : List Nat) (w : World) (hn : l.length = n) (hc : n ≤ c) (hm : n ≤ 35184372087808) (h : RW w w.heap.size A l) (hb : btl l ≤ 1024) :
  Ct 131 #[.slice A n c] (.float .f64 (fl (val l))) w := by
 have C1 := Lh (Eu A n c l w.heap.size w hn hc (by omega) h)
 have C2 := Lh (Abf A n c ((btl l - 64 : Nat) : Int) l w hn hc hm h)
 rw [Int.toNat_natCast] at C2
 obtain ⟨v, hv⟩ : ∃ v, val l = v := ⟨_, rfl⟩
 -- what is told of the number
 have hT : stk v (btl l - 64) < 18446744073709551616 ∧ (∀ W, Cq 179 #[.float .f64 (fl (stk v (btl l - 64))), .int .i64 (btl l - 64 : Nat)] (.float .f64 (fl v)) W) := by
  by_cases h0 : nrm l = []
  ·have e1 : btl l = 0 := by unfold btl; rw [if_pos h0]
   have e2 : v = 0 := by rw [← hv, ← Ar, h0]; rfl
   rw [e1, e2]
   have e3 : stk 0 (0 - 64) = 0 := by decide
   rw [e3, Vv]
   exact ⟨by omega, fun W => Kp _ W⟩
  ·obtain ⟨b1, b2, b3⟩ := Ev h.1 h0
   rw [hv] at b1 b2
   obtain ⟨s1, s2, s3⟩ := Zu b1 b2 b3
   have hf := Abg s2 (Nat.lt_trans s1 (by decide))
   refine ⟨s1, fun W => ?_⟩
   rw [s3]
   exact Im _ _ W hf.1 hf.2 (by omega)
 rw [hv] at C2 ⊢
 obtain ⟨m, hm2⟩ : ∃ m, btl l = m := ⟨_, rfl⟩
 rw [hm2] at C1 C2 hT hb
 obtain ⟨b, hb2⟩ : ∃ b, m - 64 = b := ⟨_, rfl⟩
 rw [hb2] at C2 hT
 obtain ⟨u, hu⟩ : ∃ u, fl v = u := ⟨_, rfl⟩
 rw [hu] at hT ⊢
 obtain ⟨hlt, hL⟩ := hT
 have C4 := Lh hL
 have HST : Hid (stk v b < 18446744073709551616) := Lh hlt
 have t1 : decide ((1024 : Int) < (m : Int)) = false := decide_eq_false (by omega)
 have k1 : IntKind.i64.wrap ((m : Int) - 64) = (m : Int) - 64 := IntWalk.i64_in _ (by omega)
 have k2 : max ((m : Int) - 64) 0 = (b : Int) := by omega
 clear hn hc hm h hb hv hm2 hb2 hlt hL hu
 go_enter Tryz.func131, Tryz.ntmps131
 go_wp2_with fail
 refine C1.out.mono ?_
 rintro e w' ⟨rfl, rfl⟩
 go_wp2_with fail
 refine C2.out.mono ?_
 rintro e w2 ⟨A2, n2, c2, he, hn2, hc2, r2, hb2⟩
 obtain ⟨H, hH⟩ : ∃ H, v / 2 ^ b = H := ⟨_, rfl⟩
 obtain ⟨lb, hlb⟩ : ∃ lb, decide (v % 2 ^ b ≠ 0) = lb := ⟨_, rfl⟩
 have hs : stk v b = if lb = true then H / 2 * 2 + 1 else H := by
  unfold stk
  rw [hH, ← hlb]
  by_cases h0 : v % 2 ^ b = 0
  ·simp [h0]
  ·simp [h0]
 rw [hH] at hn2 r2
 rw [hlb] at he
 subst he
 rw [hs] at C4
 have hHl : H < 18446744073709551616 := by
  have := HST.out
  rw [hs] at this
  split at this <;> omega
 have hn22 : n2 ≤ 2 := by
  have := Bq (two H)
  rw [Kv H hHl, ← hn2] at this
  exact this
 have W1 := Lh (fun W (hW : Below w2.heap.size w2 W) => show Cp 178 #[.slice A2 n2 c2, .int .i64 1] W fun e w' => e = .returned (.int .u32 (H / 4294967296 : Nat)) ∧ W = w' from by
  have := Cu A2 n2 c2 1 (wds H) w2.heap.size W hn2.symm (by omega) (r2.below hW)
  rw [Aes (Ey H), Ao, Nat.mod_eq_of_lt (by omega)] at this
  exact this)
 have W0 := Lh (fun W (hW : Below w2.heap.size w2 W) => show Cp 178 #[.slice A2 n2 c2, .int .i64 0] W fun e w' => e = .returned (.int .u32 (H % 4294967296 : Nat)) ∧ W = w' from by
  have := Cu A2 n2 c2 0 (wds H) w2.heap.size W hn2.symm (by omega) (r2.below hW)
  rw [Rl (Ey H), Ao] at this
  exact this)
 have hj := Agt (H / 4294967296) (H % 4294967296) (by omega) (by omega)
 rw [show H % 4294967296 + H / 4294967296 * 4294967296 = H by omega] at hj
 have ho := Aa3 H hHl
 have hy := show H / 4294967296 < 4294967296 by omega
 have hz := show H % 4294967296 < 4294967296 by omega
 obtain ⟨y, hyy⟩ : ∃ y, H / 4294967296 = y := ⟨_, rfl⟩
 obtain ⟨z, hzz⟩ : ∃ z, H % 4294967296 = z := ⟨_, rfl⟩
 rw [hyy] at W1 hj hy
 rw [hzz] at W0 hj hz
 have y1 : IntKind.u64.wrap (y : Int) = (y : Int) := by rw [IntKind.wrap_u64]; omega
 have z1 : IntKind.u64.wrap (z : Int) = (z : Int) := by rw [IntKind.wrap_u64]; omega
 have HB := Lh hb2
 have hbd := Below.refl w2.heap.size w2
 clear hyy hzz hy hz hH hlb hs hHl hn2 hn22 hc2 r2 hb2 HST C1 C2 t1 k1 k2
 cases lb
 ·rw [if_neg (by decide)] at C4
  clear ho
  go_wp2_with (first
   | (go_at_call 178; (with_reducible refine (W1.out _ ?_).mono ?_); exact hbd; rintro e w' ⟨rfl, rfl⟩)
   | (go_at_call 178; (with_reducible refine (W0.out _ ?_).mono ?_); exact hbd; rintro e w' ⟨rfl, rfl⟩)
   | fail)
  refine Sm (C4.out _) ?_
  go_wp2
  go_ret
  exact ⟨rfl, HB.out⟩
 ·rw [if_pos rfl] at C4
  go_wp2_with (first
   | (go_at_call 178; (with_reducible refine (W1.out _ ?_).mono ?_); exact hbd; rintro e w' ⟨rfl, rfl⟩)
   | (go_at_call 178; (with_reducible refine (W0.out _ ?_).mono ?_); exact hbd; rintro e w' ⟨rfl, rfl⟩)
   | fail)
  refine Sm (C4.out _) ?_
  go_wp2
  go_ret
  exact ⟨rfl, HB.out⟩
theorem U7 (A : Option Addr) (n c : Nat) (l : List Nat) (w : World) (hn : l.length = n) (hc : n ≤ c) (hm : n ≤ 35184372087808) (h : RW w w.heap.size A l) :
  Ct 131 #[.slice A n c] (.float .f64 (fl (val l))) w := by
 by_cases hb : 1024 < btl l
 ·exact Uz A n c l w hn hc hm h hb
 ·exact Ya A n c l w hn hc hm h (by omega)
structure NF (r z c M k : Nat) : Prop where
 lo : 4503599627370496 ≤ M
 hi : M < 9007199254740992
 hz : z = k * 4503599627370496 + M
 hc : Ac r * 2 ^ c = M * 2 ^ k
 top : z < 9218868437227405312
 way : (c = 0 ∧ z = r) ∨ (c = 52 ∧ r < 4503599627370496 ∧ Ieee.double.mul r 4841369599423283200 = some z)
theorem Ahd {r : Nat} (h0 : 0 < r) (hr : r < 9218868437227405312) : ∃ z c M k, NF r z c M k := by
 rcases Nat.lt_or_ge r 4503599627370496 with h | h
 ·have hf := Dl (r := r) (by omega)
  obtain ⟨z, hz⟩ := Ox (N := r * 2 ^ 52) (M := r) (j := 52) rfl (by omega)
  have h1 : Ac z < Ac 4845873199050653696 := by
   obtain ⟨K, hK⟩ : ∃ K : Nat, K = 1075 := ⟨_, rfl⟩
   have e1 := Ap 4503599627370496 K (by omega) (by omega)
   rw [show K * 4503599627370496 + 4503599627370496 = 4845873199050653696 by rw [hK]] at e1
   rw [hz, e1]
   have h2 : r * 2 ^ 52 < 4503599627370496 * 2 ^ 52 := Nat.mul_lt_mul_of_pos_right h (Nat.two_pow_pos 52)
   have h3 : 4503599627370496 * 2 ^ 52 ≤ 4503599627370496 * 2 ^ K := Nat.mul_le_mul_left _ (Nat.pow_le_pow_right (by omega) (by omega))
   exact Nat.lt_of_lt_of_le h2 h3
  have hzt := D1.1 h1
  have hzl : 4503599627370496 ≤ z := by
   rcases Nat.lt_or_ge z 4503599627370496 with h4 | h4
   ·have h5 := Dl (r := z) (by omega)
    have h6 : 1 * 2 ^ 52 ≤ r * 2 ^ 52 := Nat.mul_le_mul_right _ h0
    omega
   ·exact h4
  obtain ⟨M, k, a1, a2, a3, a4⟩ := Du hzl
  refine ⟨z, 52, M, k, a1, a2, a3, by rw [hf, ← hz, a4], by omega, .inr ⟨rfl, h, ?_⟩⟩
  obtain ⟨K, hK⟩ : ∃ K : Nat, K = 1074 := ⟨_, rfl⟩
  refine Ik (K := K) hr (by omega) (by omega) hK ?_
  have e1 := Ap 4503599627370496 K (by omega) (by omega)
  rw [show K * 4503599627370496 + 4503599627370496 = 4841369599423283200 by rw [hK]] at e1
  rw [e1, hz, hf, show (4503599627370496 : Nat) = 2 ^ 52 from rfl, ← Nat.mul_assoc]
 ·obtain ⟨M, k, a1, a2, a3, a4⟩ := Du h
  exact ⟨r, 0, M, k, a1, a2, a3, by rw [Nat.pow_zero, Nat.mul_one, a4], hr, .inl ⟨rfl, rfl⟩⟩
theorem Gs (r z : Nat) (w : World) (h1 : r < 4503599627370496) (hm : Ieee.double.mul r 4841369599423283200 = some z) : Cq 242 #[.float .f64 r] (.tuple #[.float .f64 z, .int .i64 (-52)]) w := by
 have C1 := Lh (fun W => Jl r W (by omega))
 rw [(Dj (x := r) (by omega)).1] at C1
 have h := Wi (x := r) (y := 4503599627370496) (by omega) (by omega)
 rw [decide_eq_true h1] at h
 have h11 : (binOp BinOp.mul 22 (.float .f64 r) (.float .f64 4841369599423283200)).run Tryz.prog w = .ok (.float .f64 z) w := run_float_arith _ _ _ _ _ _ _ hm
 clear h1 hm
 go_enter Tryz.func242, Tryz.ntmps242
 go_wp2_with fail
 refine Sm (C1.out _) ?_
 go_wp2
 go_ret2
 exact ⟨rfl, rfl⟩
theorem Aek {y D : Nat} (h : 4503599627370496 ≤ y) : Ac (y + D * 4503599627370496) = Ac y * 2 ^ D := by
 obtain ⟨M, d, a1, a2, a3, a4⟩ := Du h
 rw [a4, a3, show d * 4503599627370496 + M + D * 4503599627370496 = (d + D) * 4503599627370496 + M by omega, Ap _ _ a1 a2, Nat.pow_add, Nat.mul_assoc]
theorem Pm {z M k D u : Nat} (y : Nat) (hy0 : 0 < y) (hy : y < 4503599627370496) (hm : Ieee.double.mul y 4841369599423283200 = some z) (a1 : 4503599627370496 ≤ M) (a2 : M < 9007199254740992) (a3 : z = k * 4503599627370496 + M) (a4 : z < 9218868437227405312) (hD : D < 1048576) (hd : 52 ≤ D + k) (ht : D + k < 2098) (hu : u = (D + k - 52) * 4503599627370496 + M) (w : World) :
  Cq 224 #[.float .f64 y, .int .i64 (D : Nat)] (.float .f64 u) w := by
 obtain ⟨p1, p2, p3⟩ := Dj (x := y) (by omega)
 have C1 := Lh (fun W => Bn y W)
 have C2 := Lh (fun W => Dy y W (by omega))
 rw [show Bh y = false from by unfold Bh; rw [p1]; exact decide_eq_false (by omega)] at C1
 rw [show Ee y = false from by unfold Ee; rw [p1]; exact decide_eq_false (by omega)] at C2
 have C3 := Lh (fun W => Gs y z W hy hm)
 have h3 := Fd y
 rw [p1, decide_eq_false (by omega)] at h3
 have h5 := Av z w
 have h6 := Hz z (by omega)
 obtain ⟨t, ht2⟩ : ∃ t, M = 4503599627370496 + t := ⟨M - 4503599627370496, by omega⟩
 rw [show z % 4503599627370496 = t by omega] at h6
 have h7 := Fu (k + 1) (by omega)
 obtain ⟨Q, hQ⟩ : ∃ Q, D + k = Q + 51 := ⟨D + k - 51, by omega⟩
 have h8 := Lq t Q (by omega) (by omega)
 have e8 : t + Q * 4503599627370496 = u := by omega
 rw [e8] at h8
 have h9 := Bl u w
 have h10 := one_mul (y := u) (by omega) (by omega)
 have h11 : (binOp BinOp.mul 22 (.float .f64 4607182418800017408) (.float .f64 u)).run Tryz.prog w = .ok (.float .f64 u) w := run_float_arith _ _ _ _ _ _ _ h10
 have k1 : (z : Int) / 4503599627370496 = ((k + 1 : Nat) : Int) := by omega
 have k2 : IntKind.i64.wrap ((k + 1 : Nat) : Int) = ((k + 1 : Nat) : Int) := IntWalk.i64_in _ (by omega)
 have k3 : IntKind.i64.wrap (((k + 1 : Nat) : Int) - 1023) = (k : Int) - 1022 := by rw [IntWalk.i64_in _ (by omega)]; omega
 have k4 : IntKind.i64.wrap ((D : Int) + -52) = (D : Int) - 52 := by rw [IntWalk.i64_in _ (by omega)]; omega
 have k5 : IntKind.i64.wrap ((D : Int) - 52 + ((k : Int) - 1022)) = (Q : Int) - 1023 := by rw [IntWalk.i64_in _ (by omega)]; omega
 have k6 : IntKind.i64.wrap ((Q : Int) - 1023 + 1023) = (Q : Int) := by rw [IntWalk.i64_in _ (by omega)]; omega
 have k7 : IntKind.u64.wrap (Q : Int) = (Q : Int) := by rw [IntKind.wrap_u64]; omega
 have k8 : IntKind.u64.wrap ((Q : Int) * 4503599627370496) = ((Q * 4503599627370496 : Nat) : Int) := by rw [IntKind.wrap_u64]; omega
 have t1 : decide ((Q : Int) - 1023 < -1075) = false := decide_eq_false (by omega)
 have t2 : decide (1023 < (Q : Int) - 1023) = false := decide_eq_false (by omega)
 have t3 : decide ((Q : Int) - 1023 < -1022) = false := decide_eq_false (by omega)
 obtain ⟨q, hq⟩ : ∃ q, k + 1 = q := ⟨_, rfl⟩
 obtain ⟨X1, hX1⟩ : ∃ X1, (k : Int) - 1022 = X1 := ⟨_, rfl⟩
 obtain ⟨X2, hX2⟩ : ∃ X2, (D : Int) - 52 = X2 := ⟨_, rfl⟩
 obtain ⟨X3, hX3⟩ : ∃ X3, (Q : Int) - 1023 = X3 := ⟨_, rfl⟩
 rw [hq] at h7 k1 k2 k3
 rw [hX1] at k3 k5
 rw [hX2] at k4 k5
 rw [hX3] at k5 k6 t1 t2 t3
 rw [← k8] at h8
 clear hy0 hy hm a1 a2 a3 a4 hD hd ht hu p1 p2 p3 ht2 hQ e8 h10 k8 hq hX1 hX2 hX3
 go_enter Tryz.func224, Tryz.ntmps224
 go_wp2_with fail
 refine Sm (C2.out _) ?_
 go_wp2_with fail
 refine Sm (C1.out _) ?_
 go_wp2_with fail
 refine Sm (C3.out _) ?_
 go_wp2
 go_ret
 exact ⟨rfl, rfl⟩
theorem Ri {z M k D u r : Nat} (y : Nat) (hy0 : 0 < y) (hy : y < 4503599627370496) (hm : Ieee.double.mul y 4841369599423283200 = some z) (a1 : 4503599627370496 ≤ M) (a2 : M < 9007199254740992) (a3 : z = k * 4503599627370496 + M) (a4 : z < 9218868437227405312) (hd : D + k < 52) (hu : u = (D + k + 1) * 4503599627370496 + M) (hr : Ieee.double.mul 4368491638549381120 u = some r) (w : World) :
  Cq 224 #[.float .f64 y, .int .i64 (D : Nat)] (.float .f64 r) w := by
 obtain ⟨p1, p2, p3⟩ := Dj (x := y) (by omega)
 have C1 := Lh (fun W => Bn y W)
 have C2 := Lh (fun W => Dy y W (by omega))
 rw [show Bh y = false from by unfold Bh; rw [p1]; exact decide_eq_false (by omega)] at C1
 rw [show Ee y = false from by unfold Ee; rw [p1]; exact decide_eq_false (by omega)] at C2
 have C3 := Lh (fun W => Gs y z W hy hm)
 have h3 := Fd y
 rw [p1, decide_eq_false (by omega)] at h3
 have h5 := Av z w
 have h6 := Hz z (by omega)
 obtain ⟨t, ht2⟩ : ∃ t, M = 4503599627370496 + t := ⟨M - 4503599627370496, by omega⟩
 rw [show z % 4503599627370496 = t by omega] at h6
 have h7 := Fu (k + 1) (by omega)
 obtain ⟨Q, hQ⟩ : ∃ Q, D + k + 2 = Q := ⟨_, rfl⟩
 have h8 := Lq t Q (by omega) (by omega)
 have e8 : t + Q * 4503599627370496 = u := by omega
 rw [e8] at h8
 have h9 := Bl u w
 have h11 : (binOp BinOp.mul 22 (.float .f64 4368491638549381120) (.float .f64 u)).run Tryz.prog w = .ok (.float .f64 r) w := run_float_arith _ _ _ _ _ _ _ hr
 have k1 : (z : Int) / 4503599627370496 = ((k + 1 : Nat) : Int) := by omega
 have k2 : IntKind.i64.wrap ((k + 1 : Nat) : Int) = ((k + 1 : Nat) : Int) := IntWalk.i64_in _ (by omega)
 have k3 : IntKind.i64.wrap (((k + 1 : Nat) : Int) - 1023) = (k : Int) - 1022 := by rw [IntWalk.i64_in _ (by omega)]; omega
 have k4 : IntKind.i64.wrap ((D : Int) + -52) = (D : Int) - 52 := by rw [IntWalk.i64_in _ (by omega)]; omega
 have k5 : IntKind.i64.wrap ((D : Int) - 52 + ((k : Int) - 1022)) = (Q : Int) - 1076 := by rw [IntWalk.i64_in _ (by omega)]; omega
 have k9 : IntKind.i64.wrap ((Q : Int) - 1076 + 53) = (Q : Int) - 1023 := by rw [IntWalk.i64_in _ (by omega)]; omega
 have k6 : IntKind.i64.wrap ((Q : Int) - 1023 + 1023) = (Q : Int) := by rw [IntWalk.i64_in _ (by omega)]; omega
 have k7 : IntKind.u64.wrap (Q : Int) = (Q : Int) := by rw [IntKind.wrap_u64]; omega
 have k8 : IntKind.u64.wrap ((Q : Int) * 4503599627370496) = ((Q * 4503599627370496 : Nat) : Int) := by rw [IntKind.wrap_u64]; omega
 have t1 : decide ((Q : Int) - 1076 < -1075) = false := decide_eq_false (by omega)
 have t2 : decide (1023 < (Q : Int) - 1076) = false := decide_eq_false (by omega)
 have t3 : decide ((Q : Int) - 1076 < -1022) = true := decide_eq_true (by omega)
 obtain ⟨q, hq⟩ : ∃ q, k + 1 = q := ⟨_, rfl⟩
 obtain ⟨X1, hX1⟩ : ∃ X1, (k : Int) - 1022 = X1 := ⟨_, rfl⟩
 obtain ⟨X2, hX2⟩ : ∃ X2, (D : Int) - 52 = X2 := ⟨_, rfl⟩
 obtain ⟨X3, hX3⟩ : ∃ X3, (Q : Int) - 1076 = X3 := ⟨_, rfl⟩
 obtain ⟨X4, hX4⟩ : ∃ X4, (Q : Int) - 1023 = X4 := ⟨_, rfl⟩
 rw [hq] at h7 k1 k2 k3
 rw [hX1] at k3 k5
 rw [hX2] at k4 k5
 rw [hX3] at k5 k9 t1 t2 t3
 rw [hX4] at k9 k6
 rw [← k8] at h8
 clear hy0 hy hm a1 a2 a3 a4 hd hu hr p1 p2 p3 ht2 hQ e8 k8 hq hX1 hX2 hX3 hX4
 go_enter Tryz.func224, Tryz.ntmps224
 go_wp2_with fail
 refine Sm (C2.out _) ?_
 go_wp2_with fail
 refine Sm (C1.out _) ?_
 go_wp2_with fail
 refine Sm (C3.out _) ?_
 go_wp2
 go_ret
 exact ⟨rfl, rfl⟩
theorem Zn {r : Nat} (h : r < 9218868437227405312) (K : Nat) (hK : K = 2098) : Ac r < 2 ^ K := by
 obtain ⟨J, hJ⟩ : ∃ J : Nat, J = 2046 := ⟨_, rfl⟩
 have e1 := Ap 4503599627370496 J (by omega) (by omega)
 rw [show J * 4503599627370496 + 4503599627370496 = 9218868437227405312 by rw [hJ]] at e1
 have := Bf h
 rw [e1, show (4503599627370496 : Nat) = 2 ^ 52 from rfl, ← Nat.pow_add, show 52 + J = K by omega] at this
 exact this
theorem Yv {y D u : Nat} (h0 : 0 < y) (hy : y < 9218868437227405312) (hu : u < 9218868437227405312) (h : Ac u = Ac y * 2 ^ D) (w : World) :
  Cq 224 #[.float .f64 y, .int .i64 (D : Nat)] (.float .f64 u) w := by
 obtain ⟨K, hK⟩ : ∃ K : Nat, K = 2098 := ⟨_, rfl⟩
 have hDK : D < K := by
  have h1 := Zn hu K hK
  have h2 := F3.2 h0
  have h3 : 1 * 2 ^ D ≤ Ac y * 2 ^ D := Nat.mul_le_mul_right _ h2
  exact (Nat.pow_lt_pow_iff_right (a := 2) (by omega)).1 (by omega)
 by_cases hn : 4503599627370496 ≤ y
 ·have h1 := Aek (D := D) hn
  rw [← h] at h1
  have h2 := Gb h1
  have h3 := Kq y D w hn hy (by omega)
  have h4 : scl y D = u := by unfold scl; rw [if_pos (by omega)]; exact h2
  rw [h4] at h3
  exact h3
 ·obtain ⟨z, c, M, k, hnf⟩ := Ahd h0 hy
  rcases hnf.way with ⟨_, h1⟩ | ⟨rfl, _, h1⟩
  ·have := hnf.hz; have := hnf.lo; omega
  ·have a1 := hnf.lo
   have a2 := hnf.hi
   have a3 := hnf.hz
   have a4 := hnf.top
   have a5 := hnf.hc
   have hU : Ac u * 2 ^ 52 = M * 2 ^ (D + k) := by
    rw [h, Nat.mul_assoc, Nat.mul_comm (2 ^ D), ← Nat.mul_assoc, a5, Nat.mul_assoc, ← Nat.pow_add, Nat.add_comm k D]
   by_cases hd : 52 ≤ D + k
   ·obtain ⟨d, hd2⟩ : ∃ d, D + k = d + 52 := ⟨D + k - 52, by omega⟩
    rw [hd2] at hU
    have h2 : M * 2 ^ d = Ac u := Db (x := M) (y := Ac u) hU.symm
    rw [← Ap M d a1 a2] at h2
    have h3 := Gb h2
    exact Pm y h0 (by omega) h1 a1 a2 a3 a4 (by omega) hd (by omega) (by rw [show D + k - 52 = d by omega]; exact h3.symm) w
   ·refine Ri (u := (D + k + 1) * 4503599627370496 + M) y h0 (by omega) h1 a1 a2 a3 a4 (by omega) rfl ?_ w
    obtain ⟨J, hJ⟩ : ∃ J : Nat, J = 969 := ⟨_, rfl⟩
    obtain ⟨L, hL⟩ : ∃ L : Nat, L = 1074 := ⟨_, rfl⟩
    have e1 := Ap 4503599627370496 J (by omega) (by omega)
    rw [show J * 4503599627370496 + 4503599627370496 = 4368491638549381120 by rw [hJ]] at e1
    refine Ik (K := L) (by omega) (by omega) hu hL ?_
    have h2 : Ac u * 2 ^ L = Ac u * 2 ^ 52 * 2 ^ (J + 53) := by rw [Nat.mul_assoc, ← Nat.pow_add, show 52 + (J + 53) = L by omega]
    rw [e1, Ap _ _ a1 a2, h2, hU, show (4503599627370496 : Nat) = 2 ^ 52 from rfl, ← Nat.pow_add, Nat.mul_left_comm, ← Nat.pow_add, Nat.mul_assoc, ← Nat.pow_add, show 52 + J + (D + k + 1) = D + k + (J + 53) by omega]
theorem Yh {y D u : Nat} (h0 : 0 < y) (hy : y < 9218868437227405312) (hu : u < 9218868437227405312) (h : Ac u = Ac y * 2 ^ D) (w : World) :
  Cq 179 #[.float .f64 y, .int .i64 (D : Nat)] (.float .f64 u) w := by
 have C := Lh (Yv h0 hy hu h w)
 clear h0 hy hu h
 go_enter Tryz.func179, Tryz.ntmps179
 go_wp2_with fail
 refine C.out.mono ?_
 rintro e w' ⟨rfl, rfl⟩
 go_wp2
 go_ret
 exact ⟨rfl, rfl⟩
end
section
def cn (x : Nat) : Nat := if Bh x = true then 9221120237041090560 else x
def olt (x y : Nat) : Bool := FloatKind.f64.format.order x y == some .lt
def oeq (x y : Nat) : Bool := FloatKind.f64.format.order x y == some .eq
theorem Abu (x : Nat) (hx : x < 18446744073709551616) : decide (wrap64 (x : Int) < 0) = Bj x := by
 unfold Bj wrap64
 by_cases h : x < 9223372036854775808
 ·rw [decide_eq_false (by omega), Nat.div_eq_of_lt h]; rfl
 ·rw [decide_eq_true (by omega), show x / 9223372036854775808 = 1 by omega]; rfl
theorem Ll (x : Nat) (w : World) (hx : x < 18446744073709551616) : Cq 90 #[.float .f64 x] (.bool (Bj x)) w := by
 have h1 := Av x w
 have h2 := Lh (Abu x hx)
 clear hx
 go_enter Tryz.func90, Tryz.ntmps90
 go_wp2
 go_ret
 exact ⟨by rw [← h2.out]; rfl, rfl⟩
def I7 (x y : Nat) : Int := if (Bh x || Bh y) = true then -1 else if olt x y = true then 1 else 0
def Fb (x y : Nat) : Bool := (Bh x && Bh y) || (oeq x y && (Bj x == Bj y))
theorem Afu (x y : Nat) : (FloatKind.f64.format.order x y == some .lt) = olt x y := rfl
theorem Aev {x y : Nat} (h : (Bh x || Bh y) = true) : oeq x y = false := by
 unfold oeq
 rw [show FloatKind.f64.format.order x y = none from Do (by unfold Bh at h; simpa using h)]
 rfl
theorem Mn (x y : Nat) (w : World) : Cq 62 #[.float .f64 x, .float .f64 y] (.int .i64 (I7 x y)) w := by
 have C1 := Lh (fun W => Bn x W)
 have C2 := Lh (fun W => Bn y W)
 have h1 := Afu x y
 unfold I7
 cases e1 : Bh x
 ·cases e2 : Bh y
  ·cases e3 : olt x y
   ·rw [e1] at C1; rw [e2] at C2; rw [e3] at h1
    clear e1 e2 e3
    go_enter Tryz.func62, Tryz.ntmps62
    go_wp2_with fail
    refine Sm (C1.out _) ?_
    go_wp2_with fail
    refine Sm (C2.out _) ?_
    go_wp2
    go_ret
    exact ⟨rfl, rfl⟩
   ·rw [e1] at C1; rw [e2] at C2; rw [e3] at h1
    clear e1 e2 e3
    go_enter Tryz.func62, Tryz.ntmps62
    go_wp2_with fail
    refine Sm (C1.out _) ?_
    go_wp2_with fail
    refine Sm (C2.out _) ?_
    go_wp2
    go_ret
    exact ⟨rfl, rfl⟩
  ·rw [e1] at C1; rw [e2] at C2
   clear e1 e2
   go_enter Tryz.func62, Tryz.ntmps62
   go_wp2_with fail
   refine Sm (C1.out _) ?_
   go_wp2_with fail
   refine Sm (C2.out _) ?_
   go_wp2
   go_ret
   exact ⟨rfl, rfl⟩
 ·rw [e1] at C1
  clear e1
  go_enter Tryz.func62, Tryz.ntmps62
  go_wp2_with fail
  refine Sm (C1.out _) ?_
  go_wp2
  go_ret
  exact ⟨rfl, rfl⟩
theorem Lk (x y : Nat) (w : World) : Cq 58 #[.float .f64 x, .float .f64 y] (.bool (oeq x y)) w := by
 go_enter Tryz.func58, Tryz.ntmps58
 go_wp2
 go_ret
 exact ⟨rfl, rfl⟩
theorem X8 (x y : Nat) (w : World) (hx : x < 18446744073709551616) (hy : y < 18446744073709551616) : Cq 65 #[.float .f64 x, .float .f64 y] (.bool (Fb x y)) w := by
 have C1 := Lh (fun W => Bn x W)
 have C2 := Lh (fun W => Bn y W)
 have C3 := Lh (fun W => Lk x y W)
 have C4 := Lh (fun W => Ll x W hx)
 have C5 := Lh (fun W => Ll y W hy)
 unfold Fb
 cases e1 : Bh x
 ·rw [e1] at C1
  cases e3 : oeq x y
  ·rw [e3] at C3
   clear e1 e3 hx hy
   go_enter Tryz.func65, Tryz.ntmps65
   go_wp2_with fail
   refine Sm (C1.out _) ?_
   go_wp2_with fail
   refine Sm (C3.out _) ?_
   go_wp2
   go_ret
   exact ⟨rfl, rfl⟩
  ·rw [e3] at C3
   clear e1 e3 hx hy
   go_enter Tryz.func65, Tryz.ntmps65
   go_wp2_with fail
   refine Sm (C1.out _) ?_
   go_wp2_with fail
   refine Sm (C3.out _) ?_
   go_wp2_with fail
   refine Sm (C4.out _) ?_
   go_wp2_with fail
   refine Sm (C5.out _) ?_
   go_wp2
   go_ret
   exact ⟨rfl, rfl⟩
 ·rw [e1] at C1
  rw [Aev (by rw [e1]; rfl)]
  clear e1 hx hy
  go_enter Tryz.func65, Tryz.ntmps65
  go_wp2_with fail
  refine Sm (C1.out _) ?_
  go_wp2_with fail
  refine Sm (C2.out _) ?_
  go_wp2
  go_ret
  exact ⟨by simp, rfl⟩
end
section
structure Val where
 vk : Int
 vb : Bool
 vn : Nat
 vs : ByteArray
 vo : Int
def Ay (v : Val) : Value := .agg #[.int .i64 v.vk, .bool v.vb, .float .f64 v.vn, .string v.vs, .int .i64 v.vo]
def Abv : Val := ⟨0, false, 0, ⟨#[]⟩, 0⟩
def Si : Val := ⟨1, false, 0, ⟨#[]⟩, 0⟩
def Tc (b : Bool) : Val := ⟨2, b, 0, ⟨#[]⟩, 0⟩
def Gm (n : Nat) : Val := ⟨3, false, n, ⟨#[]⟩, 0⟩
def Fm (s : ByteArray) : Val := ⟨4, false, 0, s, 0⟩
def T4 (o : Int) : Val := ⟨5, false, 0, ⟨#[]⟩, o⟩
def Bc (v : Val) : Bool :=
 decide (0 ≤ v.vk) && decide (v.vk ≤ 5) && (!v.vb || v.vk == 2) && (v.vn == 0 || (v.vk == 3 && cn v.vn == v.vn)) &&
  (v.vs.toList.isEmpty || (v.vk == 4 && v.vs.size % 2 == 0)) && (v.vo == 0 || (v.vk == 5 && decide (0 < v.vo)))
theorem K6 {s : ByteArray} (h : s.toList.isEmpty = true) : s = ⟨#[]⟩ := by
 rw [ByteArray.toList_eq] at h
 obtain ⟨⟨l⟩⟩ := s
 cases l with
 | nil => rfl
 | cons a l => simp at h
theorem Dx {v : Val} (h : Bc v = true) :
  v = Abv ∨ v = Si ∨ (∃ b, v = Tc b) ∨ (∃ n, cn n = n ∧ v = Gm n) ∨ (∃ s, s.size % 2 = 0 ∧ v = Fm s) ∨ (∃ o, 0 ≤ o ∧ v = T4 o) := by
 obtain ⟨k, b, n, s, o⟩ := v
 unfold Bc at h
 simp only [Bool.and_eq_true, Bool.or_eq_true, Bool.not_eq_true', decide_eq_true_iff, beq_iff_eq] at h
 obtain ⟨⟨⟨⟨⟨h0, h1⟩, hb⟩, hn⟩, hs⟩, ho⟩ := h
 have hk : k = 0 ∨ k = 1 ∨ k = 2 ∨ k = 3 ∨ k = 4 ∨ k = 5 := by omega
 have hs' : s = ⟨#[]⟩ ∨ (k = 4 ∧ s.size % 2 = 0) := hs.imp K6 id
 rcases hk with rfl | rfl | rfl | rfl | rfl | rfl
 ·obtain rfl : b = false := hb.resolve_right (by omega)
  obtain rfl : n = 0 := hn.resolve_right (by omega)
  obtain rfl := hs'.resolve_right (by omega)
  obtain rfl : o = 0 := ho.resolve_right (by omega)
  exact .inl rfl
 ·obtain rfl : b = false := hb.resolve_right (by omega)
  obtain rfl : n = 0 := hn.resolve_right (by omega)
  obtain rfl := hs'.resolve_right (by omega)
  obtain rfl : o = 0 := ho.resolve_right (by omega)
  exact .inr (.inl rfl)
 ·obtain rfl : n = 0 := hn.resolve_right (by omega)
  obtain rfl := hs'.resolve_right (by omega)
  obtain rfl : o = 0 := ho.resolve_right (by omega)
  exact .inr (.inr (.inl ⟨b, rfl⟩))
 ·obtain rfl : b = false := hb.resolve_right (by omega)
  obtain rfl := hs'.resolve_right (by omega)
  obtain rfl : o = 0 := ho.resolve_right (by omega)
  refine .inr (.inr (.inr (.inl ⟨n, ?_, rfl⟩)))
  rcases hn with rfl | hn
  ·decide
  ·exact hn.2
 ·obtain rfl : b = false := hb.resolve_right (by omega)
  obtain rfl : n = 0 := hn.resolve_right (by omega)
  obtain rfl : o = 0 := ho.resolve_right (by omega)
  refine .inr (.inr (.inr (.inr (.inl ⟨s, ?_, rfl⟩))))
  rcases hs' with rfl | hs
  ·rfl
  ·exact hs.2
 ·obtain rfl : b = false := hb.resolve_right (by omega)
  obtain rfl : n = 0 := hn.resolve_right (by omega)
  obtain rfl := hs'.resolve_right (by omega)
  refine .inr (.inr (.inr (.inr (.inr ⟨o, ?_, rfl⟩))))
  rcases ho with rfl | ho
  ·omega
  ·omega
def Cv (x y : Val) : Bool := x.vb == y.vb && x.vs.toList == y.vs.toList && x.vo == y.vo
def By (x y : Val) : Bool := x.vk == y.vk && Cv x y && oeq x.vn y.vn
def Gu (x y : Val) : Bool := x.vk == y.vk && Cv x y && Fb x.vn y.vn
def Vk (x y : Val) : Bool := x.vk == y.vk && Cv x y && x.vn == y.vn
theorem F7 (x : Nat) : (9218868437227405312 < Aw x ∧ Bh x = true) ∨ (Aw x ≤ 9218868437227405312 ∧ Bh x = false) := by
 unfold Bh
 by_cases h : 9218868437227405312 < Aw x
 ·exact .inl ⟨h, decide_eq_true h⟩
 ·exact .inr ⟨by omega, decide_eq_false h⟩
theorem Of {x y : Nat} (hx : Aw x ≤ 9218868437227405312) (hy : Aw y ≤ 9218868437227405312) : oeq x y = decide (De x = De y) := by
 unfold oeq
 rw [show FloatKind.f64.format.order x y = Ieee.double.order x y from rfl, Cz hx hy]
 exact Aa6 _ _
theorem Vl {x y : Nat} (hx : Aw x ≤ 9218868437227405312) (hy : Aw y ≤ 9218868437227405312) : olt x y = decide (De x < De y) := by
 unfold olt
 rw [show FloatKind.f64.format.order x y = Ieee.double.order x y from rfl, Cz hx hy]
 exact Td _ _
theorem Ew {x y : Nat} (h : 9218868437227405312 < Aw x ∨ 9218868437227405312 < Aw y) : oeq x y = false ∧ olt x y = false := by
 unfold oeq olt
 rw [show FloatKind.f64.format.order x y = Ieee.double.order x y from rfl, Do h]
 exact ⟨rfl, rfl⟩
theorem J3 (x y : Nat) : oeq x y = oeq y x := by
 rcases F7 x with ⟨h, _⟩ | ⟨h, _⟩
 ·rw [(Ew (.inl h)).1, (Ew (.inr h)).1]
 ·rcases F7 y with ⟨g, _⟩ | ⟨g, _⟩
  ·rw [(Ew (.inr g)).1, (Ew (.inl g)).1]
  ·rw [Of h g, Of g h, Bool.eq_iff_iff, decide_eq_true_iff, decide_eq_true_iff]
   exact eq_comm
theorem Pv (x : Nat) : oeq x x = !Bh x := by
 rcases F7 x with ⟨h, e⟩ | ⟨h, e⟩
 ·rw [(Ew (.inl h)).1, e]; rfl
 ·rw [Of h h, e]; simp
theorem Xy {x y : Nat} (h : olt x y = true) : olt y x = false := by
 rcases F7 x with ⟨g, _⟩ | ⟨g, _⟩
 ·exact (Ew (.inr g)).2
 ·rcases F7 y with ⟨k, _⟩ | ⟨k, _⟩
  ·exact (Ew (.inl k)).2
  ·rw [Vl g k, decide_eq_true_iff] at h
   rw [Vl k g, decide_eq_false_iff_not]
   omega
theorem Mm (a b : Bool) : (a == b) = (b == a) := by cases a <;> cases b <;> rfl
theorem Ko (a b : Int) : (a == b) = (b == a) := by rw [Bool.eq_iff_iff, beq_iff_eq, beq_iff_eq]; exact eq_comm
theorem Yq (a b : List UInt8) : (a == b) = (b == a) := by rw [Bool.eq_iff_iff, beq_iff_eq, beq_iff_eq]; exact eq_comm
theorem La (x y : Val) : Cv x y = Cv y x := by
 unfold Cv
 rw [Mm x.vb, Yq x.vs.toList, Ko x.vo]
theorem Gy (x : Val) : Cv x x = true := by unfold Cv; simp
theorem I6 (x y : Val) : By x y = By y x := by
 unfold By
 rw [Ko x.vk, La x, J3 x.vn]
theorem Sw (x y : Nat) : Fb x y = Fb y x := by
 unfold Fb
 rw [Bool.and_comm (Bh x), J3 x, Mm (Bj x)]
theorem Ze (x y : Val) : Gu x y = Gu y x := by
 unfold Gu
 rw [Ko x.vk, La x, Sw x.vn]
theorem Yo (x : Val) : Gu x x = true := by
 unfold Gu Fb
 rw [Gy, Pv]
 cases Bh x.vn <;> simp
theorem Pp (x : Val) : By x x = !Bh x.vn := by
 unfold By
 rw [Gy, Pv]
 simp
theorem Afl {x : Val} (h : Bc x = true) : By x x = !(x.vk == 3 && Bh x.vn) := by
 rw [Pp]
 rcases Dx h with rfl | rfl | ⟨b, rfl⟩ | ⟨n, _, rfl⟩ | ⟨s, _, rfl⟩ | ⟨o, _, rfl⟩
 ·rfl
 ·rfl
 ·rfl
 ·simp [Gm]
 ·rfl
 ·rfl
end
section
def Ad : List Value → Nat → Value → List Value
 | [], _, _ => []
 | _ :: r, 0, v => v :: r
 | a :: r, n + 1, v => a :: Ad r n v
theorem V5 : ∀ (l : List Value) (k : Nat) (v : Value), l.set k v = Ad l k v
 | [], _, _ => rfl
 | _ :: _, 0, _ => rfl
 | a :: r, n + 1, v => by rw [List.set_cons_succ, V5 r n v]; rfl
theorem Afw (l : List Value) (d : List Deferred) (k : Nat) (v : Value) : Act.put { tmps := l.toArray, defers := d } (some k) v = { tmps := (Ad l k v).toArray, defers := d } := by
 simp [Act.put, V5]
theorem Og {P : Program} {md : Region.Mode} {ops : Array Oper} {Q : Exit → Act → World → Prop} {S : World → Prop} {i k fuel : Nat} {oi : Oper} {v : Value} {listed : Array Bool} {l : List Value} {d : List Deferred} {w : World}
  (hi : ops[i]? = some oi) (hs : Region.noSelect ops = true) (hf : Region.free md ops listed i = true) (hr : (Region.ready md ops listed).contains i = true)
  (hQ : ∀ c a w, Q (.panic c) (a.put oi.dst v) w → Q (.panic c) a w) (hy : YieldsIf P ops S oi v { tmps := l.toArray, defers := d }) (hd : oi.dst = some k) (hS : S w)
  (h : wpAnyH P md ops Q S fuel (listed.setIfInBounds i true) { tmps := (Ad l k v).toArray, defers := d } w) : wpAnyH P md ops Q S (fuel + 1) listed { tmps := l.toArray, defers := d } w :=
 wpAnyH_take hi hs hf hr hQ hy hS (by rw [hd, Afw]; exact h)
theorem Tk {P : Program} {md : Region.Mode} {ops : Array Oper} {Q : Exit → Act → World → Prop} {S : World → Prop} (i : Nat) {k fuel : Nat} {oi : Oper} {v : Value} {listed : Array Bool} {l : List Value} {d : List Deferred} {w : World} (hi : ops[i]? = some oi) (hd : oi.dst = some k) (hy : YieldsIf P ops S oi v { tmps := l.toArray, defers := d }) (h : wpAnyH P md ops Q S fuel (listed.setIfInBounds i true) { tmps := (Ad l k v).toArray, defers := d } w) (hs : Region.noSelect ops = true := by kernel_rfl) (hf : Region.free md ops listed i = true := by kernel_rfl) (hr : (Region.ready md ops listed).contains i = true := by kernel_rfl) (hQ : ∀ c a w, Q (.panic c) (a.put oi.dst v) w → Q (.panic c) a w := by exact fun _ _ _ h => h) (hS : S w := by assumption) : wpAnyH P md ops Q S (fuel + 1) listed { tmps := l.toArray, defers := d } w := Og hi hs hf hr hQ hy hd hS h
theorem Tg {P : Program} {md : Region.Mode} {ops : Array Oper} {Q : Exit → Act → World → Prop} {S : World → Prop} (i : Nat) {k fuel : Nat} {oi : Oper} {v : Value} {listed : Array Bool} {l : List Value} {d : List Deferred} {w : World} (hi : ops[i]? = some oi) (hd : oi.dst = some k) (h : wpAnyH P md ops Q S fuel (listed.setIfInBounds i true) { tmps := (Ad l k v).toArray, defers := d } w) (hy : YieldsIf P ops S oi v { tmps := l.toArray, defers := d } := by exact Or.inl ⟨by rfl, by (intro w hSw; go_simp; try with_reducible rfl)⟩) (hs : Region.noSelect ops = true := by kernel_rfl) (hf : Region.free md ops listed i = true := by kernel_rfl) (hr : (Region.ready md ops listed).contains i = true := by kernel_rfl) (hQ : ∀ c a w, Q (.panic c) (a.put oi.dst v) w → Q (.panic c) a w := by exact fun _ _ _ h => h) (hS : S w := by assumption) : wpAnyH P md ops Q S (fuel + 1) listed { tmps := l.toArray, defers := d } w := Og hi hs hf hr hQ hy hd hS h
theorem Th {P : Program} {md : Region.Mode} {ops : Array Oper} {Q : Exit → Act → World → Prop} {S : World → Prop} (i : Nat) {k fuel : Nat} {oi : Oper} {v : Value} {listed : Array Bool} {l : List Value} {d : List Deferred} {w : World} (hi : ops[i]? = some oi) (hd : oi.dst = some k) (h : wpAnyH P md ops Q S fuel (listed.setIfInBounds i true) { tmps := (Ad l k v).toArray, defers := d } w) (hy : YieldsIf P ops S oi v { tmps := l.toArray, defers := d } := by exact Or.inl ⟨by rfl, by (intro w hSw; (try dsimp only at hSw); go_simp; try with_reducible rfl)⟩) (hs : Region.noSelect ops = true := by kernel_rfl) (hf : Region.free md ops listed i = true := by kernel_rfl) (hr : (Region.ready md ops listed).contains i = true := by kernel_rfl) (hQ : ∀ c a w, Q (.panic c) (a.put oi.dst v) w → Q (.panic c) a w := by exact fun _ _ _ h => h) (hS : S w := by assumption) : wpAnyH P md ops Q S (fuel + 1) listed { tmps := l.toArray, defers := d } w := Og hi hs hf hr hQ hy hd hS h
theorem Tn {P : Program} {md : Region.Mode} {ops : Array Oper} {Q : Exit → Act → World → Prop} {S : World → Prop} (i : Nat) {k fuel : Nat} {oi : Oper} {v : Value} {listed : Array Bool} {l : List Value} {d : List Deferred} {w : World} (hi : ops[i]? = some oi) (hd : oi.dst = some k) (h : wpAnyH P md ops Q S fuel (listed.setIfInBounds i true) { tmps := (Ad l k v).toArray, defers := d } w) (hy : YieldsIf P ops S oi v { tmps := l.toArray, defers := d } := by exact Or.inr ⟨by rfl, rfl⟩) (hs : Region.noSelect ops = true := by kernel_rfl) (hf : Region.free md ops listed i = true := by kernel_rfl) (hr : (Region.ready md ops listed).contains i = true := by kernel_rfl) (hQ : ∀ c a w, Q (.panic c) (a.put oi.dst v) w → Q (.panic c) a w := by exact fun _ _ _ h => h) (hS : S w := by assumption) : wpAnyH P md ops Q S (fuel + 1) listed { tmps := l.toArray, defers := d } w := Og hi hs hf hr hQ hy hd hS h
theorem Cd {P : Program} {md : Region.Mode} {ops : Array Oper} {Q : Exit → Act → World → Prop} {S : World → Prop} {i k fuel : Nat} {oi : Oper} {listed : Array Bool} {l : List Value} {d : List Deferred} {w : World}
  (hr : Region.ready md ops listed = [i]) (hi : ops[i]? = some oi) (hd : oi.dst = some k) (hw : Region.wanted oi (yielded ops l.toArray) = true)
  (h : ∀ K : Act → World → Prop, Hid (∀ v w', S w' → wpAnyH P md ops Q S fuel (listed.setIfInBounds i true) { tmps := (Ad l k v).toArray, defers := d } w' → K (Act.put { tmps := l.toArray, defers := d } oi.dst v) w') → Oper.wp P oi { tmps := l.toArray, defers := d } w K Q) :
  wpAnyH P md ops Q S (fuel + 1) listed { tmps := l.toArray, defers := d } w :=
 wpAnyH_ready hr (by simp) (AllReadyH.cons hi (fun K hK => by
  rw [if_pos hw]
  refine h K (Lh fun v w' hS hW => ?_)
  refine hK.out _ _ hS (fun _ => ?_)
  rw [hd, Afw]
  exact hW) AllReadyH.nil)
theorem Ai (w : World) (a : Obj) : Below w.heap.size w (w.alloc a) := (Below.refl _ _).alloc (Nat.le_refl _) _
theorem Fq (w : World) (a b : Obj) : Below w.heap.size w ((w.alloc a).alloc b) := (Ai w a).alloc (by simp) _
theorem Ff (n m : Nat) : ((n : Int) == (m : Int)) = (n == m) := by
 rw [Bool.eq_iff_iff, beq_iff_eq, beq_iff_eq]
 omega
theorem kept {W w' : World} (h : Below W.heap.size W w') (a : Addr) (v : Value) (hc : W.cell? a = some v) : w'.cell? a = some v := by
 rw [← hc]
 refine h.cell ?_
 rcases Nat.lt_or_ge a.block W.heap.size with h' | h'
 ·exact h'
 ·simp [World.cell?, Array.getElem?_eq_none h'] at hc
theorem D8 {B g : Nat} {a w : World} (h : Below B a w) (hg : B ≤ g) (c : Array Value) : Below B a (w.setRow g c) :=
 ⟨h.os, h.tape, h.output, by rw [setRow_size]; exact h.size, fun k hk => (setRow_other w g k c (by omega)).trans (h.block k hk)⟩
theorem Lr {fn : Func} {p : Tmp} {ty : TypeId} (h : fn.results = #[.cell p ty]) (tmps : Array Value) (P : Program) (w : World) (a : Addr) (v : Value) (ha : tmps.getD p undef = .pointer (some a)) (hl : (loadVar ty a).run P w = .ok v w) :
  (results fn tmps).run P w = .ok v w := by
 simp only [results, h]
 simp [-Array.getD_eq_getD_getElem?, ha, asAddr, hl]
theorem Kk {fn : Func} {p t : Tmp} {ty : TypeId} (h : fn.results = #[.cell p ty, .tmp t]) (tmps : Array Value) (P : Program) (w : World) (a : Addr) (v : Value) (ha : tmps.getD p undef = .pointer (some a)) (hl : (loadVar ty a).run P w = .ok v w) :
  (results fn tmps).run P w = .ok (.tuple #[v, tmps.getD t undef]) w := by
 simp only [results, h]
 simp [-Array.getD_eq_getD_getElem?, ha, asAddr, hl]
def Af (v : Val) : Array Value := #[.int .i64 v.vk, .bool v.vb, .float .f64 v.vn, .string v.vs, .int .i64 v.vo]
theorem vlS {ops : Array Oper} {rest : List Oper} {o : Oper} {a : Act} {w : World} {Q : Exit → Act → World → Prop} {x y : Operand} (hgd : o.guard = none) (ho : o.op = .store 24 x y) (g : Nat) (k : Int) (b : Bool) (n : Nat) (s : ByteArray) (q : Int)
  (hx : a.eval x = .pointer (some ⟨g, 0, none⟩)) (hy : a.eval y = .agg #[.int .i64 k, .bool b, .float .f64 n, .string s, .int .i64 q])
  (hg : w.heap[g]? = some (.cells #[.int .i64 0, .bool false, .float .f64 0, .string ⟨#[]⟩, .int .i64 0] 24 (0, 0)))
  (h : wpList Tryz.prog ops Q rest (a.put o.dst undef) (w.setRow g #[.int .i64 k, .bool b, .float .f64 n, .string s, .int .i64 q])) : wpList Tryz.prog ops Q (o :: rest) a w :=
 wpList_store_row hgd 24 x y ho g _ hx hy 24 _ hg (by kernel_rfl) rfl (by kernel_rfl) h
theorem vlR {fn : Func} {p : Tmp} {R : Ending → World → Prop} {a : Act} {w : World} {g : Nat} {c : Array Value} (hr : fn.results = #[.cell p 24]) (ha : a.tmps.getD p undef = .pointer (some ⟨g, 0, none⟩))
  (hG : w.heap[g]? = some (.cells c 24 (0, 0))) (hc : c.size = 5) (hd : a.defers = []) (hR : R (.returned (.agg c)) w) : bodyPost Tryz.prog fn R .ret a w :=
 bodyPost_ret (Lr hr _ _ _ _ _ ha (run_loadVar_row _ g 24 24 _ (0, 0) _ hG Tryz.underlying24 rfl (by rw [hc]; kernel_rfl))) hd hR
theorem Xd {fn : Func} {p t : Tmp} {R : Ending → World → Prop} {a : Act} {w : World} {g : Nat} {c : Array Value} (hr : fn.results = #[.cell p 24, .tmp t]) (ha : a.tmps.getD p undef = .pointer (some ⟨g, 0, none⟩))
  (hG : w.heap[g]? = some (.cells c 24 (0, 0))) (hc : c.size = 5) (hd : a.defers = []) (hR : R (.returned (.tuple #[.agg c, a.tmps.getD t undef])) w) : bodyPost Tryz.prog fn R .ret a w :=
 bodyPost_ret (Kk hr _ _ _ _ _ ha (run_loadVar_row _ g 24 24 _ (0, 0) _ hG Tryz.underlying24 rfl (by rw [hc]; kernel_rfl))) hd hR
end
section
theorem U3 (x y : Val) (w : World) : Ct 44 #[Ay x, Ay y] (.bool (Cv x y)) w := by
 unfold Cv Ay
 obtain ⟨k, b, n, s, o⟩ := x
 obtain ⟨k', b', n', s', o'⟩ := y
 dsimp only
 obtain ⟨B, hB⟩ : ∃ B, (b == b') = B := ⟨_, rfl⟩
 obtain ⟨S, hS⟩ : ∃ B, (s.toList == s'.toList) = B := ⟨_, rfl⟩
 obtain ⟨O, hO⟩ : ∃ B, (o == o') = B := ⟨_, rfl⟩
 rw [hB, hS, hO]
 go_enter Tryz.func44, Tryz.ntmps44
 go_wp2
 all_goals go_ret
 all_goals refine ⟨?_, Fq _ _ _⟩
 all_goals simp [*]
theorem Pj (x y : Val) (w : World) : Cp 44 #[Ay x, Ay y] w fun e w' => e = .returned (.bool (Cv x y)) ∧ Below w.heap.size w w' ∧ ∀ a v, w.cell? a = some v → w'.cell? a = some v :=
 (U3 x y w).mono fun _ _ ⟨a, b⟩ => ⟨a, b, kept b⟩
theorem Gd (x y : Val) (w : World) : Ct 12 #[Ay x, Ay y] (.bool (Vk x y)) w := by
 have C1 := Lh (fun W => Pj x y W)
 have h1 := fun W => Av x.vn W
 have h2 := fun W => Av y.vn W
 have HB := Lh (fun a b => Fq w a b)
 unfold Vk
 rw [← Ff]
 obtain ⟨O, hO⟩ : ∃ B, ((x.vn : Int) == (y.vn : Int)) = B := ⟨_, rfl⟩
 obtain ⟨A, hA⟩ : ∃ B, Cv x y = B := ⟨_, rfl⟩
 obtain ⟨K, hK⟩ : ∃ B, (x.vk == y.vk) = B := ⟨_, rfl⟩
 rw [hO, hA, hK]
 rw [hA] at C1
 clear hA
 obtain ⟨k, b, n, s, o⟩ := x
 obtain ⟨k', b', n', s', o'⟩ := y
 unfold Ay at C1 ⊢
 dsimp only at C1 hO hK h1 h2 ⊢
 cases K
 ·have hK2 : decide (k = k') = false := by simpa using hK
  clear C1 h1 h2
  go_enter Tryz.func12, Tryz.ntmps12
  go_wp2
  go_quiet (fail)
  go_wp2
  go_ret
  exact ⟨by simp, Ae (Fq _ _ _) _⟩
 ·obtain rfl : k = k' := by simpa using hK
  clear hK
  cases A
  ·clear h1 h2
   go_enter Tryz.func12, Tryz.ntmps12
   go_wp2
   refine wp_region_held_drew (S := (fun w' => w'.cell? ⟨w.heap.size, 0, none⟩ = some (.int .i64 k) ∧ w'.cell? ⟨w.heap.size, 1, none⟩ = some (.bool b) ∧ w'.cell? ⟨w.heap.size, 2, none⟩ = some (.float .f64 n) ∧ w'.cell? ⟨w.heap.size, 3, none⟩ = some (.string s) ∧ w'.cell? ⟨w.heap.size, 4, none⟩ = some (.int .i64 o) ∧ w'.cell? ⟨w.heap.size + 1, 0, none⟩ = some (.int .i64 k) ∧ w'.cell? ⟨w.heap.size + 1, 1, none⟩ = some (.bool b') ∧ w'.cell? ⟨w.heap.size + 1, 2, none⟩ = some (.float .f64 n') ∧ w'.cell? ⟨w.heap.size + 1, 3, none⟩ = some (.string s') ∧ w'.cell? ⟨w.heap.size + 1, 4, none⟩ = some (.int .i64 o'))) (by kernel_rfl) ?_ (fun hHeld => ?_)
   ·go_keep
   refine Th 0 rfl rfl ?_; simp only [Ad]
   refine Th 1 rfl rfl ?_; simp only [Ad]
   refine Th 2 rfl rfl ?_; simp only [Ad]
   refine Th 3 rfl rfl ?_; simp only [Ad]
   refine Th 4 rfl rfl ?_; simp only [Ad]
   refine Th 5 rfl rfl ?_; simp only [Ad]
   refine Th 6 rfl rfl ?_; simp only [Ad]
   refine Th 7 rfl rfl ?_; simp only [Ad]
   refine Cd (i := 8) (by kernel_rfl) rfl rfl (by rfl) (fun K hK => ?_)
   go_simp
   with_reducible refine (C1.out _).mono ?_
   rintro e w2 ⟨rfl, b2, hk⟩
   have hHeld2 := hHeld; clear hHeld; have hHeld : (fun w' => w'.cell? ⟨w.heap.size, 0, none⟩ = some (.int .i64 k) ∧ w'.cell? ⟨w.heap.size, 1, none⟩ = some (.bool b) ∧ w'.cell? ⟨w.heap.size, 2, none⟩ = some (.float .f64 n) ∧ w'.cell? ⟨w.heap.size, 3, none⟩ = some (.string s) ∧ w'.cell? ⟨w.heap.size, 4, none⟩ = some (.int .i64 o) ∧ w'.cell? ⟨w.heap.size + 1, 0, none⟩ = some (.int .i64 k) ∧ w'.cell? ⟨w.heap.size + 1, 1, none⟩ = some (.bool b') ∧ w'.cell? ⟨w.heap.size + 1, 2, none⟩ = some (.float .f64 n') ∧ w'.cell? ⟨w.heap.size + 1, 3, none⟩ = some (.string s') ∧ w'.cell? ⟨w.heap.size + 1, 4, none⟩ = some (.int .i64 o')) w2 := ⟨hk _ _ hHeld2.1, hk _ _ hHeld2.2.1, hk _ _ hHeld2.2.2.1, hk _ _ hHeld2.2.2.2.1, hk _ _ hHeld2.2.2.2.2.1, hk _ _ hHeld2.2.2.2.2.2.1, hk _ _ hHeld2.2.2.2.2.2.2.1, hk _ _ hHeld2.2.2.2.2.2.2.2.1, hk _ _ hHeld2.2.2.2.2.2.2.2.2.1, hk _ _ hHeld2.2.2.2.2.2.2.2.2.2⟩
   refine hK.out _ _ hHeld ?_; clear hK K hHeld2; simp only [Ad]
   refine Th 9 rfl rfl ?_; simp only [Ad]
   refine Th 10 rfl rfl ?_; simp only [Ad]
   refine Tn 11 rfl rfl ?_; simp only [Ad]
   refine Tn 12 rfl rfl ?_; simp only [Ad]
   refine Tn 13 rfl rfl ?_; simp only [Ad]
   refine Tn 14 rfl rfl ?_; simp only [Ad]
   refine Tn 15 rfl rfl ?_; simp only [Ad]
   refine Tn 16 rfl rfl ?_; simp only [Ad]
   refine Tn 17 rfl rfl ?_; simp only [Ad]
   refine Th 18 rfl rfl ?_; simp only [Ad]
   refine Th 19 rfl rfl ?_; simp only [Ad]
   refine wpAnyH_done (by kernel_rfl) ?_ _
   go_wp2
   go_ret
   exact ⟨by simp, Aa (Ae (Fq _ _ _) _) b2⟩
  ·skip
   go_enter Tryz.func12, Tryz.ntmps12
   go_wp2
   refine wp_region_held_drew (S := (fun w' => w'.cell? ⟨w.heap.size, 0, none⟩ = some (.int .i64 k) ∧ w'.cell? ⟨w.heap.size, 1, none⟩ = some (.bool b) ∧ w'.cell? ⟨w.heap.size, 2, none⟩ = some (.float .f64 n) ∧ w'.cell? ⟨w.heap.size, 3, none⟩ = some (.string s) ∧ w'.cell? ⟨w.heap.size, 4, none⟩ = some (.int .i64 o) ∧ w'.cell? ⟨w.heap.size + 1, 0, none⟩ = some (.int .i64 k) ∧ w'.cell? ⟨w.heap.size + 1, 1, none⟩ = some (.bool b') ∧ w'.cell? ⟨w.heap.size + 1, 2, none⟩ = some (.float .f64 n') ∧ w'.cell? ⟨w.heap.size + 1, 3, none⟩ = some (.string s') ∧ w'.cell? ⟨w.heap.size + 1, 4, none⟩ = some (.int .i64 o'))) (by kernel_rfl) ?_ (fun hHeld => ?_)
   ·go_keep
   refine Th 0 rfl rfl ?_; simp only [Ad]
   refine Th 1 rfl rfl ?_; simp only [Ad]
   refine Th 2 rfl rfl ?_; simp only [Ad]
   refine Th 3 rfl rfl ?_; simp only [Ad]
   refine Th 4 rfl rfl ?_; simp only [Ad]
   refine Th 5 rfl rfl ?_; simp only [Ad]
   refine Th 6 rfl rfl ?_; simp only [Ad]
   refine Th 7 rfl rfl ?_; simp only [Ad]
   refine Cd (i := 8) (by kernel_rfl) rfl rfl (by rfl) (fun K hK => ?_)
   go_simp
   with_reducible refine (C1.out _).mono ?_
   rintro e w2 ⟨rfl, b2, hk⟩
   have hHeld2 := hHeld; clear hHeld; have hHeld : (fun w' => w'.cell? ⟨w.heap.size, 0, none⟩ = some (.int .i64 k) ∧ w'.cell? ⟨w.heap.size, 1, none⟩ = some (.bool b) ∧ w'.cell? ⟨w.heap.size, 2, none⟩ = some (.float .f64 n) ∧ w'.cell? ⟨w.heap.size, 3, none⟩ = some (.string s) ∧ w'.cell? ⟨w.heap.size, 4, none⟩ = some (.int .i64 o) ∧ w'.cell? ⟨w.heap.size + 1, 0, none⟩ = some (.int .i64 k) ∧ w'.cell? ⟨w.heap.size + 1, 1, none⟩ = some (.bool b') ∧ w'.cell? ⟨w.heap.size + 1, 2, none⟩ = some (.float .f64 n') ∧ w'.cell? ⟨w.heap.size + 1, 3, none⟩ = some (.string s') ∧ w'.cell? ⟨w.heap.size + 1, 4, none⟩ = some (.int .i64 o')) w2 := ⟨hk _ _ hHeld2.1, hk _ _ hHeld2.2.1, hk _ _ hHeld2.2.2.1, hk _ _ hHeld2.2.2.2.1, hk _ _ hHeld2.2.2.2.2.1, hk _ _ hHeld2.2.2.2.2.2.1, hk _ _ hHeld2.2.2.2.2.2.2.1, hk _ _ hHeld2.2.2.2.2.2.2.2.1, hk _ _ hHeld2.2.2.2.2.2.2.2.2.1, hk _ _ hHeld2.2.2.2.2.2.2.2.2.2⟩
   refine hK.out _ _ hHeld ?_; clear hK K hHeld2; simp only [Ad]
   refine Th 9 rfl rfl ?_; simp only [Ad]
   refine Th 10 rfl rfl ?_; simp only [Ad]
   refine Th 11 rfl rfl ?_; simp only [Ad]
   refine Th 12 rfl rfl ?_; simp only [Ad]
   refine Th 13 rfl rfl ?_; simp only [Ad]
   refine Th 14 rfl rfl ?_; simp only [Ad]
   refine Th 15 rfl rfl ?_; simp only [Ad]
   refine Th 16 rfl rfl ?_; simp only [Ad]
   refine Th 17 rfl rfl ?_; simp only [Ad]
   refine Th 18 rfl rfl ?_; simp only [Ad]
   refine Th 19 rfl rfl ?_; simp only [Ad]
   refine wpAnyH_done (by kernel_rfl) ?_ _
   go_wp2
   go_ret
   exact ⟨by simp, Aa (Ae (Fq _ _ _) _) b2⟩
theorem Aap (w : World) : Cq 46 #[] (.float .f64 9221120237041090560) w := by
 have h2 : (callFunc 69 #[.int .u64 9221120237041090560]).run Tryz.prog w = .ok (.value (.float .f64 9221120237041090560)) w := Bl 9221120237041090560 w
 go_enter Tryz.func46, Tryz.ntmps46
 go_wp2
 go_ret
 exact ⟨rfl, rfl⟩
theorem Iy (x : Nat) (w : World) : Ct 16 #[.float .f64 x] (Ay (Gm (cn x))) w := by
 have C1 := Lh (fun W => Bn x W)
 have C2 := Lh (fun W => Aap W)
 unfold cn
 cases e1 : Bh x
 ·rw [e1] at C1
  rw [if_neg (by simp)]
  clear e1 C2
  go_enter Tryz.func16, Tryz.ntmps16
  go_wp2_with fail
  refine Sm (C1.out _) ?_
  go_wp2_with (refine vlS rfl rfl w.heap.size 3 false x ⟨#[]⟩ 0 rfl rfl (heap_alloc_last w _) ?_; rw [World.setRow_alloc_new])
  refine vlR rfl rfl (heap_alloc_last w _) rfl rfl ⟨rfl, Ai _ _⟩
 ·rw [e1] at C1
  rw [if_pos rfl]
  clear e1
  go_enter Tryz.func16, Tryz.ntmps16
  go_wp2_with fail
  refine Sm (C1.out _) ?_
  go_wp2_with fail
  refine Sm (C2.out _) ?_
  go_wp2_with (refine vlS rfl rfl w.heap.size 3 false 9221120237041090560 ⟨#[]⟩ 0 rfl rfl (heap_alloc_last w _) ?_; rw [World.setRow_alloc_new])
  refine vlR rfl rfl (heap_alloc_last w _) rfl rfl ⟨rfl, Ai _ _⟩
end
section
theorem O3 (x : Nat) (w : World) : Cp 16 #[.float .f64 x] w fun e w' => e = .returned (.agg #[.int .i64 3, .bool false, .float .f64 (cn x), .string ⟨#[]⟩, .int .i64 0]) ∧ Below w.heap.size w w' ∧ ∀ a v, w.cell? a = some v → w'.cell? a = some v :=
 (Iy x w).mono fun _ _ ⟨a, b⟩ => ⟨a, b, kept b⟩
theorem Adf (n : Nat) : ((n : Int) % 2 == 0) = (n % 2 == 0) := by
 rw [Bool.eq_iff_iff, beq_iff_eq, beq_iff_eq]
 omega
theorem Ahq (k : Int) (b : Bool) (n : Nat) (s : ByteArray) (o : Int) (W : World) : (Instr.field 24 (.agg #[.int .i64 k, .bool b, .float .f64 n, .string s, .int .i64 o]) 2).run Tryz.prog W = .ok (.float .f64 n) W := by
 unfold Instr.field
 simp [go_sem, asAgg]
theorem Ahu {W : World} {g : Nat} {a b c d e : Value} {T : TypeId} {f : Nat × Nat} (h : W.heap[g]? = some (.cells #[a, b, c, d, e] T f)) :
  W.cell? ⟨g, 0, none⟩ = some a ∧ W.cell? ⟨g, 1, none⟩ = some b ∧ W.cell? ⟨g, 2, none⟩ = some c ∧ W.cell? ⟨g, 3, none⟩ = some d ∧ W.cell? ⟨g, 4, none⟩ = some e := by
 simp [World.cell?, h]
theorem Ahy {w W1 : World} {a b c d e : Value} {T : TypeId} (h : w.alloc (.cells #[a, b, c, d, e] T) = W1) :
  W1.cell? ⟨w.heap.size, 0, none⟩ = some a ∧ W1.cell? ⟨w.heap.size, 1, none⟩ = some b ∧ W1.cell? ⟨w.heap.size, 2, none⟩ = some c ∧ W1.cell? ⟨w.heap.size, 3, none⟩ = some d ∧ W1.cell? ⟨w.heap.size, 4, none⟩ = some e := by
 subst h
 exact Ahu (heap_alloc_last _ _)
theorem Ez (v : Val) (w : World) : Ct 21 #[Ay v] (.bool (Bc v)) w := by
 have C2 := Lh (fun W => O3 v.vn W)
 have h1 := fun W => Av v.vn W
 have h2 := fun W => Av (cn v.vn) W
 unfold Bc
 obtain ⟨k, b, n, s, o⟩ := v
 unfold Ay
 dsimp only at C2 h1 h2 ⊢
 obtain ⟨P1, hP1⟩ : ∃ P, (!b || k == 2) = P := ⟨_, rfl⟩
 obtain ⟨P2, hP2⟩ : ∃ P, (n == 0 || (k == 3 && cn n == n)) = P := ⟨_, rfl⟩
 obtain ⟨P3, hP3⟩ : ∃ P, (s.toList.isEmpty || (k == 4 && s.size % 2 == 0)) = P := ⟨_, rfl⟩
 obtain ⟨P4, hP4⟩ : ∃ P, (o == 0 || (k == 5 && decide (0 < o))) = P := ⟨_, rfl⟩
 obtain ⟨A, hA⟩ : ∃ A, decide (0 ≤ k) = A := ⟨_, rfl⟩
 obtain ⟨B, hB⟩ : ∃ B, decide (k ≤ 5) = B := ⟨_, rfl⟩
 rw [hP1, hP2, hP3, hP4, hA, hB]
 have HA := Lh hA
 have HB5 := Lh hB
 clear hA hB
 have H1 := Lh hP1
 have H2 := Lh hP2
 have H3 := Lh hP3
 have H4 := Lh hP4
 clear hP1 hP2 hP3 hP4
 go_enter Tryz.func21, Tryz.ntmps21
 go_upto_region 1 with fail
 obtain ⟨W1, hW1⟩ : ∃ W1, w.alloc (.cells #[.int .i64 k, .bool b, .float .f64 n, .string s, .int .i64 o] 24) = W1 := ⟨_, rfl⟩
 have HB := Lh (show Below w.heap.size w W1 by rw [← hW1]; exact Ai _ _)
 obtain ⟨c0, c1, c2, c3, c4⟩ := Ahy hW1
 have hsz : w.heap.size < W1.heap.size := by rw [← hW1]; simp
 have hsz := Lh hsz
 rw [hW1]
 clear hW1
 generalize Value.agg #[.int .i64 k, .bool b, .float .f64 n, .string s, .int .i64 o] = X
 obtain ⟨g, hg⟩ : ∃ g, w.heap.size = g := ⟨_, rfl⟩
 rw [hg] at c0 c1 c2 c3 c4 HB hsz ⊢
 have HG := Lh hg
 clear hg
 go_cut [3] (fun c wx => c = .bool P1 ∧ W1 = wx)
 case first =>
  cases b
  ·go_wp2
   go_meet
   case rel => exact ⟨by rw [← H1.out]; rfl, rfl⟩
  ·obtain ⟨K, hK⟩ : ∃ K, (k == 2) = K := ⟨_, rfl⟩
   have e1 := Lh <| show K = P1 by rw [← H1.out, hK]; rfl
   go_wp2
   all_goals go_meet
   all_goals (case rel => exact ⟨by rw [← e1.out], rfl⟩)
 case rest =>
  obtain ⟨rfl, rfl⟩ := hcut
  go_upto_region 2 with fail
  go_cut [4] (fun c wx => c = .bool P2 ∧ (∀ a v, W1.cell? a = some v → wx.cell? a = some v) ∧ Below W1.heap.size W1 wx)
  case first =>
   rcases Bool.eq_false_or_eq_true ((n : Int) == 0) with hN | hN
   ·have e2 := Lh <| show true = P2 by rw [← H2.out, ← Ff, show ((0 : Nat) : Int) = 0 from rfl, hN, Bool.true_or]
    refine wp_region_held_drew (S := (fun w' => w'.cell? ⟨g, 0, none⟩ = some (.int .i64 k) ∧ w'.cell? ⟨g, 2, none⟩ = some (.float .f64 n))) (by kernel_rfl) ?_ (fun hHeld => ?_)
    ·go_keep
    refine Th 0 rfl rfl ?_; simp only [Ad]
    refine Th 1 rfl rfl ?_; simp only [Ad]
    refine Th 2 rfl rfl ?_; simp only [Ad]
    refine Th 3 rfl rfl ?_; simp only [Ad]
    refine Th 4 rfl rfl ?_; simp only [Ad]
    refine Tn 5 rfl rfl ?_; simp only [Ad]
    refine Tn 6 rfl rfl ?_; simp only [Ad]
    refine Tn 7 rfl rfl ?_; simp only [Ad]
    refine Tn 8 rfl rfl ?_; simp only [Ad]
    refine Tn 9 rfl rfl ?_; simp only [Ad]
    refine Tn 10 rfl rfl ?_; simp only [Ad]
    refine Tn 11 rfl rfl ?_; simp only [Ad]
    refine Tn 12 rfl rfl ?_; simp only [Ad]
    refine Tn 13 rfl rfl ?_; simp only [Ad]
    refine Tn 14 rfl rfl ?_; simp only [Ad]
    refine Tn 15 rfl rfl ?_; simp only [Ad]
    refine Tn 16 rfl rfl ?_; simp only [Ad]
    refine Tn 17 rfl rfl ?_; simp only [Ad]
    refine Tn 18 rfl rfl ?_; simp only [Ad]
    refine Th 19 rfl rfl ?_; simp only [Ad]
    refine Th 20 rfl rfl ?_; simp only [Ad]
    refine wpAnyH_done (by kernel_rfl) ?_ _
    go_wp2
    go_meet
    case rel => exact ⟨by rw [← e2.out], fun _ _ h => h, Ae (Below.refl _ _) _⟩
   ·rcases Bool.eq_false_or_eq_true (k == 3) with hK | hK
    ·obtain ⟨E, hE⟩ : ∃ E, ((cn n : Int) == (n : Int)) = E := ⟨_, rfl⟩
     have e2 := Lh <| show E = P2 by rw [← H2.out, ← Ff n, ← Ff, show ((0 : Nat) : Int) = 0 from rfl, hN, hK, hE, Bool.false_or, Bool.true_and]
     have hf := fun W => Ahq 3 false (cn n) ⟨#[]⟩ 0 W
     refine wp_region_held_drew (S := (fun w' => w'.cell? ⟨g, 0, none⟩ = some (.int .i64 k) ∧ w'.cell? ⟨g, 2, none⟩ = some (.float .f64 n))) (by kernel_rfl) ?_ (fun hHeld => ?_)
     ·go_keep
     refine Th 0 rfl rfl ?_; simp only [Ad]
     refine Th 1 rfl rfl ?_; simp only [Ad]
     refine Th 2 rfl rfl ?_; simp only [Ad]
     refine Th 3 rfl rfl ?_; simp only [Ad]
     refine Th 4 rfl rfl ?_; simp only [Ad]
     refine Th 5 rfl rfl ?_; simp only [Ad]
     refine Th 6 rfl rfl ?_; simp only [Ad]
     refine Th 7 rfl rfl ?_; simp only [Ad]
     refine Th 8 rfl rfl ?_; simp only [Ad]
     refine Th 9 rfl rfl ?_; simp only [Ad]
     refine Th 10 rfl rfl ?_; simp only [Ad]
     refine Th 14 rfl rfl ?_; simp only [Ad]
     refine Th 15 rfl rfl ?_; simp only [Ad]
     refine Cd (i := 11) (by kernel_rfl) rfl rfl (by rfl) (fun K hK => ?_)
     go_simp
     with_reducible refine (C2.out _).mono ?_
     rintro e w2 ⟨rfl, b2, hk⟩
     have hHeld2 := hHeld; clear hHeld; have hHeld : (fun w' => w'.cell? ⟨g, 0, none⟩ = some (.int .i64 k) ∧ w'.cell? ⟨g, 2, none⟩ = some (.float .f64 n)) w2 := ⟨hk _ _ hHeld2.1, hk _ _ hHeld2.2⟩
     refine hK.out _ _ hHeld ?_; clear hK K hHeld2; simp only [Ad]
     refine Th 12 rfl rfl ?_; simp only [Ad]
     refine Th 13 rfl rfl ?_; simp only [Ad]
     refine Th 16 rfl rfl ?_; simp only [Ad]
     refine Th 17 rfl rfl ?_; simp only [Ad]
     refine Th 18 rfl rfl ?_; simp only [Ad]
     refine Th 19 rfl rfl ?_; simp only [Ad]
     refine Th 20 rfl rfl ?_; simp only [Ad]
     refine wpAnyH_done (by kernel_rfl) ?_ _
     go_wp2
     go_meet
     case rel => exact ⟨by rw [← e2.out], fun a v h => hk a v h, Aa (Ae (Below.refl _ _) _) b2⟩
    ·have e2 := Lh <| show false = P2 by rw [← H2.out, ← Ff n, show ((0 : Nat) : Int) = 0 from rfl, hN, hK]; rfl
     refine wp_region_held_drew (S := (fun w' => w'.cell? ⟨g, 0, none⟩ = some (.int .i64 k) ∧ w'.cell? ⟨g, 2, none⟩ = some (.float .f64 n))) (by kernel_rfl) ?_ (fun hHeld => ?_)
     ·go_keep
     refine Th 0 rfl rfl ?_; simp only [Ad]
     refine Th 1 rfl rfl ?_; simp only [Ad]
     refine Th 2 rfl rfl ?_; simp only [Ad]
     refine Th 3 rfl rfl ?_; simp only [Ad]
     refine Th 4 rfl rfl ?_; simp only [Ad]
     refine Th 5 rfl rfl ?_; simp only [Ad]
     refine Th 6 rfl rfl ?_; simp only [Ad]
     refine Th 7 rfl rfl ?_; simp only [Ad]
     refine Th 8 rfl rfl ?_; simp only [Ad]
     refine Tn 9 rfl rfl ?_; simp only [Ad]
     refine Tn 10 rfl rfl ?_; simp only [Ad]
     refine Tn 11 rfl rfl ?_; simp only [Ad]
     refine Tn 12 rfl rfl ?_; simp only [Ad]
     refine Tn 13 rfl rfl ?_; simp only [Ad]
     refine Tn 14 rfl rfl ?_; simp only [Ad]
     refine Tn 15 rfl rfl ?_; simp only [Ad]
     refine Tn 16 rfl rfl ?_; simp only [Ad]
     refine Tn 17 rfl rfl ?_; simp only [Ad]
     refine Th 18 rfl rfl ?_; simp only [Ad]
     refine Th 19 rfl rfl ?_; simp only [Ad]
     refine Th 20 rfl rfl ?_; simp only [Ad]
     refine wpAnyH_done (by kernel_rfl) ?_ _
     go_wp2
     go_meet
     case rel => exact ⟨by rw [← e2.out], fun _ _ h => h, Ae (Below.refl _ _) _⟩
  case rest =>
  obtain ⟨rfl, hk, hb⟩ := hcut
  have d0 := hk _ _ c0
  have d3 := hk _ _ c3
  have d4 := hk _ _ c4
  have HB2 := Lh (HB.out.trans (hb.mono (Nat.le_of_lt hsz.out)))
  clear hk hb c0 c1 c2 c3 c4 C2 h1 h2 H1 H2 HB
  generalize wc = W2 at *
  go_upto_region 3 with fail
  go_cut [5] (fun c wx => c = .bool P3 ∧ W2 = wx)
  case first =>
   rcases Bool.eq_false_or_eq_true s.toList.isEmpty with hN | hN
   ·have e2 := Lh <| show true = P3 by rw [← H3.out, hN, Bool.true_or]
    go_wp2
    all_goals go_meet
    all_goals (case rel => exact ⟨by rw [← e2.out], rfl⟩)
   ·rcases Bool.eq_false_or_eq_true (k == 4) with hK | hK
    ·obtain ⟨E, hE⟩ : ∃ E, ((s.size : Int) % 2 == 0) = E := ⟨_, rfl⟩
     have e2 := Lh <| show E = P3 by rw [← H3.out, hN, hK, ← hE, Adf, Bool.false_or, Bool.true_and]
     go_wp2
     all_goals go_meet
     all_goals (case rel => exact ⟨by rw [← e2.out], rfl⟩)
    ·have e2 := Lh <| show false = P3 by rw [← H3.out, hN, hK]; rfl
     go_wp2
     all_goals go_meet
     all_goals (case rel => exact ⟨by rw [← e2.out], rfl⟩)
  case rest =>
  obtain ⟨rfl, rfl⟩ := hcut
  go_upto_region 4 with fail
  go_cut [6] (fun c wx => c = .bool P4 ∧ W2 = wx)
  case first =>
   rcases Bool.eq_false_or_eq_true (o == 0) with hN | hN
   ·have e2 := Lh <| show true = P4 by rw [← H4.out, hN, Bool.true_or]
    go_wp2
    all_goals go_meet
    all_goals (case rel => exact ⟨by rw [← e2.out], rfl⟩)
   ·rcases Bool.eq_false_or_eq_true (k == 5) with hK | hK
    ·obtain ⟨E, hE⟩ : ∃ E, decide (0 < o) = E := ⟨_, rfl⟩
     have e2 := Lh <| show E = P4 by rw [← H4.out, hN, hK, hE, Bool.false_or, Bool.true_and]
     go_wp2
     all_goals go_meet
     all_goals (case rel => exact ⟨by rw [← e2.out], rfl⟩)
    ·have e2 := Lh <| show false = P4 by rw [← H4.out, hN, hK]; rfl
     go_wp2
     all_goals go_meet
     all_goals (case rel => exact ⟨by rw [← e2.out], rfl⟩)
  case rest =>
  obtain ⟨rfl, rfl⟩ := hcut
  generalize wc = W2 at *
  clear H3 H4 d3 d4 hsz
  have hA := HA.out
  have hB := HB5.out
  go_wp2
  all_goals go_ret
  all_goals refine ⟨?_, by rw [HG.out]; exact HB2.out⟩
  all_goals simp_all
end
section
theorem stF {P : Program} (a : Addr) (n : Nat) (m : Mode) (w : World) : (store a (.float .f64 n) m).run P w = stored P w a (.float .f64 n) m := run_store P w a _ m rfl
theorem L8 {P : Program} {ops : Array Oper} {rest : List Oper} {o : Oper} {a : Act} {w : World} {Q : Exit → Act → World → Prop} (hw : Region.wanted o (yielded ops a.tmps) = true) (h : o.wp P a w (wpList P ops Q rest) Q) : wpList P ops Q (o :: rest) a w := by
 unfold wpList
 rw [if_pos hw]
 exact .inl h
def BlkV (w : World) (g : Nat) (v : Val) : Prop := w.heap[g]? = some (.cells (Af v) 24 (0, 0))
theorem ldX {ops : Array Oper} {rest : List Oper} {o : Oper} {a : Act} {w : World} {Q : Exit → Act → World → Prop} {x : Operand} {g k : Nat} {v : Val} (hg : BlkV w g v) (hd : o.dst = some k) (hw : Region.wanted o (yielded ops a.tmps) = true) (ho : o.op = .load 24 x)
  (hx : a.eval x = .pointer (some ⟨g, 0, none⟩)) (h : wpList Tryz.prog ops Q rest (a.put (some k) (.agg (Af v))) w) : wpList Tryz.prog ops Q (o :: rest) a w := by
 refine L8 hw ?_
 unfold Oper.wp execOp
 simp only [ho, hx, Instr.loadAt, Instr.sureAddr, Sem.run_bind, Sem.run_pure, Result.andThen_ok, run_loadVar_row w g 24 24 (Af v) (0, 0) _ hg Tryz.underlying24 rfl (by kernel_rfl)]
 show wpList Tryz.prog ops Q rest (a.put o.dst (.agg (Af v))) w
 rw [hd]
 exact h
theorem Cl {o : Oper} {a : Act} {w : World} {x : Operand} {g : Nat} {v : Val} (hg : BlkV w g v) (ho : o.op = .load 24 x) (hx : a.eval x = .pointer (some ⟨g, 0, none⟩)) : (execOp a.eval o).run Tryz.prog w = .ok (.value (.agg (Af v))) w := by
 unfold execOp
 simp only [ho, hx, Instr.loadAt, Instr.sureAddr, Sem.run_bind, Sem.run_pure, Result.andThen_ok, run_loadVar_row w g 24 24 (Af v) (0, 0) _ hg Tryz.underlying24 rfl (by kernel_rfl)]
theorem BlkV.cell {w : World} {g k : Nat} {v : Val} {u : Value} (h : BlkV w g v) (hv : (Af v)[k]? = some u) : w.cell? ⟨g, k, none⟩ = some u := (cell_of_row w g k _ _ _ h).trans hv
theorem BlkV.below {w w' : World} {g B : Nat} {v : Val} (h : BlkV w g v) (hb : Below B w w') (hg : g < B) : BlkV w' g v := (hb.block g hg).trans h
theorem Es {w W1 : World} {v : Val} (h : w.alloc (.cells (Af v) 24) = W1) : BlkV W1 w.heap.size v ∧ Below w.heap.size w W1 ∧ W1.heap.size = w.heap.size + 1 := by
 subst h
 exact ⟨heap_alloc_last _ _, Ai _ _, by simp⟩
structure T1 (w W : World) (x : Val) : Prop where
 k : BlkV W w.heap.size x
 l : w.heap.size < W.heap.size
 b : Below w.heap.size w W
theorem T1.new {w W1 : World} {x : Val} (h : w.alloc (.cells (Af x) 24) = W1) : T1 w W1 x := by
 obtain ⟨a, b, c⟩ := Es h
 exact ⟨a, by omega, b⟩
theorem T1.step {w W W' : World} {x : Val} (h : T1 w W x) (hb : Below W.heap.size W W') : T1 w W' x :=
 ⟨h.k.below hb h.l, Nat.lt_of_lt_of_le h.l hb.size, Aa h.b hb⟩
theorem T1.drew {w W : World} {x : Val} (h : T1 w W x) : T1 w W.drew x := ⟨h.k, h.l, Ae h.b 1⟩
theorem T1.cs {w W : World} {x : Val} (h : T1 w W x) : W.cell? ⟨w.heap.size, 0, none⟩ = some (.int .i64 x.vk) ∧ W.cell? ⟨w.heap.size, 1, none⟩ = some (.bool x.vb) ∧ W.cell? ⟨w.heap.size, 2, none⟩ = some (.float .f64 x.vn) ∧ W.cell? ⟨w.heap.size, 3, none⟩ = some (.string x.vs) ∧ W.cell? ⟨w.heap.size, 4, none⟩ = some (.int .i64 x.vo) :=
 ⟨h.k.cell rfl, h.k.cell rfl, h.k.cell rfl, h.k.cell rfl, h.k.cell rfl⟩
structure T2 (w W : World) (x y : Val) : Prop where
 k : BlkV W w.heap.size x
 k2 : BlkV W (w.heap.size + 1) y
 l : w.heap.size + 1 < W.heap.size
 b : Below w.heap.size w W
theorem T2.new {w W1 W2 : World} {x y : Val} (h : w.alloc (.cells (Af x) 24) = W1) (g : W1.alloc (.cells (Af y) 24) = W2) : T2 w W2 x y := by
 obtain ⟨a, b, c⟩ := Es h
 obtain ⟨a2, b2, c2⟩ := Es g
 rw [c] at a2
 exact ⟨a.below b2 (by omega), a2, by omega, Aa b b2⟩
theorem T2.step {w W W' : World} {x y : Val} (h : T2 w W x y) (hb : Below W.heap.size W W') : T2 w W' x y :=
 ⟨h.k.below hb (by have := h.l; omega), h.k2.below hb h.l, Nat.lt_of_lt_of_le h.l hb.size, Aa h.b hb⟩
theorem T2.drew {w W : World} {x y : Val} (h : T2 w W x y) : T2 w W.drew x y := ⟨h.k, h.k2, h.l, Ae h.b 1⟩
theorem T2.cs {w W : World} {x y : Val} (h : T2 w W x y) : W.cell? ⟨w.heap.size, 0, none⟩ = some (.int .i64 x.vk) ∧ W.cell? ⟨w.heap.size, 1, none⟩ = some (.bool x.vb) ∧ W.cell? ⟨w.heap.size, 2, none⟩ = some (.float .f64 x.vn) ∧ W.cell? ⟨w.heap.size, 3, none⟩ = some (.string x.vs) ∧ W.cell? ⟨w.heap.size, 4, none⟩ = some (.int .i64 x.vo) ∧
  W.cell? ⟨w.heap.size + 1, 0, none⟩ = some (.int .i64 y.vk) ∧ W.cell? ⟨w.heap.size + 1, 1, none⟩ = some (.bool y.vb) ∧ W.cell? ⟨w.heap.size + 1, 2, none⟩ = some (.float .f64 y.vn) ∧ W.cell? ⟨w.heap.size + 1, 3, none⟩ = some (.string y.vs) ∧ W.cell? ⟨w.heap.size + 1, 4, none⟩ = some (.int .i64 y.vo) :=
 ⟨h.k.cell rfl, h.k.cell rfl, h.k.cell rfl, h.k.cell rfl, h.k.cell rfl, h.k2.cell rfl, h.k2.cell rfl, h.k2.cell rfl, h.k2.cell rfl, h.k2.cell rfl⟩
end
section
def uL : List UInt8 → List Nat
 | a :: b :: r => (a.toNat * 256 + b.toNat) :: uL r
 | _ => []
def bL (l : List Nat) : List UInt8 := l.flatMap fun u => [UInt8.ofNat (u / 256), UInt8.ofNat u]
theorem Mz : ∀ l : List UInt8, (uL l).length = l.length / 2
 | [] => rfl
 | [_] => by simp [uL]
 | a :: b :: r => by
  have := Mz r
  simp only [uL, List.length_cons, this]
  omega
theorem Acg : ∀ (l : List UInt8) (i : Nat) (h : 2 * i + 1 < l.length), (uL l)[i]? = some (l[2 * i].toNat * 256 + l[2 * i + 1].toNat)
 | [], i, h => by simp at h
 | [_], i, h => by simp at h
 | a :: b :: r, 0, _ => by simp [uL]
 | a :: b :: r, i + 1, h => by
  have := Acg r i (by simp at h; omega)
  simp only [uL, List.getElem?_cons_succ, this]
  rfl
theorem Afv : ∀ (l : List UInt8), ∀ u ∈ uL l, u < 65536
 | [], u, h => by simp [uL] at h
 | [_], u, h => by simp [uL] at h
 | a :: b :: r, u, h => by
  simp only [uL, List.mem_cons] at h
  rcases h with rfl | h
  ·have := a.toNat_lt; have := b.toNat_lt; omega
  ·exact Afv r u h
theorem Jq (u : Nat) (l : List Nat) : bL (u :: l) = UInt8.ofNat (u / 256) :: UInt8.ofNat u :: bL l := rfl
theorem Ml (l m : List Nat) : bL (l ++ m) = bL l ++ bL m := by simp [bL]
theorem Z7 (u : Nat) : bL [u] = [UInt8.ofNat (u / 256), UInt8.ofNat u] := rfl
theorem Gl : ∀ l : List Nat, (bL l).length = 2 * l.length
 | [] => rfl
 | u :: r => by rw [Jq]; simp [Gl r]; omega
theorem Af2 : ∀ (l : List UInt8), bL (uL l) = l.take (2 * (l.length / 2))
 | [] => rfl
 | [_] => by simp [uL, bL]
 | a :: b :: r => by
  rw [uL, Jq, Af2 r]
  have e : 2 * ((a :: b :: r).length / 2) = 2 * (r.length / 2) + 1 + 1 := by simp; omega
  rw [e, List.take_succ_cons, List.take_succ_cons]
  have ha := a.toNat_lt; have hb := b.toNat_lt
  have e1 : (a.toNat * 256 + b.toNat) / 256 = a.toNat := by omega
  rw [e1]
  congr 1
  ·simp
  ·congr 1
   apply UInt8.toNat_inj.1
   simp
/-! ### of a Go string -/
def us (s : ByteArray) : List Nat := uL s.data.toList
def ln (s : ByteArray) : Nat := s.size / 2
def un (s : ByteArray) (i : Nat) : Nat := (us s).getD i 0
theorem Lf (s : ByteArray) : 2 * ln s ≤ s.size := by unfold ln; omega
theorem Is (s : ByteArray) : (us s).length = ln s := by
 unfold us ln; rw [Mz, Go.Lib.size_eq]
theorem Aag (s : ByteArray) : ∀ u ∈ us s, u < 65536 := Afv _
theorem Ahh (s : ByteArray) (i : Nat) (h : 2 * i + 1 < s.size) : un s i = (s[2 * i]'(by omega)).toNat * 256 + (s[2 * i + 1]'h).toNat := by
 have := Acg s.data.toList i (by rw [← Go.Lib.size_eq]; exact h)
 unfold un us
 rw [List.getD_eq_getElem?_getD, this]
 rfl
theorem Ahf (s : ByteArray) (i : Nat) : un s i < 65536 := by
 unfold un
 rw [List.getD_eq_getElem?_getD]
 cases h : (us s)[i]? with
 | none => simp
 | some u => exact Aag s u (List.mem_of_getElem? h)
theorem Ta (s : ByteArray) (i : Nat) (h : i < (us s).length) : (us s)[i] = un s i := by
 unfold un; rw [List.getD_eq_getElem?_getD, List.getElem?_eq_getElem h]; rfl
theorem Nn (s : ByteArray) (i : Nat) (h : i < ln s) : (us s).take (i + 1) = (us s).take i ++ [un s i] := by
 have h' : i < (us s).length := by rw [Is]; exact h
 rw [List.take_succ_eq_append_getElem h', Ta]
theorem Rf (s : ByteArray) : (us s).take (ln s) = us s := List.take_of_length_le (by rw [Is]; exact Nat.le_refl _)
abbrev Bld (B : Nat) (l : List UInt8) (w : World) : Prop := Lib.IsBuilderF 79 5 B B (Lib.byteCells l) w
theorem Aal {B : Nat} {l : List UInt8} {w : World} (h : Bld B l w) : B < w.heap.size := by
 rcases h with h | h <;> exact Lib.BuilderAtF.lt h
theorem M3 (w : World) (o : Obj) : (w.alloc o).heap[w.heap.size]? = some o := by
 show (w.heap.push o)[w.heap.size]? = _
 rw [Array.getElem?_push, if_pos rfl]
theorem Agm (s : ByteArray) : (s.size : Int) / 2 = (ln s : Int) := by unfold ln; omega
theorem Hk (s : ByteArray) (w : World) (hs : s.size ≤ maxLen) : Cq 48 #[.string s] (.int .i64 (ln s)) w := by
 unfold maxLen at hs
 have hm : (s.size : Int) ≤ 9223372036854775807 := by omega
 go_enter Tryz.func48, Tryz.ntmps48
 go_wp2
 go_ret
 exact ⟨by rw [← Agm]; rfl, rfl⟩
theorem Age (a b : Nat) (ha : a < 256) (hb : b < 256) : bits BinOp.or IntKind.u16 ((a : Int) * 256) (b : Int) = ((a * 256 + b : Nat) : Int) := by
 have e : ((a : Int) * 256) = ((a * 256 : Nat) : Int) := by omega
 rw [e, u16_or_nat _ _ (by omega) (by omega)]
 have := Nat.two_pow_add_eq_or_of_lt (i := 8) (b := b) (by omega) a
 rw [show a * 256 = 2 ^ 8 * a by omega, ← this]
theorem Z0 (s : ByteArray) (i : Nat) (h0 : 2 * i < s.size) (h1 : 2 * i + 1 < s.size) :
  bits BinOp.or IntKind.u16 (IntKind.u16.wrap (IntKind.u16.wrap ((s[2 * i]'h0).toNat : Int) * 256)) (IntKind.u16.wrap ((s[2 * i + 1]'h1).toNat : Int)) = (un s i : Int) := by
 have c0 := (s[2 * i]'h0).toNat_lt
 have c1 := (s[2 * i + 1]'h1).toNat_lt
 rw [IntWalk.u16_in ((s[2 * i]'h0).toNat : Int) (by omega), IntWalk.u16_in (((s[2 * i]'h0).toNat : Int) * 256) (by omega), IntWalk.u16_in _ (by omega)]
 rw [Age _ _ c0 c1, Ahh s i h1]
theorem Kj (s : ByteArray) (i : Nat) (w : World) (h : i < ln s) (hs : s.size ≤ maxLen) :
  Cp 94 #[.string s, .int .i64 i] w fun e w' => e = .returned (.int .u16 (un s i)) ∧ ∃ n, w' = w.drewN n := by
 unfold maxLen at hs
 have hl := Lf s
 have a0 : (0 : Int) ≤ 2 * (i : Int) := by omega
 have a1 : 2 * (i : Int) < (s.size : Int) := by omega
 have a2 : (0 : Int) ≤ 2 * (i : Int) + 1 := by omega
 have a3 : 2 * (i : Int) + 1 < (s.size : Int) := by omega
 have b0 : IntKind.i64.wrap (2 * (i : Int)) = 2 * (i : Int) := IntWalk.i64_in _ (by omega)
 have b1 : IntKind.i64.wrap (2 * (i : Int) + 1) = 2 * (i : Int) + 1 := IntWalk.i64_in _ (by omega)
 have b2 : (2 * (i : Int)).toNat = 2 * i := by omega
 have b3 : (2 * (i : Int) + 1).toNat = 2 * i + 1 := by omega
 have H := Lh (Z0 s i (by omega) (by omega))
 clear hl
 go_enter Tryz.func94, Tryz.ntmps94
 go_wp2
 go_quiet (fail)
 go_wp2
 go_ret
 exact ⟨by rw [← H.out]; rfl, _, rfl⟩
theorem Nh (l : List UInt8) (u : Nat) (hu : u < 65536) :
  Lib.byteCells (l ++ bL [u]) = (Lib.byteCells l ++ [Value.int .u8 ((u : Int) / 256)]) ++ [Value.int .u8 ((u : Int) % 256)] := by
 rw [Lib.byteCells_append, Z7]
 simp [Lib.byteCells]
 omega
theorem Ly (B : Nat) (l : List UInt8) (u : Nat) (hu : u < 65536) (w : World) (h : Bld B l w) (hlen : l.length + 2 ≤ 140737488355328) (hBw : B ≤ w.heap.size) :
  Cp 81 #[.pointer (some ⟨B, 0, none⟩), .int .u16 u] w fun e w' => e = .returned (.tuple #[]) ∧ Bld B (l ++ bL [u]) w' ∧ Below B w w' := by
 have h1 : (Lib.byteCells l).length + 1 ≤ 140737488355328 := by rw [Lib.byteCells_length]; omega
 have h2 : ((Lib.byteCells l) ++ [Value.int .u8 ((u : Int) / 256)]).length + 1 ≤ 140737488355328 := by rw [List.length_append, Lib.byteCells_length]; simp; omega
 go_enter Tryz.func81, Tryz.ntmps81
 go_wp2_with fail
 refine (Tryz.Builder_WriteByte_k B B _ _ _ h h1 hBw).mono ?_
 rintro e w1 ⟨rfl, hb1, bl1, _⟩
 have hBw1 := Nat.le_trans hBw bl1.size
 go_wp2_with fail
 refine (Tryz.Builder_WriteByte_k B B _ _ _ (Or.inr hb1) h2 hBw1).mono ?_
 rintro e w2 ⟨rfl, hb2, bl2, _⟩
 go_wp2
 go_end0
 refine ⟨rfl, ?_, bl1.trans bl2⟩
 rw [Bld, Nh l u hu]
 exact Or.inr hb2
abbrev Own (B : Nat) (l : List UInt8) (v : Value) (w : World) : Prop := w.ownsRow B 5 1 v l.length (Lib.byteCells l)
theorem Aha : (Tryz.prog.info? 5).map (fun i => (i.zero, i.size, i.bytes)) = some (some (.int .u8 0), 1, 1) := by kernel_rfl
theorem Aei (u : Nat) (hu : u < 65536) : bits BinOp.and IntKind.u16 (u : Int) 255 % 256 = (u : Int) % 256 := by
 have := u16_and_nat u 255 hu (by omega)
 rw [show (255 : Int) = ((255 : Nat) : Int) from rfl, this]
 have h2 := Nat.and_two_pow_sub_one_eq_mod u 8
 rw [show (255 : Nat) = 2 ^ 8 - 1 from rfl, h2]
 omega
theorem Own.nil (B : Nat) (w : World) : Own B [] (.slice none 0 0) w := World.ownsRow_nil _ _ _ _
theorem Ad8 (B : Nat) (l : List UInt8) (v : Value) (u : Nat) (hu : u < 65536) (w : World) (h : Own B l v w) (hlen : l.length + 2 ≤ 140737488355328) (hBw : B ≤ w.heap.size) :
  Cp 68 #[v, .int .u16 u] w fun e w' => ∃ v', e = .returned v' ∧ Own B (l ++ bL [u]) v' w' ∧ Below B w w' := by
 obtain ⟨i0, hi, hz0, hz1, hz2⟩ := info_parts Aha
 have hA := Aei u hu
 go_enter Tryz.func68, Tryz.ntmps68
 go_wp2_with (at_builtin; refine wpList_append_own _ rfl _ _ 66 rfl B 5 i0 (.int .u8 0) 1 1 Tryz.underlying66 hi hz0 hz1 hz2 rfl (by decide) v l.length (Lib.byteCells l) rfl (h.alloc _) ⟨w.heap.size, 0, none⟩ 2 2 [.int .u8 ((u : Int) / 256), .int .u8 ((u : Int) % 256)] rfl rfl ?c1 ?c2 ?c3 ?c4 ?c5 ?_)
 case c1 => exact cell_two_new _ _ _ _
 case c2 => simp [Value.oneCell']
 case c3 => unfold maxLen; omega
 case c4 => omega
 case c5 => simp; omega
 intro v' w1 hown hg _
 go_wp2
 go_ret
 refine ⟨v', rfl, ?_, ((Below.refl B w).alloc hBw _).grown hg (by simp; omega) (fun k hk => (h.lt k hk).1)⟩
 rw [Own, Nh l u hu]
 simpa [Z7] using hown
def spB (u : Int) : Bool := u == 9 || u == 11 || u == 12 || u == 32 || u == 160 || u == 5760 || u == 6158 || u == 8239 || u == 8287 || u == 12288 || u == 65279 || (decide (8192 ≤ u) && decide (u ≤ 8202))
def enB (u : Int) : Bool := u == 10 || u == 13 || u == 8232 || u == 8233
def blB (u : Int) : Bool := spB u || enB u
theorem W8 (u : Int) (w : World) : Cq 124 #[.int .u16 u] (.bool (spB u)) w := by
 go_enter Tryz.func124, Tryz.ntmps124
 go_wp2
 all_goals go_ret
 all_goals exact ⟨by simp [spB, *] <;> omega, rfl⟩
theorem Acm (u : Int) (w : World) : Cq 125 #[.int .u16 u] (.bool (enB u)) w := by
 go_enter Tryz.func125, Tryz.ntmps125
 go_wp2
 all_goals go_ret
 all_goals exact ⟨by simp [enB, *], rfl⟩
theorem Zb (u : Int) (w : World) : Cq 93 #[.int .u16 u] (.bool (blB u)) w := by
 go_enter Tryz.func93, Tryz.ntmps93
 go_wp2_with (first | (go_at_call 124; refine (W8 _ _).mono ?_; rintro e w' ⟨rfl, rfl⟩) | (go_at_call 125; refine (Acm _ _).mono ?_; rintro e w' ⟨rfl, rfl⟩))
 all_goals go_ret
 all_goals exact ⟨by simp [blB, *], rfl⟩
theorem T6 (ns : List UInt8) (s : ByteArray) : (ns.map fun b => (b.toNat : Int)).foldl (fun r n => r.push (UInt8.ofNat n.toNat)) s = ⟨s.data ++ ns.toArray⟩ := by
 induction ns generalizing s with
 | nil => simp
 | cons b r ih =>
  simp only [List.map_cons, List.foldl_cons, ih]
  apply ByteArray.ext
  simp [ByteArray.push]
theorem Uk {B : Nat} {l : List UInt8} {v : Value} {w : World} (h : Own B l v w) : (convert 66 9 v).run Tryz.prog w = .ok (.string ⟨l.toArray⟩) w := by
 rcases h.2 with ⟨rfl, hn⟩ | ⟨g, cap, cur, rfl, hB, hg, hcap, hmax, hcur, htk⟩
 ·have : l = [] := List.eq_nil_of_length_eq_zero hn
  subst this
  rfl
 ·have hc := h.cells (g := g) rfl
  rw [run_convert_bytes_string w 66 9 5 _ _ _ Tryz.underlying66 Tryz.underlying5 Tryz.underlying9]
  have hl := run_loadCells_list (P := Tryz.prog) w ⟨g, 0, none⟩ (Lib.byteCells l) hc
  rw [Lib.byteCells_length] at hl
  rw [run_bytesToString w ⟨g, 0, none⟩ l.length cap (l.map fun b => (b.toNat : Int)) (by rw [hl]; simp [Lib.byteCells, Function.comp_def])]
  rw [T6]
  simp
def wdL (s : ByteArray) : List Nat := s.data.toList.map fun b => b.toNat
theorem Ki (s : ByteArray) : (wdL s).length = s.size := by rw [wdL, List.length_map, ← Lib.size_eq]
theorem Qk (s : ByteArray) (k : Nat) (h : k < s.size) : (wdL s).take (k + 1) = (wdL s).take k ++ [(s[k]'h).toNat] := by
 have h' : k < (wdL s).length := by rw [Ki]; exact h
 rw [List.take_succ_eq_append_getElem h']
 simp [wdL]; rfl
theorem Vu (s : ByteArray) : (wdL s).take s.size = wdL s := List.take_of_length_le (by rw [Ki]; exact Nat.le_refl _)
theorem Pa {α : Type} (l : List α) (k : Nat) : (l.take k).length ≤ k := List.length_take_le _ _
theorem Acs (s : ByteArray) (w : World) (hs : s.size ≤ 35184372088832) :
  Ct 52 #[.string s] (.string ⟨(bL (wdL s)).toArray⟩) w := by
 have hm : (s.size : Int) ≤ 35184372088832 := by omega
 have HS := Lh hs
 clear hs
 have hg : Cp 80 #[.pointer (some ⟨w.heap.size, 0, none⟩), .int .i64 (2 * (s.size : Int))] (w.alloc (.cells #[.pointer none, .slice none 0 0] 79)) fun e w' => e = .returned (.tuple #[]) ∧ (Lib.BuilderAt 79 5 w.heap.size w.heap.size (.pointer (some ⟨w.heap.size, 0, none⟩)) [] w' ∧ Below w.heap.size (w.alloc (.cells #[.pointer none, .slice none 0 0] 79)) w') :=
  Tryz.Builder_Grow_fresh w.heap.size w.heap.size (2 * s.size) _ (Nat.le_refl _) (M3 w _) (by simp) (by have := HS.out; omega)
 go_enter Tryz.func52, Tryz.ntmps52
 go_wp2_with fail
 refine hg.mono ?_
 rintro e w1 ⟨rfl, hb1, bl1⟩
 have hbl : Below w.heap.size w w1 := ((Below.refl w.heap.size w).alloc (Nat.le_refl _) _).trans bl1
 clear hg
 go_wp2
 go_loopw [11] (fun i wr => ∃ k : Nat, i = .int .i64 k ∧ k ≤ s.size ∧ Bld w.heap.size (bL ((wdL s).take k)) wr ∧ Below w.heap.size w wr) (fun i _ => s.size - (intOf i).toNat)
 case atStart => exact ⟨0, rfl, Nat.zero_le _, Lib.IsBuilderF.of (.inr hb1), hbl⟩
 case round =>
  obtain ⟨k, rfl, hk, hI, hbw⟩ := hrel
  have hsz := Aal hI
  by_cases hlt : k < s.size
  ·have hl := Pa (wdL s) k
   have hu := (s[k]'hlt).toNat_lt
   have hr := fun W h hb => Ly w.heap.size (bL ((wdL s).take k)) (s[k]'hlt).toNat (by omega) W h (by rw [Gl]; have := HS.out; omega) hb
   have HW := Lh (show IntKind.u16.wrap (((s[k]'hlt).toNat : Nat) : Int) = ((s[k]'hlt).toNat : Int) from IntWalk.u16_in _ (by omega))
   have HG := Lh (Qk s k hlt)
   clear hl hu
   go_wp2_with fail
   rw [HW.out]
   refine (hr _ hI (by omega)).mono ?_
   rintro e w2 ⟨rfl, hI2, hb2⟩
   go_wp2
   go_roundw
   case rel => exact ⟨k + 1, by go_num, by omega, by rw [HG.out, Ml]; exact hI2, hbw.trans hb2⟩
   case measure => simp [intOf]; omega
  ·have hS := Tryz.Builder_String_any_k w.heap.size w.heap.size _ wr hI (by omega)
   have HZ := Lh (show (wdL s).take k = wdL s by rw [show k = s.size by omega]; exact Vu s)
   go_wp2_with (go_at_call 82; refine hS.mono ?_; rintro e w2 ⟨rfl, _, hb2, _⟩)
   go_ret
   rw [HZ.out]
   exact ⟨rfl, hbw.trans hb2⟩
theorem X5 (s : ByteArray) (w : World) (hs : s.size ≤ 35184372088832) :
  Ct 43 #[.string s] (.string ⟨(bL (wdL s)).toArray⟩) w := by
 have hm : (s.size : Int) ≤ 35184372088832 := by omega
 have HS := Lh hs
 clear hs
 go_enter Tryz.func43, Tryz.ntmps43
 go_wp2
 go_loopw [3, 4] (fun v i wr => ∃ k : Nat, i = .int .i64 k ∧ k ≤ s.size ∧ Own w.heap.size (bL ((wdL s).take k)) v wr ∧ Below w.heap.size w wr) (fun _ i _ => s.size - (intOf i).toNat)
 case atStart => exact ⟨0, rfl, Nat.zero_le _, Own.nil _ _, Below.refl _ _⟩
 case round =>
  obtain ⟨k, rfl, hk, hI, hbw⟩ := hrel
  by_cases hlt : k < s.size
  ·have hl := Pa (wdL s) k
   have hu := (s[k]'hlt).toNat_lt
   have hr := fun W v h hb => Ad8 w.heap.size (bL ((wdL s).take k)) v (s[k]'hlt).toNat (by omega) W h (by rw [Gl]; have := HS.out; omega) hb
   have HW := Lh (show IntKind.u16.wrap (((s[k]'hlt).toNat : Nat) : Int) = ((s[k]'hlt).toNat : Int) from IntWalk.u16_in _ (by omega))
   have HG := Lh (Qk s k hlt)
   clear hl hu
   go_wp2_with fail
   rw [HW.out]
   refine (hr _ _ hI hbw.size).mono ?_
   rintro e w2 ⟨v2, rfl, hI2, hb2⟩
   go_wp2
   go_roundw
   case rel => exact ⟨k + 1, by go_num, by omega, by rw [HG.out, Ml]; exact hI2, hbw.trans hb2⟩
   case measure => simp [intOf]; omega
  ·have HZ := Lh (show (wdL s).take k = wdL s by rw [show k = s.size by omega]; exact Vu s)
   have hcv := Uk hI
   go_wp2
   go_ret
   rw [HZ.out]
   exact ⟨rfl, hbw⟩
theorem Ab4 : (Tryz.prog.info? 68).map (fun i => (i.zero, i.size, i.bytes)) = some (some (.int .u16 0), 1, 2) := by kernel_rfl
theorem Xe {w : World} {b : Nat} {t : TypeId} {n : Nat} {f : Nat → Value} (h : w.rowIs b t n f) (m : Nat) : (w.drewN m).rowIs b t n f := h
theorem Xg (s : ByteArray) (w : World) (hs : s.size ≤ 140737488355328) :
  Cp 91 #[.string s] w fun e w' => e = .returned (.slice (some ⟨w.heap.size, 0, none⟩) (ln s) (ln s)) ∧ w'.rowIs w.heap.size 68 (ln s) (fun j => .int .u16 (un s j : Nat)) ∧ Below w.heap.size w w' := by
 have hl := Lf s
 have hs63 : s.size ≤ maxLen := by unfold maxLen; omega
 have hm : ((ln s : Nat) : Int) ≤ 70368744177664 := by omega
 have hmk := run_make_row' (P := Tryz.prog) 86 68 (.int .u16 0) 2 Tryz.underlying86 Ab4 rfl .i64 .i64 (ln s) (by omega) (by omega) w
 have hmade := World.rowIs_made w (.int .u16 0) (ln s) 68
 have H63 := Lh hs63
 have c1 := fun W => Hk s W H63.out
 clear hs hl hs63
 have hr0 : (w.alloc (.cells (madeCells #[.int .u16 0] (ln s)) 68)).rowIs w.heap.size 68 (ln s) (fun j => .int .u16 ((if j < 0 then un s j else 0 : Nat) : Int)) := hmade.congr (fun j _ => by simp)
 clear hmade
 go_enter Tryz.func91, Tryz.ntmps91
 go_wp2_with (go_at_call 48; refine (c1 _).mono ?_; rintro e w' ⟨rfl, rfl⟩)
 clear hmk
 go_loopw [10] (fun i wr => ∃ k : Nat, i = .int .i64 k ∧ k ≤ ln s ∧ wr.rowIs w.heap.size 68 (ln s) (fun j => .int .u16 ((if j < k then un s j else 0 : Nat) : Int)) ∧ Below w.heap.size w wr) (fun i _ => ln s - (intOf i).toNat)
 case atStart => exact ⟨0, rfl, Nat.zero_le _, hr0, (Below.refl _ _).alloc (Nat.le_refl _) _⟩
 case round =>
  obtain ⟨k, rfl, hk, hI, hbw⟩ := hrel
  by_cases hlt : k < ln s
  ·have hcell : wr.cell? ⟨w.heap.size, k, none⟩ = some (.int .u16 0) := by
    have := hI.cell hlt
    simpa using this
   have hfz := hI.frozen k
   have c2 := fun W => Kj s k W hlt H63.out
   have hI2 := hI.set k (.int .u16 (un s k : Nat))
   have hI3 : (wr.setCell ⟨w.heap.size, k, none⟩ (.int .u16 (un s k : Nat))).rowIs w.heap.size 68 (ln s) (fun j => .int .u16 ((if j < k + 1 then un s j else 0 : Nat) : Int)) := by
    refine hI2.congr fun j hj => ?_
    by_cases h1 : j = k
    ·subst h1; simp
    ·by_cases h2 : j < k
     ·rw [if_neg h1, if_pos h2, if_pos (by omega)]
     ·rw [if_neg h1, if_neg h2, if_neg (by omega)]
   have HI := Lh hI3
   clear hI hI2 hI3
   go_wp2_with fail
   refine Dm (c2 _) fun n => ?_
   go_wp2
   go_roundw
   case rel => exact ⟨k + 1, by go_num, by omega, Xe HI.out n, Ae (hbw.setCell (Nat.le_refl _) _) n⟩
   case measure => simp [intOf]; omega
  ·have HI := Lh (show wr.rowIs w.heap.size 68 (ln s) (fun j => .int .u16 (un s j : Nat)) from hI.congr fun j hj => by rw [if_pos (by omega)])
   clear hI
   go_wp2
   go_ret
   exact ⟨rfl, HI.out, hbw⟩
def slS (s : ByteArray) (f t : Int) : ByteArray := if max f 0 < min t (ln s) then s.extract (2 * (max f 0).toNat) (2 * (min t (ln s)).toNat) else { data := #[] }
theorem Mu (s : ByteArray) (f t : Int) (w : World) (hs : s.size ≤ maxLen) :
  Cq 47 #[.string s, .int .i64 f, .int .i64 t] (.string (slS s f t)) w := by
 have hl := Lf s
 have hm : (s.size : Int) ≤ 9223372036854775807 := by unfold maxLen at hs; omega
 have c1 := fun W => Hk s W hs
 have hsl : slS s f t = if max f 0 < min t (ln s) then s.extract (2 * (max f 0).toNat) (2 * (min t (ln s)).toNat) else { data := #[] } := rfl
 have hm1 : 0 ≤ max f 0 := by omega
 have hn1 : min t (ln s) ≤ ln s := by omega
 have hl2 : 2 * ((ln s : Nat) : Int) ≤ (s.size : Int) := by omega
 obtain ⟨m, hm0⟩ : ∃ m : Int, max f 0 = m := ⟨_, rfl⟩
 obtain ⟨n, hn0⟩ : ∃ n : Int, min t (ln s) = n := ⟨_, rfl⟩
 rw [hm0, hn0] at hsl
 rw [hm0] at hm1
 rw [hn0] at hn1
 by_cases h : m < n
 ·rw [if_pos h] at hsl
  have HS := Lh hsl
  have k1 : 2 * m ≤ 2 * n := by omega
  have k2 : 2 * n ≤ (s.size : Int) := by omega
  have k3 : 0 ≤ 2 * m := by omega
  have k4 : 0 ≤ 2 * n := by omega
  have e1 : (2 * m).toNat = 2 * m.toNat := by omega
  have e2 : (2 * n).toNat = 2 * n.toNat := by omega
  clear hsl hl hs hl2 hn1
  go_enter Tryz.func47, Tryz.ntmps47
  go_wp2_with (go_at_call 48; refine (c1 _).mono ?_; rintro e w' ⟨rfl, rfl⟩)
  go_ret
  exact ⟨by rw [HS.out]; rfl, rfl⟩
 ·rw [if_neg h] at hsl
  have HS := Lh hsl
  clear hsl hl hs hl2 hn1
  go_enter Tryz.func47, Tryz.ntmps47
  go_wp2_with (go_at_call 48; refine (c1 _).mono ?_; rintro e w' ⟨rfl, rfl⟩)
  go_ret
  exact ⟨by rw [HS.out]; rfl, rfl⟩
def blU (s : ByteArray) (i : Nat) : Bool := blB ((un s i : Nat) : Int)
def tF (s : ByteArray) : Nat → Nat → Nat
 | 0, i => i
 | f + 1, i => if i < ln s ∧ blU s i = true then tF s f (i + 1) else i
def tT (s : ByteArray) (F : Nat) : Nat → Nat → Nat
 | 0, t => t
 | f + 1, t => if F < t ∧ blU s (t - 1) = true then tT s F f (t - 1) else t
def frS (s : ByteArray) : Nat := tF s (ln s) 0
def toS (s : ByteArray) : Nat := tT s (frS s) (ln s) (ln s)
def E4 (s : ByteArray) : ByteArray := slS s (frS s) (toS s)
theorem Ahn (s : ByteArray) (f i : Nat) (h : i < ln s) (hb : blU s i = true) : tF s (f + 1) i = tF s f (i + 1) := by simp [tF, h, hb]
theorem Agg (s : ByteArray) (f i : Nat) (h : ¬ (i < ln s ∧ blU s i = true)) : tF s f i = i := by
 cases f with
 | zero => rfl
 | succ f => rw [tF, if_neg h]
theorem Ahl (s : ByteArray) (F f t : Nat) (h : F < t + 1) (hb : blU s t = true) : tT s F (f + 1) (t + 1) = tT s F f t := by simp [tT, h, hb]
theorem Agd (s : ByteArray) (F f t : Nat) (h : ¬ (F < t ∧ blU s (t - 1) = true)) : tT s F f t = t := by
 cases f with
 | zero => rfl
 | succ f => rw [tT, if_neg h]
theorem Fl (s : ByteArray) (i : Nat) (w : World) (b : Bool) (hb : blU s i = b) : Cq 93 #[.int .u16 (un s i : Nat)] (.bool b) w := by
 refine Sm (Zb _ w) ?_
 exact ⟨by rw [← hb]; rfl, rfl⟩
theorem Ack (s : ByteArray) (w : World) (hs : s.size ≤ maxLen) :
  Cp 71 #[.string s] w fun e w' => e = .returned (.string (E4 s)) ∧ ∃ n, w' = w.drewN n := by
 have hl := Lf s
 have hm : ((ln s : Nat) : Int) ≤ 4611686018427387903 := by unfold maxLen at hs; omega
 have H63 := Lh hs
 have c1 := fun W => Hk s W H63.out
 clear hs hl
 go_enter Tryz.func71, Tryz.ntmps71
 go_wp2_with (go_at_call 48; refine (c1 _).mono ?_; rintro e w' ⟨rfl, rfl⟩)
 go_loopw [3] (fun i wr => ∃ k f : Nat, i = .int .i64 k ∧ k ≤ ln s ∧ tF s f k = frS s ∧ ln s ≤ k + f ∧ ∃ n, wr = w.drewN n) (fun i _ => ln s - (intOf i).toNat)
 case atStart => exact ⟨0, ln s, rfl, Nat.zero_le _, rfl, by omega, 0, rfl⟩
 case round =>
  obtain ⟨k, fuel, rfl, hk, hF, hfu, n, rfl⟩ := hrel
  have HF := Lh hF
  clear hF
  by_cases hc : k < ln s ∧ blU s k = true
  ·obtain ⟨hlt, hb⟩ := hc
   obtain ⟨f, rfl⟩ : ∃ f, fuel = f + 1 := ⟨fuel - 1, by omega⟩
   have HG := Lh (show tF s f (k + 1) = frS s by rw [← HF.out, Ahn s f k hlt hb])
   have c2 := fun W => Kj s k W hlt H63.out
   have c3 := fun W => Fl s k W true hb
   have hlt' : (k : Int) < (ln s : Int) := by omega
   clear hb HF
   go_wp2_with (first | (go_at_call 94; refine (c2 _).mono ?_; rintro e w' ⟨rfl, n2, rfl⟩) | (go_at_call 93; refine (c3 _).mono ?_; rintro e w' ⟨rfl, rfl⟩))
   go_roundw
   case rel => exact ⟨k + 1, f, by go_num, by omega, HG.out, by omega, _, rfl⟩
   case measure => simp [intOf]; omega
  ·have HK := Lh (show frS s = k by rw [← HF.out, Agg s fuel k hc])
   have hor : (¬ ((k : Int) < (ln s : Int))) ∨ ((k : Int) < (ln s : Int) ∧ blU s k = false ∧ k < ln s) := by
    by_cases h : k < ln s
    ·right; refine ⟨by omega, ?_, h⟩
     cases hb : blU s k
     ·rfl
     ·exact absurd ⟨h, hb⟩ hc
    ·left; omega
   have H1 := Lh (fun W (h : k < ln s) => Kj s k W h H63.out)
   have H2 := Lh (fun W (h : blU s k = false) => Fl s k W false h)
   clear hc HF
   rcases hor with h1 | ⟨h1, h2, h3⟩
   all_goals
    try have c2 := fun W => H1.out W h3
    try have c3 := fun W => H2.out W h2
    try clear h2
    go_wp2_with (first | (go_at_call 94; refine (c2 _).mono ?_; rintro e w' ⟨rfl, n2, rfl⟩) | (go_at_call 93; refine (c3 _).mono ?_; rintro e w' ⟨rfl, rfl⟩))
    go_loopw [4] (fun i wr => ∃ t f : Nat, i = .int .i64 t ∧ t ≤ ln s ∧ tT s k f t = tT s k (ln s) (ln s) ∧ t ≤ f ∧ ∃ n, wr = w.drewN n) (fun i _ => (intOf i).toNat)
    case atStart => exact ⟨ln s, ln s, rfl, by omega, rfl, by omega, _, rfl⟩
    case round =>
     obtain ⟨t, fu, rfl, ht, hT, hfu2, n3, rfl⟩ := hrel
     have HT := Lh hT
     clear hT
     by_cases hc2 : k < t ∧ blU s (t - 1) = true
     ·obtain ⟨hlt2, hb2⟩ := hc2
      obtain ⟨t, rfl⟩ : ∃ t', t = t' + 1 := ⟨t - 1, by omega⟩
      obtain ⟨f2, rfl⟩ : ∃ f', fu = f' + 1 := ⟨fu - 1, by omega⟩
      have hb3 : blU s t = true := hb2
      have HG2 := Lh (show tT s k f2 t = tT s k (ln s) (ln s) by rw [← HT.out, Ahl s k f2 t hlt2 hb3])
      have c4 := fun W => Kj s t W (by omega) H63.out
      have c5 := fun W => Fl s t W true hb3
      have g1 : (k : Int) < (t : Int) + 1 := by omega
      clear hb2 hb3 HT
      go_wp2_with (first | (go_at_call 94; refine (c4 _).mono ?_; rintro e w' ⟨rfl, n4, rfl⟩) | (go_at_call 93; refine (c5 _).mono ?_; rintro e w' ⟨rfl, rfl⟩))
      go_roundw
      case rel => exact ⟨t, f2, rfl, by omega, HG2.out, by omega, _, rfl⟩
      case measure => simp [intOf]
     ·have HK2 := Lh (show toS s = t by unfold toS; rw [HK.out, ← HT.out, Agd s k fu t hc2])
      have hor2 : (¬ ((k : Int) < (t : Int))) ∨ ((k : Int) < (t : Int) ∧ blU s (t - 1) = false ∧ k < t) := by
       by_cases h : k < t
       ·right; refine ⟨by omega, ?_, h⟩
        cases hb : blU s (t - 1)
        ·rfl
        ·exact absurd ⟨h, hb⟩ hc2
       ·left; omega
      have hsl := fun W => Mu s k t W H63.out
      have HR := Lh (show E4 s = slS s k t by unfold E4; rw [HK.out, HK2.out])
      clear hc2 HT
      rcases hor2 with g1 | ⟨g1, g2, g3⟩
      ·go_wp2_with (go_at_call 47; refine (hsl _).mono ?_; rintro e w' ⟨rfl, rfl⟩)
       go_ret
       exact ⟨by rw [HR.out]; rfl, _, rfl⟩
      ·obtain ⟨t, rfl⟩ : ∃ t', t = t' + 1 := ⟨t - 1, by omega⟩
       have c4 := fun W => Kj s t W (by omega) H63.out
       have c5 := fun W => Fl s t W false g2
       have g1' : (k : Int) < (t : Int) + 1 := by omega
       clear g2 g1
       go_wp2_with (first | (go_at_call 94; refine (c4 _).mono ?_; rintro e w' ⟨rfl, n4, rfl⟩) | (go_at_call 93; refine (c5 _).mono ?_; rintro e w' ⟨rfl, rfl⟩) | (go_at_call 47; refine (hsl _).mono ?_; rintro e w' ⟨rfl, rfl⟩))
       go_ret
       exact ⟨by rw [HR.out]; rfl, _, rfl⟩
end
section
theorem Tu (x : Nat) (hx : x < 18446744073709551616) : x &&& 18446744073709551614 = x / 2 * 2 := by
 have h : x &&& 18446744073709551614 = (x >>> 1) <<< 1 := by
  apply Nat.eq_of_testBit_eq
  intro i
  rw [Nat.testBit_and, Nat.testBit_shiftLeft, Nat.testBit_shiftRight, show 18446744073709551614 = (2 ^ 63 - 1) <<< 1 from rfl, Nat.testBit_shiftLeft, Nat.testBit_two_pow_sub_one]
  by_cases h1 : 1 ≤ i
  ·rw [show 1 + (i - 1) = i by omega]
   by_cases h2 : i - 1 < 63
   ·simp [h1, h2]
   ·have : x.testBit i = false := Nat.testBit_lt_two_pow (Nat.lt_of_lt_of_le hx (by
     have : 2 ^ 64 ≤ 2 ^ i := Nat.pow_le_pow_right (by omega) (by omega)
     simpa using this))
    simp [this]
  ·simp [h1]
 rw [h, Nat.shiftLeft_eq, Nat.shiftRight_eq_div_pow]
theorem Ul (n : Nat) (hn : n ≤ 9223372036854775807) : bits BinOp.andNot IntKind.i64 (n : Int) 1 = 2 * ((n / 2 : Nat) : Int) := by
 show IntKind.i64.wrap ((BitVec.ofInt 64 (n : Int) &&& ~~~BitVec.ofInt 64 1).toNat : Int) = _
 have h1 : (BitVec.ofInt 64 1).toNat = 1 := by decide
 have h2 : (BitVec.ofInt 64 (n : Int)).toNat = n := by
  rw [BitVec.ofInt_natCast, BitVec.toNat_ofNat]; exact Nat.mod_eq_of_lt (by omega)
 rw [BitVec.toNat_and, BitVec.toNat_not, h2, h1, show 2 ^ 64 - 1 - 1 = 18446744073709551614 by decide, Tu n (by omega)]
 rw [IntKind.wrap_i64]
 omega
def wh (s : ByteArray) : ByteArray := s.extract 0 (2 * ln s)
theorem V9 (s : ByteArray) : (wh s).data.toList = bL (us s) := by
 unfold wh us
 rw [Lib.extract_data, Af2, ← Lib.size_eq]
 simp [ln]
theorem Mv (s : ByteArray) (w : World) (hs : s.size ≤ maxLen) : Cq 87 #[.string s] (.string (wh s)) w := by
 have hl := Lf s
 have hb : bits BinOp.andNot IntKind.i64 (s.size : Int) 1 = 2 * ((ln s : Nat) : Int) := Ul s.size (by unfold maxLen at hs; omega)
 have k0 : 0 ≤ 2 * ((ln s : Nat) : Int) := by omega
 have k1 : 2 * ((ln s : Nat) : Int) ≤ (s.size : Int) := by omega
 have e1 : (2 * ((ln s : Nat) : Int)).toNat = 2 * ln s := by omega
 clear hs hl
 go_enter Tryz.func87, Tryz.ntmps87
 go_wp2
 go_ret
 exact ⟨rfl, rfl⟩
def Fo : List Nat → List Nat → Int
 | [], [] => 0
 | [], _ :: _ => -1
 | _ :: _, [] => 1
 | a :: la, b :: lb => if a < b then -1 else if b < a then 1 else Fo la lb
theorem V8 (a b : Nat) (ha : a < 256) (hb : b < 256) : UInt8.ofNat a < UInt8.ofNat b ↔ a < b := by
 rw [UInt8.lt_iff_toNat_lt, UInt8.toNat_ofNat', UInt8.toNat_ofNat', Nat.mod_eq_of_lt (by simpa using ha), Nat.mod_eq_of_lt (by simpa using hb)]
theorem Aa5 (a : Nat) : UInt8.ofNat a = UInt8.ofNat (a % 256) := by
 apply UInt8.toNat_inj.1
 rw [UInt8.toNat_ofNat', UInt8.toNat_ofNat']
 simp
theorem Ab6 : ∀ (l m : List Nat), (∀ u ∈ l, u < 65536) → (∀ u ∈ m, u < 65536) → Lib.compareBytes (bL l) (bL m) = Fo l m
 | [], [], _, _ => rfl
 | [], b :: lb, _, _ => rfl
 | a :: la, [], _, _ => rfl
 | a :: la, b :: lb, hl, hm => by
  have ha := hl a (by simp)
  have hb := hm b (by simp)
  have ih := Ab6 la lb (fun u h => hl u (by simp [h])) (fun u h => hm u (by simp [h]))
  rw [Jq, Jq, Aa5 a, Aa5 b]
  simp only [Lib.compareBytes, Fo]
  simp only [V8 (a / 256) (b / 256) (by omega) (by omega), V8 (b / 256) (a / 256) (by omega) (by omega), V8 (a % 256) (b % 256) (by omega) (by omega), V8 (b % 256) (a % 256) (by omega) (by omega), ih]
  repeat' split
  all_goals omega
theorem I9 (a b : ByteArray) (w : World) (ha : a.size ≤ maxLen) (hb : b.size ≤ maxLen) :
  Cq 61 #[.string a, .string b] (.int .i64 (Fo (us a) (us b))) w := by
 have c1 := fun W => Mv a W ha
 have c2 := fun W => Mv b W hb
 have HE := Lh (show Lib.compareBytes (wh a).data.toList (wh b).data.toList = Fo (us a) (us b) by
  rw [V9, V9]
  exact Ab6 _ _ (Aag a) (Aag b))
 go_enter Tryz.func61, Tryz.ntmps61
 go_wp2_with (first | (go_at_call 87; first | (refine (c1 _).mono ?_; rintro e w' ⟨rfl, rfl⟩) | (refine (c2 _).mono ?_; rintro e w' ⟨rfl, rfl⟩)) | (go_at_call 86; refine (Tryz.strings_Compare _ _ _).mono ?_; rintro e w' ⟨rfl, rfl⟩))
 go_ret
 exact ⟨by rw [← HE.out]; rfl, rfl⟩
end
end Go.Proofs.YtmakhfekiieneaaGreatDoor
