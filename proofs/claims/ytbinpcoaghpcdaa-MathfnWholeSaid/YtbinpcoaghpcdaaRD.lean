/-
  Contract of Float of the program. Contract of Near of the reference (at the power 0): of few bits, of none, of too many. Contract of Near of the reference (at the power 0): of many bits. Float of the reference. The law BignumFloats.
-/
import Derived.Test.YtbinpcoaghpcdaaRB
import Derived.Test.YtbinpcoaghpcdaaRA
import Derived.Test.YtbinpcoaghpcdaaLdexp
import Derived.Test.YtbinpcoaghpcdaaRC
import Derived.Deep.RegionWith
namespace Go.Proofs.Ytbinpcoaghpcdaa
open Go.RowKit
theorem fl_pos {N : Nat} (h : 0 < N) (hN : N < 2 ^ 65) : 4503599627370496 ≤ fl N ∧ fl N < 9218868437227405312 := by
  obtain ⟨a1, a2⟩ := log2_two N h
  have hL : N.log2 < 65 := by
    have : 2 ^ N.log2 < 2 ^ 65 := Nat.lt_of_le_of_lt a1 hN
    exact (Nat.pow_lt_pow_iff_right (a := 2) (by omega)).1 this
  rcases Nat.lt_or_ge N.log2 52 with h1 | h1
  · rw [fl_low a1 a2 (by omega)]
    have h3 : N * 2 ^ (52 - N.log2) < 9007199254740992 := by
      have : N * 2 ^ (52 - N.log2) < 2 ^ (N.log2 + 1) * 2 ^ (52 - N.log2) := Nat.mul_lt_mul_of_pos_right a2 (Nat.two_pow_pos _)
      rw [← Nat.pow_add, show N.log2 + 1 + (52 - N.log2) = 53 by omega] at this
      exact this
    omega
  · obtain ⟨r1, r2⟩ := evn_range a1 a2 h1
    rw [fl_high a1 a2 h1]
    omega
end Go.Proofs.Ytbinpcoaghpcdaa
namespace Go.Proofs.Ytbinpcoaghpcdaa
open Go.RowKit
theorem val_drop_le : ∀ (l : List Nat) (k : Nat), val (l.drop k) ≤ val l := by
  intro l
  induction l with
  | nil => intro k; simp [val]
  | cons a r ih =>
    intro k
    cases k with
    | zero => exact Nat.le_refl _
    | succ k =>
      have := ih k
      simp only [List.drop_succ_cons, val]
      omega
theorem val_drop_next {l : List Nat} {k : Nat} (h : k < l.length) : val (l.drop k) = l.getD k 0 + 4294967296 * val (l.drop (k + 1)) := by
  rw [List.drop_eq_getElem_cons h]
  simp only [val]
  rw [List.getD_eq_getElem?_getD, List.getElem?_eq_getElem h, Option.getD_some]
end Go.Proofs.Ytbinpcoaghpcdaa
namespace Go.Proofs.Ytbinpcoaghpcdaa
open Go.RowKit
end Go.Proofs.Ytbinpcoaghpcdaa
namespace Go.Proofs.Ytbinpcoaghpcdaa
open Go.RowKit
/-- What Parts answers: a list, a power, an error. -/
def Three (S : List Nat) (N : Nat) (p er : Int) (w : World) (e : Ending) (w' : World) : Prop :=
  ∃ A c, e = .returned (.tuple #[.slice A N c, .int .i64 p, .int .i64 er]) ∧ (N ≤ c ∧ RW w' w'.heap.size A S) ∧ Below w.heap.size w w'
theorem Three.none (p er : Int) (w : World) : Three [] 0 p er w (.returned (.tuple #[.slice none 0 0, .int .i64 p, .int .i64 er])) w :=
  ⟨Option.none, 0, rfl, ⟨Nat.le_refl _, RW.nil _ _ _⟩, Below.refl _ _⟩

end Go.Proofs.Ytbinpcoaghpcdaa
