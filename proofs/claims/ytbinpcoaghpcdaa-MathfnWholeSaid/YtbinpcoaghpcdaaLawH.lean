/-
  The law NumberFloors: its walks.
-/
import Derived.Test.YtbinpcoaghpcdaaLawG
namespace Go.Proofs.Ytbinpcoaghpcdaa
open Go.RowKit
theorem fmag_one {K : Nat} (hK : K = 1074) : fmag 4607182418800017408 = 2 ^ K := by
  obtain ⟨J, hJ⟩ : ∃ J : Nat, J = 1022 := ⟨_, rfl⟩
  have f1 := fmag_make 4503599627370496 J (by omega) (by omega)
  rw [show J * 4503599627370496 + 4503599627370496 = 4607182418800017408 by rw [hJ], show (4503599627370496 : Nat) = 2 ^ 52 from rfl, ← Nat.pow_add, show 52 + J = K by omega] at f1
  exact f1
end Go.Proofs.Ytbinpcoaghpcdaa
