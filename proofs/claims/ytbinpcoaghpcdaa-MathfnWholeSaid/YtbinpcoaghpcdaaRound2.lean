/-
  Contracts of Round of both; what a float operation without an answer draws.
-/
import Derived.Test.YtbinpcoaghpcdaaRound
import Derived.Test.YtbinpcoaghpcdaaSmall
namespace Go.Proofs.Ytbinpcoaghpcdaa
open Go.RowKit
theorem cut_nan (x y t : Nat) : fnan ((Question.nanBits .f64 x y).cut t) = true ∧ (Question.nanBits .f64 x y).cut t < 18446744073709551616 := by
  show fnan (t % 2 * 2 ^ 63 + 0x7ff0000000000000 + 1 + t / 2 % (2 ^ 52 - 1)) = true ∧ t % 2 * 2 ^ 63 + 0x7ff0000000000000 + 1 + t / 2 % (2 ^ 52 - 1) < _
  have h1 : t / 2 % (2 ^ 52 - 1) < 2 ^ 52 - 1 := Nat.mod_lt _ (by omega)
  have h2 : t % 2 < 2 := Nat.mod_lt _ (by omega)
  obtain ⟨a, ha⟩ : ∃ a, t / 2 % (2 ^ 52 - 1) = a := ⟨_, rfl⟩
  obtain ⟨b, hb⟩ : ∃ b, t % 2 = b := ⟨_, rfl⟩
  rw [ha] at h1 ⊢
  rw [hb] at h2 ⊢
  unfold fnan rung
  refine ⟨decide_eq_true ?_, ?_⟩ <;> omega
theorem cn_real {x : Nat} (h : fnan x = false) : cn x = x := by unfold cn; rw [h, if_neg (by simp)]
theorem cn_nan {x : Nat} (h : fnan x = true) : cn x = 9221120237041090560 := by unfold cn; rw [if_pos h]
end Go.Proofs.Ytbinpcoaghpcdaa
