/-
  What `==` of two values tells, in the words of the laws.
-/
import Derived.Test.YtlkgijinckhkkaaEe
import Derived.Test.YtlkgijinckhkkaaE1
namespace Go.Proofs.Ytlkgijinckhkkaa
open Go.RowKit
theorem eqW_strict (x y : Val) : eqW x y = strictV x y := by
  unfold eqW strictV alikeV
  generalize (x.vk == y.vk) = a
  generalize oeq x.vn y.vn = b
  generalize (x.vb == y.vb) = c
  generalize (x.vs.toList == y.vs.toList) = d
  generalize (x.vo == y.vo) = e
  revert a b c d e
  decide
theorem eqW_none {v : Val} (h : mayB v = true) : eqW v valU = (v.vk == 0) := by
  have hz : oeq 0 0 = true := by decide +kernel
  rcases may_cases h with rfl | rfl | ⟨b, rfl⟩ | ⟨n, _, rfl⟩ | ⟨s, _, rfl⟩ | ⟨o, _, rfl⟩
  · simp [eqW, valU, hz]
  all_goals rfl
theorem eqW_zero {v : Val} (h : mayB v = true) : eqW v ⟨0, false, 0, ⟨#[]⟩, 0⟩ = (v.vk == 0) := eqW_none h
end Go.Proofs.Ytlkgijinckhkkaa
