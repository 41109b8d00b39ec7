/-
  What the frames of this seat share.
-/
import Derived.Test.YtbinpcoaghpcdaaAwake
import Derived.Test.YtbinpcoaghpcdaaRows
import Derived.ProofKit
import Derived.OpenShut
import Derived.SizedLaws
namespace Go.Proofs.Ytbinpcoaghpcdaa
open Go.ChangeShapes Go.WideShapes Go.ChangeAt Go.RowKit
theorem own : ownKnob Try.prog.godebug = none := by kernel_rfl
theorem laidOut : laidOutB Try.prog = true := by kernel_rfl
theorem wf_float {x : Nat} (h : (Lit.float .f64 x).wf = true) : x < 18446744073709551616 := by
  simp only [Lit.wf, decide_eq_true_eq] at h
  exact h

end Go.Proofs.Ytbinpcoaghpcdaa
