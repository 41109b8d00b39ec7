/-
  The program's functions of descriptors tell what the document's do.
-/
import Derived.Test.YtlkgijinckhkkaaQ6
namespace Go.Proofs.Ytlkgijinckhkkaa
open Go.RowKit
theorem may_v {p : Prp} (h : mayP p = true) : MayV p := by
  have m := may_parts h
  exact ⟨m.v, callee_may m.g, callee_may m.t⟩
theorem gCheck_any (p : Prp) (w : World) (sp : SzP p) : Calls Try.prog 6 #[prpV p] w fun e w' => e = .returned (.int .i64 (if mayP p = true then 0 else 120)) ∧ Below w.heap.size w w' := by
  have h := gCheck_raw p w sp
  rw [chk_may sp] at h
  exact h
theorem gFull_any (p : Prp) (w : World) (hm : mayP p = true) : Calls Try.prog 14 #[prpV p] w fun e w' => e = .returned (prpV (fullP p)) ∧ Below w.heap.size w w' := by
  have h := gFull_raw p w
  rw [over_full hm] at h
  exact h
theorem gChange_any (p q : Prp) (w : World) (hp : fullB p = true) (hq : mayP q = true) (np : NumP p) (nq : NumP q) : Calls Try.prog 18 #[prpV p, prpV q] w fun e w' => e = chgE p q ∧ Below w.heap.size w w' := by
  have h := gChange_raw p q w (may_v (full_may hp)) (may_v hq) np nq
  rw [ok_ok hq, over_chg hp hq] at h
  exact h
end Go.Proofs.Ytlkgijinckhkkaa
