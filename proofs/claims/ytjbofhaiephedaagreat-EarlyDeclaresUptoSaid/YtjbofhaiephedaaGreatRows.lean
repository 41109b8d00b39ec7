/-
  NARROWER THAN 'FOR EVERY INPUT', by the rows' own cells (each row's printed sentence says how): EarlyChecks: loops · EarlyParts: loops · EarlyPlaces: loops · EarlyDeclares: loops.
  DERIVED. THE GIVEN ROWS OF THIS SEAT. 4 by the template 'for every input the law returns true; each argument reads behind the call as it read before'; 0 by the template 'total and deterministic' (their statements: YtjbofhaiephedaaGreatTotals.lean).
  GIVEN WITH THE SEED: the statements are not yours to turn. If you find one false, say at which input.
  Laid BY PROGRAM, IN A SANDBOX (cutbox-rows.mjs): the forced cells as the released guide's own fill.sh prints them over the translation 340f7573316713a7… (all of the seat's roots in one cut). By AI agents, Wed Nov 11 2026. No macro, syntax, notation, axiom, sorry.
-/
import Derived.Test.YtjbofhaiephedaaGreatChecked
import GoSem.Claim
import GoSem.ClaimJoined
import GoSem.ClaimMapViews
import Derived.JoinedTies
import Derived.KernelRfl
namespace Go.Proofs.YtjbofhaiephedaaGreat
/- THE CELL 'sum', in the pinned program and in every row, IS THE sha256 OF THE DUMP (.gsa) THAT YtjbofhaiephedaaGreatProg.lean LOADS. Nothing in Lean hashes anything: it is a label: what it is worth is what the hold of that sum in a sandbox is worth. -/
noncomputable def Tryz.pinned : Pinned := { name := "ytjbofhaiephedaagreat", sum := "340f7573316713a73dd95614e9eb65b7ed3e8c43535c9296da6797d479586443", checked := Tryz.checked }
namespace Rows
def none {H : Type} : Left H := { results := [], args := [] }

/-- 'quilllaw09.EarlyChecks': WHATEVER THE INPUT: true; the input reads as it did. -/
def earlyChecksSpec : ChangeSpec := { name := "earlyChecks", fn := fun _ => fun
  | [d] => { results := [.lit (.bool true)], args := [d] }
  | _ => none }
def earlyChecksRow : OpenClaim := { program := "ytjbofhaiephedaagreat", sum := "340f7573316713a73dd95614e9eb65b7ed3e8c43535c9296da6797d479586443", func := "quill/quilllaw09.EarlyChecks", spec := "earlyChecks", inPlace := ["internal/abi.NoEscape", "internal/bytealg.MakeNoZero", "math.Float64bits"], unfollowed := true, recurses := true, loops := true, apart := false }
def EarlyChecksSaid : Prop := earlyChecksRow.holds Tryz.pinned (OpenSpec.ofChange earlyChecksSpec)

/-- ITS FALSE NEIGHBOUR: 'it returns false'. Refute it at one input. -/
def earlyChecksWrong : ChangeSpec := { name := "earlyChecks", fn := fun _ => fun
  | [d] => { results := [.lit (.bool false)], args := [d] }
  | _ => none }
def EarlyChecksWrongFalsely : Prop := earlyChecksRow.holds Tryz.pinned (OpenSpec.ofChange earlyChecksWrong)

/-- 'quilllaw09.EarlyParts': WHATEVER THE INPUT: true; the input reads as it did. -/
def earlyPartsSpec : ChangeSpec := { name := "earlyParts", fn := fun _ => fun
  | [d] => { results := [.lit (.bool true)], args := [d] }
  | _ => none }
def earlyPartsRow : OpenClaim := { program := "ytjbofhaiephedaagreat", sum := "340f7573316713a73dd95614e9eb65b7ed3e8c43535c9296da6797d479586443", func := "quill/quilllaw09.EarlyParts", spec := "earlyParts", inPlace := ["internal/abi.NoEscape", "internal/bytealg.MakeNoZero", "math.Float64bits"], unfollowed := true, recurses := true, loops := true, apart := false }
def EarlyPartsSaid : Prop := earlyPartsRow.holds Tryz.pinned (OpenSpec.ofChange earlyPartsSpec)

/-- ITS FALSE NEIGHBOUR: 'it returns false'. Refute it at one input. -/
def earlyPartsWrong : ChangeSpec := { name := "earlyParts", fn := fun _ => fun
  | [d] => { results := [.lit (.bool false)], args := [d] }
  | _ => none }
def EarlyPartsWrongFalsely : Prop := earlyPartsRow.holds Tryz.pinned (OpenSpec.ofChange earlyPartsWrong)

/-- 'quilllaw09.EarlyPlaces': WHATEVER THE INPUT: true; the input reads as it did. -/
def earlyPlacesSpec : ChangeSpec := { name := "earlyPlaces", fn := fun _ => fun
  | [d1, d2] => { results := [.lit (.bool true)], args := [d1, d2] }
  | _ => none }
def earlyPlacesRow : OpenClaim := { program := "ytjbofhaiephedaagreat", sum := "340f7573316713a73dd95614e9eb65b7ed3e8c43535c9296da6797d479586443", func := "quill/quilllaw09.EarlyPlaces", spec := "earlyPlaces", inPlace := ["internal/abi.NoEscape", "internal/bytealg.MakeNoZero", "math.Float64bits"], unfollowed := true, recurses := true, loops := true, apart := false }
def EarlyPlacesSaid : Prop := earlyPlacesRow.holds Tryz.pinned (OpenSpec.ofChange earlyPlacesSpec)

/-- ITS FALSE NEIGHBOUR: 'it returns false'. Refute it at one input. -/
def earlyPlacesWrong : ChangeSpec := { name := "earlyPlaces", fn := fun _ => fun
  | [d1, d2] => { results := [.lit (.bool false)], args := [d1, d2] }
  | _ => none }
def EarlyPlacesWrongFalsely : Prop := earlyPlacesRow.holds Tryz.pinned (OpenSpec.ofChange earlyPlacesWrong)

/-- 'quilllaw09.EarlyDeclares': WHATEVER THE INPUT: true; the input reads as it did. -/
def earlyDeclaresSpec : ChangeSpec := { name := "earlyDeclares", fn := fun _ => fun
  | [d] => { results := [.lit (.bool true)], args := [d] }
  | _ => none }
def earlyDeclaresRow : OpenClaim := { program := "ytjbofhaiephedaagreat", sum := "340f7573316713a73dd95614e9eb65b7ed3e8c43535c9296da6797d479586443", func := "quill/quilllaw09.EarlyDeclares", spec := "earlyDeclares", inPlace := ["internal/abi.NoEscape", "internal/bytealg.MakeNoZero", "math.Float64bits"], unfollowed := true, recurses := true, loops := true, apart := false }
def EarlyDeclaresSaid : Prop := earlyDeclaresRow.holds Tryz.pinned (OpenSpec.ofChange earlyDeclaresSpec)

/-- ITS FALSE NEIGHBOUR: 'it returns false'. Refute it at one input. -/
def earlyDeclaresWrong : ChangeSpec := { name := "earlyDeclares", fn := fun _ => fun
  | [d] => { results := [.lit (.bool false)], args := [d] }
  | _ => none }
def EarlyDeclaresWrongFalsely : Prop := earlyDeclaresRow.holds Tryz.pinned (OpenSpec.ofChange earlyDeclaresWrong)

/- THE SECOND FORM. 'bulk': how many values and letters a reading holds, each counted each time it is reached (what is shared counts as often as it is met; a slice's spare places count too). A statement '..UptoSaid' is the law's where the arguments, and the package variables that the reading takes, are together of bulk at most 1048576: NARROWER than '..Said'. Prove '..Said' where nothing that the law and all that it calls make is longer than what came in: it says more and counts as full. Else prove '..UptoSaid'. A law counts once. -/
mutual
def uptoBulk {H : Type} : DataW H → Nat
  | .lit (.string bytes) => bytes.length + 1
  | .lit _ => 1
  | .nil => 1
  | .ptr d => uptoBulk d + 1
  | .slice elems spare => uptoBulkAll elems + uptoBulkAll spare + 1
  | .agg parts => uptoBulkAll parts + 1
  | .iface _ d => uptoBulk d + 1
  | .map entries => uptoBulkEntries entries + 1
  | .held _ => 1
def uptoBulkAll {H : Type} : List (DataW H) → Nat
  | [] => 0
  | d :: r => uptoBulk d + uptoBulkAll r
def uptoBulkEntries {H : Type} : List (Lit × DataW H) → Nat
  | [] => 0
  | x :: r => uptoBulkEntry x + uptoBulkEntries r
def uptoBulkEntry {H : Type} : Lit × DataW H → Nat
  | (.string bytes, d) => bytes.length + uptoBulk d + 1
  | (_, d) => uptoBulk d + 1
 end
def uptoSmall : (H : Type) → List (DataW H) → Bool := fun _ ds => decide (uptoBulkAll ds ≤ 1048576)
def OpenSpec.upto (s : _root_.Go.ChangeSpec) : _root_.Go.OpenSpec := { _root_.Go.OpenSpec.ofChange s with cond := some uptoSmall }

/-- 'quilllaw09.EarlyChecks', WHERE WHAT IT READS IS OF BULK AT MOST 1048576: true; the input reads as it did. -/
def earlyChecksUptoRow : OpenClaim := { program := "ytjbofhaiephedaagreat", sum := "340f7573316713a73dd95614e9eb65b7ed3e8c43535c9296da6797d479586443", func := "quill/quilllaw09.EarlyChecks", spec := "earlyChecks", inPlace := ["internal/abi.NoEscape", "internal/bytealg.MakeNoZero", "math.Float64bits"], unfollowed := true, recurses := true, loops := true, apart := false, narrowed := true }
def EarlyChecksUptoSaid : Prop := earlyChecksUptoRow.holds Tryz.pinned (OpenSpec.upto earlyChecksSpec)

/-- 'quilllaw09.EarlyParts', WHERE WHAT IT READS IS OF BULK AT MOST 1048576: true; the input reads as it did. -/
def earlyPartsUptoRow : OpenClaim := { program := "ytjbofhaiephedaagreat", sum := "340f7573316713a73dd95614e9eb65b7ed3e8c43535c9296da6797d479586443", func := "quill/quilllaw09.EarlyParts", spec := "earlyParts", inPlace := ["internal/abi.NoEscape", "internal/bytealg.MakeNoZero", "math.Float64bits"], unfollowed := true, recurses := true, loops := true, apart := false, narrowed := true }
def EarlyPartsUptoSaid : Prop := earlyPartsUptoRow.holds Tryz.pinned (OpenSpec.upto earlyPartsSpec)

/-- 'quilllaw09.EarlyPlaces', WHERE WHAT IT READS IS OF BULK AT MOST 1048576: true; the input reads as it did. -/
def earlyPlacesUptoRow : OpenClaim := { program := "ytjbofhaiephedaagreat", sum := "340f7573316713a73dd95614e9eb65b7ed3e8c43535c9296da6797d479586443", func := "quill/quilllaw09.EarlyPlaces", spec := "earlyPlaces", inPlace := ["internal/abi.NoEscape", "internal/bytealg.MakeNoZero", "math.Float64bits"], unfollowed := true, recurses := true, loops := true, apart := false, narrowed := true }
def EarlyPlacesUptoSaid : Prop := earlyPlacesUptoRow.holds Tryz.pinned (OpenSpec.upto earlyPlacesSpec)

/-- 'quilllaw09.EarlyDeclares', WHERE WHAT IT READS IS OF BULK AT MOST 1048576: true; the input reads as it did. -/
def earlyDeclaresUptoRow : OpenClaim := { program := "ytjbofhaiephedaagreat", sum := "340f7573316713a73dd95614e9eb65b7ed3e8c43535c9296da6797d479586443", func := "quill/quilllaw09.EarlyDeclares", spec := "earlyDeclares", inPlace := ["internal/abi.NoEscape", "internal/bytealg.MakeNoZero", "math.Float64bits"], unfollowed := true, recurses := true, loops := true, apart := false, narrowed := true }
def EarlyDeclaresUptoSaid : Prop := earlyDeclaresUptoRow.holds Tryz.pinned (OpenSpec.upto earlyDeclaresSpec)

end Rows
end Go.Proofs.YtjbofhaiephedaaGreat
