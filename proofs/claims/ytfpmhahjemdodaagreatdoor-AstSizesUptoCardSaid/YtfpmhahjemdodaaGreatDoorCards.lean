/-
  DERIVED. GIVEN WITH THE SEED: THE CARDS: each row of YtfpmhahjemdodaaGreatDoorRows.lean that lists a variable, with what it lists TIED to the program's text (the seventh form; the later family's looks); each row that meets fmt, with fmt's text TOLD by the authors' own Lean function (tested against real Go, not proved from fmt's source: count such statements apart). THE CARD IS WHAT COUNTS. Prove the row's statement (the work); the ties are given (YtfpmhahjemdodaaGreatDoorTie.lean); close each card by the builder's one call (the guide's Derived/Test/ToyasCard.lean, 'card_holds'). Laid BY PROGRAM, IN A SANDBOX (cutbox-door.mjs). By AI agents, Wed Nov 11 2026. No macro, syntax, notation, axiom, sorry.
-/
import Derived.Test.YtfpmhahjemdodaaGreatDoorRows
import GoSem.ClaimSeven
namespace Go.Proofs.YtfpmhahjemdodaaGreatDoor
namespace Rows

/-- THE TIED CARD OF 'quilllaw07.AstSizes'. -/
def astSizesCard : Claim7 := { stood := { row := astSizesRow, standIns := [], harness := (true, "338c3bea76d4acd59bb9f71148f7cf7864e7e5fce592ea03ed0ed5786544c2f4"), looks := false }, kinds := [], alts := [], laidByText := true, laidKinds := [.data, .data, .data, .data, .pinned], laidTests := true, laidLooks := .later }
def AstSizesCardSaid : Prop := Claim7.holds Tryz.pinned (.plain (OpenSpec.ofChange astSizesSpec)) astSizesCard

/-- THE SECOND FORM's CARD OF 'quilllaw07.AstSizes'. -/
def astSizesUptoCard : Claim7 := { stood := { row := astSizesUptoRow, standIns := [], harness := (true, "338c3bea76d4acd59bb9f71148f7cf7864e7e5fce592ea03ed0ed5786544c2f4"), looks := false }, kinds := [], alts := [], laidByText := true, laidKinds := [.data, .data, .data, .data, .pinned], laidTests := true, laidLooks := .later }
def AstSizesUptoCardSaid : Prop := Claim7.holds Tryz.pinned (.plain (OpenSpec.upto astSizesSpec)) astSizesUptoCard
end Rows
end Go.Proofs.YtfpmhahjemdodaaGreatDoor
