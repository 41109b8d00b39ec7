/-
  DERIVED. GIVEN WITH THE SEED: THE CARDS: each row of YtlabblkonkhmgaaDoorRows.lean that lists a variable, with what it lists TIED to the program's text (the seventh form; the later family's looks); each row that meets fmt, with fmt's text TOLD by the authors' own Lean function (tested against real Go, not proved from fmt's source: count such statements apart). THE CARD IS WHAT COUNTS. Prove the row's statement (the work); the ties are given (YtlabblkonkhmgaaDoorTie.lean); close each card by the builder's one call (the guide's Derived/Test/ToyasCard.lean, 'card_holds'). Laid BY PROGRAM, IN A SANDBOX (cutbox-door.mjs). By AI agents, Wed Nov 11 2026. No macro, syntax, notation, axiom, sorry.
-/
import Derived.Test.YtlabblkonkhmgaaDoorRows
import GoSem.ClaimSeven
namespace Go.Proofs.YtlabblkonkhmgaaDoor
namespace Rows

/-- THE TIED CARD OF 'quilllaw02.BignumTexts'. -/
def bignumTextsCard : Claim7 := { stood := { row := bignumTextsRow, standIns := [], harness := (true, "1a8c034f1025d33776eb37f6445842c2b7f8bd7cb71f299b335722fd6fe87279"), looks := false }, kinds := [], alts := [], laidByText := true, laidKinds := [.data, .pinned], laidTests := true, laidLooks := .later }
def BignumTextsCardSaid : Prop := Claim7.holds Tryd.pinned (.plain (OpenSpec.ofChange bignumTextsSpec)) bignumTextsCard

/-- THE TIED CARD OF 'quilllaw02.BignumFloats'. -/
def bignumFloatsCard : Claim7 := { stood := { row := bignumFloatsRow, standIns := [], harness := (true, "1a8c034f1025d33776eb37f6445842c2b7f8bd7cb71f299b335722fd6fe87279"), looks := false }, kinds := [], alts := [], laidByText := true, laidKinds := [.data], laidTests := true, laidLooks := .later }
def BignumFloatsCardSaid : Prop := Claim7.holds Tryd.pinned (.plain (OpenSpec.ofChange bignumFloatsSpec)) bignumFloatsCard

/-- THE TIED CARD OF 'quilllaw02.BignumBack'. -/
def bignumBackCard : Claim7 := { stood := { row := bignumBackRow, standIns := [], harness := (true, "1a8c034f1025d33776eb37f6445842c2b7f8bd7cb71f299b335722fd6fe87279"), looks := false }, kinds := [], alts := [], laidByText := true, laidKinds := [.data, .data, .pinned], laidTests := true, laidLooks := .later }
def BignumBackCardSaid : Prop := Claim7.holds Tryd.pinned (.plain (OpenSpec.ofChange bignumBackSpec)) bignumBackCard

/-- THE SECOND FORM's CARD OF 'quilllaw02.BignumTexts'. -/
def bignumTextsUptoCard : Claim7 := { stood := { row := bignumTextsUptoRow, standIns := [], harness := (true, "1a8c034f1025d33776eb37f6445842c2b7f8bd7cb71f299b335722fd6fe87279"), looks := false }, kinds := [], alts := [], laidByText := true, laidKinds := [.data, .pinned], laidTests := true, laidLooks := .later }
def BignumTextsUptoCardSaid : Prop := Claim7.holds Tryd.pinned (.plain (OpenSpec.upto bignumTextsSpec)) bignumTextsUptoCard

/-- THE SECOND FORM's CARD OF 'quilllaw02.BignumFloats'. -/
def bignumFloatsUptoCard : Claim7 := { stood := { row := bignumFloatsUptoRow, standIns := [], harness := (true, "1a8c034f1025d33776eb37f6445842c2b7f8bd7cb71f299b335722fd6fe87279"), looks := false }, kinds := [], alts := [], laidByText := true, laidKinds := [.data], laidTests := true, laidLooks := .later }
def BignumFloatsUptoCardSaid : Prop := Claim7.holds Tryd.pinned (.plain (OpenSpec.upto bignumFloatsSpec)) bignumFloatsUptoCard

/-- THE SECOND FORM's CARD OF 'quilllaw02.BignumBack'. -/
def bignumBackUptoCard : Claim7 := { stood := { row := bignumBackUptoRow, standIns := [], harness := (true, "1a8c034f1025d33776eb37f6445842c2b7f8bd7cb71f299b335722fd6fe87279"), looks := false }, kinds := [], alts := [], laidByText := true, laidKinds := [.data, .data, .pinned], laidTests := true, laidLooks := .later }
def BignumBackUptoCardSaid : Prop := Claim7.holds Tryd.pinned (.plain (OpenSpec.upto bignumBackSpec)) bignumBackUptoCard
end Rows
end Go.Proofs.YtlabblkonkhmgaaDoor
