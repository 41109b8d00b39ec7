/-
  DERIVED. GIVEN WITH THE SEED: THE CARDS: each row of YtmimeejjaneedaaGreatDoorRows.lean that lists a variable, with what it lists TIED to the program's text (the seventh form; the later family's looks); each row that meets fmt, with fmt's text TOLD by the authors' own Lean function (tested against real Go, not proved from fmt's source: count such statements apart). THE CARD IS WHAT COUNTS. Prove the row's statement (the work); the ties are given (YtmimeejjaneedaaGreatDoorTie.lean); close each card by the builder's one call (the guide's Derived/Test/ToyasCard.lean, 'card_holds'). Laid BY PROGRAM, IN A SANDBOX (cutbox-door.mjs). By AI agents, Wed Nov 11 2026. No macro, syntax, notation, axiom, sorry.
-/
import Derived.Test.YtmimeejjaneedaaGreatDoorRows
import GoSem.ClaimSeven
namespace Go.Proofs.YtmimeejjaneedaaGreatDoor
namespace Rows

/-- THE TIED CARD OF 'quilllaw06.LexerNexts'. -/
def lexerNextsCard : Claim7 := { stood := { row := lexerNextsRow, standIns := [], harness := (true, "1bac0684821ac8301f90d149439476625d0cde407b864c8aea76145ca2b73802"), looks := false }, kinds := [], alts := [], laidByText := true, laidKinds := [.data, .pinned, .pinned], laidTests := true, laidLooks := .later }
def LexerNextsCardSaid : Prop := Claim7.holds Tryz.pinned (.plain (OpenSpec.ofChange lexerNextsSpec)) lexerNextsCard

/-- THE TIED CARD OF 'quilllaw06.LexerAll'. -/
def lexerAllCard : Claim7 := { stood := { row := lexerAllRow, standIns := [], harness := (true, "1bac0684821ac8301f90d149439476625d0cde407b864c8aea76145ca2b73802"), looks := false }, kinds := [], alts := [], laidByText := true, laidKinds := [.data, .pinned, .pinned], laidTests := true, laidLooks := .later }
def LexerAllCardSaid : Prop := Claim7.holds Tryz.pinned (.plain (OpenSpec.ofChange lexerAllSpec)) lexerAllCard

/-- THE TIED CARD OF 'quilllaw06.LexerWords'. -/
def lexerWordsCard : Claim7 := { stood := { row := lexerWordsRow, standIns := [], harness := (true, "1bac0684821ac8301f90d149439476625d0cde407b864c8aea76145ca2b73802"), looks := false }, kinds := [], alts := [], laidByText := true, laidKinds := [.data, .pinned, .pinned], laidTests := true, laidLooks := .later }
def LexerWordsCardSaid : Prop := Claim7.holds Tryz.pinned (.plain (OpenSpec.ofChange lexerWordsSpec)) lexerWordsCard

/-- THE TIED CARD OF 'quilllaw07.AstSizes'. -/
def astSizesCard : Claim7 := { stood := { row := astSizesRow, standIns := [], harness := (true, "1bac0684821ac8301f90d149439476625d0cde407b864c8aea76145ca2b73802"), looks := false }, kinds := [], alts := [], laidByText := true, laidKinds := [.data, .data, .data, .data, .pinned], laidTests := true, laidLooks := .later }
def AstSizesCardSaid : Prop := Claim7.holds Tryz.pinned (.plain (OpenSpec.ofChange astSizesSpec)) astSizesCard

/-- THE TIED CARD OF 'quilllaw07.AstSame'. -/
def astSameCard : Claim7 := { stood := { row := astSameRow, standIns := [], harness := (true, "1bac0684821ac8301f90d149439476625d0cde407b864c8aea76145ca2b73802"), looks := false }, kinds := [], alts := [], laidByText := true, laidKinds := [.data, .data, .data, .data, .pinned], laidTests := true, laidLooks := .later }
def AstSameCardSaid : Prop := Claim7.holds Tryz.pinned (.plain (OpenSpec.ofChange astSameSpec)) astSameCard

/-- THE TIED CARD OF 'quilllaw07.AstPlaces'. -/
def astPlacesCard : Claim7 := { stood := { row := astPlacesRow, standIns := [], harness := (true, "1bac0684821ac8301f90d149439476625d0cde407b864c8aea76145ca2b73802"), looks := false }, kinds := [], alts := [], laidByText := true, laidKinds := [.data, .data, .data, .data, .pinned], laidTests := true, laidLooks := .later }
def AstPlacesCardSaid : Prop := Claim7.holds Tryz.pinned (.plain (OpenSpec.ofChange astPlacesSpec)) astPlacesCard

/-- THE SECOND FORM's CARD OF 'quilllaw06.LexerNexts'. -/
def lexerNextsUptoCard : Claim7 := { stood := { row := lexerNextsUptoRow, standIns := [], harness := (true, "1bac0684821ac8301f90d149439476625d0cde407b864c8aea76145ca2b73802"), looks := false }, kinds := [], alts := [], laidByText := true, laidKinds := [.data, .pinned, .pinned], laidTests := true, laidLooks := .later }
def LexerNextsUptoCardSaid : Prop := Claim7.holds Tryz.pinned (.plain (OpenSpec.upto lexerNextsSpec)) lexerNextsUptoCard

/-- THE SECOND FORM's CARD OF 'quilllaw06.LexerAll'. -/
def lexerAllUptoCard : Claim7 := { stood := { row := lexerAllUptoRow, standIns := [], harness := (true, "1bac0684821ac8301f90d149439476625d0cde407b864c8aea76145ca2b73802"), looks := false }, kinds := [], alts := [], laidByText := true, laidKinds := [.data, .pinned, .pinned], laidTests := true, laidLooks := .later }
def LexerAllUptoCardSaid : Prop := Claim7.holds Tryz.pinned (.plain (OpenSpec.upto lexerAllSpec)) lexerAllUptoCard

/-- THE SECOND FORM's CARD OF 'quilllaw06.LexerWords'. -/
def lexerWordsUptoCard : Claim7 := { stood := { row := lexerWordsUptoRow, standIns := [], harness := (true, "1bac0684821ac8301f90d149439476625d0cde407b864c8aea76145ca2b73802"), looks := false }, kinds := [], alts := [], laidByText := true, laidKinds := [.data, .pinned, .pinned], laidTests := true, laidLooks := .later }
def LexerWordsUptoCardSaid : Prop := Claim7.holds Tryz.pinned (.plain (OpenSpec.upto lexerWordsSpec)) lexerWordsUptoCard

/-- THE SECOND FORM's CARD OF 'quilllaw07.AstSizes'. -/
def astSizesUptoCard : Claim7 := { stood := { row := astSizesUptoRow, standIns := [], harness := (true, "1bac0684821ac8301f90d149439476625d0cde407b864c8aea76145ca2b73802"), looks := false }, kinds := [], alts := [], laidByText := true, laidKinds := [.data, .data, .data, .data, .pinned], laidTests := true, laidLooks := .later }
def AstSizesUptoCardSaid : Prop := Claim7.holds Tryz.pinned (.plain (OpenSpec.upto astSizesSpec)) astSizesUptoCard

/-- THE SECOND FORM's CARD OF 'quilllaw07.AstSame'. -/
def astSameUptoCard : Claim7 := { stood := { row := astSameUptoRow, standIns := [], harness := (true, "1bac0684821ac8301f90d149439476625d0cde407b864c8aea76145ca2b73802"), looks := false }, kinds := [], alts := [], laidByText := true, laidKinds := [.data, .data, .data, .data, .pinned], laidTests := true, laidLooks := .later }
def AstSameUptoCardSaid : Prop := Claim7.holds Tryz.pinned (.plain (OpenSpec.upto astSameSpec)) astSameUptoCard

/-- THE SECOND FORM's CARD OF 'quilllaw07.AstPlaces'. -/
def astPlacesUptoCard : Claim7 := { stood := { row := astPlacesUptoRow, standIns := [], harness := (true, "1bac0684821ac8301f90d149439476625d0cde407b864c8aea76145ca2b73802"), looks := false }, kinds := [], alts := [], laidByText := true, laidKinds := [.data, .data, .data, .data, .pinned], laidTests := true, laidLooks := .later }
def AstPlacesUptoCardSaid : Prop := Claim7.holds Tryz.pinned (.plain (OpenSpec.upto astPlacesSpec)) astPlacesUptoCard
end Rows
end Go.Proofs.YtmimeejjaneedaaGreatDoor
