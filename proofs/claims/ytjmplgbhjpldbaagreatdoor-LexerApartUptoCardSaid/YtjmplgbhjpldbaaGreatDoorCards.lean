/-
  DERIVED. GIVEN WITH THE SEED: THE CARDS: each row of YtjmplgbhjpldbaaGreatDoorRows.lean that lists a variable, with what it lists TIED to the program's text (the seventh form; the later family's looks); each row that meets fmt, with fmt's text TOLD by the authors' own Lean function (tested against real Go, not proved from fmt's source: count such statements apart). THE CARD IS WHAT COUNTS. Prove the row's statement (the work); the ties are given (YtjmplgbhjpldbaaGreatDoorTie.lean); close each card by the builder's one call (the guide's Derived/Test/ToyasCard.lean, 'card_holds'). Laid BY PROGRAM, IN A SANDBOX (cutbox-door.mjs). By AI agents, Wed Nov 11 2026. No macro, syntax, notation, axiom, sorry.
-/
import Derived.Test.YtjmplgbhjpldbaaGreatDoorRows
import GoSem.ClaimSeven
namespace Go.Proofs.YtjmplgbhjpldbaaGreatDoor
namespace Rows

/-- THE TIED CARD OF 'quilllaw06.LexerNexts'. -/
def lexerNextsCard : Claim7 := { stood := { row := lexerNextsRow, standIns := [], harness := (true, "605dc8328dbcc8add1203e1c1843c24cf30aadf687b849130cf67fb7fbdfbba7"), looks := false }, kinds := [], alts := [], laidByText := true, laidKinds := [.data, .pinned, .pinned], laidTests := true, laidLooks := .later }
def LexerNextsCardSaid : Prop := Claim7.holds Tryz.pinned (.plain (OpenSpec.ofChange lexerNextsSpec)) lexerNextsCard

/-- THE TIED CARD OF 'quilllaw06.LexerAll'. -/
def lexerAllCard : Claim7 := { stood := { row := lexerAllRow, standIns := [], harness := (true, "605dc8328dbcc8add1203e1c1843c24cf30aadf687b849130cf67fb7fbdfbba7"), looks := false }, kinds := [], alts := [], laidByText := true, laidKinds := [.data, .pinned, .pinned], laidTests := true, laidLooks := .later }
def LexerAllCardSaid : Prop := Claim7.holds Tryz.pinned (.plain (OpenSpec.ofChange lexerAllSpec)) lexerAllCard

/-- THE TIED CARD OF 'quilllaw06.LexerWords'. -/
def lexerWordsCard : Claim7 := { stood := { row := lexerWordsRow, standIns := [], harness := (true, "605dc8328dbcc8add1203e1c1843c24cf30aadf687b849130cf67fb7fbdfbba7"), looks := false }, kinds := [], alts := [], laidByText := true, laidKinds := [.data, .pinned, .pinned], laidTests := true, laidLooks := .later }
def LexerWordsCardSaid : Prop := Claim7.holds Tryz.pinned (.plain (OpenSpec.ofChange lexerWordsSpec)) lexerWordsCard

/-- THE TIED CARD OF 'quilllaw06.LexerStands'. -/
def lexerStandsCard : Claim7 := { stood := { row := lexerStandsRow, standIns := [], harness := (true, "605dc8328dbcc8add1203e1c1843c24cf30aadf687b849130cf67fb7fbdfbba7"), looks := false }, kinds := [], alts := [], laidByText := true, laidKinds := [.data, .pinned, .pinned], laidTests := true, laidLooks := .later }
def LexerStandsCardSaid : Prop := Claim7.holds Tryz.pinned (.plain (OpenSpec.ofChange lexerStandsSpec)) lexerStandsCard

/-- THE TIED CARD OF 'quilllaw06.LexerBack'. -/
def lexerBackCard : Claim7 := { stood := { row := lexerBackRow, standIns := [], harness := (true, "605dc8328dbcc8add1203e1c1843c24cf30aadf687b849130cf67fb7fbdfbba7"), looks := false }, kinds := [], alts := [], laidByText := true, laidKinds := [.data, .pinned, .pinned], laidTests := true, laidLooks := .later }
def LexerBackCardSaid : Prop := Claim7.holds Tryz.pinned (.plain (OpenSpec.ofChange lexerBackSpec)) lexerBackCard

/-- THE TIED CARD OF 'quilllaw06.LexerApart'. -/
def lexerApartCard : Claim7 := { stood := { row := lexerApartRow, standIns := [], harness := (true, "605dc8328dbcc8add1203e1c1843c24cf30aadf687b849130cf67fb7fbdfbba7"), looks := false }, kinds := [], alts := [], laidByText := true, laidKinds := [.data, .pinned, .pinned], laidTests := true, laidLooks := .later }
def LexerApartCardSaid : Prop := Claim7.holds Tryz.pinned (.plain (OpenSpec.ofChange lexerApartSpec)) lexerApartCard

/-- THE SECOND FORM's CARD OF 'quilllaw06.LexerNexts'. -/
def lexerNextsUptoCard : Claim7 := { stood := { row := lexerNextsUptoRow, standIns := [], harness := (true, "605dc8328dbcc8add1203e1c1843c24cf30aadf687b849130cf67fb7fbdfbba7"), looks := false }, kinds := [], alts := [], laidByText := true, laidKinds := [.data, .pinned, .pinned], laidTests := true, laidLooks := .later }
def LexerNextsUptoCardSaid : Prop := Claim7.holds Tryz.pinned (.plain (OpenSpec.upto lexerNextsSpec)) lexerNextsUptoCard

/-- THE SECOND FORM's CARD OF 'quilllaw06.LexerAll'. -/
def lexerAllUptoCard : Claim7 := { stood := { row := lexerAllUptoRow, standIns := [], harness := (true, "605dc8328dbcc8add1203e1c1843c24cf30aadf687b849130cf67fb7fbdfbba7"), looks := false }, kinds := [], alts := [], laidByText := true, laidKinds := [.data, .pinned, .pinned], laidTests := true, laidLooks := .later }
def LexerAllUptoCardSaid : Prop := Claim7.holds Tryz.pinned (.plain (OpenSpec.upto lexerAllSpec)) lexerAllUptoCard

/-- THE SECOND FORM's CARD OF 'quilllaw06.LexerWords'. -/
def lexerWordsUptoCard : Claim7 := { stood := { row := lexerWordsUptoRow, standIns := [], harness := (true, "605dc8328dbcc8add1203e1c1843c24cf30aadf687b849130cf67fb7fbdfbba7"), looks := false }, kinds := [], alts := [], laidByText := true, laidKinds := [.data, .pinned, .pinned], laidTests := true, laidLooks := .later }
def LexerWordsUptoCardSaid : Prop := Claim7.holds Tryz.pinned (.plain (OpenSpec.upto lexerWordsSpec)) lexerWordsUptoCard

/-- THE SECOND FORM's CARD OF 'quilllaw06.LexerStands'. -/
def lexerStandsUptoCard : Claim7 := { stood := { row := lexerStandsUptoRow, standIns := [], harness := (true, "605dc8328dbcc8add1203e1c1843c24cf30aadf687b849130cf67fb7fbdfbba7"), looks := false }, kinds := [], alts := [], laidByText := true, laidKinds := [.data, .pinned, .pinned], laidTests := true, laidLooks := .later }
def LexerStandsUptoCardSaid : Prop := Claim7.holds Tryz.pinned (.plain (OpenSpec.upto lexerStandsSpec)) lexerStandsUptoCard

/-- THE SECOND FORM's CARD OF 'quilllaw06.LexerBack'. -/
def lexerBackUptoCard : Claim7 := { stood := { row := lexerBackUptoRow, standIns := [], harness := (true, "605dc8328dbcc8add1203e1c1843c24cf30aadf687b849130cf67fb7fbdfbba7"), looks := false }, kinds := [], alts := [], laidByText := true, laidKinds := [.data, .pinned, .pinned], laidTests := true, laidLooks := .later }
def LexerBackUptoCardSaid : Prop := Claim7.holds Tryz.pinned (.plain (OpenSpec.upto lexerBackSpec)) lexerBackUptoCard

/-- THE SECOND FORM's CARD OF 'quilllaw06.LexerApart'. -/
def lexerApartUptoCard : Claim7 := { stood := { row := lexerApartUptoRow, standIns := [], harness := (true, "605dc8328dbcc8add1203e1c1843c24cf30aadf687b849130cf67fb7fbdfbba7"), looks := false }, kinds := [], alts := [], laidByText := true, laidKinds := [.data, .pinned, .pinned], laidTests := true, laidLooks := .later }
def LexerApartUptoCardSaid : Prop := Claim7.holds Tryz.pinned (.plain (OpenSpec.upto lexerApartSpec)) lexerApartUptoCard
end Rows
end Go.Proofs.YtjmplgbhjpldbaaGreatDoor
