/-
  DERIVED. GIVEN WITH THE SEED: THE CARDS: each row of YtfcpkdafkmohkaaGreatDoorRows.lean that lists a variable, with what it lists TIED to the program's text (the seventh form; the later family's looks); each row that meets fmt, with fmt's text TOLD by the authors' own Lean function (tested against real Go, not proved from fmt's source: count such statements apart). THE CARD IS WHAT COUNTS. Prove the row's statement (the work); the ties are given (YtfcpkdafkmohkaaGreatDoorTie.lean); close each card by the builder's one call (the guide's Derived/Test/ToyasCard.lean, 'card_holds'). Laid BY PROGRAM, IN A SANDBOX (cutbox-door.mjs). By AI agents, Wed Nov 11 2026. No macro, syntax, notation, axiom, sorry.
-/
import Derived.Test.YtfcpkdafkmohkaaGreatDoorRows
import GoSem.ClaimSeven
namespace Go.Proofs.YtfcpkdafkmohkaaGreatDoor
namespace Rows

/-- THE TIED CARD OF 'quilllaw03.NumtextTexts'. -/
def numtextTextsCard : Claim7 := { stood := { row := numtextTextsRow, standIns := [], harness := (true, "92e272442256ea76f732b2bdd37b92c94c34b112e94d5913709edf2e2ecbb512"), looks := false }, kinds := [], alts := [], laidByText := true, laidKinds := [.data, .data, .data, .data, .pinned, .pinned], laidTests := true, laidLooks := .later }
def NumtextTextsCardSaid : Prop := Claim7.holds Tryz.pinned (.plain (OpenSpec.ofChange numtextTextsSpec)) numtextTextsCard

/-- THE TIED CARD OF 'quilllaw03.NumtextRadix'. -/
def numtextRadixCard : Claim7 := { stood := { row := numtextRadixRow, standIns := [], harness := (true, "92e272442256ea76f732b2bdd37b92c94c34b112e94d5913709edf2e2ecbb512"), looks := false }, kinds := [], alts := [], laidByText := true, laidKinds := [.data, .data, .data, .data, .pinned, .pinned], laidTests := true, laidLooks := .later }
def NumtextRadixCardSaid : Prop := Claim7.holds Tryz.pinned (.plain (OpenSpec.ofChange numtextRadixSpec)) numtextRadixCard

/-- THE TIED CARD OF 'quilllaw03.NumtextFixed'. -/
def numtextFixedCard : Claim7 := { stood := { row := numtextFixedRow, standIns := [], harness := (true, "92e272442256ea76f732b2bdd37b92c94c34b112e94d5913709edf2e2ecbb512"), looks := false }, kinds := [], alts := [], laidByText := true, laidKinds := [.data, .data, .data, .data, .pinned, .pinned], laidTests := true, laidLooks := .later }
def NumtextFixedCardSaid : Prop := Claim7.holds Tryz.pinned (.plain (OpenSpec.ofChange numtextFixedSpec)) numtextFixedCard

/-- THE TIED CARD OF 'quilllaw03.NumtextExponents'. -/
def numtextExponentsCard : Claim7 := { stood := { row := numtextExponentsRow, standIns := [], harness := (true, "92e272442256ea76f732b2bdd37b92c94c34b112e94d5913709edf2e2ecbb512"), looks := false }, kinds := [], alts := [], laidByText := true, laidKinds := [.data, .data, .data, .data, .pinned, .pinned], laidTests := true, laidLooks := .later }
def NumtextExponentsCardSaid : Prop := Claim7.holds Tryz.pinned (.plain (OpenSpec.ofChange numtextExponentsSpec)) numtextExponentsCard

/-- THE TIED CARD OF 'quilllaw03.NumtextNumbers'. -/
def numtextNumbersCard : Claim7 := { stood := { row := numtextNumbersRow, standIns := [], harness := (true, "92e272442256ea76f732b2bdd37b92c94c34b112e94d5913709edf2e2ecbb512"), looks := false }, kinds := [], alts := [], laidByText := true, laidKinds := [.data, .data, .data, .data, .pinned, .pinned], laidTests := true, laidLooks := .later }
def NumtextNumbersCardSaid : Prop := Claim7.holds Tryz.pinned (.plain (OpenSpec.ofChange numtextNumbersSpec)) numtextNumbersCard

/-- THE TIED CARD OF 'quilllaw03.NumtextBeginnings'. -/
def numtextBeginningsCard : Claim7 := { stood := { row := numtextBeginningsRow, standIns := [], harness := (true, "92e272442256ea76f732b2bdd37b92c94c34b112e94d5913709edf2e2ecbb512"), looks := false }, kinds := [], alts := [], laidByText := true, laidKinds := [.data, .data, .data, .data, .pinned, .pinned], laidTests := true, laidLooks := .later }
def NumtextBeginningsCardSaid : Prop := Claim7.holds Tryz.pinned (.plain (OpenSpec.ofChange numtextBeginningsSpec)) numtextBeginningsCard

/-- THE TIED CARD OF 'quilllaw03.NumtextBack'. -/
def numtextBackCard : Claim7 := { stood := { row := numtextBackRow, standIns := [], harness := (true, "92e272442256ea76f732b2bdd37b92c94c34b112e94d5913709edf2e2ecbb512"), looks := false }, kinds := [], alts := [], laidByText := true, laidKinds := [.data, .data, .data, .data, .pinned, .pinned], laidTests := true, laidLooks := .later }
def NumtextBackCardSaid : Prop := Claim7.holds Tryz.pinned (.plain (OpenSpec.ofChange numtextBackSpec)) numtextBackCard

/-- THE TIED CARD OF 'quilllaw03.NumtextFew'. -/
def numtextFewCard : Claim7 := { stood := { row := numtextFewRow, standIns := [], harness := (true, "92e272442256ea76f732b2bdd37b92c94c34b112e94d5913709edf2e2ecbb512"), looks := false }, kinds := [], alts := [], laidByText := true, laidKinds := [.data, .data, .data, .data, .pinned, .pinned], laidTests := true, laidLooks := .later }
def NumtextFewCardSaid : Prop := Claim7.holds Tryz.pinned (.plain (OpenSpec.ofChange numtextFewSpec)) numtextFewCard

/-- THE TIED CARD OF 'quilllaw03.NumtextOrders'. -/
def numtextOrdersCard : Claim7 := { stood := { row := numtextOrdersRow, standIns := [], harness := (true, "92e272442256ea76f732b2bdd37b92c94c34b112e94d5913709edf2e2ecbb512"), looks := false }, kinds := [], alts := [], laidByText := true, laidKinds := [.data, .data, .data, .data, .pinned, .pinned], laidTests := true, laidLooks := .later }
def NumtextOrdersCardSaid : Prop := Claim7.holds Tryz.pinned (.plain (OpenSpec.ofChange numtextOrdersSpec)) numtextOrdersCard

/-- THE SECOND FORM's CARD OF 'quilllaw03.NumtextTexts'. -/
def numtextTextsUptoCard : Claim7 := { stood := { row := numtextTextsUptoRow, standIns := [], harness := (true, "92e272442256ea76f732b2bdd37b92c94c34b112e94d5913709edf2e2ecbb512"), looks := false }, kinds := [], alts := [], laidByText := true, laidKinds := [.data, .data, .data, .data, .pinned, .pinned], laidTests := true, laidLooks := .later }
def NumtextTextsUptoCardSaid : Prop := Claim7.holds Tryz.pinned (.plain (OpenSpec.upto numtextTextsSpec)) numtextTextsUptoCard

/-- THE SECOND FORM's CARD OF 'quilllaw03.NumtextRadix'. -/
def numtextRadixUptoCard : Claim7 := { stood := { row := numtextRadixUptoRow, standIns := [], harness := (true, "92e272442256ea76f732b2bdd37b92c94c34b112e94d5913709edf2e2ecbb512"), looks := false }, kinds := [], alts := [], laidByText := true, laidKinds := [.data, .data, .data, .data, .pinned, .pinned], laidTests := true, laidLooks := .later }
def NumtextRadixUptoCardSaid : Prop := Claim7.holds Tryz.pinned (.plain (OpenSpec.upto numtextRadixSpec)) numtextRadixUptoCard

/-- THE SECOND FORM's CARD OF 'quilllaw03.NumtextFixed'. -/
def numtextFixedUptoCard : Claim7 := { stood := { row := numtextFixedUptoRow, standIns := [], harness := (true, "92e272442256ea76f732b2bdd37b92c94c34b112e94d5913709edf2e2ecbb512"), looks := false }, kinds := [], alts := [], laidByText := true, laidKinds := [.data, .data, .data, .data, .pinned, .pinned], laidTests := true, laidLooks := .later }
def NumtextFixedUptoCardSaid : Prop := Claim7.holds Tryz.pinned (.plain (OpenSpec.upto numtextFixedSpec)) numtextFixedUptoCard

/-- THE SECOND FORM's CARD OF 'quilllaw03.NumtextExponents'. -/
def numtextExponentsUptoCard : Claim7 := { stood := { row := numtextExponentsUptoRow, standIns := [], harness := (true, "92e272442256ea76f732b2bdd37b92c94c34b112e94d5913709edf2e2ecbb512"), looks := false }, kinds := [], alts := [], laidByText := true, laidKinds := [.data, .data, .data, .data, .pinned, .pinned], laidTests := true, laidLooks := .later }
def NumtextExponentsUptoCardSaid : Prop := Claim7.holds Tryz.pinned (.plain (OpenSpec.upto numtextExponentsSpec)) numtextExponentsUptoCard

/-- THE SECOND FORM's CARD OF 'quilllaw03.NumtextNumbers'. -/
def numtextNumbersUptoCard : Claim7 := { stood := { row := numtextNumbersUptoRow, standIns := [], harness := (true, "92e272442256ea76f732b2bdd37b92c94c34b112e94d5913709edf2e2ecbb512"), looks := false }, kinds := [], alts := [], laidByText := true, laidKinds := [.data, .data, .data, .data, .pinned, .pinned], laidTests := true, laidLooks := .later }
def NumtextNumbersUptoCardSaid : Prop := Claim7.holds Tryz.pinned (.plain (OpenSpec.upto numtextNumbersSpec)) numtextNumbersUptoCard

/-- THE SECOND FORM's CARD OF 'quilllaw03.NumtextBeginnings'. -/
def numtextBeginningsUptoCard : Claim7 := { stood := { row := numtextBeginningsUptoRow, standIns := [], harness := (true, "92e272442256ea76f732b2bdd37b92c94c34b112e94d5913709edf2e2ecbb512"), looks := false }, kinds := [], alts := [], laidByText := true, laidKinds := [.data, .data, .data, .data, .pinned, .pinned], laidTests := true, laidLooks := .later }
def NumtextBeginningsUptoCardSaid : Prop := Claim7.holds Tryz.pinned (.plain (OpenSpec.upto numtextBeginningsSpec)) numtextBeginningsUptoCard

/-- THE SECOND FORM's CARD OF 'quilllaw03.NumtextBack'. -/
def numtextBackUptoCard : Claim7 := { stood := { row := numtextBackUptoRow, standIns := [], harness := (true, "92e272442256ea76f732b2bdd37b92c94c34b112e94d5913709edf2e2ecbb512"), looks := false }, kinds := [], alts := [], laidByText := true, laidKinds := [.data, .data, .data, .data, .pinned, .pinned], laidTests := true, laidLooks := .later }
def NumtextBackUptoCardSaid : Prop := Claim7.holds Tryz.pinned (.plain (OpenSpec.upto numtextBackSpec)) numtextBackUptoCard

/-- THE SECOND FORM's CARD OF 'quilllaw03.NumtextFew'. -/
def numtextFewUptoCard : Claim7 := { stood := { row := numtextFewUptoRow, standIns := [], harness := (true, "92e272442256ea76f732b2bdd37b92c94c34b112e94d5913709edf2e2ecbb512"), looks := false }, kinds := [], alts := [], laidByText := true, laidKinds := [.data, .data, .data, .data, .pinned, .pinned], laidTests := true, laidLooks := .later }
def NumtextFewUptoCardSaid : Prop := Claim7.holds Tryz.pinned (.plain (OpenSpec.upto numtextFewSpec)) numtextFewUptoCard

/-- THE SECOND FORM's CARD OF 'quilllaw03.NumtextOrders'. -/
def numtextOrdersUptoCard : Claim7 := { stood := { row := numtextOrdersUptoRow, standIns := [], harness := (true, "92e272442256ea76f732b2bdd37b92c94c34b112e94d5913709edf2e2ecbb512"), looks := false }, kinds := [], alts := [], laidByText := true, laidKinds := [.data, .data, .data, .data, .pinned, .pinned], laidTests := true, laidLooks := .later }
def NumtextOrdersUptoCardSaid : Prop := Claim7.holds Tryz.pinned (.plain (OpenSpec.upto numtextOrdersSpec)) numtextOrdersUptoCard
end Rows
end Go.Proofs.YtfcpkdafkmohkaaGreatDoor
