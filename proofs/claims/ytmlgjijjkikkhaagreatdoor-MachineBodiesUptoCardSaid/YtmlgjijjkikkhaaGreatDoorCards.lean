/-
  DERIVED. GIVEN WITH THE SEED: THE CARDS: each row of YtmlgjijjkikkhaaGreatDoorRows.lean that lists a variable, with what it lists TIED to the program's text (the seventh form; the later family's looks); each row that meets fmt, with fmt's text TOLD by the authors' own Lean function (tested against real Go, not proved from fmt's source: count such statements apart). THE CARD IS WHAT COUNTS. Prove the row's statement (the work); the ties are given (YtmlgjijjkikkhaaGreatDoorTie.lean); close each card by the builder's one call (the guide's Derived/Test/ToyasCard.lean, 'card_holds'). Laid BY PROGRAM, IN A SANDBOX (cutbox-door.mjs). By AI agents, Wed Nov 11 2026. No macro, syntax, notation, axiom, sorry.
-/
import Derived.Test.YtmlgjijjkikkhaaGreatDoorRows
import GoSem.ClaimSeven
namespace Go.Proofs.YtmlgjijjkikkhaaGreatDoor
namespace Rows

/-- THE TIED CARD OF 'quilllaw14.MachineNews'. -/
def machineNewsCard : Claim7 := { stood := { row := machineNewsRow, standIns := [], harness := (true, "db6371bd7569cfc093e611dfa2b372bfe74b0ca929959c66f37c17f33f71db39"), looks := false }, kinds := [], alts := [], laidByText := true, laidKinds := [.data, .pinned, .pinned], laidTests := true, laidLooks := .later }
def MachineNewsCardSaid : Prop := Claim7.holds Tryz.pinned (.plain (OpenSpec.ofChange machineNewsSpec)) machineNewsCard

/-- THE TIED CARD OF 'quilllaw14.MachineCodes'. -/
def machineCodesCard : Claim7 := { stood := { row := machineCodesRow, standIns := [], harness := (true, "db6371bd7569cfc093e611dfa2b372bfe74b0ca929959c66f37c17f33f71db39"), looks := false }, kinds := [], alts := [], laidByText := true, laidKinds := [.data, .pinned, .pinned], laidTests := true, laidLooks := .later }
def MachineCodesCardSaid : Prop := Claim7.holds Tryz.pinned (.plain (OpenSpec.ofChange machineCodesSpec)) machineCodesCard

/-- THE TIED CARD OF 'quilllaw14.MachineDeep'. -/
def machineDeepCard : Claim7 := { stood := { row := machineDeepRow, standIns := [], harness := (true, "db6371bd7569cfc093e611dfa2b372bfe74b0ca929959c66f37c17f33f71db39"), looks := false }, kinds := [], alts := [], laidByText := true, laidKinds := [.data, .pinned, .pinned], laidTests := true, laidLooks := .later }
def MachineDeepCardSaid : Prop := Claim7.holds Tryz.pinned (.plain (OpenSpec.ofChange machineDeepSpec)) machineDeepCard

/-- THE TIED CARD OF 'quilllaw14.MachineBodies'. -/
def machineBodiesCard : Claim7 := { stood := { row := machineBodiesRow, standIns := [], harness := (true, "db6371bd7569cfc093e611dfa2b372bfe74b0ca929959c66f37c17f33f71db39"), looks := false }, kinds := [], alts := [], laidByText := true, laidKinds := [.data, .pinned, .pinned], laidTests := true, laidLooks := .later }
def MachineBodiesCardSaid : Prop := Claim7.holds Tryz.pinned (.plain (OpenSpec.ofChange machineBodiesSpec)) machineBodiesCard

/-- THE SECOND FORM's CARD OF 'quilllaw14.MachineNews'. -/
def machineNewsUptoCard : Claim7 := { stood := { row := machineNewsUptoRow, standIns := [], harness := (true, "db6371bd7569cfc093e611dfa2b372bfe74b0ca929959c66f37c17f33f71db39"), looks := false }, kinds := [], alts := [], laidByText := true, laidKinds := [.data, .pinned, .pinned], laidTests := true, laidLooks := .later }
def MachineNewsUptoCardSaid : Prop := Claim7.holds Tryz.pinned (.plain (OpenSpec.upto machineNewsSpec)) machineNewsUptoCard

/-- THE SECOND FORM's CARD OF 'quilllaw14.MachineCodes'. -/
def machineCodesUptoCard : Claim7 := { stood := { row := machineCodesUptoRow, standIns := [], harness := (true, "db6371bd7569cfc093e611dfa2b372bfe74b0ca929959c66f37c17f33f71db39"), looks := false }, kinds := [], alts := [], laidByText := true, laidKinds := [.data, .pinned, .pinned], laidTests := true, laidLooks := .later }
def MachineCodesUptoCardSaid : Prop := Claim7.holds Tryz.pinned (.plain (OpenSpec.upto machineCodesSpec)) machineCodesUptoCard

/-- THE SECOND FORM's CARD OF 'quilllaw14.MachineDeep'. -/
def machineDeepUptoCard : Claim7 := { stood := { row := machineDeepUptoRow, standIns := [], harness := (true, "db6371bd7569cfc093e611dfa2b372bfe74b0ca929959c66f37c17f33f71db39"), looks := false }, kinds := [], alts := [], laidByText := true, laidKinds := [.data, .pinned, .pinned], laidTests := true, laidLooks := .later }
def MachineDeepUptoCardSaid : Prop := Claim7.holds Tryz.pinned (.plain (OpenSpec.upto machineDeepSpec)) machineDeepUptoCard

/-- THE SECOND FORM's CARD OF 'quilllaw14.MachineBodies'. -/
def machineBodiesUptoCard : Claim7 := { stood := { row := machineBodiesUptoRow, standIns := [], harness := (true, "db6371bd7569cfc093e611dfa2b372bfe74b0ca929959c66f37c17f33f71db39"), looks := false }, kinds := [], alts := [], laidByText := true, laidKinds := [.data, .pinned, .pinned], laidTests := true, laidLooks := .later }
def MachineBodiesUptoCardSaid : Prop := Claim7.holds Tryz.pinned (.plain (OpenSpec.upto machineBodiesSpec)) machineBodiesUptoCard
end Rows
end Go.Proofs.YtmlgjijjkikkhaaGreatDoor
