/-
  DERIVED. GIVEN WITH THE SEED: THE CARDS: each row of YtnnebfcggdbgpaaGreatDoorRows.lean that lists a variable, with what it lists TIED to the program's text (the seventh form; the later family's looks); each row that meets fmt, with fmt's text TOLD by the authors' own Lean function (tested against real Go, not proved from fmt's source: count such statements apart). THE CARD IS WHAT COUNTS. Prove the row's statement (the work); the ties are given (YtnnebfcggdbgpaaGreatDoorTie.lean); close each card by the builder's one call (the guide's Derived/Test/ToyasCard.lean, 'card_holds'). Laid BY PROGRAM, IN A SANDBOX (cutbox-door.mjs). By AI agents, Wed Nov 11 2026. No macro, syntax, notation, axiom, sorry.
-/
import Derived.Test.YtnnebfcggdbgpaaGreatDoorRows
import GoSem.ClaimSeven
namespace Go.Proofs.YtnnebfcggdbgpaaGreatDoor
namespace Rows

/-- THE TIED CARD OF 'vestrylaw18.TupleMatchesReference'. -/
def tupleMatchesReferenceCard : Claim7 := { stood := { row := tupleMatchesReferenceRow, standIns := [], harness := (true, "7e7f404f0693a32982306873ffc8eacb2ebe891a6d6acf3e9848f9eb709715d1"), looks := true }, kinds := [], alts := [], laidByText := true, laidKinds := [.handle, .data], laidTests := true, laidLooks := .later }
def TupleMatchesReferenceCardSaid : Prop := Claim7.holds Tryz.pinned (.plain (OpenSpec.ofChange tupleMatchesReferenceSpec)) tupleMatchesReferenceCard

/-- THE TIED CARD OF 'vestrylaw18.TupleParses'. -/
def tupleParsesCard : Claim7 := { stood := { row := tupleParsesRow, standIns := [], harness := (true, "7e7f404f0693a32982306873ffc8eacb2ebe891a6d6acf3e9848f9eb709715d1"), looks := true }, kinds := [], alts := [], laidByText := true, laidKinds := [.handle, .data], laidTests := true, laidLooks := .later }
def TupleParsesCardSaid : Prop := Claim7.holds Tryz.pinned (.plain (OpenSpec.ofChange tupleParsesSpec)) tupleParsesCard

/-- THE TIED CARD OF 'vestrylaw18.TupleReads'. -/
def tupleReadsCard : Claim7 := { stood := { row := tupleReadsRow, standIns := [], harness := (true, "7e7f404f0693a32982306873ffc8eacb2ebe891a6d6acf3e9848f9eb709715d1"), looks := true }, kinds := [], alts := [], laidByText := true, laidKinds := [.handle, .data], laidTests := true, laidLooks := .later }
def TupleReadsCardSaid : Prop := Claim7.holds Tryz.pinned (.plain (OpenSpec.ofChange tupleReadsSpec)) tupleReadsCard

/-- THE TIED CARD OF 'vestrylaw18.TupleSorts'. -/
def tupleSortsCard : Claim7 := { stood := { row := tupleSortsRow, standIns := [], harness := (true, "7e7f404f0693a32982306873ffc8eacb2ebe891a6d6acf3e9848f9eb709715d1"), looks := true }, kinds := [], alts := [], laidByText := true, laidKinds := [.handle, .data], laidTests := true, laidLooks := .later }
def TupleSortsCardSaid : Prop := Claim7.holds Tryz.pinned (.plain (OpenSpec.ofChange tupleSortsSpec)) tupleSortsCard

/-- THE TIED CARD OF 'vestrylaw18.TupleApart'. -/
def tupleApartCard : Claim7 := { stood := { row := tupleApartRow, standIns := [], harness := (true, "7e7f404f0693a32982306873ffc8eacb2ebe891a6d6acf3e9848f9eb709715d1"), looks := true }, kinds := [], alts := [], laidByText := true, laidKinds := [.handle, .data], laidTests := true, laidLooks := .later }
def TupleApartCardSaid : Prop := Claim7.holds Tryz.pinned (.plain (OpenSpec.ofChange tupleApartSpec)) tupleApartCard

/-- THE TIED CARD OF 'vestrylaw21.ChangeMatchesReference'. -/
def changeMatchesReferenceCard : Claim7 := { stood := { row := changeMatchesReferenceRow, standIns := [], harness := (true, "7e7f404f0693a32982306873ffc8eacb2ebe891a6d6acf3e9848f9eb709715d1"), looks := true }, kinds := [], alts := [], laidByText := true, laidKinds := [.data, .data, .data, .handle, .sentinel, .sentinel, .data], laidTests := true, laidLooks := .later }
def ChangeMatchesReferenceCardSaid : Prop := Claim7.holds Tryz.pinned (.plain (OpenSpec.ofChange changeMatchesReferenceSpec)) changeMatchesReferenceCard

/-- THE TIED CARD OF 'vestrylaw21.ChangeParses'. -/
def changeParsesCard : Claim7 := { stood := { row := changeParsesRow, standIns := [], harness := (true, "7e7f404f0693a32982306873ffc8eacb2ebe891a6d6acf3e9848f9eb709715d1"), looks := true }, kinds := [], alts := [], laidByText := true, laidKinds := [.data, .data, .data, .handle, .sentinel, .sentinel, .data], laidTests := true, laidLooks := .later }
def ChangeParsesCardSaid : Prop := Claim7.holds Tryz.pinned (.plain (OpenSpec.ofChange changeParsesSpec)) changeParsesCard

/-- THE TIED CARD OF 'vestrylaw21.ChangeTexts'. -/
def changeTextsCard : Claim7 := { stood := { row := changeTextsRow, standIns := [], harness := (true, "7e7f404f0693a32982306873ffc8eacb2ebe891a6d6acf3e9848f9eb709715d1"), looks := true }, kinds := [], alts := [], laidByText := true, laidKinds := [.data, .data, .data, .handle, .sentinel, .sentinel, .data], laidTests := true, laidLooks := .later }
def ChangeTextsCardSaid : Prop := Claim7.holds Tryz.pinned (.plain (OpenSpec.ofChange changeTextsSpec)) changeTextsCard

/-- THE TIED CARD OF 'vestrylaw21.ChangeLogs'. -/
def changeLogsCard : Claim7 := { stood := { row := changeLogsRow, standIns := [], harness := (true, "7e7f404f0693a32982306873ffc8eacb2ebe891a6d6acf3e9848f9eb709715d1"), looks := true }, kinds := [], alts := [], laidByText := true, laidKinds := [.data, .data, .data, .handle, .sentinel, .sentinel, .data], laidTests := true, laidLooks := .later }
def ChangeLogsCardSaid : Prop := Claim7.holds Tryz.pinned (.plain (OpenSpec.ofChange changeLogsSpec)) changeLogsCard

/-- THE TIED CARD OF 'vestrylaw21.ChangeReads'. -/
def changeReadsCard : Claim7 := { stood := { row := changeReadsRow, standIns := [], harness := (true, "7e7f404f0693a32982306873ffc8eacb2ebe891a6d6acf3e9848f9eb709715d1"), looks := true }, kinds := [], alts := [], laidByText := true, laidKinds := [.data, .data, .data, .handle, .sentinel, .sentinel, .data], laidTests := true, laidLooks := .later }
def ChangeReadsCardSaid : Prop := Claim7.holds Tryz.pinned (.plain (OpenSpec.ofChange changeReadsSpec)) changeReadsCard

/-- THE SECOND FORM's CARD OF 'vestrylaw18.TupleMatchesReference'. -/
def tupleMatchesReferenceUptoCard : Claim7 := { stood := { row := tupleMatchesReferenceUptoRow, standIns := [], harness := (true, "7e7f404f0693a32982306873ffc8eacb2ebe891a6d6acf3e9848f9eb709715d1"), looks := true }, kinds := [], alts := [], laidByText := true, laidKinds := [.handle, .data], laidTests := true, laidLooks := .later }
def TupleMatchesReferenceUptoCardSaid : Prop := Claim7.holds Tryz.pinned (.plain (OpenSpec.upto tupleMatchesReferenceSpec)) tupleMatchesReferenceUptoCard

/-- THE SECOND FORM's CARD OF 'vestrylaw18.TupleParses'. -/
def tupleParsesUptoCard : Claim7 := { stood := { row := tupleParsesUptoRow, standIns := [], harness := (true, "7e7f404f0693a32982306873ffc8eacb2ebe891a6d6acf3e9848f9eb709715d1"), looks := true }, kinds := [], alts := [], laidByText := true, laidKinds := [.handle, .data], laidTests := true, laidLooks := .later }
def TupleParsesUptoCardSaid : Prop := Claim7.holds Tryz.pinned (.plain (OpenSpec.upto tupleParsesSpec)) tupleParsesUptoCard

/-- THE SECOND FORM's CARD OF 'vestrylaw18.TupleReads'. -/
def tupleReadsUptoCard : Claim7 := { stood := { row := tupleReadsUptoRow, standIns := [], harness := (true, "7e7f404f0693a32982306873ffc8eacb2ebe891a6d6acf3e9848f9eb709715d1"), looks := true }, kinds := [], alts := [], laidByText := true, laidKinds := [.handle, .data], laidTests := true, laidLooks := .later }
def TupleReadsUptoCardSaid : Prop := Claim7.holds Tryz.pinned (.plain (OpenSpec.upto tupleReadsSpec)) tupleReadsUptoCard

/-- THE SECOND FORM's CARD OF 'vestrylaw18.TupleSorts'. -/
def tupleSortsUptoCard : Claim7 := { stood := { row := tupleSortsUptoRow, standIns := [], harness := (true, "7e7f404f0693a32982306873ffc8eacb2ebe891a6d6acf3e9848f9eb709715d1"), looks := true }, kinds := [], alts := [], laidByText := true, laidKinds := [.handle, .data], laidTests := true, laidLooks := .later }
def TupleSortsUptoCardSaid : Prop := Claim7.holds Tryz.pinned (.plain (OpenSpec.upto tupleSortsSpec)) tupleSortsUptoCard

/-- THE SECOND FORM's CARD OF 'vestrylaw18.TupleApart'. -/
def tupleApartUptoCard : Claim7 := { stood := { row := tupleApartUptoRow, standIns := [], harness := (true, "7e7f404f0693a32982306873ffc8eacb2ebe891a6d6acf3e9848f9eb709715d1"), looks := true }, kinds := [], alts := [], laidByText := true, laidKinds := [.handle, .data], laidTests := true, laidLooks := .later }
def TupleApartUptoCardSaid : Prop := Claim7.holds Tryz.pinned (.plain (OpenSpec.upto tupleApartSpec)) tupleApartUptoCard

/-- THE SECOND FORM's CARD OF 'vestrylaw21.ChangeMatchesReference'. -/
def changeMatchesReferenceUptoCard : Claim7 := { stood := { row := changeMatchesReferenceUptoRow, standIns := [], harness := (true, "7e7f404f0693a32982306873ffc8eacb2ebe891a6d6acf3e9848f9eb709715d1"), looks := true }, kinds := [], alts := [], laidByText := true, laidKinds := [.data, .data, .data, .handle, .sentinel, .sentinel, .data], laidTests := true, laidLooks := .later }
def ChangeMatchesReferenceUptoCardSaid : Prop := Claim7.holds Tryz.pinned (.plain (OpenSpec.upto changeMatchesReferenceSpec)) changeMatchesReferenceUptoCard

/-- THE SECOND FORM's CARD OF 'vestrylaw21.ChangeParses'. -/
def changeParsesUptoCard : Claim7 := { stood := { row := changeParsesUptoRow, standIns := [], harness := (true, "7e7f404f0693a32982306873ffc8eacb2ebe891a6d6acf3e9848f9eb709715d1"), looks := true }, kinds := [], alts := [], laidByText := true, laidKinds := [.data, .data, .data, .handle, .sentinel, .sentinel, .data], laidTests := true, laidLooks := .later }
def ChangeParsesUptoCardSaid : Prop := Claim7.holds Tryz.pinned (.plain (OpenSpec.upto changeParsesSpec)) changeParsesUptoCard

/-- THE SECOND FORM's CARD OF 'vestrylaw21.ChangeTexts'. -/
def changeTextsUptoCard : Claim7 := { stood := { row := changeTextsUptoRow, standIns := [], harness := (true, "7e7f404f0693a32982306873ffc8eacb2ebe891a6d6acf3e9848f9eb709715d1"), looks := true }, kinds := [], alts := [], laidByText := true, laidKinds := [.data, .data, .data, .handle, .sentinel, .sentinel, .data], laidTests := true, laidLooks := .later }
def ChangeTextsUptoCardSaid : Prop := Claim7.holds Tryz.pinned (.plain (OpenSpec.upto changeTextsSpec)) changeTextsUptoCard

/-- THE SECOND FORM's CARD OF 'vestrylaw21.ChangeLogs'. -/
def changeLogsUptoCard : Claim7 := { stood := { row := changeLogsUptoRow, standIns := [], harness := (true, "7e7f404f0693a32982306873ffc8eacb2ebe891a6d6acf3e9848f9eb709715d1"), looks := true }, kinds := [], alts := [], laidByText := true, laidKinds := [.data, .data, .data, .handle, .sentinel, .sentinel, .data], laidTests := true, laidLooks := .later }
def ChangeLogsUptoCardSaid : Prop := Claim7.holds Tryz.pinned (.plain (OpenSpec.upto changeLogsSpec)) changeLogsUptoCard

/-- THE SECOND FORM's CARD OF 'vestrylaw21.ChangeReads'. -/
def changeReadsUptoCard : Claim7 := { stood := { row := changeReadsUptoRow, standIns := [], harness := (true, "7e7f404f0693a32982306873ffc8eacb2ebe891a6d6acf3e9848f9eb709715d1"), looks := true }, kinds := [], alts := [], laidByText := true, laidKinds := [.data, .data, .data, .handle, .sentinel, .sentinel, .data], laidTests := true, laidLooks := .later }
def ChangeReadsUptoCardSaid : Prop := Claim7.holds Tryz.pinned (.plain (OpenSpec.upto changeReadsSpec)) changeReadsUptoCard
end Rows
end Go.Proofs.YtnnebfcggdbgpaaGreatDoor
