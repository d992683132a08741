/-
  DERIVED. GIVEN WITH THE SEED: THE CARDS: each row of YtlngicddojoogaaGreatDoorRows.lean that lists a variable, with what it lists TIED to the program's text (the seventh form; the later family's looks); each row that meets fmt, with fmt's text TOLD by the authors' own Lean function (tested against real Go, not proved from fmt's source: count such statements apart). THE CARD IS WHAT COUNTS. Prove the row's statement (the work); the ties are given (YtlngicddojoogaaGreatDoorTie.lean); close each card by the builder's one call (the guide's Derived/Test/ToyasCard.lean, 'card_holds'). Laid BY PROGRAM, IN A SANDBOX (cutbox-door.mjs). By AI agents, Wed Nov 11 2026. No macro, syntax, notation, axiom, sorry.
-/
import Derived.Test.YtlngicddojoogaaGreatDoorRows
import GoSem.ClaimSeven
namespace Go.Proofs.YtlngicddojoogaaGreatDoor
namespace Rows

/-- THE TIED CARD OF 'vestrylaw25.StreamHeaders'. -/
def streamHeadersCard : Claim7 := { stood := { row := streamHeadersRow, standIns := [], harness := (true, "9c9e7c9b5930b69a08d6a2030500e07ff30b49d4da22b94ad092d4a1ea3003b4"), looks := true }, kinds := [], alts := [], laidByText := true, laidKinds := [.data, .data, .handle, .data], laidTests := true, laidLooks := .later }
def StreamHeadersCardSaid : Prop := Claim7.holds Tryz.pinned (.plain (OpenSpec.ofChange streamHeadersSpec)) streamHeadersCard

/-- THE TIED CARD OF 'vestrylaw25.StreamParses'. -/
def streamParsesCard : Claim7 := { stood := { row := streamParsesRow, standIns := [], harness := (true, "9c9e7c9b5930b69a08d6a2030500e07ff30b49d4da22b94ad092d4a1ea3003b4"), looks := true }, kinds := [], alts := [], laidByText := true, laidKinds := [.data, .data, .handle, .data], laidTests := true, laidLooks := .later }
def StreamParsesCardSaid : Prop := Claim7.holds Tryz.pinned (.plain (OpenSpec.ofChange streamParsesSpec)) streamParsesCard

/-- THE TIED CARD OF 'vestrylaw25.StreamFooters'. -/
def streamFootersCard : Claim7 := { stood := { row := streamFootersRow, standIns := [], harness := (true, "9c9e7c9b5930b69a08d6a2030500e07ff30b49d4da22b94ad092d4a1ea3003b4"), looks := true }, kinds := [], alts := [], laidByText := true, laidKinds := [.data, .data, .handle, .data], laidTests := true, laidLooks := .later }
def StreamFootersCardSaid : Prop := Claim7.holds Tryz.pinned (.plain (OpenSpec.ofChange streamFootersSpec)) streamFootersCard

/-- THE SECOND FORM's CARD OF 'vestrylaw25.StreamHeaders'. -/
def streamHeadersUptoCard : Claim7 := { stood := { row := streamHeadersUptoRow, standIns := [], harness := (true, "9c9e7c9b5930b69a08d6a2030500e07ff30b49d4da22b94ad092d4a1ea3003b4"), looks := true }, kinds := [], alts := [], laidByText := true, laidKinds := [.data, .data, .handle, .data], laidTests := true, laidLooks := .later }
def StreamHeadersUptoCardSaid : Prop := Claim7.holds Tryz.pinned (.plain (OpenSpec.upto streamHeadersSpec)) streamHeadersUptoCard

/-- THE SECOND FORM's CARD OF 'vestrylaw25.StreamParses'. -/
def streamParsesUptoCard : Claim7 := { stood := { row := streamParsesUptoRow, standIns := [], harness := (true, "9c9e7c9b5930b69a08d6a2030500e07ff30b49d4da22b94ad092d4a1ea3003b4"), looks := true }, kinds := [], alts := [], laidByText := true, laidKinds := [.data, .data, .handle, .data], laidTests := true, laidLooks := .later }
def StreamParsesUptoCardSaid : Prop := Claim7.holds Tryz.pinned (.plain (OpenSpec.upto streamParsesSpec)) streamParsesUptoCard

/-- THE SECOND FORM's CARD OF 'vestrylaw25.StreamFooters'. -/
def streamFootersUptoCard : Claim7 := { stood := { row := streamFootersUptoRow, standIns := [], harness := (true, "9c9e7c9b5930b69a08d6a2030500e07ff30b49d4da22b94ad092d4a1ea3003b4"), looks := true }, kinds := [], alts := [], laidByText := true, laidKinds := [.data, .data, .handle, .data], laidTests := true, laidLooks := .later }
def StreamFootersUptoCardSaid : Prop := Claim7.holds Tryz.pinned (.plain (OpenSpec.upto streamFootersSpec)) streamFootersUptoCard
end Rows
end Go.Proofs.YtlngicddojoogaaGreatDoor
