/-
  DERIVED. GIVEN WITH THE SEED: THE CARDS: each row of YtkildckeikedhaaGreatDoorRows.lean that lists a variable, with what it lists TIED to the program's text (the seventh form; the later family's looks); each row that meets fmt, with fmt's text TOLD by the authors' own Lean function (tested against real Go, not proved from fmt's source: count such statements apart). THE CARD IS WHAT COUNTS. Prove the row's statement (the work); the ties are given (YtkildckeikedhaaGreatDoorTie.lean); close each card by the builder's one call (the guide's Derived/Test/ToyasCard.lean, 'card_holds'). Laid BY PROGRAM, IN A SANDBOX (cutbox-door.mjs). By AI agents, Wed Nov 11 2026. No macro, syntax, notation, axiom, sorry.
-/
import Derived.Test.YtkildckeikedhaaGreatDoorRows
import GoSem.ClaimSeven
namespace Go.Proofs.YtkildckeikedhaaGreatDoor
namespace Rows

/-- THE TIED CARD OF 'vestrylaw13.PrintFormats'. -/
def printFormatsCard : Claim7 := { stood := { row := printFormatsRow, standIns := [], harness := (true, "3684de93d4ae2eef437ea0a9321ba8c750aa72074f384985893fd552f14f31ff"), looks := true }, kinds := [], alts := [], laidByText := true, laidKinds := [.handle, .data], laidTests := true, laidLooks := .later }
def PrintFormatsCardSaid : Prop := Claim7.holds Tryz.pinned (.plain (OpenSpec.ofChange printFormatsSpec)) printFormatsCard

/-- THE SECOND FORM's CARD OF 'vestrylaw13.PrintFormats'. -/
def printFormatsUptoCard : Claim7 := { stood := { row := printFormatsUptoRow, standIns := [], harness := (true, "3684de93d4ae2eef437ea0a9321ba8c750aa72074f384985893fd552f14f31ff"), looks := true }, kinds := [], alts := [], laidByText := true, laidKinds := [.handle, .data], laidTests := true, laidLooks := .later }
def PrintFormatsUptoCardSaid : Prop := Claim7.holds Tryz.pinned (.plain (OpenSpec.upto printFormatsSpec)) printFormatsUptoCard
end Rows
end Go.Proofs.YtkildckeikedhaaGreatDoor
