/-
  DERIVED. GIVEN WITH THE SEED: THE CARDS: each row of YtdnmgemjhpkekaaGreatDoorRows.lean that lists a variable, with what it lists TIED to the program's text (the seventh form; the later family's looks); each row that meets fmt, with fmt's text TOLD by the authors' own Lean function (tested against real Go, not proved from fmt's source: count such statements apart). THE CARD IS WHAT COUNTS. Prove the row's statement (the work); the ties are given (YtdnmgemjhpkekaaGreatDoorTie.lean); close each card by the builder's one call (the guide's Derived/Test/ToyasCard.lean, 'card_holds'). Laid BY PROGRAM, IN A SANDBOX (cutbox-door.mjs). By AI agents, Wed Nov 11 2026. No macro, syntax, notation, axiom, sorry.
-/
import Derived.Test.YtdnmgemjhpkekaaGreatDoorRows
import GoSem.ClaimSeven
namespace Go.Proofs.YtdnmgemjhpkekaaGreatDoor
namespace Rows

/-- THE TIED CARD OF 'vestrylaw16.CodecParses'. -/
def codecParsesCard : Claim7 := { stood := { row := codecParsesRow, standIns := [], harness := (true, "bd10d6d72f00ce566974da4363c042610ed2681fa68a46e1f66d740bf3c1d136"), looks := true }, kinds := [], alts := [], laidByText := true, laidKinds := [.handle, .data], laidTests := true, laidLooks := .later }
def CodecParsesCardSaid : Prop := Claim7.holds Tryz.pinned (.plain (OpenSpec.ofChange codecParsesSpec)) codecParsesCard

/-- THE TIED CARD OF 'vestrylaw16.CodecExprs'. -/
def codecExprsCard : Claim7 := { stood := { row := codecExprsRow, standIns := [], harness := (true, "bd10d6d72f00ce566974da4363c042610ed2681fa68a46e1f66d740bf3c1d136"), looks := true }, kinds := [], alts := [], laidByText := true, laidKinds := [.handle, .data], laidTests := true, laidLooks := .later }
def CodecExprsCardSaid : Prop := Claim7.holds Tryz.pinned (.plain (OpenSpec.ofChange codecExprsSpec)) codecExprsCard

/-- THE TIED CARD OF 'vestrylaw16.CodecReads'. -/
def codecReadsCard : Claim7 := { stood := { row := codecReadsRow, standIns := [], harness := (true, "bd10d6d72f00ce566974da4363c042610ed2681fa68a46e1f66d740bf3c1d136"), looks := true }, kinds := [], alts := [], laidByText := true, laidKinds := [.handle, .data], laidTests := true, laidLooks := .later }
def CodecReadsCardSaid : Prop := Claim7.holds Tryz.pinned (.plain (OpenSpec.ofChange codecReadsSpec)) codecReadsCard

/-- THE TIED CARD OF 'vestrylaw16.CodecLimits'. -/
def codecLimitsCard : Claim7 := { stood := { row := codecLimitsRow, standIns := [], harness := (true, "bd10d6d72f00ce566974da4363c042610ed2681fa68a46e1f66d740bf3c1d136"), looks := true }, kinds := [], alts := [], laidByText := true, laidKinds := [.handle, .data], laidTests := true, laidLooks := .later }
def CodecLimitsCardSaid : Prop := Claim7.holds Tryz.pinned (.plain (OpenSpec.ofChange codecLimitsSpec)) codecLimitsCard

/-- THE SECOND FORM's CARD OF 'vestrylaw16.CodecParses'. -/
def codecParsesUptoCard : Claim7 := { stood := { row := codecParsesUptoRow, standIns := [], harness := (true, "bd10d6d72f00ce566974da4363c042610ed2681fa68a46e1f66d740bf3c1d136"), looks := true }, kinds := [], alts := [], laidByText := true, laidKinds := [.handle, .data], laidTests := true, laidLooks := .later }
def CodecParsesUptoCardSaid : Prop := Claim7.holds Tryz.pinned (.plain (OpenSpec.upto codecParsesSpec)) codecParsesUptoCard

/-- THE SECOND FORM's CARD OF 'vestrylaw16.CodecExprs'. -/
def codecExprsUptoCard : Claim7 := { stood := { row := codecExprsUptoRow, standIns := [], harness := (true, "bd10d6d72f00ce566974da4363c042610ed2681fa68a46e1f66d740bf3c1d136"), looks := true }, kinds := [], alts := [], laidByText := true, laidKinds := [.handle, .data], laidTests := true, laidLooks := .later }
def CodecExprsUptoCardSaid : Prop := Claim7.holds Tryz.pinned (.plain (OpenSpec.upto codecExprsSpec)) codecExprsUptoCard

/-- THE SECOND FORM's CARD OF 'vestrylaw16.CodecReads'. -/
def codecReadsUptoCard : Claim7 := { stood := { row := codecReadsUptoRow, standIns := [], harness := (true, "bd10d6d72f00ce566974da4363c042610ed2681fa68a46e1f66d740bf3c1d136"), looks := true }, kinds := [], alts := [], laidByText := true, laidKinds := [.handle, .data], laidTests := true, laidLooks := .later }
def CodecReadsUptoCardSaid : Prop := Claim7.holds Tryz.pinned (.plain (OpenSpec.upto codecReadsSpec)) codecReadsUptoCard

/-- THE SECOND FORM's CARD OF 'vestrylaw16.CodecLimits'. -/
def codecLimitsUptoCard : Claim7 := { stood := { row := codecLimitsUptoRow, standIns := [], harness := (true, "bd10d6d72f00ce566974da4363c042610ed2681fa68a46e1f66d740bf3c1d136"), looks := true }, kinds := [], alts := [], laidByText := true, laidKinds := [.handle, .data], laidTests := true, laidLooks := .later }
def CodecLimitsUptoCardSaid : Prop := Claim7.holds Tryz.pinned (.plain (OpenSpec.upto codecLimitsSpec)) codecLimitsUptoCard
end Rows
end Go.Proofs.YtdnmgemjhpkekaaGreatDoor
