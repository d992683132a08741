/-
  NARROWER THAN 'FOR EVERY INPUT', by the rows' own cells (each row's printed sentence says how): ShaMatchesReference: laid · ShaBlocks: laid · ShaConstants: laid · ShaPaddings: laid · ShaLimits: laid.
  DERIVED. THE GIVEN ROWS OF THIS SEAT. 5 by the template 'for every input the law returns true; each argument reads behind the call as it read before'; 0 by the template 'total and deterministic' (their statements: YtbnpnpoddnkaiaaDoorTotals.lean).
  GIVEN WITH THE SEED: the statements are not yours to turn. If you find one false, say at which input.
  Laid BY PROGRAM, IN A SANDBOX (cutbox-rows.mjs): the forced cells as the released guide's own fill.sh prints them over the translation 861e62e7d824d1ce… (all of the seat's roots in one cut). By AI agents, Wed Nov 11 2026. No macro, syntax, notation, axiom, sorry.
-/
import Derived.Test.YtbnpnpoddnkaiaaDoorChecked
import GoSem.Claim
import GoSem.ClaimJoined
import GoSem.ClaimMapViews
import Derived.JoinedTies
import Derived.KernelRfl
namespace Go.Proofs.YtbnpnpoddnkaiaaDoor
/- THE CELL 'sum', in the pinned program and in every row, IS THE sha256 OF THE DUMP (.gsa) THAT YtbnpnpoddnkaiaaDoorProg.lean LOADS. Nothing in Lean hashes anything: it is a label: what it is worth is what the hold of that sum in a sandbox is worth. -/
noncomputable def Tryd.pinned : Pinned := { name := "ytbnpnpoddnkaiaadoor", sum := "861e62e7d824d1ce033f53075180be04ca6b3c59a7b4b8330f2e6db5e0e10ac4", checked := Tryd.checked }
namespace Rows
def none {H : Type} : Left H := { results := [], args := [] }

/- WHAT THE LISTED PACKAGE-LEVEL VARIABLES READ AS WHEN THE CALL BEGINS. Each datum BY PROGRAM (the guide's laid-datum.mjs) off the statement by which the dump's own 'gosem.cut.vars' lays the variable. In a bare row this is a premise. The card (YtbnpnpoddnkaiaaDoorCards.lean) ties it to the program's text. -/
def laid_vestry_sha_constants {H : Type} : DataW H := .agg [.lit (.int .u32 1116352408), .lit (.int .u32 1899447441), .lit (.int .u32 3049323471), .lit (.int .u32 3921009573), .lit (.int .u32 961987163), .lit (.int .u32 1508970993), .lit (.int .u32 2453635748), .lit (.int .u32 2870763221), .lit (.int .u32 3624381080), .lit (.int .u32 310598401), .lit (.int .u32 607225278), .lit (.int .u32 1426881987), .lit (.int .u32 1925078388), .lit (.int .u32 2162078206), .lit (.int .u32 2614888103), .lit (.int .u32 3248222580), .lit (.int .u32 3835390401), .lit (.int .u32 4022224774), .lit (.int .u32 264347078), .lit (.int .u32 604807628), .lit (.int .u32 770255983), .lit (.int .u32 1249150122), .lit (.int .u32 1555081692), .lit (.int .u32 1996064986), .lit (.int .u32 2554220882), .lit (.int .u32 2821834349), .lit (.int .u32 2952996808), .lit (.int .u32 3210313671), .lit (.int .u32 3336571891), .lit (.int .u32 3584528711), .lit (.int .u32 113926993), .lit (.int .u32 338241895), .lit (.int .u32 666307205), .lit (.int .u32 773529912), .lit (.int .u32 1294757372), .lit (.int .u32 1396182291), .lit (.int .u32 1695183700), .lit (.int .u32 1986661051), .lit (.int .u32 2177026350), .lit (.int .u32 2456956037), .lit (.int .u32 2730485921), .lit (.int .u32 2820302411), .lit (.int .u32 3259730800), .lit (.int .u32 3345764771), .lit (.int .u32 3516065817), .lit (.int .u32 3600352804), .lit (.int .u32 4094571909), .lit (.int .u32 275423344), .lit (.int .u32 430227734), .lit (.int .u32 506948616), .lit (.int .u32 659060556), .lit (.int .u32 883997877), .lit (.int .u32 958139571), .lit (.int .u32 1322822218), .lit (.int .u32 1537002063), .lit (.int .u32 1747873779), .lit (.int .u32 1955562222), .lit (.int .u32 2024104815), .lit (.int .u32 2227730452), .lit (.int .u32 2361852424), .lit (.int .u32 2428436474), .lit (.int .u32 2756734187), .lit (.int .u32 3204031479), .lit (.int .u32 3329325298)]
def laid_vestry_sha_start {H : Type} : DataW H := .agg [.lit (.int .u32 1779033703), .lit (.int .u32 3144134277), .lit (.int .u32 1013904242), .lit (.int .u32 2773480762), .lit (.int .u32 1359893119), .lit (.int .u32 2600822924), .lit (.int .u32 528734635), .lit (.int .u32 1541459225)]

/-- 'vestrylaw06.ShaMatchesReference': WHATEVER THE INPUT: true; the input reads as it did. -/
def shaMatchesReferenceSpec : ChangeSpec := { name := "shaMatchesReference", fn := fun _ => fun
  | [d] => { results := [.lit (.bool true)], args := [d] }
  | _ => none }
def shaMatchesReferenceRow : OpenClaim := { program := "ytbnpnpoddnkaiaadoor", sum := "861e62e7d824d1ce033f53075180be04ca6b3c59a7b4b8330f2e6db5e0e10ac4", func := "vestry/vestrylaw06.ShaMatchesReference", spec := "shaMatchesReference", named := ["vestry/sha.start", "vestry/sha.constants"], apart := false, laid := [("vestry/sha.constants", laid_vestry_sha_constants), ("vestry/sha.start", laid_vestry_sha_start)] }
def ShaMatchesReferenceSaid : Prop := shaMatchesReferenceRow.holds Tryd.pinned (OpenSpec.ofChange shaMatchesReferenceSpec)

/-- ITS FALSE NEIGHBOUR: 'it returns false'. Refute it at one input. -/
def shaMatchesReferenceWrong : ChangeSpec := { name := "shaMatchesReference", fn := fun _ => fun
  | [d] => { results := [.lit (.bool false)], args := [d] }
  | _ => none }
def ShaMatchesReferenceWrongFalsely : Prop := shaMatchesReferenceRow.holds Tryd.pinned (OpenSpec.ofChange shaMatchesReferenceWrong)

/-- 'vestrylaw06.ShaBlocks': WHATEVER THE INPUT: true; the input reads as it did. -/
def shaBlocksSpec : ChangeSpec := { name := "shaBlocks", fn := fun _ => fun
  | [d1, d2] => { results := [.lit (.bool true)], args := [d1, d2] }
  | _ => none }
def shaBlocksRow : OpenClaim := { program := "ytbnpnpoddnkaiaadoor", sum := "861e62e7d824d1ce033f53075180be04ca6b3c59a7b4b8330f2e6db5e0e10ac4", func := "vestry/vestrylaw06.ShaBlocks", spec := "shaBlocks", named := ["vestry/sha.start", "vestry/sha.constants"], apart := false, laid := [("vestry/sha.constants", laid_vestry_sha_constants), ("vestry/sha.start", laid_vestry_sha_start)] }
def ShaBlocksSaid : Prop := shaBlocksRow.holds Tryd.pinned (OpenSpec.ofChange shaBlocksSpec)

/-- ITS FALSE NEIGHBOUR: 'it returns false'. Refute it at one input. -/
def shaBlocksWrong : ChangeSpec := { name := "shaBlocks", fn := fun _ => fun
  | [d1, d2] => { results := [.lit (.bool false)], args := [d1, d2] }
  | _ => none }
def ShaBlocksWrongFalsely : Prop := shaBlocksRow.holds Tryd.pinned (OpenSpec.ofChange shaBlocksWrong)

/-- 'vestrylaw06.ShaConstants': WHATEVER THE INPUT: true; the input reads as it did. -/
def shaConstantsSpec : ChangeSpec := { name := "shaConstants", fn := fun _ => fun
  | [d] => { results := [.lit (.bool true)], args := [d] }
  | _ => none }
def shaConstantsRow : OpenClaim := { program := "ytbnpnpoddnkaiaadoor", sum := "861e62e7d824d1ce033f53075180be04ca6b3c59a7b4b8330f2e6db5e0e10ac4", func := "vestry/vestrylaw06.ShaConstants", spec := "shaConstants", named := ["vestry/sha.start", "vestry/sha.constants"], apart := false, laid := [("vestry/sha.constants", laid_vestry_sha_constants), ("vestry/sha.start", laid_vestry_sha_start)] }
def ShaConstantsSaid : Prop := shaConstantsRow.holds Tryd.pinned (OpenSpec.ofChange shaConstantsSpec)

/-- ITS FALSE NEIGHBOUR: 'it returns false'. Refute it at one input. -/
def shaConstantsWrong : ChangeSpec := { name := "shaConstants", fn := fun _ => fun
  | [d] => { results := [.lit (.bool false)], args := [d] }
  | _ => none }
def ShaConstantsWrongFalsely : Prop := shaConstantsRow.holds Tryd.pinned (OpenSpec.ofChange shaConstantsWrong)

/-- 'vestrylaw06.ShaPaddings': WHATEVER THE INPUT: true; the input reads as it did. -/
def shaPaddingsSpec : ChangeSpec := { name := "shaPaddings", fn := fun _ => fun
  | [d] => { results := [.lit (.bool true)], args := [d] }
  | _ => none }
def shaPaddingsRow : OpenClaim := { program := "ytbnpnpoddnkaiaadoor", sum := "861e62e7d824d1ce033f53075180be04ca6b3c59a7b4b8330f2e6db5e0e10ac4", func := "vestry/vestrylaw06.ShaPaddings", spec := "shaPaddings", named := ["vestry/sha.start", "vestry/sha.constants"], apart := false, laid := [("vestry/sha.constants", laid_vestry_sha_constants), ("vestry/sha.start", laid_vestry_sha_start)] }
def ShaPaddingsSaid : Prop := shaPaddingsRow.holds Tryd.pinned (OpenSpec.ofChange shaPaddingsSpec)

/-- ITS FALSE NEIGHBOUR: 'it returns false'. Refute it at one input. -/
def shaPaddingsWrong : ChangeSpec := { name := "shaPaddings", fn := fun _ => fun
  | [d] => { results := [.lit (.bool false)], args := [d] }
  | _ => none }
def ShaPaddingsWrongFalsely : Prop := shaPaddingsRow.holds Tryd.pinned (OpenSpec.ofChange shaPaddingsWrong)

/-- 'vestrylaw06.ShaLimits': WHATEVER THE INPUT: true; the input reads as it did. -/
def shaLimitsSpec : ChangeSpec := { name := "shaLimits", fn := fun _ => fun
  | [d1, d2] => { results := [.lit (.bool true)], args := [d1, d2] }
  | _ => none }
def shaLimitsRow : OpenClaim := { program := "ytbnpnpoddnkaiaadoor", sum := "861e62e7d824d1ce033f53075180be04ca6b3c59a7b4b8330f2e6db5e0e10ac4", func := "vestry/vestrylaw06.ShaLimits", spec := "shaLimits", named := ["vestry/sha.start", "vestry/sha.constants"], apart := false, laid := [("vestry/sha.constants", laid_vestry_sha_constants), ("vestry/sha.start", laid_vestry_sha_start)] }
def ShaLimitsSaid : Prop := shaLimitsRow.holds Tryd.pinned (OpenSpec.ofChange shaLimitsSpec)

/-- ITS FALSE NEIGHBOUR: 'it returns false'. Refute it at one input. -/
def shaLimitsWrong : ChangeSpec := { name := "shaLimits", fn := fun _ => fun
  | [d1, d2] => { results := [.lit (.bool false)], args := [d1, d2] }
  | _ => none }
def ShaLimitsWrongFalsely : Prop := shaLimitsRow.holds Tryd.pinned (OpenSpec.ofChange shaLimitsWrong)

/- THE SECOND FORM. 'bulk': how many values and letters a reading holds, each counted each time it is reached (what is shared counts as often as it is met; a slice's spare places count too). A statement '..UptoSaid' is the law's where the arguments, and the package variables that the reading takes, are together of bulk at most 1048576: NARROWER than '..Said'. Prove '..Said' where nothing that the law and all that it calls make is longer than what came in: it says more and counts as full. Else prove '..UptoSaid'. A law counts once. -/
mutual
def uptoBulk {H : Type} : DataW H → Nat
  | .lit (.string bytes) => bytes.length + 1
  | .lit _ => 1
  | .nil => 1
  | .ptr d => uptoBulk d + 1
  | .slice elems spare => uptoBulkAll elems + uptoBulkAll spare + 1
  | .agg parts => uptoBulkAll parts + 1
  | .iface _ d => uptoBulk d + 1
  | .map entries => uptoBulkEntries entries + 1
  | .held _ => 1
def uptoBulkAll {H : Type} : List (DataW H) → Nat
  | [] => 0
  | d :: r => uptoBulk d + uptoBulkAll r
def uptoBulkEntries {H : Type} : List (Lit × DataW H) → Nat
  | [] => 0
  | x :: r => uptoBulkEntry x + uptoBulkEntries r
def uptoBulkEntry {H : Type} : Lit × DataW H → Nat
  | (.string bytes, d) => bytes.length + uptoBulk d + 1
  | (_, d) => uptoBulk d + 1
 end
def uptoSmall : (H : Type) → List (DataW H) → Bool := fun _ ds => decide (uptoBulkAll ds ≤ 1048576)
def OpenSpec.upto (s : _root_.Go.ChangeSpec) : _root_.Go.OpenSpec := { _root_.Go.OpenSpec.ofChange s with cond := some uptoSmall }

/-- 'vestrylaw06.ShaMatchesReference', WHERE WHAT IT READS IS OF BULK AT MOST 1048576: true; the input reads as it did. -/
def shaMatchesReferenceUptoRow : OpenClaim := { program := "ytbnpnpoddnkaiaadoor", sum := "861e62e7d824d1ce033f53075180be04ca6b3c59a7b4b8330f2e6db5e0e10ac4", func := "vestry/vestrylaw06.ShaMatchesReference", spec := "shaMatchesReference", named := ["vestry/sha.start", "vestry/sha.constants"], apart := false, laid := [("vestry/sha.constants", laid_vestry_sha_constants), ("vestry/sha.start", laid_vestry_sha_start)], narrowed := true }
def ShaMatchesReferenceUptoSaid : Prop := shaMatchesReferenceUptoRow.holds Tryd.pinned (OpenSpec.upto shaMatchesReferenceSpec)

/-- 'vestrylaw06.ShaBlocks', WHERE WHAT IT READS IS OF BULK AT MOST 1048576: true; the input reads as it did. -/
def shaBlocksUptoRow : OpenClaim := { program := "ytbnpnpoddnkaiaadoor", sum := "861e62e7d824d1ce033f53075180be04ca6b3c59a7b4b8330f2e6db5e0e10ac4", func := "vestry/vestrylaw06.ShaBlocks", spec := "shaBlocks", named := ["vestry/sha.start", "vestry/sha.constants"], apart := false, laid := [("vestry/sha.constants", laid_vestry_sha_constants), ("vestry/sha.start", laid_vestry_sha_start)], narrowed := true }
def ShaBlocksUptoSaid : Prop := shaBlocksUptoRow.holds Tryd.pinned (OpenSpec.upto shaBlocksSpec)

/-- 'vestrylaw06.ShaConstants', WHERE WHAT IT READS IS OF BULK AT MOST 1048576: true; the input reads as it did. -/
def shaConstantsUptoRow : OpenClaim := { program := "ytbnpnpoddnkaiaadoor", sum := "861e62e7d824d1ce033f53075180be04ca6b3c59a7b4b8330f2e6db5e0e10ac4", func := "vestry/vestrylaw06.ShaConstants", spec := "shaConstants", named := ["vestry/sha.start", "vestry/sha.constants"], apart := false, laid := [("vestry/sha.constants", laid_vestry_sha_constants), ("vestry/sha.start", laid_vestry_sha_start)], narrowed := true }
def ShaConstantsUptoSaid : Prop := shaConstantsUptoRow.holds Tryd.pinned (OpenSpec.upto shaConstantsSpec)

/-- 'vestrylaw06.ShaPaddings', WHERE WHAT IT READS IS OF BULK AT MOST 1048576: true; the input reads as it did. -/
def shaPaddingsUptoRow : OpenClaim := { program := "ytbnpnpoddnkaiaadoor", sum := "861e62e7d824d1ce033f53075180be04ca6b3c59a7b4b8330f2e6db5e0e10ac4", func := "vestry/vestrylaw06.ShaPaddings", spec := "shaPaddings", named := ["vestry/sha.start", "vestry/sha.constants"], apart := false, laid := [("vestry/sha.constants", laid_vestry_sha_constants), ("vestry/sha.start", laid_vestry_sha_start)], narrowed := true }
def ShaPaddingsUptoSaid : Prop := shaPaddingsUptoRow.holds Tryd.pinned (OpenSpec.upto shaPaddingsSpec)

/-- 'vestrylaw06.ShaLimits', WHERE WHAT IT READS IS OF BULK AT MOST 1048576: true; the input reads as it did. -/
def shaLimitsUptoRow : OpenClaim := { program := "ytbnpnpoddnkaiaadoor", sum := "861e62e7d824d1ce033f53075180be04ca6b3c59a7b4b8330f2e6db5e0e10ac4", func := "vestry/vestrylaw06.ShaLimits", spec := "shaLimits", named := ["vestry/sha.start", "vestry/sha.constants"], apart := false, laid := [("vestry/sha.constants", laid_vestry_sha_constants), ("vestry/sha.start", laid_vestry_sha_start)], narrowed := true }
def ShaLimitsUptoSaid : Prop := shaLimitsUptoRow.holds Tryd.pinned (OpenSpec.upto shaLimitsSpec)

end Rows
end Go.Proofs.YtbnpnpoddnkaiaaDoor
