/-
  NARROWER THAN 'FOR EVERY INPUT', by the rows' own cells (each row's printed sentence says how): TupleMatchesReference: laid · TupleParses: laid · TupleReads: laid · TupleSorts: laid · TupleApart: laid · ChangeMatchesReference: laid · ChangeParses: laid · ChangeTexts: laid · ChangeLogs: laid · ChangeReads: laid.
  DERIVED. THE GIVEN ROWS OF THIS SEAT. 10 by the template 'for every input the law returns true; each argument reads behind the call as it read before'; 0 by the template 'total and deterministic' (their statements: YtnnebfcggdbgpaaGreatDoorTotals.lean).
  GIVEN WITH THE SEED: the statements are not yours to turn. If you find one false, say at which input.
  Laid BY PROGRAM, IN A SANDBOX (cutbox-rows.mjs): the forced cells as the released guide's own fill.sh prints them over the translation 432d4a207f659b60… (all of the seat's roots in one cut). By AI agents, Wed Nov 11 2026. No macro, syntax, notation, axiom, sorry.
-/
import Derived.Test.YtnnebfcggdbgpaaGreatDoorChecked
import GoSem.Claim
import GoSem.ClaimJoined
import GoSem.ClaimMapViews
import Derived.JoinedTies
import Derived.KernelRfl
namespace Go.Proofs.YtnnebfcggdbgpaaGreatDoor
/- THE CELL 'sum', in the pinned program and in every row, IS THE sha256 OF THE DUMP (.gsa) THAT YtnnebfcggdbgpaaGreatDoorProg.lean LOADS. Nothing in Lean hashes anything: it is a label: what it is worth is what the hold of that sum in a sandbox is worth. -/
noncomputable def Tryz.pinned : Pinned := { name := "ytnnebfcggdbgpaagreatdoor", sum := "432d4a207f659b6011978c3ecef7b238701676558b9d3ccb1025f71ecfe3f344", checked := Tryz.checked }
namespace Rows
def none {H : Type} : Left H := { results := [], args := [] }

/- WHAT THE LISTED PACKAGE-LEVEL VARIABLES READ AS WHEN THE CALL BEGINS. Each datum BY PROGRAM (the guide's laid-datum.mjs) off the statement by which the dump's own 'gosem.cut.vars' lays the variable. In a bare row this is a premise. The card (YtnnebfcggdbgpaaGreatDoorCards.lean) ties it to the program's text. -/
def laid_errors_errorType {H : Type} : DataW H := .iface "internal/reflectlite.rtype" (.agg [.ptr (.lit (.string [101, 114, 114, 111, 114]))])
def laid_vestry_name_reserved {H : Type} : DataW H := .agg [.lit (.string [100, 101, 102, 105, 110, 105, 116, 105, 111, 110]), .lit (.string [114, 101, 108, 97, 116, 105, 111, 110]), .lit (.string [112, 101, 114, 109, 105, 115, 115, 105, 111, 110])]
def laid_math_bits_deBruijn32tab {H : Type} : DataW H := .agg [.lit (.int .u8 0), .lit (.int .u8 1), .lit (.int .u8 28), .lit (.int .u8 2), .lit (.int .u8 29), .lit (.int .u8 14), .lit (.int .u8 24), .lit (.int .u8 3), .lit (.int .u8 30), .lit (.int .u8 22), .lit (.int .u8 20), .lit (.int .u8 15), .lit (.int .u8 25), .lit (.int .u8 17), .lit (.int .u8 4), .lit (.int .u8 8), .lit (.int .u8 31), .lit (.int .u8 27), .lit (.int .u8 13), .lit (.int .u8 23), .lit (.int .u8 21), .lit (.int .u8 19), .lit (.int .u8 16), .lit (.int .u8 7), .lit (.int .u8 26), .lit (.int .u8 12), .lit (.int .u8 18), .lit (.int .u8 6), .lit (.int .u8 11), .lit (.int .u8 5), .lit (.int .u8 10), .lit (.int .u8 9)]
def laid_math_bits_deBruijn64tab {H : Type} : DataW H := .agg [.lit (.int .u8 0), .lit (.int .u8 1), .lit (.int .u8 56), .lit (.int .u8 2), .lit (.int .u8 57), .lit (.int .u8 49), .lit (.int .u8 28), .lit (.int .u8 3), .lit (.int .u8 61), .lit (.int .u8 58), .lit (.int .u8 42), .lit (.int .u8 50), .lit (.int .u8 38), .lit (.int .u8 29), .lit (.int .u8 17), .lit (.int .u8 4), .lit (.int .u8 62), .lit (.int .u8 47), .lit (.int .u8 59), .lit (.int .u8 36), .lit (.int .u8 45), .lit (.int .u8 43), .lit (.int .u8 51), .lit (.int .u8 22), .lit (.int .u8 53), .lit (.int .u8 39), .lit (.int .u8 33), .lit (.int .u8 30), .lit (.int .u8 24), .lit (.int .u8 18), .lit (.int .u8 12), .lit (.int .u8 5), .lit (.int .u8 63), .lit (.int .u8 55), .lit (.int .u8 48), .lit (.int .u8 27), .lit (.int .u8 60), .lit (.int .u8 41), .lit (.int .u8 37), .lit (.int .u8 16), .lit (.int .u8 46), .lit (.int .u8 35), .lit (.int .u8 44), .lit (.int .u8 21), .lit (.int .u8 52), .lit (.int .u8 32), .lit (.int .u8 23), .lit (.int .u8 11), .lit (.int .u8 54), .lit (.int .u8 26), .lit (.int .u8 40), .lit (.int .u8 15), .lit (.int .u8 34), .lit (.int .u8 20), .lit (.int .u8 31), .lit (.int .u8 10), .lit (.int .u8 25), .lit (.int .u8 14), .lit (.int .u8 19), .lit (.int .u8 9), .lit (.int .u8 13), .lit (.int .u8 8), .lit (.int .u8 7), .lit (.int .u8 6)]
def laid_internal_strconv_uint64pow10 {H : Type} : DataW H := .agg [.lit (.int .u64 1), .lit (.int .u64 10), .lit (.int .u64 100), .lit (.int .u64 1000), .lit (.int .u64 10000), .lit (.int .u64 100000), .lit (.int .u64 1000000), .lit (.int .u64 10000000), .lit (.int .u64 100000000), .lit (.int .u64 1000000000), .lit (.int .u64 10000000000), .lit (.int .u64 100000000000), .lit (.int .u64 1000000000000), .lit (.int .u64 10000000000000), .lit (.int .u64 100000000000000), .lit (.int .u64 1000000000000000), .lit (.int .u64 10000000000000000), .lit (.int .u64 100000000000000000), .lit (.int .u64 1000000000000000000), .lit (.int .u64 10000000000000000000)]
def laid_strconv_ErrRange {H : Type} : DataW H := .iface "*errors.errorString" (.ptr (.agg [.lit (.string [118, 97, 108, 117, 101, 32, 111, 117, 116, 32, 111, 102, 32, 114, 97, 110, 103, 101])]))
def laid_strconv_ErrSyntax {H : Type} : DataW H := .iface "*errors.errorString" (.ptr (.agg [.lit (.string [105, 110, 118, 97, 108, 105, 100, 32, 115, 121, 110, 116, 97, 120])]))

/-- 'vestrylaw18.TupleMatchesReference': WHATEVER THE INPUT: true; the input reads as it did. -/
def tupleMatchesReferenceSpec : ChangeSpec := { name := "tupleMatchesReference", fn := fun _ => fun
  | [d] => { results := [.lit (.bool true)], args := [d] }
  | _ => none }
def tupleMatchesReferenceRow : OpenClaim := { program := "ytnnebfcggdbgpaagreatdoor", sum := "432d4a207f659b6011978c3ecef7b238701676558b9d3ccb1025f71ecfe3f344", func := "vestry/vestrylaw18.TupleMatchesReference", spec := "tupleMatchesReference", inPlace := ["internal/bytealg.IndexByteString", "internal/bytealg.IndexString", "internal/reflectlite.ValueOf", "(internal/reflectlite.Value).Type", "(internal/reflectlite.Value).IsNil", "internal/reflectlite.TypeOf", "(internal/reflectlite.Value).Elem", "(internal/reflectlite.Value).Set", "internal/bytealg.abigen_runtime_cmpstring"], unfollowed := true, recurses := true, named := ["internal/bytealg.MaxLen", "vestry/name.reserved", "errors.errorType"], apart := false, laid := [("errors.errorType", laid_errors_errorType), ("vestry/name.reserved", laid_vestry_name_reserved)] }
def TupleMatchesReferenceSaid : Prop := tupleMatchesReferenceRow.holds Tryz.pinned (OpenSpec.ofChange tupleMatchesReferenceSpec)

/-- ITS FALSE NEIGHBOUR: 'it returns false'. Refute it at one input. -/
def tupleMatchesReferenceWrong : ChangeSpec := { name := "tupleMatchesReference", fn := fun _ => fun
  | [d] => { results := [.lit (.bool false)], args := [d] }
  | _ => none }
def TupleMatchesReferenceWrongFalsely : Prop := tupleMatchesReferenceRow.holds Tryz.pinned (OpenSpec.ofChange tupleMatchesReferenceWrong)

/-- 'vestrylaw18.TupleParses': WHATEVER THE INPUT: true; the input reads as it did. -/
def tupleParsesSpec : ChangeSpec := { name := "tupleParses", fn := fun _ => fun
  | [d] => { results := [.lit (.bool true)], args := [d] }
  | _ => none }
def tupleParsesRow : OpenClaim := { program := "ytnnebfcggdbgpaagreatdoor", sum := "432d4a207f659b6011978c3ecef7b238701676558b9d3ccb1025f71ecfe3f344", func := "vestry/vestrylaw18.TupleParses", spec := "tupleParses", inPlace := ["internal/bytealg.IndexByteString", "internal/bytealg.IndexString", "internal/reflectlite.ValueOf", "(internal/reflectlite.Value).Type", "(internal/reflectlite.Value).IsNil", "internal/reflectlite.TypeOf", "(internal/reflectlite.Value).Elem", "(internal/reflectlite.Value).Set", "internal/bytealg.abigen_runtime_cmpstring"], unfollowed := true, recurses := true, named := ["internal/bytealg.MaxLen", "vestry/name.reserved", "errors.errorType"], apart := false, laid := [("errors.errorType", laid_errors_errorType), ("vestry/name.reserved", laid_vestry_name_reserved)] }
def TupleParsesSaid : Prop := tupleParsesRow.holds Tryz.pinned (OpenSpec.ofChange tupleParsesSpec)

/-- ITS FALSE NEIGHBOUR: 'it returns false'. Refute it at one input. -/
def tupleParsesWrong : ChangeSpec := { name := "tupleParses", fn := fun _ => fun
  | [d] => { results := [.lit (.bool false)], args := [d] }
  | _ => none }
def TupleParsesWrongFalsely : Prop := tupleParsesRow.holds Tryz.pinned (OpenSpec.ofChange tupleParsesWrong)

/-- 'vestrylaw18.TupleReads': WHATEVER THE INPUT: true; the input reads as it did. -/
def tupleReadsSpec : ChangeSpec := { name := "tupleReads", fn := fun _ => fun
  | [d] => { results := [.lit (.bool true)], args := [d] }
  | _ => none }
def tupleReadsRow : OpenClaim := { program := "ytnnebfcggdbgpaagreatdoor", sum := "432d4a207f659b6011978c3ecef7b238701676558b9d3ccb1025f71ecfe3f344", func := "vestry/vestrylaw18.TupleReads", spec := "tupleReads", inPlace := ["internal/bytealg.IndexByteString", "internal/bytealg.IndexString", "internal/reflectlite.ValueOf", "(internal/reflectlite.Value).Type", "(internal/reflectlite.Value).IsNil", "internal/reflectlite.TypeOf", "(internal/reflectlite.Value).Elem", "(internal/reflectlite.Value).Set", "internal/bytealg.abigen_runtime_cmpstring"], unfollowed := true, recurses := true, named := ["internal/bytealg.MaxLen", "vestry/name.reserved", "errors.errorType"], apart := false, laid := [("errors.errorType", laid_errors_errorType), ("vestry/name.reserved", laid_vestry_name_reserved)] }
def TupleReadsSaid : Prop := tupleReadsRow.holds Tryz.pinned (OpenSpec.ofChange tupleReadsSpec)

/-- ITS FALSE NEIGHBOUR: 'it returns false'. Refute it at one input. -/
def tupleReadsWrong : ChangeSpec := { name := "tupleReads", fn := fun _ => fun
  | [d] => { results := [.lit (.bool false)], args := [d] }
  | _ => none }
def TupleReadsWrongFalsely : Prop := tupleReadsRow.holds Tryz.pinned (OpenSpec.ofChange tupleReadsWrong)

/-- 'vestrylaw18.TupleSorts': WHATEVER THE INPUT: true; the input reads as it did. -/
def tupleSortsSpec : ChangeSpec := { name := "tupleSorts", fn := fun _ => fun
  | [d] => { results := [.lit (.bool true)], args := [d] }
  | _ => none }
def tupleSortsRow : OpenClaim := { program := "ytnnebfcggdbgpaagreatdoor", sum := "432d4a207f659b6011978c3ecef7b238701676558b9d3ccb1025f71ecfe3f344", func := "vestry/vestrylaw18.TupleSorts", spec := "tupleSorts", inPlace := ["internal/bytealg.IndexByteString", "internal/bytealg.IndexString", "internal/reflectlite.ValueOf", "(internal/reflectlite.Value).Type", "(internal/reflectlite.Value).IsNil", "internal/reflectlite.TypeOf", "(internal/reflectlite.Value).Elem", "(internal/reflectlite.Value).Set", "internal/bytealg.abigen_runtime_cmpstring"], unfollowed := true, recurses := true, named := ["internal/bytealg.MaxLen", "vestry/name.reserved", "errors.errorType"], apart := false, laid := [("errors.errorType", laid_errors_errorType), ("vestry/name.reserved", laid_vestry_name_reserved)] }
def TupleSortsSaid : Prop := tupleSortsRow.holds Tryz.pinned (OpenSpec.ofChange tupleSortsSpec)

/-- ITS FALSE NEIGHBOUR: 'it returns false'. Refute it at one input. -/
def tupleSortsWrong : ChangeSpec := { name := "tupleSorts", fn := fun _ => fun
  | [d] => { results := [.lit (.bool false)], args := [d] }
  | _ => none }
def TupleSortsWrongFalsely : Prop := tupleSortsRow.holds Tryz.pinned (OpenSpec.ofChange tupleSortsWrong)

/-- 'vestrylaw18.TupleApart': WHATEVER THE INPUT: true; the input reads as it did. -/
def tupleApartSpec : ChangeSpec := { name := "tupleApart", fn := fun _ => fun
  | [d1, d2] => { results := [.lit (.bool true)], args := [d1, d2] }
  | _ => none }
def tupleApartRow : OpenClaim := { program := "ytnnebfcggdbgpaagreatdoor", sum := "432d4a207f659b6011978c3ecef7b238701676558b9d3ccb1025f71ecfe3f344", func := "vestry/vestrylaw18.TupleApart", spec := "tupleApart", inPlace := ["internal/bytealg.IndexByteString", "internal/bytealg.IndexString", "internal/reflectlite.ValueOf", "(internal/reflectlite.Value).Type", "(internal/reflectlite.Value).IsNil", "internal/reflectlite.TypeOf", "(internal/reflectlite.Value).Elem", "(internal/reflectlite.Value).Set", "internal/bytealg.abigen_runtime_cmpstring"], unfollowed := true, recurses := true, named := ["internal/bytealg.MaxLen", "vestry/name.reserved", "errors.errorType"], apart := false, laid := [("errors.errorType", laid_errors_errorType), ("vestry/name.reserved", laid_vestry_name_reserved)] }
def TupleApartSaid : Prop := tupleApartRow.holds Tryz.pinned (OpenSpec.ofChange tupleApartSpec)

/-- ITS FALSE NEIGHBOUR: 'it returns false'. Refute it at one input. -/
def tupleApartWrong : ChangeSpec := { name := "tupleApart", fn := fun _ => fun
  | [d1, d2] => { results := [.lit (.bool false)], args := [d1, d2] }
  | _ => none }
def TupleApartWrongFalsely : Prop := tupleApartRow.holds Tryz.pinned (OpenSpec.ofChange tupleApartWrong)

/-- 'vestrylaw21.ChangeMatchesReference': WHATEVER THE INPUT: true; the input reads as it did. -/
def changeMatchesReferenceSpec : ChangeSpec := { name := "changeMatchesReference", fn := fun _ => fun
  | [d] => { results := [.lit (.bool true)], args := [d] }
  | _ => none }
def changeMatchesReferenceRow : OpenClaim := { program := "ytnnebfcggdbgpaagreatdoor", sum := "432d4a207f659b6011978c3ecef7b238701676558b9d3ccb1025f71ecfe3f344", func := "vestry/vestrylaw21.ChangeMatchesReference", spec := "changeMatchesReference", inPlace := ["internal/bytealg.IndexByteString", "internal/bytealg.IndexString", "internal/reflectlite.ValueOf", "(internal/reflectlite.Value).Type", "(internal/reflectlite.Value).IsNil", "internal/reflectlite.TypeOf", "(internal/reflectlite.Value).Elem", "(internal/reflectlite.Value).Set"], unfollowed := true, recurses := true, named := ["internal/bytealg.MaxLen", "strconv.ErrSyntax", "strconv.ErrRange", "internal/strconv.uint64pow10", "math/bits.deBruijn32tab", "math/bits.deBruijn64tab", "vestry/name.reserved", "errors.errorType"], apart := false, laid := [("math/bits.deBruijn32tab", laid_math_bits_deBruijn32tab), ("math/bits.deBruijn64tab", laid_math_bits_deBruijn64tab), ("internal/strconv.uint64pow10", laid_internal_strconv_uint64pow10), ("errors.errorType", laid_errors_errorType), ("strconv.ErrRange", laid_strconv_ErrRange), ("strconv.ErrSyntax", laid_strconv_ErrSyntax), ("vestry/name.reserved", laid_vestry_name_reserved)] }
def ChangeMatchesReferenceSaid : Prop := changeMatchesReferenceRow.holds Tryz.pinned (OpenSpec.ofChange changeMatchesReferenceSpec)

/-- ITS FALSE NEIGHBOUR: 'it returns false'. Refute it at one input. -/
def changeMatchesReferenceWrong : ChangeSpec := { name := "changeMatchesReference", fn := fun _ => fun
  | [d] => { results := [.lit (.bool false)], args := [d] }
  | _ => none }
def ChangeMatchesReferenceWrongFalsely : Prop := changeMatchesReferenceRow.holds Tryz.pinned (OpenSpec.ofChange changeMatchesReferenceWrong)

/-- 'vestrylaw21.ChangeParses': WHATEVER THE INPUT: true; the input reads as it did. -/
def changeParsesSpec : ChangeSpec := { name := "changeParses", fn := fun _ => fun
  | [d] => { results := [.lit (.bool true)], args := [d] }
  | _ => none }
def changeParsesRow : OpenClaim := { program := "ytnnebfcggdbgpaagreatdoor", sum := "432d4a207f659b6011978c3ecef7b238701676558b9d3ccb1025f71ecfe3f344", func := "vestry/vestrylaw21.ChangeParses", spec := "changeParses", inPlace := ["internal/bytealg.IndexByteString", "internal/bytealg.IndexString", "internal/reflectlite.ValueOf", "(internal/reflectlite.Value).Type", "(internal/reflectlite.Value).IsNil", "internal/reflectlite.TypeOf", "(internal/reflectlite.Value).Elem", "(internal/reflectlite.Value).Set"], unfollowed := true, recurses := true, named := ["internal/bytealg.MaxLen", "strconv.ErrSyntax", "strconv.ErrRange", "internal/strconv.uint64pow10", "math/bits.deBruijn32tab", "math/bits.deBruijn64tab", "vestry/name.reserved", "errors.errorType"], apart := false, laid := [("math/bits.deBruijn32tab", laid_math_bits_deBruijn32tab), ("math/bits.deBruijn64tab", laid_math_bits_deBruijn64tab), ("internal/strconv.uint64pow10", laid_internal_strconv_uint64pow10), ("errors.errorType", laid_errors_errorType), ("strconv.ErrRange", laid_strconv_ErrRange), ("strconv.ErrSyntax", laid_strconv_ErrSyntax), ("vestry/name.reserved", laid_vestry_name_reserved)] }
def ChangeParsesSaid : Prop := changeParsesRow.holds Tryz.pinned (OpenSpec.ofChange changeParsesSpec)

/-- ITS FALSE NEIGHBOUR: 'it returns false'. Refute it at one input. -/
def changeParsesWrong : ChangeSpec := { name := "changeParses", fn := fun _ => fun
  | [d] => { results := [.lit (.bool false)], args := [d] }
  | _ => none }
def ChangeParsesWrongFalsely : Prop := changeParsesRow.holds Tryz.pinned (OpenSpec.ofChange changeParsesWrong)

/-- 'vestrylaw21.ChangeTexts': WHATEVER THE INPUT: true; the input reads as it did. -/
def changeTextsSpec : ChangeSpec := { name := "changeTexts", fn := fun _ => fun
  | [d] => { results := [.lit (.bool true)], args := [d] }
  | _ => none }
def changeTextsRow : OpenClaim := { program := "ytnnebfcggdbgpaagreatdoor", sum := "432d4a207f659b6011978c3ecef7b238701676558b9d3ccb1025f71ecfe3f344", func := "vestry/vestrylaw21.ChangeTexts", spec := "changeTexts", inPlace := ["internal/bytealg.IndexByteString", "internal/bytealg.IndexString", "internal/reflectlite.ValueOf", "(internal/reflectlite.Value).Type", "(internal/reflectlite.Value).IsNil", "internal/reflectlite.TypeOf", "(internal/reflectlite.Value).Elem", "(internal/reflectlite.Value).Set"], unfollowed := true, recurses := true, named := ["internal/bytealg.MaxLen", "strconv.ErrSyntax", "strconv.ErrRange", "internal/strconv.uint64pow10", "math/bits.deBruijn32tab", "math/bits.deBruijn64tab", "vestry/name.reserved", "errors.errorType"], apart := false, laid := [("math/bits.deBruijn32tab", laid_math_bits_deBruijn32tab), ("math/bits.deBruijn64tab", laid_math_bits_deBruijn64tab), ("internal/strconv.uint64pow10", laid_internal_strconv_uint64pow10), ("errors.errorType", laid_errors_errorType), ("strconv.ErrRange", laid_strconv_ErrRange), ("strconv.ErrSyntax", laid_strconv_ErrSyntax), ("vestry/name.reserved", laid_vestry_name_reserved)] }
def ChangeTextsSaid : Prop := changeTextsRow.holds Tryz.pinned (OpenSpec.ofChange changeTextsSpec)

/-- ITS FALSE NEIGHBOUR: 'it returns false'. Refute it at one input. -/
def changeTextsWrong : ChangeSpec := { name := "changeTexts", fn := fun _ => fun
  | [d] => { results := [.lit (.bool false)], args := [d] }
  | _ => none }
def ChangeTextsWrongFalsely : Prop := changeTextsRow.holds Tryz.pinned (OpenSpec.ofChange changeTextsWrong)

/-- 'vestrylaw21.ChangeLogs': WHATEVER THE INPUT: true; the input reads as it did. -/
def changeLogsSpec : ChangeSpec := { name := "changeLogs", fn := fun _ => fun
  | [d] => { results := [.lit (.bool true)], args := [d] }
  | _ => none }
def changeLogsRow : OpenClaim := { program := "ytnnebfcggdbgpaagreatdoor", sum := "432d4a207f659b6011978c3ecef7b238701676558b9d3ccb1025f71ecfe3f344", func := "vestry/vestrylaw21.ChangeLogs", spec := "changeLogs", inPlace := ["internal/bytealg.IndexByteString", "internal/bytealg.IndexString", "internal/reflectlite.ValueOf", "(internal/reflectlite.Value).Type", "(internal/reflectlite.Value).IsNil", "internal/reflectlite.TypeOf", "(internal/reflectlite.Value).Elem", "(internal/reflectlite.Value).Set"], unfollowed := true, recurses := true, named := ["internal/bytealg.MaxLen", "strconv.ErrSyntax", "strconv.ErrRange", "internal/strconv.uint64pow10", "math/bits.deBruijn32tab", "math/bits.deBruijn64tab", "vestry/name.reserved", "errors.errorType"], apart := false, laid := [("math/bits.deBruijn32tab", laid_math_bits_deBruijn32tab), ("math/bits.deBruijn64tab", laid_math_bits_deBruijn64tab), ("internal/strconv.uint64pow10", laid_internal_strconv_uint64pow10), ("errors.errorType", laid_errors_errorType), ("strconv.ErrRange", laid_strconv_ErrRange), ("strconv.ErrSyntax", laid_strconv_ErrSyntax), ("vestry/name.reserved", laid_vestry_name_reserved)] }
def ChangeLogsSaid : Prop := changeLogsRow.holds Tryz.pinned (OpenSpec.ofChange changeLogsSpec)

/-- ITS FALSE NEIGHBOUR: 'it returns false'. Refute it at one input. -/
def changeLogsWrong : ChangeSpec := { name := "changeLogs", fn := fun _ => fun
  | [d] => { results := [.lit (.bool false)], args := [d] }
  | _ => none }
def ChangeLogsWrongFalsely : Prop := changeLogsRow.holds Tryz.pinned (OpenSpec.ofChange changeLogsWrong)

/-- 'vestrylaw21.ChangeReads': WHATEVER THE INPUT: true; the input reads as it did. -/
def changeReadsSpec : ChangeSpec := { name := "changeReads", fn := fun _ => fun
  | [d] => { results := [.lit (.bool true)], args := [d] }
  | _ => none }
def changeReadsRow : OpenClaim := { program := "ytnnebfcggdbgpaagreatdoor", sum := "432d4a207f659b6011978c3ecef7b238701676558b9d3ccb1025f71ecfe3f344", func := "vestry/vestrylaw21.ChangeReads", spec := "changeReads", inPlace := ["internal/bytealg.IndexByteString", "internal/bytealg.IndexString", "internal/reflectlite.ValueOf", "(internal/reflectlite.Value).Type", "(internal/reflectlite.Value).IsNil", "internal/reflectlite.TypeOf", "(internal/reflectlite.Value).Elem", "(internal/reflectlite.Value).Set"], unfollowed := true, recurses := true, named := ["internal/bytealg.MaxLen", "strconv.ErrSyntax", "strconv.ErrRange", "internal/strconv.uint64pow10", "math/bits.deBruijn32tab", "math/bits.deBruijn64tab", "vestry/name.reserved", "errors.errorType"], apart := false, laid := [("math/bits.deBruijn32tab", laid_math_bits_deBruijn32tab), ("math/bits.deBruijn64tab", laid_math_bits_deBruijn64tab), ("internal/strconv.uint64pow10", laid_internal_strconv_uint64pow10), ("errors.errorType", laid_errors_errorType), ("strconv.ErrRange", laid_strconv_ErrRange), ("strconv.ErrSyntax", laid_strconv_ErrSyntax), ("vestry/name.reserved", laid_vestry_name_reserved)] }
def ChangeReadsSaid : Prop := changeReadsRow.holds Tryz.pinned (OpenSpec.ofChange changeReadsSpec)

/-- ITS FALSE NEIGHBOUR: 'it returns false'. Refute it at one input. -/
def changeReadsWrong : ChangeSpec := { name := "changeReads", fn := fun _ => fun
  | [d] => { results := [.lit (.bool false)], args := [d] }
  | _ => none }
def ChangeReadsWrongFalsely : Prop := changeReadsRow.holds Tryz.pinned (OpenSpec.ofChange changeReadsWrong)

/- THE SECOND FORM. 'bulk': how many values and letters a reading holds, each counted each time it is reached (what is shared counts as often as it is met; a slice's spare places count too). A statement '..UptoSaid' is the law's where the arguments, and the package variables that the reading takes, are together of bulk at most 1048576: NARROWER than '..Said'. Prove '..Said' where nothing that the law and all that it calls make is longer than what came in: it says more and counts as full. Else prove '..UptoSaid'. A law counts once. -/
mutual
def uptoBulk {H : Type} : DataW H → Nat
  | .lit (.string bytes) => bytes.length + 1
  | .lit _ => 1
  | .nil => 1
  | .ptr d => uptoBulk d + 1
  | .slice elems spare => uptoBulkAll elems + uptoBulkAll spare + 1
  | .agg parts => uptoBulkAll parts + 1
  | .iface _ d => uptoBulk d + 1
  | .map entries => uptoBulkEntries entries + 1
  | .held _ => 1
def uptoBulkAll {H : Type} : List (DataW H) → Nat
  | [] => 0
  | d :: r => uptoBulk d + uptoBulkAll r
def uptoBulkEntries {H : Type} : List (Lit × DataW H) → Nat
  | [] => 0
  | x :: r => uptoBulkEntry x + uptoBulkEntries r
def uptoBulkEntry {H : Type} : Lit × DataW H → Nat
  | (.string bytes, d) => bytes.length + uptoBulk d + 1
  | (_, d) => uptoBulk d + 1
 end
def uptoSmall : (H : Type) → List (DataW H) → Bool := fun _ ds => decide (uptoBulkAll ds ≤ 1048576)
def OpenSpec.upto (s : _root_.Go.ChangeSpec) : _root_.Go.OpenSpec := { _root_.Go.OpenSpec.ofChange s with cond := some uptoSmall }

/-- 'vestrylaw18.TupleMatchesReference', WHERE WHAT IT READS IS OF BULK AT MOST 1048576: true; the input reads as it did. -/
def tupleMatchesReferenceUptoRow : OpenClaim := { program := "ytnnebfcggdbgpaagreatdoor", sum := "432d4a207f659b6011978c3ecef7b238701676558b9d3ccb1025f71ecfe3f344", func := "vestry/vestrylaw18.TupleMatchesReference", spec := "tupleMatchesReference", inPlace := ["internal/bytealg.IndexByteString", "internal/bytealg.IndexString", "internal/reflectlite.ValueOf", "(internal/reflectlite.Value).Type", "(internal/reflectlite.Value).IsNil", "internal/reflectlite.TypeOf", "(internal/reflectlite.Value).Elem", "(internal/reflectlite.Value).Set", "internal/bytealg.abigen_runtime_cmpstring"], unfollowed := true, recurses := true, named := ["internal/bytealg.MaxLen", "vestry/name.reserved", "errors.errorType"], apart := false, laid := [("errors.errorType", laid_errors_errorType), ("vestry/name.reserved", laid_vestry_name_reserved)], narrowed := true }
def TupleMatchesReferenceUptoSaid : Prop := tupleMatchesReferenceUptoRow.holds Tryz.pinned (OpenSpec.upto tupleMatchesReferenceSpec)

/-- 'vestrylaw18.TupleParses', WHERE WHAT IT READS IS OF BULK AT MOST 1048576: true; the input reads as it did. -/
def tupleParsesUptoRow : OpenClaim := { program := "ytnnebfcggdbgpaagreatdoor", sum := "432d4a207f659b6011978c3ecef7b238701676558b9d3ccb1025f71ecfe3f344", func := "vestry/vestrylaw18.TupleParses", spec := "tupleParses", inPlace := ["internal/bytealg.IndexByteString", "internal/bytealg.IndexString", "internal/reflectlite.ValueOf", "(internal/reflectlite.Value).Type", "(internal/reflectlite.Value).IsNil", "internal/reflectlite.TypeOf", "(internal/reflectlite.Value).Elem", "(internal/reflectlite.Value).Set", "internal/bytealg.abigen_runtime_cmpstring"], unfollowed := true, recurses := true, named := ["internal/bytealg.MaxLen", "vestry/name.reserved", "errors.errorType"], apart := false, laid := [("errors.errorType", laid_errors_errorType), ("vestry/name.reserved", laid_vestry_name_reserved)], narrowed := true }
def TupleParsesUptoSaid : Prop := tupleParsesUptoRow.holds Tryz.pinned (OpenSpec.upto tupleParsesSpec)

/-- 'vestrylaw18.TupleReads', WHERE WHAT IT READS IS OF BULK AT MOST 1048576: true; the input reads as it did. -/
def tupleReadsUptoRow : OpenClaim := { program := "ytnnebfcggdbgpaagreatdoor", sum := "432d4a207f659b6011978c3ecef7b238701676558b9d3ccb1025f71ecfe3f344", func := "vestry/vestrylaw18.TupleReads", spec := "tupleReads", inPlace := ["internal/bytealg.IndexByteString", "internal/bytealg.IndexString", "internal/reflectlite.ValueOf", "(internal/reflectlite.Value).Type", "(internal/reflectlite.Value).IsNil", "internal/reflectlite.TypeOf", "(internal/reflectlite.Value).Elem", "(internal/reflectlite.Value).Set", "internal/bytealg.abigen_runtime_cmpstring"], unfollowed := true, recurses := true, named := ["internal/bytealg.MaxLen", "vestry/name.reserved", "errors.errorType"], apart := false, laid := [("errors.errorType", laid_errors_errorType), ("vestry/name.reserved", laid_vestry_name_reserved)], narrowed := true }
def TupleReadsUptoSaid : Prop := tupleReadsUptoRow.holds Tryz.pinned (OpenSpec.upto tupleReadsSpec)

/-- 'vestrylaw18.TupleSorts', WHERE WHAT IT READS IS OF BULK AT MOST 1048576: true; the input reads as it did. -/
def tupleSortsUptoRow : OpenClaim := { program := "ytnnebfcggdbgpaagreatdoor", sum := "432d4a207f659b6011978c3ecef7b238701676558b9d3ccb1025f71ecfe3f344", func := "vestry/vestrylaw18.TupleSorts", spec := "tupleSorts", inPlace := ["internal/bytealg.IndexByteString", "internal/bytealg.IndexString", "internal/reflectlite.ValueOf", "(internal/reflectlite.Value).Type", "(internal/reflectlite.Value).IsNil", "internal/reflectlite.TypeOf", "(internal/reflectlite.Value).Elem", "(internal/reflectlite.Value).Set", "internal/bytealg.abigen_runtime_cmpstring"], unfollowed := true, recurses := true, named := ["internal/bytealg.MaxLen", "vestry/name.reserved", "errors.errorType"], apart := false, laid := [("errors.errorType", laid_errors_errorType), ("vestry/name.reserved", laid_vestry_name_reserved)], narrowed := true }
def TupleSortsUptoSaid : Prop := tupleSortsUptoRow.holds Tryz.pinned (OpenSpec.upto tupleSortsSpec)

/-- 'vestrylaw18.TupleApart', WHERE WHAT IT READS IS OF BULK AT MOST 1048576: true; the input reads as it did. -/
def tupleApartUptoRow : OpenClaim := { program := "ytnnebfcggdbgpaagreatdoor", sum := "432d4a207f659b6011978c3ecef7b238701676558b9d3ccb1025f71ecfe3f344", func := "vestry/vestrylaw18.TupleApart", spec := "tupleApart", inPlace := ["internal/bytealg.IndexByteString", "internal/bytealg.IndexString", "internal/reflectlite.ValueOf", "(internal/reflectlite.Value).Type", "(internal/reflectlite.Value).IsNil", "internal/reflectlite.TypeOf", "(internal/reflectlite.Value).Elem", "(internal/reflectlite.Value).Set", "internal/bytealg.abigen_runtime_cmpstring"], unfollowed := true, recurses := true, named := ["internal/bytealg.MaxLen", "vestry/name.reserved", "errors.errorType"], apart := false, laid := [("errors.errorType", laid_errors_errorType), ("vestry/name.reserved", laid_vestry_name_reserved)], narrowed := true }
def TupleApartUptoSaid : Prop := tupleApartUptoRow.holds Tryz.pinned (OpenSpec.upto tupleApartSpec)

/-- 'vestrylaw21.ChangeMatchesReference', WHERE WHAT IT READS IS OF BULK AT MOST 1048576: true; the input reads as it did. -/
def changeMatchesReferenceUptoRow : OpenClaim := { program := "ytnnebfcggdbgpaagreatdoor", sum := "432d4a207f659b6011978c3ecef7b238701676558b9d3ccb1025f71ecfe3f344", func := "vestry/vestrylaw21.ChangeMatchesReference", spec := "changeMatchesReference", inPlace := ["internal/bytealg.IndexByteString", "internal/bytealg.IndexString", "internal/reflectlite.ValueOf", "(internal/reflectlite.Value).Type", "(internal/reflectlite.Value).IsNil", "internal/reflectlite.TypeOf", "(internal/reflectlite.Value).Elem", "(internal/reflectlite.Value).Set"], unfollowed := true, recurses := true, named := ["internal/bytealg.MaxLen", "strconv.ErrSyntax", "strconv.ErrRange", "internal/strconv.uint64pow10", "math/bits.deBruijn32tab", "math/bits.deBruijn64tab", "vestry/name.reserved", "errors.errorType"], apart := false, laid := [("math/bits.deBruijn32tab", laid_math_bits_deBruijn32tab), ("math/bits.deBruijn64tab", laid_math_bits_deBruijn64tab), ("internal/strconv.uint64pow10", laid_internal_strconv_uint64pow10), ("errors.errorType", laid_errors_errorType), ("strconv.ErrRange", laid_strconv_ErrRange), ("strconv.ErrSyntax", laid_strconv_ErrSyntax), ("vestry/name.reserved", laid_vestry_name_reserved)], narrowed := true }
def ChangeMatchesReferenceUptoSaid : Prop := changeMatchesReferenceUptoRow.holds Tryz.pinned (OpenSpec.upto changeMatchesReferenceSpec)

/-- 'vestrylaw21.ChangeParses', WHERE WHAT IT READS IS OF BULK AT MOST 1048576: true; the input reads as it did. -/
def changeParsesUptoRow : OpenClaim := { program := "ytnnebfcggdbgpaagreatdoor", sum := "432d4a207f659b6011978c3ecef7b238701676558b9d3ccb1025f71ecfe3f344", func := "vestry/vestrylaw21.ChangeParses", spec := "changeParses", inPlace := ["internal/bytealg.IndexByteString", "internal/bytealg.IndexString", "internal/reflectlite.ValueOf", "(internal/reflectlite.Value).Type", "(internal/reflectlite.Value).IsNil", "internal/reflectlite.TypeOf", "(internal/reflectlite.Value).Elem", "(internal/reflectlite.Value).Set"], unfollowed := true, recurses := true, named := ["internal/bytealg.MaxLen", "strconv.ErrSyntax", "strconv.ErrRange", "internal/strconv.uint64pow10", "math/bits.deBruijn32tab", "math/bits.deBruijn64tab", "vestry/name.reserved", "errors.errorType"], apart := false, laid := [("math/bits.deBruijn32tab", laid_math_bits_deBruijn32tab), ("math/bits.deBruijn64tab", laid_math_bits_deBruijn64tab), ("internal/strconv.uint64pow10", laid_internal_strconv_uint64pow10), ("errors.errorType", laid_errors_errorType), ("strconv.ErrRange", laid_strconv_ErrRange), ("strconv.ErrSyntax", laid_strconv_ErrSyntax), ("vestry/name.reserved", laid_vestry_name_reserved)], narrowed := true }
def ChangeParsesUptoSaid : Prop := changeParsesUptoRow.holds Tryz.pinned (OpenSpec.upto changeParsesSpec)

/-- 'vestrylaw21.ChangeTexts', WHERE WHAT IT READS IS OF BULK AT MOST 1048576: true; the input reads as it did. -/
def changeTextsUptoRow : OpenClaim := { program := "ytnnebfcggdbgpaagreatdoor", sum := "432d4a207f659b6011978c3ecef7b238701676558b9d3ccb1025f71ecfe3f344", func := "vestry/vestrylaw21.ChangeTexts", spec := "changeTexts", inPlace := ["internal/bytealg.IndexByteString", "internal/bytealg.IndexString", "internal/reflectlite.ValueOf", "(internal/reflectlite.Value).Type", "(internal/reflectlite.Value).IsNil", "internal/reflectlite.TypeOf", "(internal/reflectlite.Value).Elem", "(internal/reflectlite.Value).Set"], unfollowed := true, recurses := true, named := ["internal/bytealg.MaxLen", "strconv.ErrSyntax", "strconv.ErrRange", "internal/strconv.uint64pow10", "math/bits.deBruijn32tab", "math/bits.deBruijn64tab", "vestry/name.reserved", "errors.errorType"], apart := false, laid := [("math/bits.deBruijn32tab", laid_math_bits_deBruijn32tab), ("math/bits.deBruijn64tab", laid_math_bits_deBruijn64tab), ("internal/strconv.uint64pow10", laid_internal_strconv_uint64pow10), ("errors.errorType", laid_errors_errorType), ("strconv.ErrRange", laid_strconv_ErrRange), ("strconv.ErrSyntax", laid_strconv_ErrSyntax), ("vestry/name.reserved", laid_vestry_name_reserved)], narrowed := true }
def ChangeTextsUptoSaid : Prop := changeTextsUptoRow.holds Tryz.pinned (OpenSpec.upto changeTextsSpec)

/-- 'vestrylaw21.ChangeLogs', WHERE WHAT IT READS IS OF BULK AT MOST 1048576: true; the input reads as it did. -/
def changeLogsUptoRow : OpenClaim := { program := "ytnnebfcggdbgpaagreatdoor", sum := "432d4a207f659b6011978c3ecef7b238701676558b9d3ccb1025f71ecfe3f344", func := "vestry/vestrylaw21.ChangeLogs", spec := "changeLogs", inPlace := ["internal/bytealg.IndexByteString", "internal/bytealg.IndexString", "internal/reflectlite.ValueOf", "(internal/reflectlite.Value).Type", "(internal/reflectlite.Value).IsNil", "internal/reflectlite.TypeOf", "(internal/reflectlite.Value).Elem", "(internal/reflectlite.Value).Set"], unfollowed := true, recurses := true, named := ["internal/bytealg.MaxLen", "strconv.ErrSyntax", "strconv.ErrRange", "internal/strconv.uint64pow10", "math/bits.deBruijn32tab", "math/bits.deBruijn64tab", "vestry/name.reserved", "errors.errorType"], apart := false, laid := [("math/bits.deBruijn32tab", laid_math_bits_deBruijn32tab), ("math/bits.deBruijn64tab", laid_math_bits_deBruijn64tab), ("internal/strconv.uint64pow10", laid_internal_strconv_uint64pow10), ("errors.errorType", laid_errors_errorType), ("strconv.ErrRange", laid_strconv_ErrRange), ("strconv.ErrSyntax", laid_strconv_ErrSyntax), ("vestry/name.reserved", laid_vestry_name_reserved)], narrowed := true }
def ChangeLogsUptoSaid : Prop := changeLogsUptoRow.holds Tryz.pinned (OpenSpec.upto changeLogsSpec)

/-- 'vestrylaw21.ChangeReads', WHERE WHAT IT READS IS OF BULK AT MOST 1048576: true; the input reads as it did. -/
def changeReadsUptoRow : OpenClaim := { program := "ytnnebfcggdbgpaagreatdoor", sum := "432d4a207f659b6011978c3ecef7b238701676558b9d3ccb1025f71ecfe3f344", func := "vestry/vestrylaw21.ChangeReads", spec := "changeReads", inPlace := ["internal/bytealg.IndexByteString", "internal/bytealg.IndexString", "internal/reflectlite.ValueOf", "(internal/reflectlite.Value).Type", "(internal/reflectlite.Value).IsNil", "internal/reflectlite.TypeOf", "(internal/reflectlite.Value).Elem", "(internal/reflectlite.Value).Set"], unfollowed := true, recurses := true, named := ["internal/bytealg.MaxLen", "strconv.ErrSyntax", "strconv.ErrRange", "internal/strconv.uint64pow10", "math/bits.deBruijn32tab", "math/bits.deBruijn64tab", "vestry/name.reserved", "errors.errorType"], apart := false, laid := [("math/bits.deBruijn32tab", laid_math_bits_deBruijn32tab), ("math/bits.deBruijn64tab", laid_math_bits_deBruijn64tab), ("internal/strconv.uint64pow10", laid_internal_strconv_uint64pow10), ("errors.errorType", laid_errors_errorType), ("strconv.ErrRange", laid_strconv_ErrRange), ("strconv.ErrSyntax", laid_strconv_ErrSyntax), ("vestry/name.reserved", laid_vestry_name_reserved)], narrowed := true }
def ChangeReadsUptoSaid : Prop := changeReadsUptoRow.holds Tryz.pinned (OpenSpec.upto changeReadsSpec)

end Rows
end Go.Proofs.YtnnebfcggdbgpaaGreatDoor
