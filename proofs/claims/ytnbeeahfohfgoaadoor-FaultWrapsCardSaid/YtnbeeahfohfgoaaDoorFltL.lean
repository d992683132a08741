/-
  errors.Is over an error of a description, with a code.
-/
import Derived.Test.YtnbeeahfohfgoaaDoorFltK
namespace Go.Proofs.YtnbeeahfohfgoaaDoor
open Go.ChangeShapes Go.WideShapes Go.ChangeAt Go.RowKit Go.Extern Go.Stop Go.Extern.Stop errAs
set_option linter.unusedVariables false

theorem noIsW (v : Value) (x : TypeId) (w : World) : (Instr.typeAssert (.iface 52 v) x 67 true).run Tryd.prog w = .ok (.tuple #[.nilIface, .bool false]) w := run_typeAssert_lacksB Tryd.underlying67 (by kernel_rfl) (by kernel_rfl) v x w
theorem noIsF (v : Value) (x : TypeId) (w : World) : (Instr.typeAssert (.iface 47 v) x 67 true).run Tryd.prog w = .ok (.tuple #[.nilIface, .bool false]) w := run_typeAssert_lacksB Tryd.underlying67 (by kernel_rfl) (by kernel_rfl) v x w
theorem noIsC (v : Value) (x : TypeId) (w : World) : (Instr.typeAssert (.iface 30 v) x 67 true).run Tryd.prog w = .ok (.tuple #[.nilIface, .bool false]) w := run_typeAssert_lacksB Tryd.underlying67 (by kernel_rfl) (by kernel_rfl) v x w
theorem methodComparable (h : Value) (w : World) : (Go.method 235 65 (.agg #[h]) "Comparable").run Tryd.prog w = .ok (71, .agg #[h]) w := by kernel_rfl

theorem eqlW (p v : Value) (d : Int) (w : World) : (binOp BinOp.eql 28 (.iface 52 (.agg #[p, v])) (.iface 30 (.int .i64 d))).run Tryd.prog w = .ok (.bool false) w := by kernel_rfl
theorem eqlF (v : Value) (d : Int) (w : World) : (binOp BinOp.eql 28 (.iface 47 v) (.iface 30 (.int .i64 d))).run Tryd.prog w = .ok (.bool false) w := by kernel_rfl
theorem eqlC (c d : Int) (w : World) : (binOp BinOp.eql 28 (.iface 30 (.int .i64 c)) (.iface 30 (.int .i64 d))).run Tryd.prog w = .ok (.bool (decide (c = d))) w := by kernel_rfl

set_option maxRecDepth 100000 in
set_option maxHeartbeats 4000000 in
theorem is_W (f : Bool) (c n d : Int) (ps : List ByteArray) (w : World) :
    Calls Tryd.prog 23 #[errW f c n ps, codeV d, .bool true] w fun e w' => e = .returned (.bool (decide (c = d))) ∧ Below w.heap.size w w' := by
  have nW := noIsW
  have nF := noIsF
  have nC := noIsC
  have hU := unwrapsW
  have hUF := unwrapsF
  have nU := noUnwrapC
  have nUs := noUnwrapsC
  have mU := unwrap_W
  have mUF := methodUnwrapF
  have eW := eqlW
  have eF := eqlF
  have eC := eqlC
  unfold codeV
  go_enter Tryd.func23, Tryd.ntmps23
  go_wp2_with fail
  go_loopw [0] (fun ev wr => ∃ f qs, ev = errW f c n qs ∧ Hid (Below w.heap.size w wr)) (fun ev _ => SizeOf.sizeOf ev)
  case atStart => exact ⟨f, ps, rfl, Below.refl _ _⟩
  case round =>
    obtain ⟨g, qs, rfl, HB1⟩ := hrel
    rename World => wr
    cases qs with
    | nil =>
      cases g with
      | true =>
        have e0 : errW true c n [] = .iface 47 (.agg #[.int .i64 c, .int .i64 n]) := rfl
        rw [e0]
        have HM := Lib.hid (size_FC c n)
        go_wp2_with fail
        refine (unwrap_F c n _).mono ?_
        rintro e w1 ⟨rfl, rfl⟩
        have HB2 := Lib.hid (HB1.out.alloc HB1.out.size (.cells #[.int .i64 c, .int .i64 n] 47))
        obtain ⟨w5, hw5⟩ : ∃ w5, w5 = wr.alloc (.cells #[.int .i64 c, .int .i64 n] 47) := ⟨_, rfl⟩
        rw [← hw5] at HB2 ⊢
        clear hw5
        go_wp2_with fail
        go_roundw
        case rel => exact ⟨false, [], rfl, HB2.out⟩
        case measure => exact HM.out
      | false =>
        have e0 : errW false c n [] = .iface 30 (.int .i64 c) := rfl
        rw [e0]
        by_cases hcd : c = d
        · have HD : Hid (decide (c = d) = true) := decide_eq_true hcd
          go_wp2_with fail
          go_ret
          exact ⟨by rw [HD.out]; rfl, HB1.out⟩
        · have HD : Hid (decide (c = d) = false) := decide_eq_false hcd
          go_wp2_with fail
          go_ret
          exact ⟨by rw [HD.out]; rfl, HB1.out⟩
    | cons q qs =>
      obtain ⟨t, v, hv⟩ := errW_iface g c n qs
      have e0 : errW g c n (q :: qs) = .iface 52 (.agg #[.string q, errW g c n qs]) := rfl
      rw [e0, hv]
      have HV := Lib.hid hv
      clear hv e0
      have HM := Lib.hid (size_W q (.iface t v))
      go_wp2_with fail
      refine (within_unwrap q (.iface t v) _).mono ?_
      rintro e w1 ⟨rfl, b1⟩
      have HB2 := Lib.hid (HB1.out.trans (b1.mono HB1.out.size))
      clear b1
      go_wp2_with fail
      go_roundw
      case rel => exact ⟨g, qs, HV.out.symm, HB2.out⟩
      case measure => exact HM.out
end Go.Proofs.YtnbeeahfohfgoaaDoor
