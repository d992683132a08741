/-
  errors.as over an error of a description.
-/
import Derived.Test.YtnbeeahfohfgoaaDoorFltG
import Derived.Test.YtnbeeahfohfgoaaDoorErrFind
namespace Go.Proofs.YtnbeeahfohfgoaaDoor
open Go.ChangeShapes Go.WideShapes Go.ChangeAt Go.RowKit Go.Extern Go.Stop Go.Extern.Stop errAs
set_option linter.unusedVariables false

theorem size_W (q : ByteArray) (v : Value) : SizeOf.sizeOf v < SizeOf.sizeOf (Value.iface 52 (.agg #[.string q, v])) := by
  simp; omega
theorem size_FC (c n : Int) : SizeOf.sizeOf (codeV c) < SizeOf.sizeOf (faultV c n) := by
  unfold codeV faultV
  simp; omega

theorem slotF_below {w w' : World} {tb : Nat} (h : SlotF w tb) {B : Nat} (hb : Below B w w') (hB : tb < B) : SlotF w' tb := by
  obtain ⟨x, y, h1, h2, h3, h4⟩ := h
  exact ⟨x, y, (hb.cell (by exact hB)).trans h1, (hb.cell (by exact hB)).trans h2, (World.frozen?_of_block (hb.block _ hB)).trans h3, (World.frozen?_of_block (hb.block _ hB)).trans h4⟩
theorem slotC_below {w w' : World} {tb : Nat} (h : SlotC w tb) {B : Nat} (hb : Below B w w') (hB : tb < B) : SlotC w' tb := by
  obtain ⟨x, h1, h2⟩ := h
  exact ⟨x, (hb.cell (by exact hB)).trans h1, (World.frozen?_of_block (hb.block _ hB)).trans h2⟩
theorem below_grown {w w' : World} {B : Nat} (h : Below B w w') (hB : w.heap.size ≤ B) (row : Option Nat) : w.grownBy w' row :=
  ⟨h.os, h.tape, h.output, h.size, fun i hi _ => h.block i (Nat.lt_of_lt_of_le hi hB)⟩

set_option maxRecDepth 100000 in
set_option maxHeartbeats 4000000 in
theorem as_W_N (c n : Int) (ps : List ByteArray) (tb : Nat) (a : Addr) (w : World) :
    Calls Tryd.prog 32 #[errW false c n ps, .iface 63 (.pointer (some ⟨tb, 0, none⟩)), .agg #[.pointer (some ⟨5, 63, none⟩), .pointer (some a), .int .u64 150], .iface 65 (.agg #[.pointer (some ⟨5, 47, none⟩)])] w fun e w' => e = .returned (.bool false) ∧ Below w.heap.size w w' := by
  have h10 := @run_callFunc_extern Tryd.prog 22 _ ReflectliteType.typeOf Tryd.func22 (by kernel_rfl) (by kernel_rfl) (by kernel_rfl) (by kernel_rfl)
  have h35 := @run_callFunc_extern Tryd.prog 70 _ (ReflectliteType.relation "AssignableTo" ReflectliteType.assignableTo) Tryd.func70 (by kernel_rfl) (by kernel_rfl) (by kernel_rfl) (by kernel_rfl)
  have tO := typeOfW
  have tO2 := typeOfC
  have mA := methodAssignableTo
  have a1 := assignableWF
  have a2 := assignableCF
  have nA := noAsW
  have nC := noAsC
  have hU := unwrapsW
  have nU := noUnwrapC
  have nUs := noUnwrapsC
  have mU := unwrap_W
  have hb := (Below.refl w.heap.size w).alloc (Nat.le_refl _) (.cells #[.pointer (some ⟨5, 63, none⟩), .pointer (some a), .int .u64 150] 76)
  obtain ⟨w0, hw0⟩ : ∃ w0, w0 = w.alloc (.cells #[.pointer (some ⟨5, 63, none⟩), .pointer (some a), .int .u64 150] 76) := ⟨_, rfl⟩
  rw [← hw0] at hb
  have HB := Lib.hid hb
  have HW := Lib.hid hw0
  clear hb hw0
  go_enter Tryd.func32, Tryd.ntmps32
  go_wp2_with fail
  rw [← HW.out]
  go_loopw [0] (fun ev wr => ∃ qs, ev = errW false c n qs ∧ Hid (Below w.heap.size w wr)) (fun ev _ => SizeOf.sizeOf ev)
  case atStart => exact ⟨ps, rfl, HB.out⟩
  case round =>
    obtain ⟨qs, rfl, HB1⟩ := hrel
    rename World => wr
    cases qs with
    | nil =>
      have e0 : errW false c n [] = .iface 30 (.int .i64 c) := rfl
      rw [e0]
      go_wp2_with fail
      go_ret
      exact ⟨rfl, HB1.out⟩
    | cons q qs =>
      obtain ⟨t, v, hv⟩ := errW_iface false c n qs
      have e0 : errW false c n (q :: qs) = .iface 52 (.agg #[.string q, errW false c n qs]) := rfl
      rw [e0, hv]
      have HV := Lib.hid hv
      clear hv e0
      have HM := Lib.hid (size_W q (.iface t v))
      go_wp2_with fail
      refine (within_unwrap q (.iface t v) _).mono ?_
      rintro e w1 ⟨rfl, b1⟩
      have HB2 := Lib.hid (HB1.out.trans (b1.mono HB1.out.size))
      clear b1
      go_wp2_with fail
      go_roundw
      case rel => exact ⟨qs, HV.out.symm, HB2.out⟩
      case measure => exact HM.out
end Go.Proofs.YtnbeeahfohfgoaaDoor
