/-
  errors.as over an error of a description, at a target of type *api.Fault.
-/
import Derived.Test.YtnbeeahfohfgoaaDoorFltH
namespace Go.Proofs.YtnbeeahfohfgoaaDoor
open Go.ChangeShapes Go.WideShapes Go.ChangeAt Go.RowKit Go.Extern Go.Stop Go.Extern.Stop errAs
set_option linter.unusedVariables false

theorem fin_FW {w W : World} {tb : Nat} (hf : SlotF W tb) (hg : w.grownBy W (some tb)) (c n : Int) (o1 : Obj) : AsPostF w tb c n (.returned (.bool true)) (((W.setCell ⟨tb, 0, none⟩ (.int .i64 c)).setCell ⟨tb, 1, none⟩ (.int .i64 n)).alloc o1) := by
  have hl := hf.lt
  obtain ⟨x, y, h1, h2, h3, h4⟩ := hf
  refine ⟨rfl, grown_alloc (grown_set (grown_set hg 0 _) 1 _) _, ?_, ?_⟩
  · rw [World.cell?_alloc_lt _ _ ⟨tb, 0, none⟩ (by simpa [World.setCell] using hl), World.cell?_setCell_other _ ⟨tb, 1, none⟩ ⟨tb, 0, none⟩ _ (fun e => by injection e with _ e _; omega), World.cell?_setCell_same _ _ _ h1]
  · rw [World.cell?_alloc_lt _ _ ⟨tb, 1, none⟩ (by simpa [World.setCell] using hl)]
    exact World.cell?_setCell_same _ _ _ ((World.cell?_setCell_other _ ⟨tb, 0, none⟩ ⟨tb, 1, none⟩ _ (fun e => by injection e with _ e _; omega)).trans h2)

set_option maxRecDepth 100000 in
set_option maxHeartbeats 4000000 in
theorem as_W_F (c n : Int) (ps : List ByteArray) (tb : Nat) (a : Addr) (w : World) (ha : w.cell? a = some (.pointer (some ⟨tb, 0, none⟩))) (hf : SlotF w tb) :
    Calls Tryd.prog 32 #[errW true c n ps, .iface 63 (.pointer (some ⟨tb, 0, none⟩)), .agg #[.pointer (some ⟨5, 63, none⟩), .pointer (some a), .int .u64 150], .iface 65 (.agg #[.pointer (some ⟨5, 47, none⟩)])] w (AsPostF w tb c n) := by
  have h10 := @run_callFunc_extern Tryd.prog 22 _ ReflectliteType.typeOf Tryd.func22 (by kernel_rfl) (by kernel_rfl) (by kernel_rfl) (by kernel_rfl)
  have h35 := @run_callFunc_extern Tryd.prog 70 _ (ReflectliteType.relation "AssignableTo" ReflectliteType.assignableTo) Tryd.func70 (by kernel_rfl) (by kernel_rfl) (by kernel_rfl) (by kernel_rfl)
  have h11 := @run_callFunc_extern Tryd.prog 34 _ (ReflectliteValue.method (ReflectliteValue.valueError "reflectlite.Value.Elem" 0) ReflectliteValue.elem) Tryd.func34 (by kernel_rfl) (by kernel_rfl) (by kernel_rfl) (by kernel_rfl)
  have h6 := @run_callFunc_extern Tryd.prog 29 _ (fun args => ReflectliteValue.unpack (args.getD 0 (.tuple #[]))) Tryd.func29 (by kernel_rfl) (by kernel_rfl) (by kernel_rfl) (by kernel_rfl)
  have h12 := @run_callFunc_extern Tryd.prog 35 _ ReflectliteValue.set Tryd.func35 (by kernel_rfl) (by kernel_rfl) (by kernel_rfl) (by kernel_rfl)
  have tO := typeOfW
  have tO2 := typeOfF
  have mA := methodAssignableTo
  have a1 := assignableWF
  have a2 := assignableF
  have nA := noAsW
  have hU := unwrapsW
  have mU := unwrap_W
  have v1 := valueOfF
  have hb := (Below.refl w.heap.size w).alloc (Nat.le_refl _) (.cells #[.pointer (some ⟨5, 63, none⟩), .pointer (some a), .int .u64 150] 76)
  obtain ⟨w0, hw0⟩ : ∃ w0, w0 = w.alloc (.cells #[.pointer (some ⟨5, 63, none⟩), .pointer (some a), .int .u64 150] 76) := ⟨_, rfl⟩
  have kb : w0.heap[w.heap.size]? = some (.cells #[.pointer (some ⟨5, 63, none⟩), .pointer (some a), .int .u64 150] 76 (0, 0)) := by rw [hw0]; exact heap_alloc_new w _
  have hz : w.heap.size < w0.heap.size := by rw [hw0]; simp
  rw [← hw0] at hb
  have HB := Lib.hid hb
  have HW := Lib.hid hw0
  have KB := Lib.hid (And.intro kb hz)
  have HA := Lib.hid (And.intro ha hf)
  clear hb hw0 kb hz ha hf
  go_enter Tryd.func32, Tryd.ntmps32
  go_wp2_with fail
  rw [← HW.out]
  go_loopw [0] (fun ev wr => ∃ qs, ev = errW true c n qs ∧ Hid (Below w.heap.size w wr) ∧ Hid (Below w0.heap.size w0 wr)) (fun ev _ => SizeOf.sizeOf ev)
  case atStart => exact ⟨ps, rfl, HB.out, Below.refl _ _⟩
  case round =>
    obtain ⟨qs, rfl, HB1, HB3⟩ := hrel
    rename World => wr
    have r0 : wr.cell? ⟨w.heap.size, 0, none⟩ = some (.pointer (some ⟨5, 63, none⟩)) := (HB3.out.cell (by exact KB.out.2)).trans (cell_of_row _ _ 0 _ _ _ KB.out.1)
    have r1 : wr.cell? ⟨w.heap.size, 1, none⟩ = some (.pointer (some a)) := (HB3.out.cell (by exact KB.out.2)).trans (cell_of_row _ _ 1 _ _ _ KB.out.1)
    have r2 : wr.cell? ⟨w.heap.size, 2, none⟩ = some (.int .u64 150) := (HB3.out.cell (by exact KB.out.2)).trans (cell_of_row _ _ 2 _ _ _ KB.out.1)
    cases qs with
    | nil =>
      have e0 : errW true c n [] = .iface 47 (.agg #[.int .i64 c, .int .i64 n]) := rfl
      rw [e0]
      have hla : a.block < w.heap.size := cell_lt HA.out.1
      have htb' := HA.out.2.lt
      have hs := slotF_below HA.out.2 HB1.out htb'
      have htb := hs.lt
      have el := elemVPF a ⟨tb, 0, none⟩ wr ((HB1.out.cell hla).trans HA.out.1)
      obtain ⟨W2, hW2⟩ : ∃ W2, W2 = wr.alloc (.cells #[.int .i64 c, .int .i64 n] 47) := ⟨_, rfl⟩
      obtain ⟨o0, o1, q0, q1, p0, p1⟩ : SlotF W2 tb := by rw [hW2]; exact hs.alloc _
      have st := setF ⟨tb, 0, none⟩ ⟨wr.heap.size, 0, none⟩ c n o0 o1 W2 (by rw [hW2]; rw [World.cell?_alloc_at _ _ _ _ (by simp)]; rfl) (by rw [hW2]; show World.cell? _ ⟨wr.heap.size, 0 + 1, none⟩ = _; rw [World.cell?_alloc_at _ _ _ _ (by simp)]; rfl)
        q0 (by show World.cell? _ ⟨tb, 0 + 1, none⟩ = _; rw [World.cell?_setCell_other _ _ _ _ (fun e => by injection e with _ e _; omega)]; exact q1) p0 (by rw [World.frozen?_setCell]; exact p1)
      rw [hW2] at st
      have HFIN := Lib.hid (fun o1 => fin_FW hs (below_grown HB1.out (Nat.le_refl _) (some tb)) c n o1)
      clear q0 q1 p0 p1 hs hW2 hla htb'
      go_wp2_with fail
      go_ret
      exact HFIN.out _
    | cons q qs =>
      obtain ⟨t, v, hv⟩ := errW_iface true c n qs
      have e0 : errW true c n (q :: qs) = .iface 52 (.agg #[.string q, errW true c n qs]) := rfl
      rw [e0, hv]
      have HV := Lib.hid hv
      clear hv e0
      have HM := Lib.hid (size_W q (.iface t v))
      go_wp2_with fail
      refine (within_unwrap q (.iface t v) _).mono ?_
      rintro e w1 ⟨rfl, b1⟩
      have HB2 := Lib.hid (HB1.out.trans (b1.mono HB1.out.size))
      have HB4 := Lib.hid (HB3.out.trans (b1.mono HB3.out.size))
      clear b1 r0 r1 r2
      go_wp2_with fail
      go_roundw
      case rel => exact ⟨qs, HV.out.symm, HB2.out, HB4.out⟩
      case measure => exact HM.out
end Go.Proofs.YtnbeeahfohfgoaaDoor
