/-
  errors.As at *api.Code and *api.Fault, on an error of type api.Fault: Go's own text of errors.As and errors.as is walked.
-/
import Derived.Test.YtdnmgemjhpkekaaGreatDoorErrAs
import Derived.Below
import Derived.Lib.Hide
import Derived.Laws.AppendOwn
import Derived.OwnWalk
import Derived.Deep.Draws
namespace Go.Proofs.YtdnmgemjhpkekaaGreatDoor.errAs
open Go.RowKit Go.Extern.Stop Go.Stop Go.Extern

/-- The variable errors.errorType holds what start-up code lays. -/
def ErrT (w : World) : Prop := w.cell? ⟨0, 0, none⟩ = some (.iface 157 (.agg #[.pointer (some ⟨3, 28, none⟩)]))
theorem cell_lt {w : World} {a : Addr} {v : Value} (h : w.cell? a = some v) : a.block < w.heap.size := by
  rcases Nat.lt_or_ge a.block w.heap.size with h' | h'
  · exact h'
  · simp [World.cell?, Array.getElem?_eq_none h'] at h
theorem ErrT.lt {w : World} (h : ErrT w) : 0 < w.heap.size := cell_lt h
theorem ErrT.alloc {w : World} (h : ErrT w) (o : Obj) : ErrT (w.alloc o) := by
  unfold ErrT
  rw [World.cell?_alloc_lt _ _ ⟨0, 0, none⟩ h.lt]; exact h
theorem ErrT.alloc2 {w : World} (h : ErrT w) (o1 o2 : Obj) : ((w.alloc o1).alloc o2).cell? ⟨0, 0, none⟩ = some (.iface 157 (.agg #[.pointer (some ⟨3, 28, none⟩)])) := (h.alloc o1).alloc o2
theorem ErrT.below {w w' : World} {B : Nat} (h : ErrT w) (hb : Below B w w') (hB : 0 < B) : ErrT w' := (hb.cell (by exact hB)).trans h

/-- Block tb is a variable of type api.Code, api.Fault. -/
def SlotC (w : World) (tb : Nat) : Prop := ∃ o, w.cell? ⟨tb, 0, none⟩ = some o ∧ w.frozen? ⟨tb, 0, none⟩ = false
def SlotF (w : World) (tb : Nat) : Prop := ∃ o0 o1, w.cell? ⟨tb, 0, none⟩ = some o0 ∧ w.cell? ⟨tb, 1, none⟩ = some o1 ∧ w.frozen? ⟨tb, 0, none⟩ = false ∧ w.frozen? ⟨tb, 1, none⟩ = false
theorem SlotC.lt {w : World} {tb : Nat} (h : SlotC w tb) : tb < w.heap.size := by obtain ⟨_, h, _⟩ := h; exact cell_lt h
theorem SlotF.lt {w : World} {tb : Nat} (h : SlotF w tb) : tb < w.heap.size := by obtain ⟨_, _, h, _⟩ := h; exact cell_lt h
theorem SlotC.alloc {w : World} {tb : Nat} (h : SlotC w tb) (o : Obj) : SlotC (w.alloc o) tb := by
  have hl := h.lt
  obtain ⟨x, h1, h2⟩ := h
  exact ⟨x, by rw [World.cell?_alloc_lt _ _ ⟨tb, 0, none⟩ hl]; exact h1, by rw [World.frozen?_alloc_old _ _ ⟨tb, 0, none⟩ (Nat.ne_of_lt hl)]; exact h2⟩
theorem SlotF.alloc {w : World} {tb : Nat} (h : SlotF w tb) (o : Obj) : SlotF (w.alloc o) tb := by
  have hl := h.lt
  obtain ⟨x, y, h1, h2, h3, h4⟩ := h
  exact ⟨x, y, by rw [World.cell?_alloc_lt _ _ ⟨tb, 0, none⟩ hl]; exact h1, by rw [World.cell?_alloc_lt _ _ ⟨tb, 1, none⟩ hl]; exact h2, by rw [World.frozen?_alloc_old _ _ ⟨tb, 0, none⟩ (Nat.ne_of_lt hl)]; exact h3, by rw [World.frozen?_alloc_old _ _ ⟨tb, 1, none⟩ (Nat.ne_of_lt hl)]; exact h4⟩
theorem SlotC.alloc2 {w : World} {tb : Nat} (h : SlotC w tb) (o1 o2 : Obj) : SlotC ((w.alloc o1).alloc o2) tb := (h.alloc o1).alloc o2
theorem SlotF.alloc2 {w : World} {tb : Nat} (h : SlotF w tb) (o1 o2 : Obj) : SlotF ((w.alloc o1).alloc o2) tb := (h.alloc o1).alloc o2
def AsPostC (w : World) (tb : Nat) (c : Int) (e : Ending) (w' : World) : Prop := e = .returned (.bool true) ∧ w.grownBy w' (some tb) ∧ w'.cell? ⟨tb, 0, none⟩ = some (.int .i64 c)
def AsPostF (w : World) (tb : Nat) (c n : Int) (e : Ending) (w' : World) : Prop := e = .returned (.bool true) ∧ w.grownBy w' (some tb) ∧ w'.cell? ⟨tb, 0, none⟩ = some (.int .i64 c) ∧ w'.cell? ⟨tb, 1, none⟩ = some (.int .i64 n)
theorem grown_alloc {a w : World} {row : Option Nat} (h : a.grownBy w row) (o : Obj) : a.grownBy (w.alloc o) row :=
  ⟨h.os, h.tape, h.output, Nat.le_trans h.size (by simp), fun i hi hne => (Below.heap_alloc w o i (Nat.lt_of_lt_of_le hi h.size)).trans (h.block i hi hne)⟩
theorem grown_set {a w : World} {g : Nat} (h : a.grownBy w (some g)) (i : Nat) (u : Value) : a.grownBy (w.setCell ⟨g, i, none⟩ u) (some g) :=
  ⟨h.os, h.tape, h.output, by simpa [World.setCell] using h.size, fun k hk hne => (Below.heap_setCell w ⟨g, i, none⟩ u k (by rintro rfl; exact hne rfl)).trans (h.block k hk hne)⟩
theorem grown_drewN {a w : World} {row : Option Nat} (h : a.grownBy w row) (n : Nat) : a.grownBy (w.drewN n) row := ⟨h.os, h.tape, h.output, h.size, h.block⟩
theorem AsPostC.drewN {w w' : World} {tb : Nat} {c : Int} {e : Ending} (h : AsPostC w tb c e w') (k : Nat) : AsPostC w tb c e (w'.drewN k) := ⟨h.1, grown_drewN h.2.1 k, h.2.2⟩
theorem AsPostF.drewN {w w' : World} {tb : Nat} {c n : Int} {e : Ending} (h : AsPostF w tb c n e w') (k : Nat) : AsPostF w tb c n e (w'.drewN k) := ⟨h.1, grown_drewN h.2.1 k, h.2.2⟩
theorem AsPostF.drew {w w' : World} {tb : Nat} {c n : Int} {e : Ending} (h : AsPostF w tb c n e w') : AsPostF w tb c n e w'.drew := h.drewN 1
theorem AsPostC.drew {w w' : World} {tb : Nat} {c : Int} {e : Ending} (h : AsPostC w tb c e w') : AsPostC w tb c e w'.drew := h.drewN 1
theorem fin_F {w : World} {tb : Nat} (hf : SlotF w tb) (c n : Int) (o1 o2 : Obj) : AsPostF w tb c n (.returned (.bool true)) ((((w.setCell ⟨tb, 0, none⟩ (.int .i64 c)).setCell ⟨tb, 1, none⟩ (.int .i64 n)).alloc o1).alloc o2) := by
  have hl := hf.lt
  obtain ⟨x, y, h1, h2, h3, h4⟩ := hf
  refine ⟨rfl, grown_alloc (grown_alloc (grown_set (grown_set (World.grownBy.refl _ _) 0 _) 1 _) _) _, ?_, ?_⟩
  · rw [World.cell?_alloc_lt _ _ ⟨tb, 0, none⟩ (by simp [World.setCell]; omega), World.cell?_alloc_lt _ _ ⟨tb, 0, none⟩ (by simpa [World.setCell] using hl), World.cell?_setCell_other _ ⟨tb, 1, none⟩ ⟨tb, 0, none⟩ _ (fun e => by injection e with _ e _; omega), World.cell?_setCell_same _ _ _ h1]
  · rw [World.cell?_alloc_lt _ _ ⟨tb, 1, none⟩ (by simp [World.setCell]; omega), World.cell?_alloc_lt _ _ ⟨tb, 1, none⟩ (by simpa [World.setCell] using hl)]
    exact World.cell?_setCell_same _ _ _ ((World.cell?_setCell_other _ ⟨tb, 0, none⟩ ⟨tb, 1, none⟩ _ (fun e => by injection e with _ e _; omega)).trans h2)
theorem AsPostC.alloc {w w' : World} {tb : Nat} {c : Int} {e : Ending} (h : AsPostC w tb c e w') (o : Obj) : AsPostC w tb c e (w'.alloc o) :=
  ⟨h.1, grown_alloc h.2.1 o, by rw [World.cell?_alloc_lt _ _ ⟨tb, 0, none⟩ (cell_lt h.2.2)]; exact h.2.2⟩
theorem fin_C0 {w : World} {tb : Nat} (hf : SlotC w tb) (c : Int) : AsPostC w tb c (.returned (.bool true)) (w.setCell ⟨tb, 0, none⟩ (.int .i64 c)) := by
  obtain ⟨x, h1, h3⟩ := hf
  exact ⟨rfl, grown_set (World.grownBy.refl _ _) 0 _, World.cell?_setCell_same _ _ _ h1⟩
theorem fin_C {w : World} {tb : Nat} (hf : SlotC w tb) (c : Int) (o1 o2 : Obj) : AsPostC w tb c (.returned (.bool true)) (((w.setCell ⟨tb, 0, none⟩ (.int .i64 c)).alloc o1).alloc o2) := by
  have hl := hf.lt
  obtain ⟨x, h1, h3⟩ := hf
  refine ⟨rfl, grown_alloc (grown_alloc (grown_set (World.grownBy.refl _ _) 0 _) _) _, ?_⟩
  rw [World.cell?_alloc_lt _ _ ⟨tb, 0, none⟩ (by simp [World.setCell]; omega), World.cell?_alloc_lt _ _ ⟨tb, 0, none⟩ (by simpa [World.setCell] using hl), World.cell?_setCell_same _ _ _ h1]
theorem grown_alloc2 {a w : World} {row : Option Nat} (h : a.grownBy w row) (o1 o2 : Obj) : a.grownBy ((w.alloc o1).alloc o2) row := grown_alloc (grown_alloc h o1) o2
theorem grown_trans {a b c : World} {row : Option Nat} (h : a.grownBy b row) (k : b.grownBy c row) : a.grownBy c row :=
  ⟨k.os.trans h.os, k.tape.trans h.tape, k.output.trans h.output, Nat.le_trans h.size k.size, fun i hi hne => (k.block i (Nat.lt_of_lt_of_le hi h.size) hne).trans (h.block i hi hne)⟩
theorem fin_C1 {w W : World} {tb : Nat} (hf : SlotC W tb) (hg : w.grownBy W (some tb)) (c : Int) : AsPostC w tb c (.returned (.bool true)) (W.setCell ⟨tb, 0, none⟩ (.int .i64 c)) := by
  obtain ⟨x, h1, h3⟩ := hf
  exact ⟨rfl, grown_set hg 0 _, World.cell?_setCell_same _ _ _ h1⟩

theorem noAsF (v : Value) (x : TypeId) (w : World) : (Instr.typeAssert (.iface 105 v) x 162 true).run Tryz.prog w = .ok (.tuple #[.nilIface, .bool false]) w := run_typeAssert_lacksB Tryz.underlying162 (by kernel_rfl) (by kernel_rfl) v x w
theorem unwrapsF (v : Value) (x : TypeId) (w : World) : (Instr.typeAssert (.iface 105 v) x 165 true).run Tryz.prog w = .ok (.tuple #[.iface 105 v, .bool true]) w := run_typeAssert_hasB Tryz.underlying165 (by kernel_rfl) v x w
theorem methodUnwrapF (v : Value) (w : World) : (Go.method 315 105 v "Unwrap").run Tryz.prog w = .ok (156, v) w := by kernel_rfl
set_option maxRecDepth 100000 in
theorem unwrap_F (c n : Int) (w : World) : Calls Tryz.prog 156 #[.agg #[.int .i64 c, .int .i64 n]] w fun e w' => e = .returned (.iface 73 (.int .i64 c)) ∧ w' = w.alloc (.cells #[.int .i64 c, .int .i64 n] 105) := by
  go_enter Tryz.func156, Tryz.ntmps156
  go_wp2_with fail
  go_ret
  exact ⟨rfl, rfl⟩

set_option maxRecDepth 100000 in
set_option maxHeartbeats 4000000 in
theorem as_F_F (c n : Int) (tb : Nat) (a : Addr) (w : World) (ha : w.cell? a = some (.pointer (some ⟨tb, 0, none⟩))) (hf : SlotF w tb) :
    Calls Tryz.prog 97 #[.iface 105 (.agg #[.int .i64 c, .int .i64 n]), .iface 127 (.pointer (some ⟨tb, 0, none⟩)), .agg #[.pointer (some ⟨3, 127, none⟩), .pointer (some a), .int .u64 150], .iface 157 (.agg #[.pointer (some ⟨3, 105, none⟩)])] w (AsPostF w tb c n) := by
  have h10 := @run_callFunc_extern Tryz.prog 106 _ ReflectliteType.typeOf Tryz.func106 (by kernel_rfl) (by kernel_rfl) (by kernel_rfl) (by kernel_rfl)
  have h35 := @run_callFunc_extern Tryz.prog 161 _ (ReflectliteType.relation "AssignableTo" ReflectliteType.assignableTo) Tryz.func161 (by kernel_rfl) (by kernel_rfl) (by kernel_rfl) (by kernel_rfl)
  have h11 := @run_callFunc_extern Tryz.prog 107 _ (ReflectliteValue.method (ReflectliteValue.valueError "reflectlite.Value.Elem" 0) ReflectliteValue.elem) Tryz.func107 (by kernel_rfl) (by kernel_rfl) (by kernel_rfl) (by kernel_rfl)
  have h6 := @run_callFunc_extern Tryz.prog 94 _ (fun args => ReflectliteValue.unpack (args.getD 0 (.tuple #[]))) Tryz.func94 (by kernel_rfl) (by kernel_rfl) (by kernel_rfl) (by kernel_rfl)
  have h12 := @run_callFunc_extern Tryz.prog 108 _ ReflectliteValue.set Tryz.func108 (by kernel_rfl) (by kernel_rfl) (by kernel_rfl) (by kernel_rfl)
  have tO := typeOfF
  have tO2 := typeOfC
  have mA := methodAssignableTo
  have a1 := assignableF
  have a2 := assignableFC
  have a3 := assignableC
  have v1 := valueOfF
  have v2 := valueOfC
  have nA := noAsF
  have hU := unwrapsF
  have mU := methodUnwrapF
  have hla : a.block < w.heap.size := cell_lt ha
  have htb := hf.lt
  have el := elemVPF a ⟨tb, 0, none⟩ ((w.alloc (.cells #[.pointer (some ⟨3, 127, none⟩), .pointer (some a), .int .u64 150] 142))) (by rw [World.cell?_alloc_lt _ _ a hla]; exact ha)
  obtain ⟨W2, hW2⟩ : ∃ W2, W2 = ((w.alloc (.cells #[.pointer (some ⟨3, 127, none⟩), .pointer (some a), .int .u64 150] 142)).alloc (.cells #[.int .i64 c, .int .i64 n] 105)) := ⟨_, rfl⟩
  have hs2 : SlotF W2 tb := by rw [hW2]; exact hf.alloc2 _ _
  obtain ⟨o0, o1, q0, q1, p0, p1⟩ := hs2
  have st := setF ⟨tb, 0, none⟩ ⟨w.heap.size + 1, 0, none⟩ c n o0 o1 W2 (by rw [hW2]; rw [World.cell?_alloc_at _ _ _ _ (by simp)]; rfl) (by rw [hW2]; show World.cell? _ ⟨w.heap.size + 1, 0 + 1, none⟩ = _; rw [World.cell?_alloc_at _ _ _ _ (by simp)]; rfl)
    q0 (by show World.cell? _ ⟨tb, 0 + 1, none⟩ = _; rw [World.cell?_setCell_other _ _ _ _ (fun e => by injection e with _ e _; omega)]; exact q1) p0 (by rw [World.frozen?_setCell]; exact p1)
  have HFIN := Lib.hid (fun o1 o2 => fin_F hf c n o1 o2)
  clear q0 q1 p0 p1 hf
  rw [hW2] at st
  go_enter Tryz.func97, Tryz.ntmps97
  go_wp2_with fail
  refine wp_loop_rounds 1 ?_
  rw [rounds_succ]
  go_wp2_with fail
  go_ret
  exact HFIN.out _ _

set_option maxRecDepth 100000 in
set_option maxHeartbeats 4000000 in
theorem as_F_C (c n : Int) (tb : Nat) (a : Addr) (w : World) (ha : w.cell? a = some (.pointer (some ⟨tb, 0, none⟩))) (hf : SlotC w tb) :
    Calls Tryz.prog 97 #[.iface 105 (.agg #[.int .i64 c, .int .i64 n]), .iface 125 (.pointer (some ⟨tb, 0, none⟩)), .agg #[.pointer (some ⟨3, 125, none⟩), .pointer (some a), .int .u64 150], .iface 157 (.agg #[.pointer (some ⟨3, 73, none⟩)])] w (AsPostC w tb c) := by
  have h10 := @run_callFunc_extern Tryz.prog 106 _ ReflectliteType.typeOf Tryz.func106 (by kernel_rfl) (by kernel_rfl) (by kernel_rfl) (by kernel_rfl)
  have h35 := @run_callFunc_extern Tryz.prog 161 _ (ReflectliteType.relation "AssignableTo" ReflectliteType.assignableTo) Tryz.func161 (by kernel_rfl) (by kernel_rfl) (by kernel_rfl) (by kernel_rfl)
  have h11 := @run_callFunc_extern Tryz.prog 107 _ (ReflectliteValue.method (ReflectliteValue.valueError "reflectlite.Value.Elem" 0) ReflectliteValue.elem) Tryz.func107 (by kernel_rfl) (by kernel_rfl) (by kernel_rfl) (by kernel_rfl)
  have h6 := @run_callFunc_extern Tryz.prog 94 _ (fun args => ReflectliteValue.unpack (args.getD 0 (.tuple #[]))) Tryz.func94 (by kernel_rfl) (by kernel_rfl) (by kernel_rfl) (by kernel_rfl)
  have h12 := @run_callFunc_extern Tryz.prog 108 _ ReflectliteValue.set Tryz.func108 (by kernel_rfl) (by kernel_rfl) (by kernel_rfl) (by kernel_rfl)
  have tO := typeOfF
  have tO2 := typeOfC
  have mA := methodAssignableTo
  have a1 := assignableF
  have a2 := assignableFC
  have a3 := assignableC
  have v1 := valueOfF
  have v2 := valueOfC
  have nA := noAsF
  have hU := unwrapsF
  have mU := methodUnwrapF
  have hla : a.block < w.heap.size := cell_lt ha
  have htb := hf.lt
  obtain ⟨W2, hW2⟩ : ∃ W2, W2 = ((w.alloc (.cells #[.pointer (some ⟨3, 125, none⟩), .pointer (some a), .int .u64 150] 142)).alloc (.cells #[.int .i64 c, .int .i64 n] 105)) := ⟨_, rfl⟩
  have hz2 : W2.heap.size = w.heap.size + 1 + 1 := by rw [hW2]; simp
  have el := elemVPC a ⟨tb, 0, none⟩ W2 (by rw [hW2, World.cell?_alloc_lt _ _ a (by simp; omega), World.cell?_alloc_lt _ _ a hla]; exact ha)
  have hs2 : SlotC (W2.alloc (.cells #[.int .i64 c] 73)) tb := by rw [hW2]; exact (hf.alloc2 _ _).alloc _
  obtain ⟨o0, q0, p0⟩ := hs2
  have st := setC ⟨tb, 0, none⟩ ⟨w.heap.size + 1 + 1, 0, none⟩ c o0 (W2.alloc (.cells #[.int .i64 c] 73)) (by rw [World.cell?_alloc_at _ _ _ _ hz2.symm]; rfl) q0 p0
  have HFIN := Lib.hid (fun o1 o2 o3 => fin_C1 (w := w) (((hf.alloc o1).alloc o2).alloc o3) (grown_alloc (grown_alloc2 (World.grownBy.refl w _) _ _) _) c)
  clear q0 p0 hf hz2
  rw [hW2] at st el
  clear hW2 W2
  go_enter Tryz.func97, Tryz.ntmps97
  go_wp2_with fail
  refine wp_loop_rounds 2 ?_
  rw [rounds_succ]
  go_wp2_with fail
  refine (unwrap_F c n _).mono ?_
  rintro e w1 ⟨rfl, rfl⟩
  go_wp2_with fail
  rw [rounds_succ]
  go_wp2_with fail
  go_ret
  exact HFIN.out _ _ _

set_option maxRecDepth 100000 in
set_option maxHeartbeats 4000000 in
theorem As_F_F (c n : Int) (tb : Nat) (w : World) (hg : ErrT w) (hf : SlotF w tb) :
    Calls Tryz.prog 79 #[.iface 105 (.agg #[.int .i64 c, .int .i64 n]), .iface 127 (.pointer (some ⟨tb, 0, none⟩))] w (AsPostF w tb c n) := by
  have h6 := @run_callFunc_extern Tryz.prog 94 _ (fun args => ReflectliteValue.unpack (args.getD 0 (.tuple #[]))) Tryz.func94 (by kernel_rfl) (by kernel_rfl) (by kernel_rfl) (by kernel_rfl)
  have h7 := @run_callFunc_extern Tryz.prog 95 _ (ReflectliteValue.methodAny (ReflectliteValue.valueError "reflectlite.Value.Type" 0) (fun t _ _ _ => ReflectliteType.toType t)) Tryz.func95 (by kernel_rfl) (by kernel_rfl) (by kernel_rfl) (by kernel_rfl)
  have h8 := @run_callFunc_extern Tryz.prog 96 _ (ReflectliteValue.method (ReflectliteValue.valueError "reflectlite.Value.IsNil" 0) ReflectliteValue.isNil) Tryz.func96 (by kernel_rfl) (by kernel_rfl) (by kernel_rfl) (by kernel_rfl)
  have h27 := @run_callFunc_extern Tryz.prog 151 _ (ReflectliteType.abiMethod fun t => do pure (.int .u8 (← Rtype.kind t))) Tryz.func151 (by kernel_rfl) (by kernel_rfl) (by kernel_rfl) (by kernel_rfl)
  have h37 := @run_callFunc_extern Tryz.prog 163 _ (ReflectliteType.method ReflectliteType.elem) Tryz.func163 (by kernel_rfl) (by kernel_rfl) (by kernel_rfl) (by kernel_rfl)
  have h38 := @run_callFunc_extern Tryz.prog 164 _ (ReflectliteType.relation "Implements" ReflectliteType.implements_) Tryz.func164 (by kernel_rfl) (by kernel_rfl) (by kernel_rfl) (by kernel_rfl)
  have f6 := valueOfPF
  have f7 := typePF
  have mK := methodKind
  have mE := methodElem
  have mI := methodImplements
  have k27 := kindPF
  have k25 := kindF
  have e27 := elemPF
  have i25 := implementsF
  have n8 := fun a W => isNilPF a ⟨tb, 0, none⟩ W
  have hgA := hg.alloc2
  have htb := hf.lt
  have HF := Lib.hid hf
  clear hf
  go_enter Tryz.func79, Tryz.ntmps79
  go_wp2_with fail
  refine (as_F_F c n tb ⟨w.heap.size, 0, none⟩ _ (by simp) (HF.out.alloc2 _ _)).mono ?_
  rintro e w1 ⟨rfl, h1, h2⟩
  go_wp2_with fail
  go_ret
  exact ⟨rfl, grown_trans (grown_alloc2 (World.grownBy.refl _ _) _ _) h1, h2⟩

set_option maxRecDepth 100000 in
set_option maxHeartbeats 4000000 in
theorem As_F_C (c n : Int) (tb : Nat) (w : World) (hg : ErrT w) (hf : SlotC w tb) :
    Calls Tryz.prog 79 #[.iface 105 (.agg #[.int .i64 c, .int .i64 n]), .iface 125 (.pointer (some ⟨tb, 0, none⟩))] w (AsPostC w tb c) := by
  have h6 := @run_callFunc_extern Tryz.prog 94 _ (fun args => ReflectliteValue.unpack (args.getD 0 (.tuple #[]))) Tryz.func94 (by kernel_rfl) (by kernel_rfl) (by kernel_rfl) (by kernel_rfl)
  have h7 := @run_callFunc_extern Tryz.prog 95 _ (ReflectliteValue.methodAny (ReflectliteValue.valueError "reflectlite.Value.Type" 0) (fun t _ _ _ => ReflectliteType.toType t)) Tryz.func95 (by kernel_rfl) (by kernel_rfl) (by kernel_rfl) (by kernel_rfl)
  have h8 := @run_callFunc_extern Tryz.prog 96 _ (ReflectliteValue.method (ReflectliteValue.valueError "reflectlite.Value.IsNil" 0) ReflectliteValue.isNil) Tryz.func96 (by kernel_rfl) (by kernel_rfl) (by kernel_rfl) (by kernel_rfl)
  have h27 := @run_callFunc_extern Tryz.prog 151 _ (ReflectliteType.abiMethod fun t => do pure (.int .u8 (← Rtype.kind t))) Tryz.func151 (by kernel_rfl) (by kernel_rfl) (by kernel_rfl) (by kernel_rfl)
  have h37 := @run_callFunc_extern Tryz.prog 163 _ (ReflectliteType.method ReflectliteType.elem) Tryz.func163 (by kernel_rfl) (by kernel_rfl) (by kernel_rfl) (by kernel_rfl)
  have h38 := @run_callFunc_extern Tryz.prog 164 _ (ReflectliteType.relation "Implements" ReflectliteType.implements_) Tryz.func164 (by kernel_rfl) (by kernel_rfl) (by kernel_rfl) (by kernel_rfl)
  have f6 := valueOfPC
  have f7 := typePC
  have mK := methodKind
  have mE := methodElem
  have mI := methodImplements
  have k27 := kindPC
  have k25 := kindC
  have e27 := elemPC
  have i25 := implementsC
  have n8 := fun a W => isNilPC a ⟨tb, 0, none⟩ W
  have hgA := hg.alloc2
  have htb := hf.lt
  have HF := Lib.hid hf
  clear hf
  go_enter Tryz.func79, Tryz.ntmps79
  go_wp2_with fail
  refine (as_F_C c n tb ⟨w.heap.size, 0, none⟩ _ (by simp) (HF.out.alloc2 _ _)).mono ?_
  rintro e w1 ⟨rfl, h1, h2⟩
  go_wp2_with fail
  go_ret
  exact ⟨rfl, grown_trans (grown_alloc2 (World.grownBy.refl _ _) _ _) h1, h2⟩
end Go.Proofs.YtdnmgemjhpkekaaGreatDoor.errAs
