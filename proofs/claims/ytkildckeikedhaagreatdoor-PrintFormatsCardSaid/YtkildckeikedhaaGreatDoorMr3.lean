/-
  errors.As at *api.Code and *api.Fault, on an error of type api.Fault: Go's own text of errors.As and errors.as is walked.
-/
import Derived.Test.YtkildckeikedhaaGreatDoorMr2
import Derived.Below
import Derived.Lib.Hide
import Derived.Laws.AppendOwn
import Derived.OwnWalk
import Derived.Deep.Draws
import Derived.Tactics
import Derived.Tactics2
import Derived.Defers
import Derived.Recover
import Derived.Laws.Pointers
import Derived.Laws.Rows
import Derived.Test.YtkildckeikedhaaGreatDoorMr0
import Derived.WalkKit
import Derived.ProofKit
import Derived.OpenShut
import Derived.Deep.RegionHeld3
import Derived.WalkMore
import Derived.StillTailTactics
import Derived.Deep.Cut
import Derived.WalkLawsBesides
import Derived.Maps.AppendAt
import Derived.Laws.OwnMore
namespace Go.Proofs.YtkildckeikedhaaGreatDoor.errAs
open Go.RowKit Go.Extern.Stop Go.Stop Go.Extern

def ErrT (w : World) : Prop := w.cell? ⟨0, 0, none⟩ = some (.iface 157 (.agg #[.pointer (some ⟨3, 24, none⟩)]))
theorem cell_lt {w : World} {a : Addr} {v : Value} (h : w.cell? a = some v) : a.block < w.heap.size := by
 rcases Nat.lt_or_ge a.block w.heap.size with h' | h'
 ·exact h'
 ·simp [World.cell?, Array.getElem?_eq_none h'] at h
theorem ErrT.lt {w : World} (h : ErrT w) : 0 < w.heap.size := cell_lt h
theorem ErrT.alloc {w : World} (h : ErrT w) (o : Obj) : ErrT (w.alloc o) := by
 unfold ErrT
 rw [World.cell?_alloc_lt _ _ ⟨0, 0, none⟩ h.lt]; exact h
theorem ErrT.alloc2 {w : World} (h : ErrT w) (o1 o2 : Obj) : ((w.alloc o1).alloc o2).cell? ⟨0, 0, none⟩ = some (.iface 157 (.agg #[.pointer (some ⟨3, 24, none⟩)])) := (h.alloc o1).alloc o2
theorem ErrT.below {w w' : World} {B : Nat} (h : ErrT w) (hb : Below B w w') (hB : 0 < B) : ErrT w' := (hb.cell (by exact hB)).trans h

def SlotC (w : World) (tb : Nat) : Prop := ∃ o, w.cell? ⟨tb, 0, none⟩ = some o ∧ w.frozen? ⟨tb, 0, none⟩ = false
def SlotF (w : World) (tb : Nat) : Prop := ∃ o0 o1, w.cell? ⟨tb, 0, none⟩ = some o0 ∧ w.cell? ⟨tb, 1, none⟩ = some o1 ∧ w.frozen? ⟨tb, 0, none⟩ = false ∧ w.frozen? ⟨tb, 1, none⟩ = false
theorem SlotC.lt {w : World} {tb : Nat} (h : SlotC w tb) : tb < w.heap.size := by obtain ⟨_, h, _⟩ := h; exact cell_lt h
theorem SlotF.lt {w : World} {tb : Nat} (h : SlotF w tb) : tb < w.heap.size := by obtain ⟨_, _, h, _⟩ := h; exact cell_lt h
theorem SlotC.alloc {w : World} {tb : Nat} (h : SlotC w tb) (o : Obj) : SlotC (w.alloc o) tb := by
 have hl := h.lt
 obtain ⟨x, h1, h2⟩ := h
 exact ⟨x, by rw [World.cell?_alloc_lt _ _ ⟨tb, 0, none⟩ hl]; exact h1, by rw [World.frozen?_alloc_old _ _ ⟨tb, 0, none⟩ (Nat.ne_of_lt hl)]; exact h2⟩
theorem SlotF.alloc {w : World} {tb : Nat} (h : SlotF w tb) (o : Obj) : SlotF (w.alloc o) tb := by
 have hl := h.lt
 obtain ⟨x, y, h1, h2, h3, h4⟩ := h
 exact ⟨x, y, by rw [World.cell?_alloc_lt _ _ ⟨tb, 0, none⟩ hl]; exact h1, by rw [World.cell?_alloc_lt _ _ ⟨tb, 1, none⟩ hl]; exact h2, by rw [World.frozen?_alloc_old _ _ ⟨tb, 0, none⟩ (Nat.ne_of_lt hl)]; exact h3, by rw [World.frozen?_alloc_old _ _ ⟨tb, 1, none⟩ (Nat.ne_of_lt hl)]; exact h4⟩
theorem SlotC.alloc2 {w : World} {tb : Nat} (h : SlotC w tb) (o1 o2 : Obj) : SlotC ((w.alloc o1).alloc o2) tb := (h.alloc o1).alloc o2
theorem SlotF.alloc2 {w : World} {tb : Nat} (h : SlotF w tb) (o1 o2 : Obj) : SlotF ((w.alloc o1).alloc o2) tb := (h.alloc o1).alloc o2
def AsPostC (w : World) (tb : Nat) (c : Int) (e : Ending) (w' : World) : Prop := e = .returned (.bool true) ∧ w.grownBy w' (some tb) ∧ w'.cell? ⟨tb, 0, none⟩ = some (.int .i64 c)
def AsPostF (w : World) (tb : Nat) (c n : Int) (e : Ending) (w' : World) : Prop := e = .returned (.bool true) ∧ w.grownBy w' (some tb) ∧ w'.cell? ⟨tb, 0, none⟩ = some (.int .i64 c) ∧ w'.cell? ⟨tb, 1, none⟩ = some (.int .i64 n)
theorem grown_alloc {a w : World} {row : Option Nat} (h : a.grownBy w row) (o : Obj) : a.grownBy (w.alloc o) row :=
 ⟨h.os, h.tape, h.output, Nat.le_trans h.size (by simp), fun i hi hne => (Below.heap_alloc w o i (Nat.lt_of_lt_of_le hi h.size)).trans (h.block i hi hne)⟩
theorem grown_set {a w : World} {g : Nat} (h : a.grownBy w (some g)) (i : Nat) (u : Value) : a.grownBy (w.setCell ⟨g, i, none⟩ u) (some g) :=
 ⟨h.os, h.tape, h.output, by simpa [World.setCell] using h.size, fun k hk hne => (Below.heap_setCell w ⟨g, i, none⟩ u k (by rintro rfl; exact hne rfl)).trans (h.block k hk hne)⟩
theorem grown_drewN {a w : World} {row : Option Nat} (h : a.grownBy w row) (n : Nat) : a.grownBy (w.drewN n) row := ⟨h.os, h.tape, h.output, h.size, h.block⟩
theorem AsPostC.drewN {w w' : World} {tb : Nat} {c : Int} {e : Ending} (h : AsPostC w tb c e w') (k : Nat) : AsPostC w tb c e (w'.drewN k) := ⟨h.1, grown_drewN h.2.1 k, h.2.2⟩
theorem AsPostF.drewN {w w' : World} {tb : Nat} {c n : Int} {e : Ending} (h : AsPostF w tb c n e w') (k : Nat) : AsPostF w tb c n e (w'.drewN k) := ⟨h.1, grown_drewN h.2.1 k, h.2.2⟩
theorem AsPostF.drew {w w' : World} {tb : Nat} {c n : Int} {e : Ending} (h : AsPostF w tb c n e w') : AsPostF w tb c n e w'.drew := h.drewN 1
theorem AsPostC.drew {w w' : World} {tb : Nat} {c : Int} {e : Ending} (h : AsPostC w tb c e w') : AsPostC w tb c e w'.drew := h.drewN 1
theorem fin_F {w : World} {tb : Nat} (hf : SlotF w tb) (c n : Int) (o1 o2 : Obj) : AsPostF w tb c n (.returned (.bool true)) ((((w.setCell ⟨tb, 0, none⟩ (.int .i64 c)).setCell ⟨tb, 1, none⟩ (.int .i64 n)).alloc o1).alloc o2) := by
 have hl := hf.lt
 obtain ⟨x, y, h1, h2, h3, h4⟩ := hf
 refine ⟨rfl, grown_alloc (grown_alloc (grown_set (grown_set (World.grownBy.refl _ _) 0 _) 1 _) _) _, ?_, ?_⟩
 ·rw [World.cell?_alloc_lt _ _ ⟨tb, 0, none⟩ (by simp [World.setCell]; omega), World.cell?_alloc_lt _ _ ⟨tb, 0, none⟩ (by simpa [World.setCell] using hl), World.cell?_setCell_other _ ⟨tb, 1, none⟩ ⟨tb, 0, none⟩ _ (fun e => by injection e with _ e _; omega), World.cell?_setCell_same _ _ _ h1]
 ·rw [World.cell?_alloc_lt _ _ ⟨tb, 1, none⟩ (by simp [World.setCell]; omega), World.cell?_alloc_lt _ _ ⟨tb, 1, none⟩ (by simpa [World.setCell] using hl)]
  exact World.cell?_setCell_same _ _ _ ((World.cell?_setCell_other _ ⟨tb, 0, none⟩ ⟨tb, 1, none⟩ _ (fun e => by injection e with _ e _; omega)).trans h2)
theorem AsPostC.alloc {w w' : World} {tb : Nat} {c : Int} {e : Ending} (h : AsPostC w tb c e w') (o : Obj) : AsPostC w tb c e (w'.alloc o) :=
 ⟨h.1, grown_alloc h.2.1 o, by rw [World.cell?_alloc_lt _ _ ⟨tb, 0, none⟩ (cell_lt h.2.2)]; exact h.2.2⟩
theorem fin_C0 {w : World} {tb : Nat} (hf : SlotC w tb) (c : Int) : AsPostC w tb c (.returned (.bool true)) (w.setCell ⟨tb, 0, none⟩ (.int .i64 c)) := by
 obtain ⟨x, h1, h3⟩ := hf
 exact ⟨rfl, grown_set (World.grownBy.refl _ _) 0 _, World.cell?_setCell_same _ _ _ h1⟩
theorem fin_C {w : World} {tb : Nat} (hf : SlotC w tb) (c : Int) (o1 o2 : Obj) : AsPostC w tb c (.returned (.bool true)) (((w.setCell ⟨tb, 0, none⟩ (.int .i64 c)).alloc o1).alloc o2) := by
 have hl := hf.lt
 obtain ⟨x, h1, h3⟩ := hf
 refine ⟨rfl, grown_alloc (grown_alloc (grown_set (World.grownBy.refl _ _) 0 _) _) _, ?_⟩
 rw [World.cell?_alloc_lt _ _ ⟨tb, 0, none⟩ (by simp [World.setCell]; omega), World.cell?_alloc_lt _ _ ⟨tb, 0, none⟩ (by simpa [World.setCell] using hl), World.cell?_setCell_same _ _ _ h1]
theorem grown_alloc2 {a w : World} {row : Option Nat} (h : a.grownBy w row) (o1 o2 : Obj) : a.grownBy ((w.alloc o1).alloc o2) row := grown_alloc (grown_alloc h o1) o2
theorem grown_trans {a b c : World} {row : Option Nat} (h : a.grownBy b row) (k : b.grownBy c row) : a.grownBy c row :=
 ⟨k.os.trans h.os, k.tape.trans h.tape, k.output.trans h.output, Nat.le_trans h.size k.size, fun i hi hne => (k.block i (Nat.lt_of_lt_of_le hi h.size) hne).trans (h.block i hi hne)⟩
theorem fin_C1 {w W : World} {tb : Nat} (hf : SlotC W tb) (hg : w.grownBy W (some tb)) (c : Int) : AsPostC w tb c (.returned (.bool true)) (W.setCell ⟨tb, 0, none⟩ (.int .i64 c)) := by
 obtain ⟨x, h1, h3⟩ := hf
 exact ⟨rfl, grown_set hg 0 _, World.cell?_setCell_same _ _ _ h1⟩

theorem noAsF (v : Value) (x : TypeId) (w : World) : (Instr.typeAssert (.iface 94 v) x 162 true).run Tryz.prog w = .ok (.tuple #[.nilIface, .bool false]) w := run_typeAssert_lacksB Tryz.underlying162 (by kernel_rfl) (by kernel_rfl) v x w
theorem unwrapsF (v : Value) (x : TypeId) (w : World) : (Instr.typeAssert (.iface 94 v) x 165 true).run Tryz.prog w = .ok (.tuple #[.iface 94 v, .bool true]) w := run_typeAssert_hasB Tryz.underlying165 (by kernel_rfl) v x w
theorem methodUnwrapF (v : Value) (w : World) : (Go.method 316 94 v "Unwrap").run Tryz.prog w = .ok (156, v) w := by kernel_rfl
set_option maxRecDepth 100000 in
theorem unwrap_F (c n : Int) (w : World) : Calls Tryz.prog 156 #[.agg #[.int .i64 c, .int .i64 n]] w fun e w' => e = .returned (.iface 63 (.int .i64 c)) ∧ w' = w.alloc (.cells #[.int .i64 c, .int .i64 n] 94) := by
 go_enter Tryz.func156, Tryz.ntmps156
 go_wp2_with fail
 go_ret
 exact ⟨rfl, rfl⟩

set_option maxRecDepth 100000 in
set_option maxHeartbeats 4000000 in
theorem as_F_F (c n : Int) (tb : Nat) (a : Addr) (w : World) (ha : w.cell? a = some (.pointer (some ⟨tb, 0, none⟩))) (hf : SlotF w tb) :
  Calls Tryz.prog 82 #[.iface 94 (.agg #[.int .i64 c, .int .i64 n]), .iface 117 (.pointer (some ⟨tb, 0, none⟩)), .agg #[.pointer (some ⟨3, 117, none⟩), .pointer (some a), .int .u64 150], .iface 157 (.agg #[.pointer (some ⟨3, 94, none⟩)])] w (AsPostF w tb c n) := by
 have h10 := @run_callFunc_extern Tryz.prog 104 _ ReflectliteType.typeOf Tryz.func104 (by kernel_rfl) (by kernel_rfl) (by kernel_rfl) (by kernel_rfl)
 have h35 := @run_callFunc_extern Tryz.prog 161 _ (ReflectliteType.relation "AssignableTo" ReflectliteType.assignableTo) Tryz.func161 (by kernel_rfl) (by kernel_rfl) (by kernel_rfl) (by kernel_rfl)
 have h11 := @run_callFunc_extern Tryz.prog 105 _ (ReflectliteValue.method (ReflectliteValue.valueError "reflectlite.Value.Elem" 0) ReflectliteValue.elem) Tryz.func105 (by kernel_rfl) (by kernel_rfl) (by kernel_rfl) (by kernel_rfl)
 have h6 := @run_callFunc_extern Tryz.prog 79 _ (fun args => ReflectliteValue.unpack (args.getD 0 (.tuple #[]))) Tryz.func79 (by kernel_rfl) (by kernel_rfl) (by kernel_rfl) (by kernel_rfl)
 have h12 := @run_callFunc_extern Tryz.prog 106 _ ReflectliteValue.set Tryz.func106 (by kernel_rfl) (by kernel_rfl) (by kernel_rfl) (by kernel_rfl)
 have tO := typeOfF
 have tO2 := typeOfC
 have mA := methodAssignableTo
 have a1 := assignableF
 have a2 := assignableFC
 have a3 := assignableC
 have v1 := valueOfF
 have v2 := valueOfC
 have nA := noAsF
 have hU := unwrapsF
 have mU := methodUnwrapF
 have hla : a.block < w.heap.size := cell_lt ha
 have htb := hf.lt
 have el := elemVPF a ⟨tb, 0, none⟩ ((w.alloc (.cells #[.pointer (some ⟨3, 117, none⟩), .pointer (some a), .int .u64 150] 132))) (by rw [World.cell?_alloc_lt _ _ a hla]; exact ha)
 obtain ⟨W2, hW2⟩ : ∃ W2, W2 = ((w.alloc (.cells #[.pointer (some ⟨3, 117, none⟩), .pointer (some a), .int .u64 150] 132)).alloc (.cells #[.int .i64 c, .int .i64 n] 94)) := ⟨_, rfl⟩
 have hs2 : SlotF W2 tb := by rw [hW2]; exact hf.alloc2 _ _
 obtain ⟨o0, o1, q0, q1, p0, p1⟩ := hs2
 have st := setF ⟨tb, 0, none⟩ ⟨w.heap.size + 1, 0, none⟩ c n o0 o1 W2 (by rw [hW2]; rw [World.cell?_alloc_at _ _ _ _ (by simp)]; rfl) (by rw [hW2]; show World.cell? _ ⟨w.heap.size + 1, 0 + 1, none⟩ = _; rw [World.cell?_alloc_at _ _ _ _ (by simp)]; rfl)
  q0 (by show World.cell? _ ⟨tb, 0 + 1, none⟩ = _; rw [World.cell?_setCell_other _ _ _ _ (fun e => by injection e with _ e _; omega)]; exact q1) p0 (by rw [World.frozen?_setCell]; exact p1)
 have HFIN := hiD (fun o1 o2 => fin_F hf c n o1 o2)
 clear q0 q1 p0 p1 hf
 rw [hW2] at st
 go_enter Tryz.func82, Tryz.ntmps82
 go_wp2_with fail
 refine wp_loop_rounds 1 ?_
 rw [rounds_succ]
 go_wp2_with fail
 go_ret
 exact HFIN.out _ _

set_option maxRecDepth 100000 in
set_option maxHeartbeats 4000000 in
theorem as_F_C (c n : Int) (tb : Nat) (a : Addr) (w : World) (ha : w.cell? a = some (.pointer (some ⟨tb, 0, none⟩))) (hf : SlotC w tb) :
  Calls Tryz.prog 82 #[.iface 94 (.agg #[.int .i64 c, .int .i64 n]), .iface 115 (.pointer (some ⟨tb, 0, none⟩)), .agg #[.pointer (some ⟨3, 115, none⟩), .pointer (some a), .int .u64 150], .iface 157 (.agg #[.pointer (some ⟨3, 63, none⟩)])] w (AsPostC w tb c) := by
 have h10 := @run_callFunc_extern Tryz.prog 104 _ ReflectliteType.typeOf Tryz.func104 (by kernel_rfl) (by kernel_rfl) (by kernel_rfl) (by kernel_rfl)
 have h35 := @run_callFunc_extern Tryz.prog 161 _ (ReflectliteType.relation "AssignableTo" ReflectliteType.assignableTo) Tryz.func161 (by kernel_rfl) (by kernel_rfl) (by kernel_rfl) (by kernel_rfl)
 have h11 := @run_callFunc_extern Tryz.prog 105 _ (ReflectliteValue.method (ReflectliteValue.valueError "reflectlite.Value.Elem" 0) ReflectliteValue.elem) Tryz.func105 (by kernel_rfl) (by kernel_rfl) (by kernel_rfl) (by kernel_rfl)
 have h6 := @run_callFunc_extern Tryz.prog 79 _ (fun args => ReflectliteValue.unpack (args.getD 0 (.tuple #[]))) Tryz.func79 (by kernel_rfl) (by kernel_rfl) (by kernel_rfl) (by kernel_rfl)
 have h12 := @run_callFunc_extern Tryz.prog 106 _ ReflectliteValue.set Tryz.func106 (by kernel_rfl) (by kernel_rfl) (by kernel_rfl) (by kernel_rfl)
 have tO := typeOfF
 have tO2 := typeOfC
 have mA := methodAssignableTo
 have a1 := assignableF
 have a2 := assignableFC
 have a3 := assignableC
 have v1 := valueOfF
 have v2 := valueOfC
 have nA := noAsF
 have hU := unwrapsF
 have mU := methodUnwrapF
 have hla : a.block < w.heap.size := cell_lt ha
 have htb := hf.lt
 obtain ⟨W2, hW2⟩ : ∃ W2, W2 = ((w.alloc (.cells #[.pointer (some ⟨3, 115, none⟩), .pointer (some a), .int .u64 150] 132)).alloc (.cells #[.int .i64 c, .int .i64 n] 94)) := ⟨_, rfl⟩
 have hz2 : W2.heap.size = w.heap.size + 1 + 1 := by rw [hW2]; simp
 have el := elemVPC a ⟨tb, 0, none⟩ W2 (by rw [hW2, World.cell?_alloc_lt _ _ a (by simp; omega), World.cell?_alloc_lt _ _ a hla]; exact ha)
 have hs2 : SlotC (W2.alloc (.cells #[.int .i64 c] 63)) tb := by rw [hW2]; exact (hf.alloc2 _ _).alloc _
 obtain ⟨o0, q0, p0⟩ := hs2
 have st := setC ⟨tb, 0, none⟩ ⟨w.heap.size + 1 + 1, 0, none⟩ c o0 (W2.alloc (.cells #[.int .i64 c] 63)) (by rw [World.cell?_alloc_at _ _ _ _ hz2.symm]; rfl) q0 p0
 have HFIN := hiD (fun o1 o2 o3 => fin_C1 (w := w) (((hf.alloc o1).alloc o2).alloc o3) (grown_alloc (grown_alloc2 (World.grownBy.refl w _) _ _) _) c)
 clear q0 p0 hf hz2
 rw [hW2] at st el
 clear hW2 W2
 go_enter Tryz.func82, Tryz.ntmps82
 go_wp2_with fail
 refine wp_loop_rounds 2 ?_
 rw [rounds_succ]
 go_wp2_with fail
 refine (unwrap_F c n _).mono ?_
 rintro e w1 ⟨rfl, rfl⟩
 go_wp2_with fail
 rw [rounds_succ]
 go_wp2_with fail
 go_ret
 exact HFIN.out _ _ _

set_option maxRecDepth 100000 in
set_option maxHeartbeats 4000000 in
theorem As_F_F (c n : Int) (tb : Nat) (w : World) (hg : ErrT w) (hf : SlotF w tb) :
  Calls Tryz.prog 56 #[.iface 94 (.agg #[.int .i64 c, .int .i64 n]), .iface 117 (.pointer (some ⟨tb, 0, none⟩))] w (AsPostF w tb c n) := by
 have h6 := @run_callFunc_extern Tryz.prog 79 _ (fun args => ReflectliteValue.unpack (args.getD 0 (.tuple #[]))) Tryz.func79 (by kernel_rfl) (by kernel_rfl) (by kernel_rfl) (by kernel_rfl)
 have h7 := @run_callFunc_extern Tryz.prog 80 _ (ReflectliteValue.methodAny (ReflectliteValue.valueError "reflectlite.Value.Type" 0) (fun t _ _ _ => ReflectliteType.toType t)) Tryz.func80 (by kernel_rfl) (by kernel_rfl) (by kernel_rfl) (by kernel_rfl)
 have h8 := @run_callFunc_extern Tryz.prog 81 _ (ReflectliteValue.method (ReflectliteValue.valueError "reflectlite.Value.IsNil" 0) ReflectliteValue.isNil) Tryz.func81 (by kernel_rfl) (by kernel_rfl) (by kernel_rfl) (by kernel_rfl)
 have h27 := @run_callFunc_extern Tryz.prog 150 _ (ReflectliteType.abiMethod fun t => do pure (.int .u8 (← Rtype.kind t))) Tryz.func150 (by kernel_rfl) (by kernel_rfl) (by kernel_rfl) (by kernel_rfl)
 have h37 := @run_callFunc_extern Tryz.prog 163 _ (ReflectliteType.method ReflectliteType.elem) Tryz.func163 (by kernel_rfl) (by kernel_rfl) (by kernel_rfl) (by kernel_rfl)
 have h38 := @run_callFunc_extern Tryz.prog 164 _ (ReflectliteType.relation "Implements" ReflectliteType.implements_) Tryz.func164 (by kernel_rfl) (by kernel_rfl) (by kernel_rfl) (by kernel_rfl)
 have f6 := valueOfPF
 have f7 := typePF
 have mK := methodKind
 have mE := methodElem
 have mI := methodImplements
 have k27 := kindPF
 have k25 := kindF
 have e27 := elemPF
 have i25 := implementsF
 have n8 := fun a W => isNilPF a ⟨tb, 0, none⟩ W
 have hgA := hg.alloc2
 have htb := hf.lt
 have HF := hiD hf
 clear hf
 go_enter Tryz.func56, Tryz.ntmps56
 go_wp2_with fail
 refine (as_F_F c n tb ⟨w.heap.size, 0, none⟩ _ (by simp) (HF.out.alloc2 _ _)).mono ?_
 rintro e w1 ⟨rfl, h1, h2⟩
 go_wp2_with fail
 go_ret
 exact ⟨rfl, grown_trans (grown_alloc2 (World.grownBy.refl _ _) _ _) h1, h2⟩

set_option maxRecDepth 100000 in
set_option maxHeartbeats 4000000 in
theorem As_F_C (c n : Int) (tb : Nat) (w : World) (hg : ErrT w) (hf : SlotC w tb) :
  Calls Tryz.prog 56 #[.iface 94 (.agg #[.int .i64 c, .int .i64 n]), .iface 115 (.pointer (some ⟨tb, 0, none⟩))] w (AsPostC w tb c) := by
 have h6 := @run_callFunc_extern Tryz.prog 79 _ (fun args => ReflectliteValue.unpack (args.getD 0 (.tuple #[]))) Tryz.func79 (by kernel_rfl) (by kernel_rfl) (by kernel_rfl) (by kernel_rfl)
 have h7 := @run_callFunc_extern Tryz.prog 80 _ (ReflectliteValue.methodAny (ReflectliteValue.valueError "reflectlite.Value.Type" 0) (fun t _ _ _ => ReflectliteType.toType t)) Tryz.func80 (by kernel_rfl) (by kernel_rfl) (by kernel_rfl) (by kernel_rfl)
 have h8 := @run_callFunc_extern Tryz.prog 81 _ (ReflectliteValue.method (ReflectliteValue.valueError "reflectlite.Value.IsNil" 0) ReflectliteValue.isNil) Tryz.func81 (by kernel_rfl) (by kernel_rfl) (by kernel_rfl) (by kernel_rfl)
 have h27 := @run_callFunc_extern Tryz.prog 150 _ (ReflectliteType.abiMethod fun t => do pure (.int .u8 (← Rtype.kind t))) Tryz.func150 (by kernel_rfl) (by kernel_rfl) (by kernel_rfl) (by kernel_rfl)
 have h37 := @run_callFunc_extern Tryz.prog 163 _ (ReflectliteType.method ReflectliteType.elem) Tryz.func163 (by kernel_rfl) (by kernel_rfl) (by kernel_rfl) (by kernel_rfl)
 have h38 := @run_callFunc_extern Tryz.prog 164 _ (ReflectliteType.relation "Implements" ReflectliteType.implements_) Tryz.func164 (by kernel_rfl) (by kernel_rfl) (by kernel_rfl) (by kernel_rfl)
 have f6 := valueOfPC
 have f7 := typePC
 have mK := methodKind
 have mE := methodElem
 have mI := methodImplements
 have k27 := kindPC
 have k25 := kindC
 have e27 := elemPC
 have i25 := implementsC
 have n8 := fun a W => isNilPC a ⟨tb, 0, none⟩ W
 have hgA := hg.alloc2
 have htb := hf.lt
 have HF := hiD hf
 clear hf
 go_enter Tryz.func56, Tryz.ntmps56
 go_wp2_with fail
 refine (as_F_C c n tb ⟨w.heap.size, 0, none⟩ _ (by simp) (HF.out.alloc2 _ _)).mono ?_
 rintro e w1 ⟨rfl, h1, h2⟩
 go_wp2_with fail
 go_ret
 exact ⟨rfl, grown_trans (grown_alloc2 (World.grownBy.refl _ _) _ _) h1, h2⟩
end Go.Proofs.YtkildckeikedhaaGreatDoor.errAs
namespace Go.Proofs.YtkildckeikedhaaGreatDoor.errAs
open Go.RowKit Go.Extern.Stop Go.Stop Go.Extern

theorem cell_g {W w1 : World} {row : Option Nat} (h : W.grownBy w1 row) {p : Addr} (hp : p.block < W.heap.size) (hne : some p.block ≠ row) : w1.cell? p = W.cell? p := World.cell?_of_block (h.block p.block hp hne)
theorem frozen_g {W w1 : World} {row : Option Nat} (h : W.grownBy w1 row) {p : Addr} (hp : p.block < W.heap.size) (hne : some p.block ≠ row) : w1.frozen? p = W.frozen? p := World.frozen?_of_block (h.block p.block hp hne)

theorem idle_C (p q : Value) (w : World) :
  CallsD Tryz.prog 55 #[p, q] .returning w fun e u' w' => e = .returned (.tuple #[]) ∧ u' = .returning ∧ w' = w := by
 refine callsD_of_wpS Tryz.func55 rfl fun c₀ cs hu => ?_
 apply wpS_seq
 apply wpS_region
 simp [wpOpsS, go_sem, recoverD, hu, Tryz.ntmps55, Exit.thenS]
 refine wpS_cond (t := false) (by simp [Act.eval, Array.replicate]) ?_
 simp only [Bool.false_eq_true, if_false]
 refine wpS_of_wp (wp_skip ?_)
 cases c₀
 simp_all [bodyPostS, results, Tryz.results55]
theorem idle_F (p q : Value) (w : World) :
  CallsD Tryz.prog 57 #[p, q] .returning w fun e u' w' => e = .returned (.tuple #[]) ∧ u' = .returning ∧ w' = w := by
 refine callsD_of_wpS Tryz.func57 rfl fun c₀ cs hu => ?_
 apply wpS_seq
 apply wpS_region
 simp [wpOpsS, go_sem, recoverD, hu, Tryz.ntmps57, Exit.thenS]
 refine wpS_cond (t := false) (by simp [Act.eval, Array.replicate]) ?_
 simp only [Bool.false_eq_true, if_false]
 refine wpS_of_wp (wp_skip ?_)
 cases c₀
 simp_all [bodyPostS, results, Tryz.results57]

def Three (w : World) (c0 c1 c2 : Array Value) (t0 t1 t2 : TypeId) (W : World) : Prop :=
 W.heap[w.heap.size]? = some (.cells c0 t0 (0, 0)) ∧ W.heap[w.heap.size + 1]? = some (.cells c1 t1 (0, 0)) ∧ W.heap[w.heap.size + 1 + 1]? = some (.cells c2 t2 (0, 0)) ∧ W.heap.size = w.heap.size + 3 ∧ Below w.heap.size w W
theorem three (w : World) (c0 c1 c2 : Array Value) (t0 t1 t2 : TypeId) : Three w c0 c1 c2 t0 t1 t2 (((w.alloc (.cells c0 t0)).alloc (.cells c1 t1)).alloc (.cells c2 t2)) := by
 have e1 : w.heap.size + 1 = (w.alloc (.cells c0 t0)).heap.size := by simp
 have e2 : w.heap.size + 1 + 1 = ((w.alloc (.cells c0 t0)).alloc (.cells c1 t1)).heap.size := by simp
 refine ⟨?_, ?_, ?_, by simp, (((Below.refl w.heap.size w).alloc (Nat.le_refl _) _).alloc (by simp) _).alloc (by simp; omega) _⟩
 ·exact (Below.heap_alloc _ _ _ (by simp; omega)).trans ((Below.heap_alloc _ _ _ (by simp)).trans (heap_alloc_new w _))
 ·rw [e1]
  exact (Below.heap_alloc _ _ _ (by simp)).trans (heap_alloc_new _ _)
 ·rw [e2]
  exact heap_alloc_new _ _

set_option maxRecDepth 100000 in
set_option maxHeartbeats 4000000 in
theorem find_C (c n : Int) (w : World) (hg : ErrT w) :
  Calls Tryz.prog 35 #[.iface 94 (.agg #[.int .i64 c, .int .i64 n])] w fun e w' => e = .returned (.tuple #[.int .i64 c, .bool true]) ∧ Below w.heap.size w w' := by
 have hmf : ∀ (fn : Fn) (first cap : Array Value) (w : World), (Instr.makeFunc fn first cap).run Tryz.prog w = .ok (.func fn first cap) w := fun _ _ _ _ => rfl
 obtain ⟨W3, hW3⟩ : ∃ W3, W3 = (((w.alloc (.cells #[.int .i64 0] 63)).alloc (.cells #[.bool false] 4)).alloc (.cells #[.int .i64 0] 63)) := ⟨_, rfl⟩
 have hE : ErrT W3 := by rw [hW3]; exact ((hg.alloc _).alloc _).alloc _
 obtain ⟨h0, h1, h2, z3, B3⟩ := three w #[.int .i64 0] #[.bool false] #[.int .i64 0] 63 4 63
 rw [← hW3] at h0 h1 h2 z3 B3
 have hS : SlotC W3 (w.heap.size + 1 + 1) := ⟨.int .i64 0, cell_of_row _ _ 0 _ _ _ h2, frozen_of_row _ _ 0 _ _ h2⟩
 have k0 : W3.cell? ⟨w.heap.size, 0, none⟩ = some (.int .i64 0) := cell_of_row _ _ 0 _ _ _ h0
 have k1 : W3.cell? ⟨w.heap.size + 1, 0, none⟩ = some (.bool false) := cell_of_row _ _ 0 _ _ _ h1
 have f0 : W3.frozen? ⟨w.heap.size, 0, none⟩ = false := frozen_of_row _ _ 0 _ _ h0
 have f1 : W3.frozen? ⟨w.heap.size + 1, 0, none⟩ = false := frozen_of_row _ _ 0 _ _ h1
 have HW := hiD hW3
 have K := hiD (And.intro hE (And.intro hS (And.intro k0 (And.intro k1 (And.intro f0 (And.intro f1 (And.intro z3 B3)))))))
 clear hE hS k0 k1 f0 f1 z3 B3 h0 h1 h2 hW3
 go_enter_defers Tryz.func35, Tryz.ntmps35
 go_wp2_with fail
 rw [← HW.out]
 obtain ⟨hE, hS, k0, k1, f0, f1, z3, B3⟩ := K.out
 refine (As_F_C c n _ _ hE hS).mono ?_
 rintro e w1 ⟨rfl, g1, t1⟩
 have k0' : w1.cell? ⟨w.heap.size, 0, none⟩ = some (.int .i64 0) := (cell_g g1 (by show w.heap.size < _; omega) (fun e => by injection e with e; have e : w.heap.size = w.heap.size + 1 + 1 := e; omega)).trans k0
 have k1' : w1.cell? ⟨w.heap.size + 1, 0, none⟩ = some (.bool false) := (cell_g g1 (by show w.heap.size + 1 < _; omega) (fun e => by injection e with e; have e : w.heap.size + 1 = w.heap.size + 1 + 1 := e; omega)).trans k1
 have f0' : w1.frozen? ⟨w.heap.size, 0, none⟩ = false := (frozen_g g1 (by show w.heap.size < _; omega) (fun e => by injection e with e; have e : w.heap.size = w.heap.size + 1 + 1 := e; omega)).trans f0
 have f1' : w1.frozen? ⟨w.heap.size + 1, 0, none⟩ = false := (frozen_g g1 (by show w.heap.size + 1 < _; omega) (fun e => by injection e with e; have e : w.heap.size + 1 = w.heap.size + 1 + 1 := e; omega)).trans f1
 have B1 : Below w.heap.size w w1 := B3.grown g1 B3.size (fun k hk => by injection hk with hk; omega)
 clear g1 hE hS k0 k1 f0 f1 z3 B3 K HW hg
 go_wp2_with fail
 refine leaves_cons (f := 55) (args := #[.pointer (some ⟨w.heap.size, 0, none⟩), .pointer (some ⟨w.heap.size + 1, 0, none⟩)]) (by simp) (by simp [go_sem]) ?_
 refine (idle_C _ _ _).mono ?_
 rintro e u' w'' ⟨rfl, rfl, rfl⟩
 have k1'' : (w1.setCell ⟨w.heap.size, 0, none⟩ (.int .i64 c)).cell? ⟨w.heap.size + 1, 0, none⟩ = some (.bool false) := by
  rw [World.cell?_setCell_other _ ⟨w.heap.size, 0, none⟩ ⟨w.heap.size + 1, 0, none⟩ _ (fun e => by injection e with e _ _; omega)]; exact k1'
 have q1 := World.cell?_setCell_same (w1.setCell ⟨w.heap.size, 0, none⟩ (.int .i64 c)) ⟨w.heap.size + 1, 0, none⟩ (.bool true) k1''
 have q0 : ((w1.setCell ⟨w.heap.size, 0, none⟩ (.int .i64 c)).setCell ⟨w.heap.size + 1, 0, none⟩ (.bool true)).cell? ⟨w.heap.size, 0, none⟩ = some (.int .i64 c) := by
  rw [World.cell?_setCell_other _ ⟨w.heap.size + 1, 0, none⟩ ⟨w.heap.size, 0, none⟩ _ (fun e => by injection e with e _ _; omega)]
  exact World.cell?_setCell_same _ _ _ k0'
 have B2 : Below w.heap.size w ((w1.setCell ⟨w.heap.size, 0, none⟩ (.int .i64 c)).setCell ⟨w.heap.size + 1, 0, none⟩ (.bool true)) := (B1.setCell (by exact Nat.le_refl _) _).setCell (by show w.heap.size ≤ w.heap.size + 1; omega) _
 generalize ((w1.setCell ⟨w.heap.size, 0, none⟩ (.int .i64 c)).setCell ⟨w.heap.size + 1, 0, none⟩ (.bool true)) = W at *
 refine ⟨.tuple #[.int .i64 c, .bool true], ?_, rfl, B2⟩
 simp [results, Tryz.results35, go_sem, q0, q1]
set_option maxRecDepth 100000 in
set_option maxHeartbeats 4000000 in
theorem find_F (c n : Int) (w : World) (hg : ErrT w) :
  Calls Tryz.prog 36 #[.iface 94 (.agg #[.int .i64 c, .int .i64 n])] w fun e w' => e = .returned (.tuple #[.agg #[.int .i64 c, .int .i64 n], .bool true]) ∧ Below w.heap.size w w' := by
 have hmf : ∀ (fn : Fn) (first cap : Array Value) (w : World), (Instr.makeFunc fn first cap).run Tryz.prog w = .ok (.func fn first cap) w := fun _ _ _ _ => rfl
 obtain ⟨W3, hW3⟩ : ∃ W3, W3 = (((w.alloc (.cells #[.int .i64 0, .int .i64 0] 94)).alloc (.cells #[.bool false] 4)).alloc (.cells #[.int .i64 0, .int .i64 0] 94)) := ⟨_, rfl⟩
 have hE : ErrT W3 := by rw [hW3]; exact ((hg.alloc _).alloc _).alloc _
 obtain ⟨h0, h1, h2, z3, B3⟩ := three w #[.int .i64 0, .int .i64 0] #[.bool false] #[.int .i64 0, .int .i64 0] 94 4 94
 rw [← hW3] at h0 h1 h2 z3 B3
 have hS : SlotF W3 (w.heap.size + 1 + 1) := ⟨.int .i64 0, .int .i64 0, cell_of_row _ _ 0 _ _ _ h2, cell_of_row _ _ 1 _ _ _ h2, frozen_of_row _ _ 0 _ _ h2, frozen_of_row _ _ 1 _ _ h2⟩
 have k0 : W3.cell? ⟨w.heap.size, 0, none⟩ = some (.int .i64 0) := cell_of_row _ _ 0 _ _ _ h0
 have k1 : W3.cell? ⟨w.heap.size + 1, 0, none⟩ = some (.bool false) := cell_of_row _ _ 0 _ _ _ h1
 have f0 : W3.frozen? ⟨w.heap.size, 0, none⟩ = false := frozen_of_row _ _ 0 _ _ h0
 have f1 : W3.frozen? ⟨w.heap.size + 1, 0, none⟩ = false := frozen_of_row _ _ 0 _ _ h1
 have k01 : W3.cell? ⟨w.heap.size, 1, none⟩ = some (.int .i64 0) := cell_of_row _ _ 1 _ _ _ h0
 have f01 : W3.frozen? ⟨w.heap.size, 1, none⟩ = false := frozen_of_row _ _ 1 _ _ h0
 have HW := hiD hW3
 have K01 := hiD (And.intro k01 f01)
 clear k01 f01
 have K := hiD (And.intro hE (And.intro hS (And.intro k0 (And.intro k1 (And.intro f0 (And.intro f1 (And.intro z3 B3)))))))
 clear hE hS k0 k1 f0 f1 z3 B3 h0 h1 h2 hW3
 go_enter_defers Tryz.func36, Tryz.ntmps36
 go_wp2_with fail
 rw [← HW.out]
 obtain ⟨hE, hS, k0, k1, f0, f1, z3, B3⟩ := K.out
 refine (As_F_F c n _ _ hE hS).mono ?_
 rintro e w1 ⟨rfl, g1, t1, t2⟩
 have k01' : w1.cell? ⟨w.heap.size, 1, none⟩ = some (.int .i64 0) := (cell_g g1 (by show w.heap.size < _; omega) (fun e => by injection e with e; have e : w.heap.size = w.heap.size + 1 + 1 := e; omega)).trans K01.out.1
 have f01' : w1.frozen? ⟨w.heap.size, 1, none⟩ = false := (frozen_g g1 (by show w.heap.size < _; omega) (fun e => by injection e with e; have e : w.heap.size = w.heap.size + 1 + 1 := e; omega)).trans K01.out.2
 have k0' : w1.cell? ⟨w.heap.size, 0, none⟩ = some (.int .i64 0) := (cell_g g1 (by show w.heap.size < _; omega) (fun e => by injection e with e; have e : w.heap.size = w.heap.size + 1 + 1 := e; omega)).trans k0
 have k1' : w1.cell? ⟨w.heap.size + 1, 0, none⟩ = some (.bool false) := (cell_g g1 (by show w.heap.size + 1 < _; omega) (fun e => by injection e with e; have e : w.heap.size + 1 = w.heap.size + 1 + 1 := e; omega)).trans k1
 have f0' : w1.frozen? ⟨w.heap.size, 0, none⟩ = false := (frozen_g g1 (by show w.heap.size < _; omega) (fun e => by injection e with e; have e : w.heap.size = w.heap.size + 1 + 1 := e; omega)).trans f0
 have f1' : w1.frozen? ⟨w.heap.size + 1, 0, none⟩ = false := (frozen_g g1 (by show w.heap.size + 1 < _; omega) (fun e => by injection e with e; have e : w.heap.size + 1 = w.heap.size + 1 + 1 := e; omega)).trans f1
 have B1 : Below w.heap.size w w1 := B3.grown g1 B3.size (fun k hk => by injection hk with hk; omega)
 clear g1 hE hS k0 k1 f0 f1 z3 B3 K HW hg
 go_wp2_with fail
 refine leaves_cons (f := 57) (args := #[.pointer (some ⟨w.heap.size, 0, none⟩), .pointer (some ⟨w.heap.size + 1, 0, none⟩)]) (by simp) (by simp [go_sem]) ?_
 refine (idle_F _ _ _).mono ?_
 rintro e u' w'' ⟨rfl, rfl, rfl⟩
 have q0 : (((w1.setCell ⟨w.heap.size, 0, none⟩ (.int .i64 c)).setCell ⟨w.heap.size, 1, none⟩ (.int .i64 n)).setCell ⟨w.heap.size + 1, 0, none⟩ (.bool true)).cell? ⟨w.heap.size, 0, none⟩ = some (.int .i64 c) := by
  rw [World.cell?_setCell_other _ ⟨w.heap.size + 1, 0, none⟩ ⟨w.heap.size, 0, none⟩ _ (fun e => by injection e with e _ _; omega), World.cell?_setCell_other _ ⟨w.heap.size, 1, none⟩ ⟨w.heap.size, 0, none⟩ _ (fun e => by injection e with _ e _; omega)]
  exact World.cell?_setCell_same _ _ _ k0'
 have q01 : (((w1.setCell ⟨w.heap.size, 0, none⟩ (.int .i64 c)).setCell ⟨w.heap.size, 1, none⟩ (.int .i64 n)).setCell ⟨w.heap.size + 1, 0, none⟩ (.bool true)).cell? ⟨w.heap.size, 1, none⟩ = some (.int .i64 n) := by
  rw [World.cell?_setCell_other _ ⟨w.heap.size + 1, 0, none⟩ ⟨w.heap.size, 1, none⟩ _ (fun e => by injection e with e _ _; omega)]
  exact World.cell?_setCell_same _ _ _ ((World.cell?_setCell_other _ ⟨w.heap.size, 0, none⟩ ⟨w.heap.size, 1, none⟩ _ (fun e => by injection e with _ e _; omega)).trans k01')
 have q1 : (((w1.setCell ⟨w.heap.size, 0, none⟩ (.int .i64 c)).setCell ⟨w.heap.size, 1, none⟩ (.int .i64 n)).setCell ⟨w.heap.size + 1, 0, none⟩ (.bool true)).cell? ⟨w.heap.size + 1, 0, none⟩ = some (.bool true) := by
  refine World.cell?_setCell_same _ _ _ ?_ (u := .bool false)
  rw [World.cell?_setCell_other _ ⟨w.heap.size, 1, none⟩ ⟨w.heap.size + 1, 0, none⟩ _ (fun e => by injection e with e _ _; omega), World.cell?_setCell_other _ ⟨w.heap.size, 0, none⟩ ⟨w.heap.size + 1, 0, none⟩ _ (fun e => by injection e with e _ _; omega)]
  exact k1'
 have B2 : Below w.heap.size w (((w1.setCell ⟨w.heap.size, 0, none⟩ (.int .i64 c)).setCell ⟨w.heap.size, 1, none⟩ (.int .i64 n)).setCell ⟨w.heap.size + 1, 0, none⟩ (.bool true)) := ((B1.setCell (by exact Nat.le_refl _) _).setCell (by exact Nat.le_refl _) _).setCell (by show w.heap.size ≤ w.heap.size + 1; omega) _
 generalize (((w1.setCell ⟨w.heap.size, 0, none⟩ (.int .i64 c)).setCell ⟨w.heap.size, 1, none⟩ (.int .i64 n)).setCell ⟨w.heap.size + 1, 0, none⟩ (.bool true)) = W at *
 refine ⟨.tuple #[.agg #[.int .i64 c, .int .i64 n], .bool true], ?_, rfl, B2⟩
 simp [results, Tryz.results36, go_sem]
 simp only [q0, q01, q1, Result.andThen]

set_option maxRecDepth 100000 in
theorem code_F (c n : Int) (w : World) (hg : ErrT w) :
  Calls Tryz.prog 18 #[.iface 94 (.agg #[.int .i64 c, .int .i64 n])] w fun e w' => e = .returned (.tuple #[.int .i64 c, .bool true]) ∧ Below w.heap.size w w' := by
 have H := hiD (find_C c n w hg)
 clear hg
 go_enter Tryz.func18, Tryz.ntmps18
 go_wp2_with fail
 refine H.out.mono ?_
 rintro e w1 ⟨rfl, B1⟩
 go_wp2_with fail
 go_ret2
 exact ⟨rfl, B1⟩

set_option maxRecDepth 100000 in
theorem at_F (c n : Int) (w : World) (hg : ErrT w) :
  Calls Tryz.prog 19 #[.iface 94 (.agg #[.int .i64 c, .int .i64 n])] w fun e w' => e = .returned (.tuple #[.int .i64 n, .bool true]) ∧ Below w.heap.size w w' := by
 have H := hiD (find_F c n w hg)
 clear hg
 go_enter Tryz.func19, Tryz.ntmps19
 go_wp2_with fail
 refine H.out.mono ?_
 rintro e w1 ⟨rfl, B1⟩
 go_wp2_with fail
 go_ret2
 exact ⟨rfl, B1.alloc B1.size _⟩
end Go.Proofs.YtkildckeikedhaaGreatDoor.errAs
namespace Go.Proofs.YtkildckeikedhaaGreatDoor
open Go.ChangeShapes Go.WideShapes Go.ChangeAt Go.RowKit
open errAs (ErrT)
set_option linter.unusedVariables false

def faultN (c n : Nat) : Value := .iface 94 (.agg #[.int .i64 c, .int .i64 n])
def errF (c n : Nat) : Value := if c = 0 then .nilIface else faultN c n
set_option maxRecDepth 100000 in
theorem fnew_any (c n : Int) (w : World) : Calls Tryz.prog 68 #[.int .i64 c, .int .i64 n] w fun e w' => e = .returned (.iface 94 (.agg #[.int .i64 c, .int .i64 n])) ∧ w = w' := by
 go_enter Tryz.func68, Tryz.ntmps68
 go_wp2_with fail
 go_ret
 exact ⟨rfl, rfl⟩
theorem errT_below {w w' : World} (h : ErrT w) (hb : Below w.heap.size w w') : ErrT w' := h.below hb h.lt
set_option maxRecDepth 100000 in
theorem told_none (n : Nat) (w : World) : Calls Tryz.prog 7 #[.nilIface, .int .i64 0, .int .i64 n] w fun e w' => e = .returned (.bool true) ∧ w = w' := by
 go_enter Tryz.func7, Tryz.ntmps7
 go_wp2_with fail
 go_ret
 exact ⟨rfl, rfl⟩
set_option maxRecDepth 100000 in
theorem told_fault (c n : Nat) (hc : c ≠ 0) (w : World) (hg : ErrT w) : Calls Tryz.prog 7 #[faultN c n, .int .i64 c, .int .i64 n] w fun e w' => e = .returned (.bool true) ∧ Below w.heap.size w w' := by
 have HE := hiD hg
 have h0 : ¬ (c : Int) = 0 := by omega
 have h0' : ((c : Int) == 0) = false := by rw [beq_eq_false_iff_ne]; omega
 clear hg
 unfold faultN
 go_enter Tryz.func7, Tryz.ntmps7
 go_wp2_with fail
 refine (errAs.code_F c n _ HE.out).mono ?_
 rintro e w1 ⟨rfl, b1⟩
 have HE1 := hiD (errT_below HE.out b1)
 have HB1 := hiD b1
 clear b1
 go_wp2_with fail
 refine (errAs.at_F c n _ HE1.out).mono ?_
 rintro e w2 ⟨rfl, b2⟩
 have HB2 := hiD (HB1.out.trans (b2.mono HB1.out.size))
 clear b2
 go_wp2_with fail
 go_ret
 exact ⟨rfl, HB2.out⟩
theorem told_any (c n : Nat) (w : World) (hg : ErrT w) : Calls Tryz.prog 7 #[errF c n, .int .i64 c, .int .i64 n] w fun e w' => e = .returned (.bool true) ∧ Below w.heap.size w w' := by
 by_cases hc : c = 0
 ·subst hc
  exact (told_none n w).mono fun e w' ⟨h1, h2⟩ => ⟨h1, h2 ▸ Below.refl _ _⟩
 ·unfold errF
  rw [if_neg hc]
  exact told_fault c n hc w hg
def tkv (t : Tok) : List Value := [.int .i64 t.1, .string (bstr t.2.1), .int .i64 t.2.2]
def tks (ts : List Tok) : List Value := ts.flatMap tkv
theorem tks_length (ts : List Tok) : (tks ts).length = ts.length * 3 := by
 induction ts with
 | nil => rfl
 | cons t r ih => unfold tks at ih ⊢; rw [List.flatMap_cons, List.length_append, ih]; simp [tkv]; omega
theorem tks_snoc (ts : List Tok) (t : Tok) : tks (ts ++ [t]) = tks ts ++ tkv t := by unfold tks; simp
theorem tks_one (ts : List Tok) : ∀ u ∈ tks ts, u.oneCell' = true := by
 intro u hu
 obtain ⟨t, _, h⟩ := List.mem_flatMap.1 hu
 simp only [tkv, List.mem_cons, List.not_mem_nil, or_false] at h
 rcases h with rfl | rfl | rfl <;> rfl
theorem tks_at : ∀ (ts : List Tok) (i j : Nat), i < ts.length → j < 3 → (tks ts)[3 * i + j]? = (tkv (ts.getD i (0, [], 0)))[j]?
 | [], i, j, h, _ => by simp at h
 | t :: r, 0, j, h, hj => by
  unfold tks
  rw [List.flatMap_cons, List.getElem?_append_left (by simp [tkv]; omega)]
  simp
 | t :: r, i + 1, j, h, hj => by
  unfold tks
  rw [List.flatMap_cons, List.getElem?_append_right (by simp [tkv]; omega)]
  have h2 := tks_at r i j (by simpa using h) hj
  unfold tks at h2
  rw [show 3 * (i + 1) + j - (tkv t).length = 3 * i + j by simp [tkv]; omega, h2]
  simp
def TokRow (base : Nat) (e : TypeId) (w : World) (v : Value) (ts : List Tok) : Prop := w.ownsRow base e 3 v ts.length (tks ts)
theorem TokRow.nil (base : Nat) (e : TypeId) (w : World) : TokRow base e w (.slice none 0 0) [] := World.ownsRow_nil _ _ _ _
theorem TokRow.later {base : Nat} {e : TypeId} {w w' : World} {v : Value} {ts : List Tok} (h : TokRow base e w v ts) (hb : Below w.heap.size w w') : TokRow base e w' v ts := by
 refine ⟨h.1, ?_⟩
 rcases h.2 with h | ⟨g, cap, cur, rfl, h0, h1, r⟩
 ·exact .inl h
 ·exact .inr ⟨g, cap, cur, rfl, h0, (hb.block g (Array.getElem?_eq_some_iff.1 h1).1).trans h1, r⟩
theorem TokRow.form {base : Nat} {e : TypeId} {w : World} {v : Value} {ts : List Tok} (h : TokRow base e w v ts) : ∃ q c, v = .slice q ts.length c ∧ (ts.length : Int) ≤ c := by
 rcases h.2 with ⟨h, hn⟩ | ⟨g, cap, cur, hv, _, _, hc, _⟩
 ·exact ⟨none, 0, by rw [hn]; exact h, by omega⟩
 ·exact ⟨_, _, hv, by omega⟩
theorem TokRow.blk {base : Nat} {e : TypeId} {w : World} {v : Value} {ts : List Tok} (h : TokRow base e w v ts) {b : Nat} (hb : v.ownBlock = some b) : b < w.heap.size := by
 rcases h.2 with ⟨h, _⟩ | ⟨g, cap, cur, hv, h0, hg, _⟩
 ·rw [h] at hb; cases hb
 ·rw [hv] at hb; cases hb; exact (Array.getElem?_eq_some_iff.1 hg).1
theorem TokRow.kept {base : Nat} {e : TypeId} {w w' : World} {v : Value} {ts : List Tok} {row : Option Nat} (h : TokRow base e w v ts) (hg : w.grownBy w' row) (hne : row = none ∨ row ≠ v.ownBlock) : TokRow base e w' v ts := by
 refine ⟨h.1, ?_⟩
 rcases h.2 with h | ⟨g, cap, cur, rfl, h0, h1, r⟩
 ·exact .inl h
 ·refine .inr ⟨g, cap, cur, rfl, h0, (hg.block g (Array.getElem?_eq_some_iff.1 h1).1 ?_).trans h1, r⟩
  rcases hne with rfl | hne
  ·simp
  ·exact fun e => hne e.symm
theorem TokRow.set {base : Nat} {e : TypeId} {w : World} {v : Value} {ts : List Tok} (h : TokRow base e w v ts) {a : Addr} (ha : a.block < base) (x : Value) : TokRow base e (w.setCell a x) v ts := by
 refine ⟨h.1, ?_⟩
 rcases h.2 with h | ⟨g, cap, cur, rfl, h0, h1, r⟩
 ·exact .inl h
 ·exact .inr ⟨g, cap, cur, rfl, h0, (Below.heap_setCell w a x g (by omega)).trans h1, r⟩
def RdT (B : Nat) (w : World) (v : Value) (ts : List Tok) : Prop :=
 ∃ q c, v = .slice q ts.length c ∧ (ts.length : Int) ≤ c ∧ (0 < ts.length → ∃ b o, q = some ⟨b, o, none⟩ ∧ b < B ∧ ∀ i, i < ts.length → ∀ j, j < 3 → w.cell? ⟨b, o + (3 * i + j), none⟩ = (tkv (ts.getD i (0, [], 0)))[j]?)
theorem RdT.below {B C : Nat} {w w' : World} {v : Value} {ts : List Tok} (h : RdT B w v ts) (hb : Below C w w') (hC : B ≤ C) : RdT B w' v ts := by
 obtain ⟨q, c, h1, h2, h3⟩ := h
 refine ⟨q, c, h1, h2, fun h0 => ?_⟩
 obtain ⟨b, o, h4, h5, h6⟩ := h3 h0
 exact ⟨b, o, h4, h5, fun i hi j hj => (hb.cell (p := ⟨b, o + (3 * i + j), none⟩) (by show b < C; omega)).trans (h6 i hi j hj)⟩
theorem RdT.mono {B C : Nat} {w : World} {v : Value} {ts : List Tok} (h : RdT B w v ts) (hC : B ≤ C) : RdT C w v ts := by
 obtain ⟨q, c, h1, h2, h3⟩ := h
 refine ⟨q, c, h1, h2, fun h0 => ?_⟩
 obtain ⟨b, o, h4, h5, h6⟩ := h3 h0
 exact ⟨b, o, h4, by omega, h6⟩
theorem TokRow.rd {base : Nat} {e : TypeId} {w : World} {v : Value} {ts : List Tok} (h : TokRow base e w v ts) : RdT w.heap.size w v ts := by
 rcases h.2 with ⟨h, hn⟩ | ⟨g, cap, cur, hv, h0, hg, hc, h1, h2, h3⟩
 ·exact ⟨none, 0, by rw [hn]; exact h, by omega, fun h => by omega⟩
 ·refine ⟨_, cap, hv, by omega, fun h0 => ⟨g, 0, rfl, (Array.getElem?_eq_some_iff.1 hg).1, fun i hi j hj => ?_⟩⟩
  rw [Nat.zero_add, cell_of_row w g _ cur _ (0, 0) hg, ← tks_at ts i j hi hj, ← h3, List.getElem?_take, if_pos (by omega), Array.getElem?_toList]
theorem Tryz.infoTL : (Tryz.prog.info? 110).map (fun i => (i.zero, i.size, i.bytes)) = some (some (.agg #[.int .i64 0, .string ByteArray.empty, .int .i64 0]), 3, 32) := by kernel_rfl
theorem app_tokL {ops : Array Oper} {rest : List Oper} {o : Oper} {a : Act} {Q : Exit → Act → World → Prop} {w : World} (hgd : o.guard = none) (s x : Operand) (ho : o.op = .call { callee := .builtin .append, args := #[s, x], argTypes := #[104, 104] })
  {base n : Nat} {v : Value} {ts : List Tok} {t : Tok} (hs : a.eval s = v) (hown : TokRow base 110 w v ts) (hx : a.eval x = .slice (some ⟨n, 0, none⟩) 1 1) (hc : Arr w 110 n (tkv t))
  (hlen : ts.length + 1 ≤ 1000000) (hbase : base ≤ w.heap.size)
  (h : ∀ v' w', TokRow base 110 w' v' (ts ++ [t]) → Below base w w' → w.grownBy w' v.ownBlock → wpList Tryz.prog ops Q rest (a.put o.dst v') w') : wpList Tryz.prog ops Q (o :: rest) a w := by
 obtain ⟨i0, hi, hz0, hz1, hz2⟩ := info_parts Tryz.infoTL
 refine wpList_append_own w hgd s x 104 ho base 110 i0 _ 3 32 Tryz.underlying104 hi hz0 hz1 hz2 rfl (by decide) v ts.length (tks ts) hs hown ⟨n, 0, none⟩ 1 1 (tkv t) hx rfl ?_ (fun u hu => tks_one [t] u (by simpa [tks] using hu)) (by unfold maxLen; omega) (by omega) hbase ?_
 ·intro j u hu
  have := hc.cell j
  rw [hu] at this
  cases j <;> simpa [Addr.add] using this
 ·intro v' w' r1 r2 _
  refine h v' w' ?_ ((Below.refl _ _).grown r2 hbase (fun k hk => (hown.lt k hk).1)) r2
  show w'.ownsRow base 110 3 v' (ts ++ [t]).length (tks (ts ++ [t]))
  rw [tks_snoc, List.length_append]
  exact r1
theorem Tryz.infoTR : (Tryz.prog.info? 85).map (fun i => (i.zero, i.size, i.bytes)) = some (some (.agg #[.int .i64 0, .string ByteArray.empty, .int .i64 0]), 3, 32) := by kernel_rfl
theorem app_tokR {ops : Array Oper} {rest : List Oper} {o : Oper} {a : Act} {Q : Exit → Act → World → Prop} {w : World} (hgd : o.guard = none) (s x : Operand) (ho : o.op = .call { callee := .builtin .append, args := #[s, x], argTypes := #[51, 51] })
  {base n : Nat} {v : Value} {ts : List Tok} {t : Tok} (hs : a.eval s = v) (hown : TokRow base 85 w v ts) (hx : a.eval x = .slice (some ⟨n, 0, none⟩) 1 1) (hc : Arr w 85 n (tkv t))
  (hlen : ts.length + 1 ≤ 1000000) (hbase : base ≤ w.heap.size)
  (h : ∀ v' w', TokRow base 85 w' v' (ts ++ [t]) → Below base w w' → w.grownBy w' v.ownBlock → wpList Tryz.prog ops Q rest (a.put o.dst v') w') : wpList Tryz.prog ops Q (o :: rest) a w := by
 obtain ⟨i0, hi, hz0, hz1, hz2⟩ := info_parts Tryz.infoTR
 refine wpList_append_own w hgd s x 51 ho base 85 i0 _ 3 32 Tryz.underlying51 hi hz0 hz1 hz2 rfl (by decide) v ts.length (tks ts) hs hown ⟨n, 0, none⟩ 1 1 (tkv t) hx rfl ?_ (fun u hu => tks_one [t] u (by simpa [tks] using hu)) (by unfold maxLen; omega) (by omega) hbase ?_
 ·intro j u hu
  have := hc.cell j
  rw [hu] at this
  cases j <;> simpa [Addr.add] using this
 ·intro v' w' r1 r2 _
  refine h v' w' ?_ ((Below.refl _ _).grown r2 hbase (fun k hk => (hown.lt k hk).1)) r2
  show w'.ownsRow base 85 3 v' (ts ++ [t]).length (tks (ts ++ [t]))
  rw [tks_snoc, List.length_append]
  exact r1

def signF (l : List UInt8) : List UInt8 := if Lib.hasPrefix l [45, 62] = true then [45, 62] else if sgB (l.getD 0 0) = true then [l.getD 0 0] else []
set_option maxRecDepth 100000 in
theorem sign_any (s : ByteArray) (hs : s.size ≤ 1000000) (h0 : 0 < s.size) (w : World) : Calls Tryz.prog 75 #[.string s] w fun e w' => e = .returned (.string (bstr (signF s.data.toList))) ∧ w = w' := by
 have HC := hiD (fun w => Tryz.strings_HasPrefix s ⟨#[45, 62]⟩ w)
 have HD := hiD (fun (c : UInt8) w => Tryz.strings_IndexByte ⟨#[123, 125, 40, 41, 58, 59, 61, 124, 35, 43, 38, 45]⟩ (c.toNat : Int) w)
 have HX := hiD (get_getD s 0 h0)
 have hs' : (s.size : Int) ≤ 1000000 := by omega
 have h0' : (0 : Int) < s.size := by omega
 have h1' : (1 : Int) ≤ s.size := by omega
 cases hp : Lib.hasPrefix s.data.toList [45, 62] with
 | true =>
  have H : Hid (bstr (signF s.data.toList) = ⟨#[45, 62]⟩) := by show bstr _ = _; unfold signF; rw [if_pos hp]; rfl
  have HP := hiD hp
  clear hp
  go_enter Tryz.func75, Tryz.ntmps75
  go_wp2_with fail
  refine (HC.out _).mono ?_
  rintro e w2 ⟨rfl, hw⟩
  subst hw
  rw [show Lib.hasPrefix s.data.toList (⟨#[45, 62]⟩ : ByteArray).data.toList = true from HP.out]
  go_wp2_with fail
  go_ret
  exact ⟨by rw [H.out]; rfl, rfl⟩
 | false =>
  have HP := hiD hp
  cases hg : sgB s[0] with
  | true =>
   have H : Hid (bstr (signF s.data.toList) = s.extract 0 1) := by
    show bstr _ = _
    unfold signF
    rw [if_neg (by rw [hp]; simp), ← HX.out, if_pos hg, ext_data]
    congr 1
    rw [HX.out]
    have h2 : s.data.toList ≠ [] := by intro e; have := size_len s; rw [e] at this; simp at this; omega
    cases hl : s.data.toList with
    | nil => exact absurd hl h2
    | cons c r => simp
   have HG := hiD hg
   clear hp hg
   go_enter Tryz.func75, Tryz.ntmps75
   go_wp2_with fail
   refine (HC.out _).mono ?_
   rintro e w2 ⟨rfl, hw⟩
   subst hw
   rw [show Lib.hasPrefix s.data.toList (⟨#[45, 62]⟩ : ByteArray).data.toList = false from HP.out]
   go_wp2_with fail
   refine (HD.out s[0] _).mono ?_
   rintro e w2 ⟨rfl, hw⟩
   subst hw
   rw [ixc]
   have hq : (0 : Int) ≤ Lib.indexByte (⟨#[123, 125, 40, 41, 58, 59, 61, 124, 35, 43, 38, 45]⟩ : ByteArray).data.toList s[0] := of_decide_eq_true ((sg_ix s[0]).trans HG.out)
   go_wp2_with fail
   go_ret
   exact ⟨by rw [H.out]; rfl, rfl⟩
  | false =>
   have H : Hid (bstr (signF s.data.toList) = ⟨#[]⟩) := by
    show bstr _ = _
    unfold signF
    rw [if_neg (by rw [hp]; simp), ← HX.out, if_neg (by rw [hg]; simp)]; rfl
   have HG := hiD hg
   clear hp hg
   go_enter Tryz.func75, Tryz.ntmps75
   go_wp2_with fail
   refine (HC.out _).mono ?_
   rintro e w2 ⟨rfl, hw⟩
   subst hw
   rw [show Lib.hasPrefix s.data.toList (⟨#[45, 62]⟩ : ByteArray).data.toList = false from HP.out]
   go_wp2_with fail
   refine (HD.out s[0] _).mono ?_
   rintro e w2 ⟨rfl, hw⟩
   subst hw
   rw [ixc]
   have hq : ¬ (0 : Int) ≤ Lib.indexByte (⟨#[123, 125, 40, 41, 58, 59, 61, 124, 35, 43, 38, 45]⟩ : ByteArray).data.toList s[0] := of_decide_eq_false ((sg_ix s[0]).trans HG.out)
   go_wp2_with fail
   go_ret
   exact ⟨by rw [H.out]; rfl, rfl⟩
end Go.Proofs.YtkildckeikedhaaGreatDoor
namespace Go.Proofs.YtkildckeikedhaaGreatDoor
open Go.ChangeShapes Go.WideShapes Go.ChangeAt Go.RowKit
set_option linter.unusedVariables false

theorem pre2 {l : List UInt8} {i : Nat} (hi : i < l.length) (x y : UInt8) : Lib.hasPrefix (l.drop i) [x, y] = decide (l.getD i 0 = x ∧ i + 1 < l.length ∧ l.getD (i + 1) 0 = y) := by
 unfold Lib.hasPrefix
 rw [drop_cons' hi, Bool.eq_iff_iff, decide_eq_true_eq]
 by_cases h : i + 1 < l.length
 ·rw [drop_cons' h]
  simp only [List.isPrefixOf, Bool.and_true, Bool.and_eq_true, beq_iff_eq]
  constructor
  ·rintro ⟨rfl, rfl⟩; exact ⟨rfl, h, rfl⟩
  ·rintro ⟨rfl, _, rfl⟩; exact ⟨rfl, rfl⟩
 ·rw [List.drop_eq_nil_of_le (by omega)]
  simp [List.isPrefixOf, h]
theorem pre_t {l : List UInt8} {i : Nat} (hi : i < l.length) {x y : UInt8} (h : Lib.hasPrefix (l.drop i) [x, y] = true) : l.getD i 0 = x ∧ i + 1 < l.length ∧ l.getD (i + 1) 0 = y := by
 rw [pre2 hi] at h; exact of_decide_eq_true h
theorem pre_f {l : List UInt8} {i : Nat} (hi : i < l.length) {x y : UInt8} (h : Lib.hasPrefix (l.drop i) [x, y] = false) : notNext l i x y := by
 rw [pre2 hi] at h
 have := of_decide_eq_false h
 intro h1 h2 h3
 exact this ⟨h1, h2, h3⟩
theorem ext_list (s : ByteArray) (i : Nat) (hi : i ≤ s.size) : (s.extract i s.size).data.toList = s.data.toList.drop i := by
 rw [ext_data, bstr_data, List.take_of_length_le (by rw [List.length_drop, size_len]; exact Nat.le_refl _)]
theorem Arr.grown {w w' : World} {t : TypeId} {g : Nat} {cs : List Value} {row : Option Nat} (h : Arr w t g cs) (hg : w.grownBy w' row) (hne : ∀ b, row = some b → b ≠ g) : Arr w' t g cs :=
 (hg.block g h.lt (fun e => hne g e.symm rfl)).trans h
def LX (w : World) (s : ByteArray) (i : Nat) (acc : List Tok) (v : Value) (W : World) : Prop :=
 Arr W 9 w.heap.size [.string s] ∧ Arr W 3 (w.heap.size + 1) [.int .i64 (i : Nat)] ∧ TokRow (w.heap.size + 2) 110 W v acc ∧ Below w.heap.size w W ∧ ResT W ∧ w.heap.size + 2 ≤ W.heap.size
theorem LX.later {w W W' : World} {s : ByteArray} {i : Nat} {acc : List Tok} {v : Value} (h : LX w s i acc v W) (hb : Below W.heap.size W W') : LX w s i acc v W' :=
 ⟨h.1.later hb, h.2.1.later hb, h.2.2.1.later hb, h.2.2.2.1.trans (hb.mono h.2.2.2.1.size), h.2.2.2.2.1.below hb h.2.2.2.2.1.lt, Nat.le_trans h.2.2.2.2.2 hb.size⟩
theorem LX.put {w W : World} {s : ByteArray} {i : Nat} {acc : List Tok} {v : Value} (h : LX w s i acc v W) (hr : ResT w) {j : Nat} {x : Int} (hx : x = (j : Nat)) : LX w s j acc v (W.setCell ⟨w.heap.size + 1, 0, none⟩ (.int .i64 x)) := by
 subst hx
 have hb := h.2.2.2.1.setCell (p := ⟨w.heap.size + 1, 0, none⟩) (by simp) (.int .i64 (j : Nat))
 exact ⟨h.1.setCell (by simp) _, h.2.1.set 0 _, h.2.2.1.set (by simp) _, hb, hr.below hb hr.lt, by simpa [World.setCell] using h.2.2.2.2.2⟩
theorem LX.row {w W W' : World} {s : ByteArray} {i : Nat} {acc acc' : List Tok} {v v' : Value} (h : LX w s i acc v W) (hr : ResT w) (hT : TokRow (w.heap.size + 2) 110 W' v' acc') (hb : Below (w.heap.size + 2) W W') : LX w s i acc' v' W' :=
 have hb' := h.2.2.2.1.trans (hb.mono (by omega))
 ⟨h.1.below hb (by omega), h.2.1.below hb (by omega), hT, hb', hr.below hb' hr.lt, Nat.le_trans h.2.2.2.2.2 hb.size⟩
def LexPost (w : World) (R : Toks) (e : Ending) (w' : World) : Prop := ∃ v, e = .returned (.tuple #[v, errF R.2.1 R.2.2]) ∧ TokRow w.heap.size 110 w' v R.1 ∧ Below w.heap.size w w'
theorem TokRow.le {b b' : Nat} {e : TypeId} {w : World} {v : Value} {ts : List Tok} (h : TokRow b e w v ts) (hb : b' ≤ b) : TokRow b' e w v ts := Joins.ownsRow_le h hb

set_option maxRecDepth 100000 in
set_option maxHeartbeats 8000000 in
theorem lex_any (s : ByteArray) (hs : s.size ≤ 65536) (w : World) (hr : ResT w) : Calls Tryz.prog 45 #[.string s] w (LexPost w (tokS s.data.toList)) := by
 obtain ⟨R, hR⟩ : ∃ R, R = tokS s.data.toList := ⟨_, rfl⟩
 have HST : Hid (LexAt s.data.toList R 0 []) := by show LexAt _ _ _ _; rw [hR]; exact lx_start _
 rw [← hR]
 obtain ⟨l, hl⟩ : ∃ l, l = s.data.toList := ⟨_, rfl⟩
 rw [← hl] at HST
 have HL := hiD hl
 have HSZ : Hid (l.length = s.size) := by show _ = _; rw [hl]; exact size_len s
 have HR := hiD hr
 have hs1 : ¬ (65536 : Int) < s.size := by omega
 have hs2 : (s.size : Int) ≤ 100000 := by omega
 have HS := hiD hs
 clear hR hl hr hs
 go_enter Tryz.func45, Tryz.ntmps45
 go_wp2_with fail
 have hb0 : Below w.heap.size w ((w.alloc (.cells #[.string s] 9)).alloc (.cells #[.int .i64 0] 3)) := ((Below.refl _ _).alloc (Nat.le_refl _) _).alloc (by simp) _
 have H0 : Hid (LX w s 0 [] (.slice none 0 0) ((w.alloc (.cells #[.string s] 9)).alloc (.cells #[.int .i64 0] 3))) :=
  ⟨(Arr.new' w _ _ _ rfl).alloc _, Arr.new2 w _ _ _ _ rfl, TokRow.nil _ _ _, hb0, HR.out.below hb0 HR.out.lt, by simp⟩
 clear hb0
 go_step3
 go_wp2_with fail
 go_step3
 go_wp2_with fail
 generalize (w.alloc (.cells #[.string s] 9)).alloc (.cells #[.int .i64 0] 3) = w0 at H0 ⊢
 go_loopw [4] (fun v wr => ∃ (i : Nat) (acc : List Tok), Hid (LexAt l R i acc ∧ LX w s i acc v wr)) (fun _ wr => s.size - (intOf ((wr.cell? ⟨w.heap.size + 1, 0, none⟩).getD undef)).toNat)
 case atStart => exact ⟨0, [], HST.out, H0.out⟩
 case round =>
  obtain ⟨i, acc, HI⟩ := hrel
  clear HST H0
  obtain ⟨qv, cv, rfl, _⟩ := HI.out.2.2.2.1.form
  have hil : i ≤ s.size := by have := HI.out.1.1; have := HSZ.out; omega
  have i0 : (0 : Int) ≤ i := by omega
  have c1 := HI.out.2.2.1.cell 0
  have cS := HI.out.2.1.cell 0
  simp only [List.getElem?_cons_zero] at c1 cS
  by_cases hi : i < s.size
  ·have i1 : (i : Int) < s.size := by omega
   have hil2 : i < l.length := by have := HSZ.out; omega
   have HX : Hid (s[i] = l.getD i 0) := by show _ = _; rw [HL.out]; exact get_getD s i hi
   have HTB0 : wr.heap.size = wr.heap.size := rfl
   have HT0 : Hid (Arr (wr.alloc (.cells #[.int .i64 0, .string ⟨#[]⟩, .int .i64 i] 110)) 110 wr.heap.size [.int .i64 0, .string ⟨#[]⟩, .int .i64 i]) := Arr.new' wr _ _ _ rfl
   have HBT : Hid (Below wr.heap.size wr (wr.alloc (.cells #[.int .i64 0, .string ⟨#[]⟩, .int .i64 i] 110))) := (Below.refl _ _).alloc (Nat.le_refl _) _
   have HI1 := hiD (HI.out.2.later HBT.out)
   have HLX := hiD HI.out.1
   have HTS : Hid (w.heap.size + 2 ≤ wr.heap.size) := HI.out.2.2.2.2.2.2
   have HC0 := hiD c1
   clear HTB0
   go_upto_region 11 with (fail)
   generalize wr.alloc (.cells #[.int .i64 0, .string ⟨#[]⟩, .int .i64 i] 110) = w1 at HT0 HBT HI1 ⊢
   obtain ⟨TB, hTB⟩ : ∃ TB, TB = wr.heap.size := ⟨_, rfl⟩
   rw [← hTB] at HT0 HTS ⊢
   have HTB := hiD hTB
   clear hTB c1 cS
   have c1 := HI1.out.2.1.cell 0
   have cS := HI1.out.1.cell 0
   have f1 := HI1.out.2.1.free 0
   simp only [List.getElem?_cons_zero] at c1 cS
   cases hsp : spB s[i] with
   | true =>
    have HSP := hiD hsp
    have HN1 : Hid (1 ≤ runL spB l i) := runL_pos hil2 (by rw [← HX.out]; exact hsp)
    have HNX := hiD (lx_spaces (runL spB l i) HLX.out (runL_le spB l i (by omega)) (fun j h1 h2 => runL_all spB (by omega) j h1 h2))
    clear hsp
    have HRUN := hiD (fun W h1 h2 => runSp s i (w.heap.size + 1) w.heap.size (by omega) (by omega) W h1 h2)
    rw [← HL.out] at HRUN
    obtain ⟨k, hk⟩ : ∃ k, k = runL spB l i := ⟨_, rfl⟩
    have HLE : Hid (i + k ≤ s.size) := by have := runL_le spB l i (by omega); have := HSZ.out; show _ ≤ _; omega
    rw [← hk] at HRUN HN1 HNX
    have HTX : Hid (s.extract i (i + k) = bstr ((l.drop i).take k)) := by show _ = _; rw [ext_data, ← HL.out]; congr 2; omega
    have HTZ : Hid ((s.extract i (i + k)).size = k) := by
     show _ = _
     rw [ByteArray.size_extract]; have := HLE.out; omega
    obtain ⟨t, ht⟩ : ∃ t, t = s.extract i (i + k) := ⟨_, rfl⟩
    rw [← ht] at HRUN HTZ HTX
    have tb : (t.size : Int) ≤ 100000 := by have := HTZ.out; have := HLE.out; omega
    have tb0 : (0 : Int) ≤ t.size := by omega
    clear ht hk
    go_wp2_with fail
    refine (isSpace_any s[i] _).mono ?_
    rintro e w2 ⟨rfl, rfl⟩
    rw [HSP.out]
    go_wp2_with fail
    refine region_tail 5 (by kernel_rfl) (by kernel_rfl) ?_
    simp only [List.take_succ_cons, List.take_zero, List.drop_succ_cons, List.drop_zero]
    still_step
    still_step
    refine wpStill_step (fun K hK => ?_)
    go_simp
    refine ⟨_, (HRUN.out w1.drew c1 cS).mono fun _ _ ⟨h1, h2⟩ => ⟨h1, h2.symm⟩, hK _ ?_⟩
    clear hK K
    still_step
    still_step
    refine wpStill_nil ?_
    try change wpList _ _ _ _ _ w1.drew
    have HI2 := hiD (HI1.out.later (Below.refl _ _).drew)
    clear c1 cS f1 HI1 HRUN HT0
    generalize w1.drew = w2 at HI2 ⊢
    have c1 := HI2.out.2.1.cell 0
    have f1 := HI2.out.2.1.free 0
    simp only [List.getElem?_cons_zero] at c1
    have HC1 := hiD c1
    go_wp2_with fail
    go_roundw
    case rel => exact ⟨i + k, acc, HNX.out, HI2.out.put HR.out (by rw [HTZ.out]; omega)⟩
    case measure => rw [World.cell?_setCell_same _ _ _ HC1.out, HC0.out]; simp [intOf]; have := HTZ.out; have := HN1.out; omega
   | false =>
    have HSP := hiD hsp
    clear hsp
    have HPC : Hid (∀ W, Calls Tryz.prog 71 #[.string (s.extract i s.size), .string ⟨#[47, 47]⟩] W fun e w' => e = .returned (.bool (Lib.hasPrefix (l.drop i) [47, 47])) ∧ W = w') := fun W => by
     have h := Tryz.strings_HasPrefix (s.extract i s.size) ⟨#[47, 47]⟩ W
     rw [ext_list s i (by omega), ← HL.out] at h
     exact h.mono fun _ _ ⟨h1, h2⟩ => ⟨h1, h2.symm⟩
    have i2 : (i : Int) ≤ s.size := by omega
    cases hcm : Lib.hasPrefix (l.drop i) [47, 47] with
    | true =>
     have hpt := pre_t hil2 hcm
     have HNN := hiD (lx_comment HLX.out hpt.2.1 hpt.1 hpt.2.2)
     have HN1 : Hid (1 ≤ runL lnB l i) := by show _ ≤ _; have := HNN.out.2; omega
     have HNX := hiD HNN.out.1
     rw [hcm] at HPC
     clear hcm hpt HNN
     have HRUN := hiD (fun W h1 h2 => runLn s i (w.heap.size + 1) w.heap.size (by omega) (by omega) W h1 h2)
     rw [← HL.out] at HRUN
     obtain ⟨k, hk⟩ : ∃ k, k = runL lnB l i := ⟨_, rfl⟩
     have HLE : Hid (i + k ≤ s.size) := by have := runL_le lnB l i (by omega); have := HSZ.out; show _ ≤ _; omega
     rw [← hk] at HRUN HN1 HNX
     have HTX : Hid (s.extract i (i + k) = bstr ((l.drop i).take k)) := by show _ = _; rw [ext_data, ← HL.out]; congr 2; omega
     have HTZ : Hid ((s.extract i (i + k)).size = k) := by
      show _ = _
      rw [ByteArray.size_extract]; have := HLE.out; omega
     obtain ⟨t, ht⟩ : ∃ t, t = s.extract i (i + k) := ⟨_, rfl⟩
     rw [← ht] at HRUN HTZ HTX
     have tb : (t.size : Int) ≤ 100000 := by have := HTZ.out; have := HLE.out; omega
     have tb0 : (0 : Int) ≤ t.size := by omega
     clear ht hk
     go_wp2_with fail
     refine (isSpace_any s[i] _).mono ?_
     rintro e w2 ⟨rfl, rfl⟩
     rw [HSP.out]
     go_wp2_with fail
     refine (HPC.out _).mono ?_
     rintro e w2 ⟨rfl, rfl⟩
     go_wp2_with fail
     refine region_tail 5 (by kernel_rfl) (by kernel_rfl) ?_
     simp only [List.take_succ_cons, List.take_zero, List.drop_succ_cons, List.drop_zero]
     still_step
     still_step
     refine wpStill_step (fun K hK => ?_)
     go_simp
     refine ⟨_, (HRUN.out w1.drew c1 cS).mono fun _ _ ⟨h1, h2⟩ => ⟨h1, h2.symm⟩, hK _ ?_⟩
     clear hK K
     still_step
     still_step
     refine wpStill_nil ?_
     try change wpList _ _ _ _ _ w1.drew
     have HI2 := hiD (HI1.out.later (Below.refl _ _).drew)
     clear c1 cS f1 HI1 HRUN HT0
     generalize w1.drew = w2 at HI2 ⊢
     have c1 := HI2.out.2.1.cell 0
     have f1 := HI2.out.2.1.free 0
     simp only [List.getElem?_cons_zero] at c1
     have HC1 := hiD c1
     go_wp2_with fail
     go_roundw
     case rel => exact ⟨i + k, acc, HNX.out, HI2.out.put HR.out (by rw [HTZ.out]; omega)⟩
     case measure => rw [World.cell?_setCell_same _ _ _ HC1.out, HC0.out]; simp [intOf]; have := HTZ.out; have := HN1.out; omega
    | false =>
     have HNT := hiD (pre_f hil2 hcm)
     rw [hcm] at HPC
     clear hcm
     have ft0 := HT0.out.free 0
     have ft1 := HT0.out.free 1
     have ct0 := HT0.out.cell 0
     have ct1 := HT0.out.cell 1
     have ct2 := HT0.out.cell 2
     simp only [List.getElem?_cons_zero, List.getElem?_cons_succ] at ct0 ct1 ct2
     cases hwd : wdB s[i] with
     | true =>
      have HWD := hiD hwd
      have HN1 : Hid (1 ≤ runL wdB l i) := runL_pos hil2 (by rw [← HX.out]; exact hwd)
      have HOK := hiD (fun h => (lx_word HLX.out hil2 (by rw [← HX.out]; exact hwd) h).1)
      have HER := hiD (fun h => lx_word_err HLX.out hil2 (by rw [← HX.out]; exact hwd) h)
      clear hwd
      have HRUN := hiD (fun W h1 h2 => runWd s i (w.heap.size + 1) w.heap.size (by omega) (by omega) W h1 h2)
      rw [← HL.out] at HRUN
      obtain ⟨k, hk⟩ : ∃ k, k = runL wdB l i := ⟨_, rfl⟩
      have HLE : Hid (i + k ≤ s.size) := by have := runL_le wdB l i (by omega); have := HSZ.out; show _ ≤ _; omega
      rw [← hk] at HRUN HN1 HOK HER
      have HTX : Hid (s.extract i (i + k) = bstr ((l.drop i).take k)) := by show _ = _; rw [ext_data, ← HL.out]; congr 2; omega
      have HTZ : Hid ((s.extract i (i + k)).size = k) := by
       show _ = _
       rw [ByteArray.size_extract]; have := HLE.out; omega
      obtain ⟨t, ht⟩ : ∃ t, t = s.extract i (i + k) := ⟨_, rfl⟩
      rw [← ht] at HRUN HTZ HTX
      have tb : (t.size : Int) ≤ 100000 := by have := HTZ.out; have := HLE.out; omega
      have tb0 : (0 : Int) ≤ t.size := by omega
      clear ht hk
      have HOKW : Hid (okW ((l.drop i).take k) = (isName t || resB t)) := by show _ = _; unfold okW; rw [← HTX.out]
      go_wp2_with fail
      refine (isSpace_any s[i] _).mono ?_
      rintro e w2 ⟨rfl, rfl⟩
      rw [HSP.out]
      go_wp2_with fail
      refine (HPC.out _).mono ?_
      rintro e w2 ⟨rfl, rfl⟩
      go_wp2_with fail
      refine (isWord_any s[i] _).mono ?_
      rintro e w3 ⟨rfl, rfl⟩
      rw [HWD.out]
      go_wp2_with fail
      refine (HRUN.out _ c1 cS).mono ?_
      rintro e w3 ⟨rfl, rfl⟩
      go_wp2_with fail
      have HBW0 : Hid (Below wr.heap.size wr ((w1.setCell ⟨TB, 0, none⟩ (.int .i64 1)).setCell ⟨TB, 1, none⟩ (.string t))) :=
       (HBT.out.setCell (p := ⟨TB, 0, none⟩) (by rw [HTB.out]; exact Nat.le_refl _) _).setCell (p := ⟨TB, 1, none⟩) (by rw [HTB.out]; exact Nat.le_refl _) _
      have HTW0 : Hid (Arr ((w1.setCell ⟨TB, 0, none⟩ (.int .i64 1)).setCell ⟨TB, 1, none⟩ (.string t)) 110 TB [.int .i64 1, .string t, .int .i64 i]) := (HT0.out.set 0 _).set 1 _
      generalize (w1.setCell ⟨TB, 0, none⟩ (.int .i64 1)).setCell ⟨TB, 1, none⟩ (.string t) = w4 at HBW0 HTW0 ⊢
      have HR4 : Hid (ResT w4) := (HI.out.2.later HBW0.out).2.2.2.2.1
      clear ft0 ft1 ct0 ct1 ct2 c1 cS f1 HT0 HBT HI1 HRUN HPC
      refine (isName_any t w4 HR4.out).mono ?_
      rintro e w5 ⟨rfl, b5⟩
      have HBW := hiD (HBW0.out.trans (b5.mono HBW0.out.size))
      have HTW := hiD (HTW0.out.later b5)
      have HR5 := hiD (HR4.out.below b5 HR4.out.lt)
      clear b5 HBW0 HTW0 HR4
      have g1 := HTW.out.cell 1
      simp only [List.getElem?_cons_zero, List.getElem?_cons_succ] at g1
      cases hnm : isName t with
      | true =>
       have HGO : Hid (okW ((l.drop i).take k) = true) := by show _ = _; rw [HOKW.out, hnm]; rfl
       clear hnm g1
       have HIW := hiD (HI.out.2.later HBW.out)
       have HAB : Hid (Arr (w5.alloc (.cells #[.int .i64 1, .string t, .int .i64 i] 110)) 110 w5.heap.size (tkv (mkT 1 ((l.drop i).take k) i))) := by
        show Arr _ _ _ [.int .i64 1, .string (bstr ((l.drop i).take k)), .int .i64 i]
        rw [← HTX.out]; exact Arr.new' _ _ _ _ rfl
       have HBA : Hid (Below w5.heap.size w5 (w5.alloc (.cells #[.int .i64 1, .string t, .int .i64 i] 110))) := (Below.refl _ _).alloc (Nat.le_refl _) _
       have HIA := hiD (HIW.out.later HBA.out)
       have HTA := hiD (HTW.out.later HBA.out)
       have HOB : Hid (∀ b, (Value.slice qv acc.length cv).ownBlock = some b → b ≠ TB) := fun b hb => by have := HI.out.2.2.2.1.blk hb; have := HTB.out; omega
       have HAC : Hid (acc.length + 1 ≤ 1000000) := by have := HLX.out.2.1; have := HS.out; show _ ≤ _; omega
       have m0 := HTW.out.cell 0
       have m1 := HTW.out.cell 1
       have m2 := HTW.out.cell 2
       simp only [List.getElem?_cons_zero, List.getElem?_cons_succ] at m0 m1 m2
       clear HBA HIW
       go_wp2_with (at_builtin; refine app_tokL rfl _ _ rfl rfl HIA.out.2.2.1 rfl HAB.out HAC.out HIA.out.2.2.2.2.2 ?_; intro v5 w6 h5 b5 g5; have HI6 := hiD (HIA.out.row HR.out h5 b5); have HT6 := hiD (HTA.out.grown g5 HOB.out); have c1 := HI6.out.2.1.cell 0; have f1 := HI6.out.2.1.free 0; have n1 := HT6.out.cell 1; simp only [List.getElem?_cons_zero, List.getElem?_cons_succ] at c1 n1; have HC1 := hiD c1; clear h5 b5 g5 m0 m1 m2)
       go_roundw
       case rel => exact ⟨_, _, HOK.out HGO.out, HI6.out.put HR.out (by rw [HTZ.out]; omega)⟩
       case measure => rw [World.cell?_setCell_same _ _ _ HC1.out, HC0.out]; simp [intOf]; have := HTZ.out; have := HN1.out; have := HLE.out; omega
      | false =>
       go_wp2_with fail
       refine (res_any t w5 HR5.out).mono ?_
       rintro e w6 ⟨rfl, rfl⟩
       cases hrs : resB t with
       | true =>
        have HGO : Hid (okW ((l.drop i).take k) = true) := by show _ = _; rw [HOKW.out, hnm, hrs]; rfl
        clear hnm hrs g1
        have HIW := hiD (HI.out.2.later HBW.out)
        have HAB : Hid (Arr (w5.alloc (.cells #[.int .i64 1, .string t, .int .i64 i] 110)) 110 w5.heap.size (tkv (mkT 1 ((l.drop i).take k) i))) := by
         show Arr _ _ _ [.int .i64 1, .string (bstr ((l.drop i).take k)), .int .i64 i]
         rw [← HTX.out]; exact Arr.new' _ _ _ _ rfl
        have HBA : Hid (Below w5.heap.size w5 (w5.alloc (.cells #[.int .i64 1, .string t, .int .i64 i] 110))) := (Below.refl _ _).alloc (Nat.le_refl _) _
        have HIA := hiD (HIW.out.later HBA.out)
        have HTA := hiD (HTW.out.later HBA.out)
        have HOB : Hid (∀ b, (Value.slice qv acc.length cv).ownBlock = some b → b ≠ TB) := fun b hb => by have := HI.out.2.2.2.1.blk hb; have := HTB.out; omega
        have HAC : Hid (acc.length + 1 ≤ 1000000) := by have := HLX.out.2.1; have := HS.out; show _ ≤ _; omega
        have m0 := HTW.out.cell 0
        have m1 := HTW.out.cell 1
        have m2 := HTW.out.cell 2
        simp only [List.getElem?_cons_zero, List.getElem?_cons_succ] at m0 m1 m2
        clear HBA HIW
        go_wp2_with (at_builtin; refine app_tokL rfl _ _ rfl rfl HIA.out.2.2.1 rfl HAB.out HAC.out HIA.out.2.2.2.2.2 ?_; intro v5 w6 h5 b5 g5; have HI6 := hiD (HIA.out.row HR.out h5 b5); have HT6 := hiD (HTA.out.grown g5 HOB.out); have c1 := HI6.out.2.1.cell 0; have f1 := HI6.out.2.1.free 0; have n1 := HT6.out.cell 1; simp only [List.getElem?_cons_zero, List.getElem?_cons_succ] at c1 n1; have HC1 := hiD c1; clear h5 b5 g5 m0 m1 m2)
        go_roundw
        case rel => exact ⟨_, _, HOK.out HGO.out, HI6.out.put HR.out (by rw [HTZ.out]; omega)⟩
        case measure => rw [World.cell?_setCell_same _ _ _ HC1.out, HC0.out]; simp [intOf]; have := HTZ.out; have := HN1.out; have := HLE.out; omega
       | false =>
        have HRR := hiD (HER.out (by rw [HOKW.out, hnm, hrs]; rfl))
        have HIW := hiD (HI.out.2.later HBW.out)
        have c1 := HIW.out.2.1.cell 0
        simp only [List.getElem?_cons_zero] at c1
        clear hnm hrs g1
        go_wp2_with fail
        refine (fnew_any _ _ _).mono ?_
        rintro e w6 ⟨rfl, rfl⟩
        go_wp2_with fail
        try rw [Exit.noGoto_ret]
        refine bodyPost_ret (results_tmp2 rfl _ _ _) rfl ?_
        rw [HRR.out]
        exact ⟨_, rfl, TokRow.nil _ _ _, HIW.out.2.2.2.1⟩
     | false =>
      have HWD := hiD hwd
      have HSG : Hid (∀ W, Calls Tryz.prog 75 #[.string (s.extract i s.size)] W fun e w' => e = .returned (.string (bstr (signF (l.drop i)))) ∧ W = w') := fun W => by
       have h := sign_any (s.extract i s.size) (by rw [ByteArray.size_extract]; omega) (by rw [ByteArray.size_extract]; omega) W
       rw [ext_list s i (by omega), ← HL.out] at h
       exact h
      have hwd' : wdB (l.getD i 0) = false := by rw [← HX.out]; exact hwd
      have hsp' : spB (l.getD i 0) = false := by rw [← HX.out]; exact HSP.out
      obtain ⟨t, ht⟩ : ∃ t, t = bstr (signF (l.drop i)) := ⟨_, rfl⟩
      rw [← ht] at HSG
      have HTT := hiD ht
      clear hwd ht
      go_wp2_with fail
      refine (isSpace_any s[i] _).mono ?_
      rintro e w2 ⟨rfl, rfl⟩
      rw [HSP.out]
      go_wp2_with fail
      refine (HPC.out _).mono ?_
      rintro e w2 ⟨rfl, rfl⟩
      go_wp2_with fail
      refine (isWord_any s[i] _).mono ?_
      rintro e w3 ⟨rfl, rfl⟩
      rw [HWD.out]
      go_wp2_with fail
      refine (HSG.out _).mono ?_
      rintro e w3 ⟨rfl, rfl⟩
      have HBW : Hid (Below wr.heap.size wr ((w1.setCell ⟨TB, 0, none⟩ (.int .i64 2)).setCell ⟨TB, 1, none⟩ (.string t))) :=
       (HBT.out.setCell (p := ⟨TB, 0, none⟩) (by rw [HTB.out]; exact Nat.le_refl _) _).setCell (p := ⟨TB, 1, none⟩) (by rw [HTB.out]; exact Nat.le_refl _) _
      have HTW : Hid (Arr ((w1.setCell ⟨TB, 0, none⟩ (.int .i64 2)).setCell ⟨TB, 1, none⟩ (.string t)) 110 TB [.int .i64 2, .string t, .int .i64 i]) := (HT0.out.set 0 _).set 1 _
      go_upto_region 9 with (fail)
      generalize (w1.setCell ⟨TB, 0, none⟩ (.int .i64 2)).setCell ⟨TB, 1, none⟩ (.string t) = w5 at HBW HTW ⊢
      clear ft0 ft1 ct0 ct1 ct2 c1 cS f1 HT0 HBT HI1 HPC HSG
      have ht := HTT.out
      cases har : Lib.hasPrefix (l.drop i) [45, 62] with
      | true =>
       have hpt := pre_t hil2 har
       have HNX := hiD (lx_arrow HLX.out hpt.2.1 hpt.1 hpt.2.2)
       have HLE : Hid (i + 2 ≤ s.size) := by show _ ≤ _; have := HSZ.out; omega
       have ht2 : t = bstr [45, 62] := by rw [ht]; unfold signF; rw [if_pos har]
       clear har hpt ht hwd' hsp'
       have HTX : Hid (t = bstr [45, 62]) := ht2
       have HTZ : Hid (t.size = 2) := by show _ = _; rw [ht2, bstr_size]; rfl
       have HN1 : Hid (1 ≤ 2) := by show _ ≤ _; omega
       have tb : (t.size : Int) ≤ 100000 := by have := HTZ.out; omega
       have tb0 : (0 : Int) ≤ t.size := by omega
       have tb1 : (0 : Int) < t.size := by have := HTZ.out; omega
       have hne : ¬ t.data.toList = [] := by rw [ht2, bstr_data]; simp
       have he2 : ¬ t.toList = [] := by rw [toList_data]; exact hne
       have he1 : t.toList.isEmpty = false := by rw [toList_data, ht2, bstr_data]; rfl
       have he0 : t.data.toList.isEmpty = false := by rw [ht2, bstr_data]; rfl
       have he3 : (t.toList == []) = false := by rw [beq_eq_false_iff_ne]; exact he2
       clear ht2
       have HIW := hiD (HI.out.2.later HBW.out)
       have HAB : Hid (Arr (w5.alloc (.cells #[.int .i64 2, .string t, .int .i64 i] 110)) 110 w5.heap.size (tkv (mkT 2 ([45, 62]) i))) := by
        show Arr _ _ _ [.int .i64 2, .string (bstr ([45, 62])), .int .i64 i]
        rw [← HTX.out]; exact Arr.new' _ _ _ _ rfl
       have HBA : Hid (Below w5.heap.size w5 (w5.alloc (.cells #[.int .i64 2, .string t, .int .i64 i] 110))) := (Below.refl _ _).alloc (Nat.le_refl _) _
       have HIA := hiD (HIW.out.later HBA.out)
       have HTA := hiD (HTW.out.later HBA.out)
       have HOB : Hid (∀ b, (Value.slice qv acc.length cv).ownBlock = some b → b ≠ TB) := fun b hb => by have := HI.out.2.2.2.1.blk hb; have := HTB.out; omega
       have HAC : Hid (acc.length + 1 ≤ 1000000) := by have := HLX.out.2.1; have := HS.out; show _ ≤ _; omega
       have m0 := HTW.out.cell 0
       have m1 := HTW.out.cell 1
       have m2 := HTW.out.cell 2
       simp only [List.getElem?_cons_zero, List.getElem?_cons_succ] at m0 m1 m2
       clear HBA HIW
       go_wp2_with (at_builtin; refine app_tokL rfl _ _ rfl rfl HIA.out.2.2.1 rfl HAB.out HAC.out HIA.out.2.2.2.2.2 ?_; intro v5 w6 h5 b5 g5; have HI6 := hiD (HIA.out.row HR.out h5 b5); have HT6 := hiD (HTA.out.grown g5 HOB.out); have c1 := HI6.out.2.1.cell 0; have f1 := HI6.out.2.1.free 0; have n1 := HT6.out.cell 1; simp only [List.getElem?_cons_zero, List.getElem?_cons_succ] at c1 n1; have HC1 := hiD c1; clear h5 b5 g5 m0 m1 m2)
       go_roundw
       case rel => exact ⟨_, _, HNX.out, HI6.out.put HR.out (by rw [HTZ.out]; omega)⟩
       case measure => rw [World.cell?_setCell_same _ _ _ HC1.out, HC0.out]; simp [intOf]; have := HTZ.out; have := HN1.out; have := HLE.out; omega
      | false =>
       have hpt := pre_f hil2 har
       cases hsg : sgB (l.getD i 0) with
       | true =>
        have HNX := hiD (lx_sign HLX.out hil2 hwd' hsp' HNT.out hpt hsg)
        have HLE : Hid (i + 1 ≤ s.size) := by show _ ≤ _; omega
        have hgd : (l.drop i).getD 0 0 = l.getD i 0 := by rw [drop_cons' hil2]; rfl
        have ht2 : t = bstr [l.getD i 0] := by rw [ht]; unfold signF; rw [if_neg (by rw [har]; simp), hgd, if_pos hsg]
        clear har hpt ht hwd' hsp' hsg hgd
        have HTX : Hid (t = bstr [l.getD i 0]) := ht2
        have HTZ : Hid (t.size = 1) := by show _ = _; rw [ht2, bstr_size]; rfl
        have HN1 : Hid (1 ≤ 1) := by show _ ≤ _; omega
        have tb : (t.size : Int) ≤ 100000 := by have := HTZ.out; omega
        have tb0 : (0 : Int) ≤ t.size := by omega
        have tb1 : (0 : Int) < t.size := by have := HTZ.out; omega
        have hne : ¬ t.data.toList = [] := by rw [ht2, bstr_data]; simp
        have he2 : ¬ t.toList = [] := by rw [toList_data]; exact hne
        have he1 : t.toList.isEmpty = false := by rw [toList_data, ht2, bstr_data]; rfl
        have he0 : t.data.toList.isEmpty = false := by rw [ht2, bstr_data]; rfl
        have he3 : (t.toList == []) = false := by rw [beq_eq_false_iff_ne]; exact he2
        clear ht2
        have HIW := hiD (HI.out.2.later HBW.out)
        have HAB : Hid (Arr (w5.alloc (.cells #[.int .i64 2, .string t, .int .i64 i] 110)) 110 w5.heap.size (tkv (mkT 2 [l.getD i 0] i))) := by
         show Arr _ _ _ [.int .i64 2, .string (bstr ([l.getD i 0])), .int .i64 i]
         rw [← HTX.out]; exact Arr.new' _ _ _ _ rfl
        have HBA : Hid (Below w5.heap.size w5 (w5.alloc (.cells #[.int .i64 2, .string t, .int .i64 i] 110))) := (Below.refl _ _).alloc (Nat.le_refl _) _
        have HIA := hiD (HIW.out.later HBA.out)
        have HTA := hiD (HTW.out.later HBA.out)
        have HOB : Hid (∀ b, (Value.slice qv acc.length cv).ownBlock = some b → b ≠ TB) := fun b hb => by have := HI.out.2.2.2.1.blk hb; have := HTB.out; omega
        have HAC : Hid (acc.length + 1 ≤ 1000000) := by have := HLX.out.2.1; have := HS.out; show _ ≤ _; omega
        have m0 := HTW.out.cell 0
        have m1 := HTW.out.cell 1
        have m2 := HTW.out.cell 2
        simp only [List.getElem?_cons_zero, List.getElem?_cons_succ] at m0 m1 m2
        clear HBA HIW
        go_wp2_with (at_builtin; refine app_tokL rfl _ _ rfl rfl HIA.out.2.2.1 rfl HAB.out HAC.out HIA.out.2.2.2.2.2 ?_; intro v5 w6 h5 b5 g5; have HI6 := hiD (HIA.out.row HR.out h5 b5); have HT6 := hiD (HTA.out.grown g5 HOB.out); have c1 := HI6.out.2.1.cell 0; have f1 := HI6.out.2.1.free 0; have n1 := HT6.out.cell 1; simp only [List.getElem?_cons_zero, List.getElem?_cons_succ] at c1 n1; have HC1 := hiD c1; clear h5 b5 g5 m0 m1 m2)
        go_roundw
        case rel => exact ⟨_, _, HNX.out, HI6.out.put HR.out (by rw [HTZ.out]; omega)⟩
        case measure => rw [World.cell?_setCell_same _ _ _ HC1.out, HC0.out]; simp [intOf]; have := HTZ.out; have := HN1.out; have := HLE.out; omega
       | false =>
        have HRR := hiD (lx_sign_err HLX.out hil2 hwd' hsp' HNT.out hpt hsg)
        have hgd : (l.drop i).getD 0 0 = l.getD i 0 := by rw [drop_cons' hil2]; rfl
        obtain rfl : t = ⟨#[]⟩ := by rw [ht]; unfold signF; rw [if_neg (by rw [har]; simp), hgd, if_neg (by rw [hsg]; simp)]; rfl
        have HIW := hiD (HI.out.2.later HBW.out)
        have c1 := HIW.out.2.1.cell 0
        have m1 := HTW.out.cell 1
        simp only [List.getElem?_cons_zero, List.getElem?_cons_succ] at c1 m1
        clear har hpt ht hwd' hsp' hsg hgd
        go_wp2_with fail
        refine (fnew_any _ _ _).mono ?_
        rintro e w6 ⟨rfl, rfl⟩
        go_wp2_with fail
        try rw [Exit.noGoto_ret]
        refine bodyPost_ret (results_tmp2 rfl _ _ _) rfl ?_
        rw [HRR.out]
        exact ⟨_, rfl, TokRow.nil _ _ _, HIW.out.2.2.2.1⟩
  ·obtain ⟨hRR, hie⟩ := lx_end HI.out.1 (by have := HSZ.out; omega)
   have i1 : ¬ (i : Int) < s.size := by omega
   have HRR : Hid (R = (acc ++ [mkT 3 [] s.size], 0, 0)) := by show _ = _; rw [hRR, HSZ.out]
   have HAR : Hid (Arr (wr.alloc (.cells #[.int .i64 3, .string ⟨#[]⟩, .int .i64 s.size] 110)) 110 wr.heap.size (tkv (mkT 3 [] s.size))) := Arr.new' wr _ _ _ rfl
   have HBA : Hid (Below wr.heap.size wr (wr.alloc (.cells #[.int .i64 3, .string ⟨#[]⟩, .int .i64 s.size] 110))) := (Below.refl _ _).alloc (Nat.le_refl _) _
   have HTR := hiD (HI.out.2.2.2.1.later HBA.out)
   have HAC : Hid (acc.length + 1 ≤ 1000000) := by have := HI.out.1.2.1; have := HS.out; show _ ≤ _; omega
   have HBS : Hid (w.heap.size + 2 ≤ (wr.alloc (.cells #[.int .i64 3, .string ⟨#[]⟩, .int .i64 s.size] 110)).heap.size) := Nat.le_trans HI.out.2.2.2.2.2.2 HBA.out.size
   have HB1 : Hid (Below w.heap.size w (wr.alloc (.cells #[.int .i64 3, .string ⟨#[]⟩, .int .i64 s.size] 110))) := HI.out.2.2.2.2.1.trans (HBA.out.mono HI.out.2.2.2.2.1.size)
   clear hRR hie HI
   go_wp2_with (at_builtin; refine app_tokL rfl _ _ rfl rfl HTR.out rfl HAR.out HAC.out HBS.out ?_; intro v5 w5 h5 b5 g5)
   try rw [Exit.noGoto_ret]
   refine bodyPost_ret (results_tmp2 rfl _ _ _) rfl ?_
   rw [HRR.out]
   exact ⟨_, rfl, h5.le (by omega), HB1.out.trans (b5.mono (by omega))⟩
def Kp (pb : Nat) (W W' : World) : Prop := W'.os = W.os ∧ W'.tape = W.tape ∧ W'.output = W.output ∧ W.heap.size ≤ W'.heap.size ∧ ∀ k, k < W.heap.size → k ≠ pb → W'.heap[k]? = W.heap[k]?
theorem Kp.of {pb : Nat} {W W' : World} (h : Below W.heap.size W W') : Kp pb W W' := ⟨h.os, h.tape, h.output, h.size, fun k hk _ => h.block k hk⟩
theorem Kp.trans {pb : Nat} {W W' W2 : World} (h : Kp pb W W') (g : Kp pb W' W2) : Kp pb W W2 := ⟨g.1.trans h.1, g.2.1.trans h.2.1, g.2.2.1.trans h.2.2.1, Nat.le_trans h.2.2.2.1 g.2.2.2.1, fun k hk hn => (g.2.2.2.2 k (Nat.lt_of_lt_of_le hk h.2.2.2.1) hn).trans (h.2.2.2.2 k hk hn)⟩
theorem Kp.set {pb : Nat} {W W' : World} (h : Kp pb W W') (i : Nat) (v : Value) : Kp pb W (W'.setCell ⟨pb, i, none⟩ v) := h.trans ⟨rfl, rfl, rfl, by simp [World.setCell], fun k hk hn => Below.heap_setCell W' ⟨pb, i, none⟩ v k hn⟩
theorem Kp.below {pb B : Nat} {W W' : World} (h : Kp pb W W') (h1 : B ≤ pb) (h2 : B ≤ W.heap.size) : Below B W W' := ⟨h.1, h.2.1, h.2.2.1, h.2.2.2.1, fun k hk => h.2.2.2.2 k (Nat.lt_of_lt_of_le hk h2) (by omega)⟩
theorem Kp.arr {pb : Nat} {W W' : World} (h : Kp pb W W') {t : TypeId} {g : Nat} {cs : List Value} (hA : Arr W t g cs) (hg : g ≠ pb) : Arr W' t g cs := (h.2.2.2.2 g hA.lt hg).trans hA
def PP (W : World) (pb tb c : Nat) (ts : List Tok) (s : PS) : Prop :=
 Arr W 108 pb [.slice (some ⟨tb, 0, none⟩) ts.length c, .int .i64 (s.i : Nat), .int .i64 (s.o : Nat), .int .i64 (s.l : Nat)] ∧ tb < pb ∧ (∀ i, i < ts.length → ∀ j, j < 3 → W.cell? ⟨tb, i * 3 + j, none⟩ = (tkv (ts.getD i tok0))[j]?) ∧ ts.length ≤ 100000 ∧ ResT W ∧ 1 < pb
theorem PP.later {W W' : World} {pb tb c : Nat} {ts : List Tok} {s : PS} (h : PP W pb tb c ts s) (hb : Below W.heap.size W W') : PP W' pb tb c ts s :=
 ⟨h.1.later hb, h.2.1, fun i hi j hj => (hb.cell (p := ⟨tb, i * 3 + j, none⟩) (Nat.lt_trans h.2.1 h.1.lt)).trans (h.2.2.1 i hi j hj), h.2.2.2.1, h.2.2.2.2.1.below hb h.2.2.2.2.1.lt, h.2.2.2.2.2⟩
theorem PP.set {W : World} {pb tb c : Nat} {ts : List Tok} {s s' : PS} {i : Nat} {v : Value} (h : PP W pb tb c ts s)
  (he : ([.slice (some ⟨tb, 0, none⟩) ts.length c, .int .i64 (s.i : Nat), .int .i64 (s.o : Nat), .int .i64 (s.l : Nat)] : List Value).set i v = [.slice (some ⟨tb, 0, none⟩) ts.length c, .int .i64 (s'.i : Nat), .int .i64 (s'.o : Nat), .int .i64 (s'.l : Nat)]) : PP (W.setCell ⟨pb, i, none⟩ v) pb tb c ts s' := by
 refine ⟨he ▸ h.1.set i v, h.2.1, fun k hk j hj => ?_, h.2.2.2.1, h.2.2.2.2.1.below ((Below.refl pb W).setCell (p := ⟨pb, i, none⟩) (Nat.le_refl _) v) h.2.2.2.2.2, h.2.2.2.2.2⟩
 exact (World.cell?_of_block (Below.heap_setCell W ⟨pb, i, none⟩ v tb (by have := h.2.1; simp only [ne_eq]; omega))).trans (h.2.2.1 k hk j hj)
def offs (ts : List Tok) (i : Nat) : Int := (ts.getD i tok0).2.2
def flt (k : Nat) (n : Int) : Value := .iface 94 (.agg #[.int .i64 (k : Nat), .int .i64 n])
def QR {α : Type} (pb tb c : Nat) (ts : List Tok) (w : World) (r : PR α) (val : α → World → Value → Prop) (e : Ending) (w' : World) : Prop :=
 (∃ x s' v, r = .ok x s' ∧ e = .returned v ∧ val x w' v ∧ PP w' pb tb c ts s' ∧ Kp pb w w') ∨ (∃ k i, r = .bad k i ∧ e = .panicked [{ v := flt k (offs ts i), recovered := false }] ∧ Kp pb w w')
section
variable {W : World} {pb tb c : Nat} {ts : List Tok} {s : PS}
def SN (W : World) (pb tb c : Nat) (ts : List Tok) (s : PS) (W' : World) : Prop := PP W' pb tb c ts s ∧ (∃ a b d, Arr W' 110 W.heap.size [a, b, d]) ∧ Below W.heap.size W W'
theorem SN.later {W W' W2 : World} {pb tb c : Nat} {ts : List Tok} {s : PS} (h : SN W pb tb c ts s W') (hb : Below W'.heap.size W' W2) : SN W pb tb c ts s W2 := by
 obtain ⟨h1, ⟨a, b, d, h2⟩, h3⟩ := h
 exact ⟨h1.later hb, ⟨a, b, d, h2.later hb⟩, h3.trans (hb.mono h3.size)⟩
theorem fieldT0 (x y : Int) (b : ByteArray) (w : World) : (Instr.field 110 (.agg #[.int .i64 x, .string b, .int .i64 y]) 0).run Tryz.prog w = .ok (.int .i64 x) w := by kernel_rfl
theorem fieldT1 (x y : Int) (b : ByteArray) (w : World) : (Instr.field 110 (.agg #[.int .i64 x, .string b, .int .i64 y]) 1).run Tryz.prog w = .ok (.string b) w := by kernel_rfl
theorem fieldT2 (x y : Int) (b : ByteArray) (w : World) : (Instr.field 110 (.agg #[.int .i64 x, .string b, .int .i64 y]) 2).run Tryz.prog w = .ok (.int .i64 y) w := by kernel_rfl
set_option maxRecDepth 100000 in
set_option maxHeartbeats 2000000 in
theorem next_any (h : PP W pb tb c ts s) (hi : s.i < ts.length) : Calls Tryz.prog 48 #[.pointer (some ⟨pb, 0, none⟩)] W fun e w' => e = .returned (.agg #[.int .i64 (ts.getD s.i tok0).1, .string (bstr (txt ts s.i)), .int .i64 (offs ts s.i)]) ∧ Below W.heap.size W w' := by
 have HB0 : Hid (Below W.heap.size W (W.alloc (.cells #[.int .i64 0, .string ⟨#[]⟩, .int .i64 0] 110))) := (Below.refl _ _).alloc (Nat.le_refl _) _
 have HA0 : Hid (Arr (W.alloc (.cells #[.int .i64 0, .string ⟨#[]⟩, .int .i64 0] 110)) 110 W.heap.size [.int .i64 0, .string ⟨#[]⟩, .int .i64 0]) := Arr.new' _ _ _ _ rfl
 have HP0 : Hid (PP (W.alloc (.cells #[.int .i64 0, .string ⟨#[]⟩, .int .i64 0] 110)) pb tb c ts s) := h.later HB0.out
 have a0 := HP0.out.1.cell 0
 have a1 := HP0.out.1.cell 1
 simp only [List.getElem?_cons_zero, List.getElem?_cons_succ] at a0 a1
 have t0 := HP0.out.2.2.1 s.i hi 0 (by decide)
 have t1 := HP0.out.2.2.1 s.i hi 1 (by decide)
 have t2 := HP0.out.2.2.1 s.i hi 2 (by decide)
 obtain ⟨si, hsi⟩ : ∃ k, k = s.i := ⟨_, rfl⟩
 obtain ⟨k0, hk0⟩ : ∃ k, k = (ts.getD s.i tok0).1 := ⟨_, rfl⟩
 obtain ⟨k1, hk1⟩ : ∃ k, k = bstr (txt ts s.i) := ⟨_, rfl⟩
 obtain ⟨k2, hk2⟩ : ∃ k, k = offs ts s.i := ⟨_, rfl⟩
 have t0 : (W.alloc (.cells #[.int .i64 0, .string ⟨#[]⟩, .int .i64 0] 110)).cell? ⟨tb, s.i * 3 + 0, none⟩ = some (.int .i64 (ts.getD s.i tok0).1) := t0
 have t1 : (W.alloc (.cells #[.int .i64 0, .string ⟨#[]⟩, .int .i64 0] 110)).cell? ⟨tb, s.i * 3 + 1, none⟩ = some (.string (bstr (txt ts s.i))) := t1
 have t2 : (W.alloc (.cells #[.int .i64 0, .string ⟨#[]⟩, .int .i64 0] 110)).cell? ⟨tb, s.i * 3 + 2, none⟩ = some (.int .i64 (offs ts s.i)) := t2
 rw [← hsi] at a1 t0 t1 t2
 rw [← hsi] at hk0 hk1 hk2
 rw [← hsi]
 rw [← hk0] at t0
 rw [← hk1] at t1
 rw [← hk2] at t2
 rw [← hk0, ← hk1, ← hk2]
 have hi0 : (0 : Int) ≤ (si : Int) := by omega
 have hi1 : (si : Int) < ts.length := by omega
 rw [Nat.add_zero] at t0
 have HSI : Hid (si = s.i) := hsi
 have HT : Hid (∀ w', PP w' pb tb c ts s → w'.cell? ⟨tb, si * 3, none⟩ = some (.int .i64 k0) ∧ w'.cell? ⟨tb, si * 3 + 1, none⟩ = some (.string k1) ∧ w'.cell? ⟨tb, si * 3 + 2, none⟩ = some (.int .i64 k2)) := fun w' hp => by
  rw [hk0, hk1, hk2, hsi]
  exact ⟨hp.2.2.1 s.i hi 0 (by decide), hp.2.2.1 s.i hi 1 (by decide), hp.2.2.1 s.i hi 2 (by decide)⟩
 have HPW := hiD h
 have HS : Hid (SN W pb tb c ts s (W.alloc (.cells #[.int .i64 0, .string ⟨#[]⟩, .int .i64 0] 110))) := ⟨HP0.out, ⟨_, _, _, HA0.out⟩, HB0.out⟩
 clear h hi hk0 hk1 hk2 hsi a0 a1 t0 t1 t2
 go_enter Tryz.func48, Tryz.ntmps48
 go_wp2_with fail
 go_upto_region 1 with (fail)
 refine wp_region_noPanic ?_
 refine wp_region_held_drew (S := SN W pb tb c ts s) (by kernel_rfl) (HS.out.later (Below.refl _ _).drew) (fun hHeld => ?_)
 try simp only [Act.put]
 generalize (W.alloc (.cells #[.int .i64 0, .string ⟨#[]⟩, .int .i64 0] 110)).drew = w1 at hHeld ⊢
 clear HS
 refine wpAnyH_take (i := 0) (oi := ⟨some 3, _, _, _, _, _⟩) (v := .pointer (some ⟨pb, 0, none⟩)) rfl (by kernel_rfl) (by kernel_rfl) (by kernel_rfl) (fun _ _ _ h => h) (.inl ⟨by rfl, fun w' hSw => ?_⟩) hHeld ?_
 focus (skip; clear hHeld; go_simp)
 try simp only [Act.put, pz0, pz1, pz2]
 refine wpAnyH_take (i := 1) (oi := ⟨some 4, _, _, _, _, _⟩) (v := .pointer (some ⟨pb, 0, none⟩)) rfl (by kernel_rfl) (by kernel_rfl) (by kernel_rfl) (fun _ _ _ h => h) (.inl ⟨by rfl, fun w' hSw => ?_⟩) hHeld ?_
 focus (skip; clear hHeld; go_simp)
 try simp only [Act.put, pz0, pz1, pz2]
 refine wpAnyH_take (i := 2) (oi := ⟨some 5, _, _, _, _, _⟩) (v := .pointer (some ⟨pb, 0, none⟩)) rfl (by kernel_rfl) (by kernel_rfl) (by kernel_rfl) (fun _ _ _ h => h) (.inl ⟨by rfl, fun w' hSw => ?_⟩) hHeld ?_
 focus (skip; clear hHeld; go_simp)
 try simp only [Act.put, pz0, pz1, pz2]
 refine wpAnyH_take (i := 3) (oi := ⟨some 6, _, _, _, _, _⟩) (v := .slice (some ⟨tb, 0, none⟩) ts.length c) rfl (by kernel_rfl) (by kernel_rfl) (by kernel_rfl) (fun _ _ _ h => h) (.inl ⟨by rfl, fun w' hSw => ?_⟩) hHeld ?_
 focus (have q0 := hSw.1.1.cell 0; simp only [List.getElem?_cons_zero] at q0; clear hHeld; go_simp)
 try simp only [Act.put, pz0, pz1, pz2]
 refine wpAnyH_take (i := 4) (oi := ⟨some 7, _, _, _, _, _⟩) (v := .pointer (some ⟨pb, 0, none⟩)) rfl (by kernel_rfl) (by kernel_rfl) (by kernel_rfl) (fun _ _ _ h => h) (.inl ⟨by rfl, fun w' hSw => ?_⟩) hHeld ?_
 focus (skip; clear hHeld; go_simp)
 try simp only [Act.put, pz0, pz1, pz2]
 refine wpAnyH_take (i := 5) (oi := ⟨some 8, _, _, _, _, _⟩) (v := .pointer (some ⟨pb, 0, none⟩)) rfl (by kernel_rfl) (by kernel_rfl) (by kernel_rfl) (fun _ _ _ h => h) (.inl ⟨by rfl, fun w' hSw => ?_⟩) hHeld ?_
 focus (skip; clear hHeld; go_simp)
 try simp only [Act.put, pz0, pz1, pz2]
 refine wpAnyH_take (i := 6) (oi := ⟨some 9, _, _, _, _, _⟩) (v := .pointer (some ⟨pb, 1, none⟩)) rfl (by kernel_rfl) (by kernel_rfl) (by kernel_rfl) (fun _ _ _ h => h) (.inl ⟨by rfl, fun w' hSw => ?_⟩) hHeld ?_
 focus (skip; clear hHeld; go_simp)
 try simp only [Act.put, pz0, pz1, pz2]
 refine wpAnyH_take (i := 7) (oi := ⟨some 10, _, _, _, _, _⟩) (v := .int .i64 (si : Nat)) rfl (by kernel_rfl) (by kernel_rfl) (by kernel_rfl) (fun _ _ _ h => h) (.inl ⟨by rfl, fun w' hSw => ?_⟩) hHeld ?_
 focus (have q1 := hSw.1.1.cell 1; simp only [List.getElem?_cons_zero, List.getElem?_cons_succ] at q1; rw [← HSI.out] at q1; clear hHeld; go_simp)
 try simp only [Act.put, pz0, pz1, pz2]
 refine wpAnyH_take (i := 8) (oi := ⟨some 11, _, _, _, _, _⟩) (v := .pointer (some ⟨tb, si * 3, none⟩)) rfl (by kernel_rfl) (by kernel_rfl) (by kernel_rfl) (fun _ _ _ h => h) (.inl ⟨by rfl, fun w' hSw => ?_⟩) hHeld ?_
 focus (skip; clear hHeld; go_simp)
 try simp only [Act.put, pz0, pz1, pz2]
 refine wpAnyH_take (i := 9) (oi := ⟨some 12, _, _, _, _, _⟩) (v := .agg #[.int .i64 k0, .string k1, .int .i64 k2]) rfl (by kernel_rfl) (by kernel_rfl) (by kernel_rfl) (fun _ _ _ h => h) (.inl ⟨by rfl, fun w' hSw => ?_⟩) hHeld ?_
 focus (obtain ⟨t0, t1, t2⟩ := HT.out w' hSw.1; clear hHeld; go_simp)
 try simp only [Act.put, pz0, pz1, pz2]
 refine wpAnyH_ready (rs := [10]) (by kernel_rfl) (by simp) ?_
 refine AllReadyH.cons (o := ⟨none, _, _, _, _, _⟩) rfl (fun K' hK' => ?_) AllReadyH.nil
 obtain ⟨hp, ⟨z0, z1, z2, hz⟩, hb⟩ := hHeld
 have HZ := hiD hz
 have HP1 := hiD hp
 have b0 := hz.cell 0
 have b1 := hz.cell 1
 have b2 := hz.cell 2
 have f0 := hz.free 0
 have f1 := hz.free 1
 have f2 := hz.free 2
 simp only [List.getElem?_cons_zero, List.getElem?_cons_succ] at b0 b1 b2
 have HB2 : Hid (Below W.heap.size W (((w1.setCell ⟨W.heap.size, 0, none⟩ (.int .i64 k0)).setCell ⟨W.heap.size, 1, none⟩ (.string k1)).setCell ⟨W.heap.size, 2, none⟩ (.int .i64 k2))) := ((hb.setCell (p := ⟨W.heap.size, 0, none⟩) (Nat.le_refl _) (.int .i64 k0)).setCell (p := ⟨W.heap.size, 1, none⟩) (Nat.le_refl _) (.string k1)).setCell (p := ⟨W.heap.size, 2, none⟩) (Nat.le_refl _) (.int .i64 k2)
 have hA := ((hz.set 0 (.int .i64 k0)).set 1 (.string k1)).set 2 (.int .i64 k2)
 have hA2 := hA
 simp only [List.set_cons_zero, List.set_cons_succ] at hA2
 have HA2 := hiD hA2
 have HP2 : Hid (PP (((w1.setCell ⟨W.heap.size, 0, none⟩ (.int .i64 k0)).setCell ⟨W.heap.size, 1, none⟩ (.string k1)).setCell ⟨W.heap.size, 2, none⟩ (.int .i64 k2)) pb tb c ts s) := (HPW.out.later HB2.out)
 clear hp hz hb hA hA2
 go_simp
 refine hK'.out _ _ ⟨HP2.out, ⟨_, _, _, HA2.out⟩, HB2.out⟩ (fun _ => ?_)
 clear hK' K' b0 b1 b2 f0 f1 f2
 try simp only [Act.put, pz0, pz1, pz2]
 refine wpAnyH_done (by kernel_rfl) ?_ _
 refine NoPanic.normal ?_
 have hA := HA2.out
 have hB := HB2.out
 go_wp2_with fail
 have c0 := hA.cell 0
 have c1 := hA.cell 1
 have c2 := hA.cell 2
 refine bodyPost_ret (v := .agg #[.int .i64 k0, .string k1, .int .i64 k2]) ?_ rfl ⟨rfl, hB⟩
 simp only [List.getElem?_cons_zero, List.getElem?_cons_succ] at c0 c1 c2
 simp [results, Tryz.results48, go_sem, c0, c1, c2]
set_option maxRecDepth 100000 in
set_option maxHeartbeats 2000000 in
theorem is_any (h : PP W pb tb c ts s) (hi : s.i < ts.length) (b : ByteArray) (t : List UInt8) (hb : b.data.toList = t) : Calls Tryz.prog 49 #[.pointer (some ⟨pb, 0, none⟩), .string b] W fun e w' => e = .returned (.bool (decide (txt ts s.i = t))) ∧ Below W.heap.size W w' := by
 have HN := hiD (next_any h hi)
 have hfl := fieldT1
 obtain ⟨d, hd⟩ : ∃ d, d = decide (txt ts s.i = t) := ⟨_, rfl⟩
 have HD := hiD hd
 obtain ⟨k1, hk1⟩ : ∃ k, k = bstr (txt ts s.i) := ⟨_, rfl⟩
 have he : (k1.toList == b.toList) = d := by
  rw [hk1, toList_data, toList_data, bstr_data, hb, hd, Bool.eq_iff_iff, beq_iff_eq, decide_eq_true_iff]
 rw [← hk1] at HN
 rw [← hd]
 clear hd hk1 h hi hb
 go_enter Tryz.func49, Tryz.ntmps49
 go_wp2_with fail
 refine HN.out.mono ?_
 rintro r w1 ⟨rfl, b1⟩
 have HB := hiD b1
 clear b1
 go_wp2_with fail
 go_ret
 exact ⟨rfl, HB.out⟩
set_option maxRecDepth 100000 in
set_option maxHeartbeats 2000000 in
theorem need_t (k : Int) : Calls Tryz.prog 47 #[.pointer (some ⟨pb, 0, none⟩), .bool true, .int .i64 k] W fun e w' => e = .returned (.tuple #[]) ∧ w' = W := by
 go_enter Tryz.func47, Tryz.ntmps47
 go_wp2_with fail
 go_end0
 exact ⟨rfl, rfl⟩
set_option maxRecDepth 100000 in
set_option maxHeartbeats 2000000 in
theorem need_f (h : PP W pb tb c ts s) (hi : s.i < ts.length) (k : Nat) : Calls Tryz.prog 47 #[.pointer (some ⟨pb, 0, none⟩), .bool false, .int .i64 k] W fun e w' => e = .panicked [{ v := flt k (offs ts s.i), recovered := false }] ∧ Below W.heap.size W w' := by
 have HN := hiD (next_any h hi)
 have HF := hiD (fnew_any (k : Nat) (offs ts s.i))
 have hfl := fieldT2
 unfold flt
 clear h hi
 go_enter Tryz.func47, Tryz.ntmps47
 go_wp2_with fail
 refine HN.out.mono ?_
 rintro r w1 ⟨rfl, b1⟩
 have HB := hiD b1
 clear b1
 go_wp2_with fail
 refine (HF.out _).mono ?_
 rintro r w2 ⟨rfl, rfl⟩
 go_wp2_with fail
 exact ⟨rfl, rfl, HB.out⟩
set_option maxRecDepth 100000 in
set_option maxHeartbeats 2000000 in
theorem skip_any (h : PP W pb tb c ts s) (hi : s.i < ts.length) (b : ByteArray) (t : List UInt8) (hb : b.data.toList = t) : Calls Tryz.prog 101 #[.pointer (some ⟨pb, 0, none⟩), .string b] W fun e w' => ∃ d, d = decide (txt ts s.i = t) ∧ e = .returned (.bool d) ∧ PP w' pb tb c ts (if d = true then s.up else s) ∧ Kp pb W w' := by
 have HI := hiD (is_any h hi b t hb)
 obtain ⟨d, hd⟩ : ∃ d, d = decide (txt ts s.i = t) := ⟨_, rfl⟩
 have HD := hiD hd
 have HP := hiD h
 have hz : (s.i : Int) ≤ 100000 := by have := h.2.2.2.1; omega
 have hz0 : (0 : Int) ≤ s.i := by omega
 rw [← hd] at HI
 clear h hi hd hb
 go_enter Tryz.func101, Tryz.ntmps101
 go_wp2_with fail
 refine HI.out.mono ?_
 rintro r w1 ⟨rfl, b1⟩
 have HP1 := hiD (HP.out.later b1)
 have HK := hiD (Kp.of (pb := pb) b1)
 have a0 := HP1.out.1.cell 0
 have a1 := HP1.out.1.cell 1
 have f1 := HP1.out.1.free 1
 simp only [List.getElem?_cons_zero, List.getElem?_cons_succ] at a0 a1
 clear b1 HI
 cases d with
 | true =>
  go_wp2_with fail
  go_ret
  exact ⟨true, HD.out, rfl, HP1.out.set (by simp [PS.up]), HK.out.set _ _⟩
 | false =>
  go_wp2_with fail
  go_ret
  exact ⟨false, HD.out, rfl, HP1.out, HK.out⟩
set_option maxRecDepth 100000 in
set_option maxHeartbeats 2000000 in
theorem want_any (h : PP W pb tb c ts s) (hi : s.i < ts.length) (b : ByteArray) (t : List UInt8) (hb : b.data.toList = t) : Calls Tryz.prog 76 #[.pointer (some ⟨pb, 0, none⟩), .string b] W (QR pb tb c ts W (wantF ts t s) fun _ _ v => v = .tuple #[]) := by
 have HI := hiD (is_any h hi b t hb)
 obtain ⟨d, hd⟩ : ∃ d, d = decide (txt ts s.i = t) := ⟨_, rfl⟩
 have HD := hiD hd
 have HP := hiD h
 have HH := hiD hi
 have hz : (s.i : Int) ≤ 100000 := by have := h.2.2.2.1; omega
 have hz0 : (0 : Int) ≤ s.i := by omega
 rw [← hd] at HI
 clear h hi hd hb
 go_enter Tryz.func76, Tryz.ntmps76
 go_wp2_with fail
 refine HI.out.mono ?_
 rintro r w1 ⟨rfl, b1⟩
 have HP1 := hiD (HP.out.later b1)
 have HK := hiD (Kp.of (pb := pb) b1)
 have a0 := HP1.out.1.cell 0
 have a1 := HP1.out.1.cell 1
 have f1 := HP1.out.1.free 1
 simp only [List.getElem?_cons_zero, List.getElem?_cons_succ] at a0 a1
 clear b1 HI
 cases d with
 | true =>
  have HW : Hid (wantF ts t s = .ok () s.up) := if_pos (of_decide_eq_true HD.out.symm)
  go_wp2_with fail
  refine (need_t 6).mono ?_
  rintro r w2 ⟨rfl, rfl⟩
  go_wp2_with fail
  go_end0
  exact .inl ⟨(), s.up, _, HW.out, rfl, rfl, HP1.out.set (by simp [PS.up]), HK.out.set _ _⟩
 | false =>
  have HW : Hid (wantF ts t s = .bad 6 s.i) := if_neg (of_decide_eq_false HD.out.symm)
  go_wp2_with fail
  refine (need_f HP1.out HH.out 6).mono ?_
  rintro r w2 ⟨rfl, b2⟩
  have HK2 := hiD (HK.out.trans (Kp.of (pb := pb) b2))
  clear b2
  go_wp2_with fail
  exact ⟨rfl, .inr ⟨6, s.i, HW.out, rfl, HK2.out⟩⟩
set_option maxRecDepth 100000 in
set_option maxHeartbeats 2000000 in
theorem needName_any (h : PP W pb tb c ts s) (hi : s.i < ts.length) : Calls Tryz.prog 100 #[.pointer (some ⟨pb, 0, none⟩)] W fun e w' => Below W.heap.size W w' ∧ ((isName (bstr (txt ts s.i)) = true ∧ e = .returned (.tuple #[])) ∨ (isName (bstr (txt ts s.i)) = false ∧ e = .panicked [{ v := flt 6 (offs ts s.i), recovered := false }])) := by
 have HN := hiD (next_any h hi)
 have HP := hiD h
 have HH := hiD hi
 have hfl := fieldT1
 obtain ⟨d, hd⟩ : ∃ d, d = isName (bstr (txt ts s.i)) := ⟨_, rfl⟩
 have HD := hiD hd
 clear h hi hd
 go_enter Tryz.func100, Tryz.ntmps100
 go_wp2_with fail
 refine HN.out.mono ?_
 rintro r w1 ⟨rfl, b1⟩
 have HP1 := hiD (HP.out.later b1)
 have HB1 := hiD b1
 have HIS := hiD (isName_any (bstr (txt ts s.i)) w1 HP1.out.2.2.2.2.1)
 rw [← HD.out] at HIS
 clear b1 HN
 go_wp2_with fail
 refine HIS.out.mono ?_
 rintro r w2 ⟨rfl, b2⟩
 have HP2 := hiD (HP1.out.later b2)
 have HB2 := hiD (HB1.out.trans (b2.mono HB1.out.size))
 clear b2 HIS
 cases d with
 | true =>
  go_wp2_with fail
  refine (need_t 6).mono ?_
  rintro r w3 ⟨rfl, rfl⟩
  go_wp2_with fail
  go_end0
  exact ⟨HB2.out, .inl ⟨HD.out.symm, rfl⟩⟩
 | false =>
  go_wp2_with fail
  refine (need_f HP2.out HH.out 6).mono ?_
  rintro r w3 ⟨rfl, b3⟩
  have HB3 := hiD (HB2.out.trans (b3.mono HB2.out.size))
  clear b3
  go_wp2_with fail
  exact ⟨rfl, HB3.out, .inr ⟨HD.out.symm, rfl⟩⟩
set_option maxRecDepth 100000 in
set_option maxHeartbeats 2000000 in
theorem name_any (h : PP W pb tb c ts s) (hi : s.i < ts.length) : Calls Tryz.prog 77 #[.pointer (some ⟨pb, 0, none⟩)] W (QR pb tb c ts W (nameF ts s) fun x _ v => v = .string (bstr x)) := by
 have HN := hiD (needName_any h hi)
 have HP := hiD h
 have HH := hiD hi
 have hfl := fieldT1
 have hz : (s.i : Int) ≤ 100000 := by have := h.2.2.2.1; omega
 have hz0 : (0 : Int) ≤ s.i := by omega
 clear h hi
 go_enter Tryz.func77, Tryz.ntmps77
 go_wp2_with fail
 refine HN.out.mono ?_
 rintro r w1 ⟨b1, (⟨hn, rfl⟩ | ⟨hn, rfl⟩)⟩
 ·have HP1 := hiD (HP.out.later b1)
  have HB1 := hiD b1
  have HW : Hid (nameF ts s = .ok (txt ts s.i) s.up) := if_pos hn
  have HX := hiD (next_any HP1.out HH.out)
  clear b1 hn HN
  go_wp2_with fail
  refine HX.out.mono ?_
  rintro r w2 ⟨rfl, b2⟩
  have HP2 := hiD (HP1.out.later b2)
  have HB2 := hiD (HB1.out.trans (b2.mono HB1.out.size))
  clear b2 HX
  have a0 := HP2.out.1.cell 0
  have a1 := HP2.out.1.cell 1
  have f1 := HP2.out.1.free 1
  simp only [List.getElem?_cons_zero, List.getElem?_cons_succ] at a0 a1
  go_wp2_with fail
  go_ret
  exact .inl ⟨_, s.up, _, HW.out, rfl, rfl, HP2.out.set (by simp [PS.up]), (Kp.of HB2.out).set _ _⟩
 ·have HB1 := hiD b1
  have HW : Hid (nameF ts s = .bad 6 s.i) := if_neg (by rw [hn]; simp)
  clear b1 hn HN
  go_wp2_with fail
  exact ⟨rfl, .inr ⟨6, s.i, HW.out, rfl, Kp.of HB1.out⟩⟩
end
theorem PP.below {B : Nat} {W W' : World} {pb tb c : Nat} {ts : List Tok} {s : PS} (h : PP W pb tb c ts s) (hb : Below B W W') (hB : pb < B) : PP W' pb tb c ts s :=
 ⟨h.1.below hb hB, h.2.1, fun i hi j hj => (hb.cell (p := ⟨tb, i * 3 + j, none⟩) (Nat.lt_trans h.2.1 hB)).trans (h.2.2.1 i hi j hj), h.2.2.2.1, h.2.2.2.2.1.below hb (Nat.lt_trans h.2.2.2.2.2 hB), h.2.2.2.2.2⟩
theorem PP.box {W : World} {pb tb c : Nat} {ts : List Tok} {s : PS} (h : PP W pb tb c ts s) {g : Nat} (hg : pb < g) (i : Nat) (v : Value) : PP (W.setCell ⟨g, i, none⟩ v) pb tb c ts s := h.below ((Below.refl g W).setCell (p := ⟨g, i, none⟩) (Nat.le_refl _) v) hg
theorem Kp.box {pb : Nat} {W W' : World} (h : Kp pb W W') {g : Nat} (hg : W.heap.size ≤ g) (i : Nat) (v : Value) : Kp pb W (W'.setCell ⟨g, i, none⟩ v) :=
 ⟨h.1, h.2.1, h.2.2.1, by simpa [World.setCell] using h.2.2.2.1, fun k hk hn => (Below.heap_setCell W' ⟨g, i, none⟩ v k (by simp only [ne_eq]; omega)).trans (h.2.2.2.2 k hk hn)⟩
section
variable {W : World} {pb tb c : Nat} {ts : List Tok} {s : PS}
set_option maxRecDepth 100000 in
set_option maxHeartbeats 2000000 in
theorem allowed_any (ho : OkTs ts) (h : PP W pb tb c ts s) (hi : s.i < ts.length) : Calls Tryz.prog 116 #[.pointer (some ⟨pb, 0, none⟩)] W (QR pb tb c ts W (allowedF ts s) fun x _ v => v = .agg #[.string (bstr x.1), .string (bstr x.2)]) := by
 have hb0 : Below W.heap.size W (W.alloc (.cells #[.string ⟨#[]⟩, .string ⟨#[]⟩] 42)) := (Below.refl _ _).alloc (Nat.le_refl _) _
 have HP0 := hiD (h.later hb0)
 have HK0 := hiD (Kp.of (pb := pb) hb0)
 have HA0 : Hid (Arr (W.alloc (.cells #[.string ⟨#[]⟩, .string ⟨#[]⟩] 42)) 42 W.heap.size [.string ⟨#[]⟩, .string ⟨#[]⟩]) := Arr.new' _ _ _ _ rfl
 have HN := hiD (name_any HP0.out hi)
 have HLT : Hid (pb < W.heap.size) := h.1.lt
 have HH := hiD hi
 have HO := hiD ho
 clear h hi hb0 ho
 go_enter Tryz.func116, Tryz.ntmps116
 go_wp2_with fail
 refine HN.out.mono ?_
 rintro r w1 (⟨a, s1, v, e1, rfl, rfl, p1, k1⟩ | ⟨k, i, e1, rfl, k1⟩)
 ·have HE1 := hiD e1
  have HS1 : Hid (s1.i < ts.length) := (keeps_name HO.out s a s1 HH.out e1).1
  have HA1 := hiD (k1.arr HA0.out (by have := HLT.out; omega))
  have HK1 := hiD (HK0.out.trans k1)
  obtain ⟨sa, hsa⟩ : ∃ x, x = bstr a := ⟨_, rfl⟩
  have HSA := hiD hsa
  rw [← hsa]
  have HP2 : Hid (PP (w1.setCell ⟨W.heap.size, 0, none⟩ (.string sa)) pb tb c ts s1) := p1.box HLT.out _ _
  have HK2 : Hid (Kp pb W (w1.setCell ⟨W.heap.size, 0, none⟩ (.string sa))) := HK1.out.box (Nat.le_refl _) _ _
  have HA2 : Hid (Arr (w1.setCell ⟨W.heap.size, 0, none⟩ (.string sa)) 42 W.heap.size [.string sa, .string ⟨#[]⟩]) := HA1.out.set 0 _
  have HSK := hiD (skip_any HP2.out HS1.out ⟨#[35]⟩ [35] rfl)
  have x0 := HA1.out.cell 0
  have x1 := HA1.out.cell 1
  have xf0 := HA1.out.free 0
  have xf1 := HA1.out.free 1
  simp only [List.getElem?_cons_zero, List.getElem?_cons_succ] at x0 x1
  clear e1 p1 k1 HN hsa
  go_wp2_with fail
  clear x0 x1 xf0 xf1
  refine HSK.out.mono ?_
  rintro r w3 ⟨d, hd, rfl, p3, k3⟩
  have HD := hiD hd
  have HA3 := hiD (k3.arr HA2.out (by have := HLT.out; omega))
  have HK3 := hiD (HK2.out.trans k3)
  have x0 := HA3.out.cell 0
  have x1 := HA3.out.cell 1
  have xf0 := HA3.out.free 0
  have xf1 := HA3.out.free 1
  simp only [List.getElem?_cons_zero, List.getElem?_cons_succ] at x0 x1
  cases d with
  | true =>
   have ht := of_decide_eq_true hd.symm
   have HS2 : Hid (s1.up.i < ts.length) := HO.out.step (by rw [ht]; simp)
   have HP3 : Hid (PP w3 pb tb c ts s1.up) := p3
   have HN2 := hiD (name_any HP3.out HS2.out)
   have HT := hiD ht
   clear hd p3 k3 HSK ht
   go_wp2_with fail
   refine HN2.out.mono ?_
   rintro r w4 (⟨b, s2, v, e2, rfl, rfl, p4, k4⟩ | ⟨k, i, e2, rfl, k4⟩)
   ·have HA4 := hiD (k4.arr HA3.out (by have := HLT.out; omega))
    have HK4 := hiD (HK3.out.trans k4)
    have HP4 := hiD p4
    have HE2 : Hid (allowedF ts s = .ok (a, b) s2) := by
     show _ = _
     unfold allowedF
     rw [HE1.out, PR.then_ok, if_pos HT.out, e2]; rfl
    obtain ⟨sb, hsb⟩ : ∃ x, x = bstr b := ⟨_, rfl⟩
    have HSB := hiD hsb
    rw [← hsb]
    clear x0 x1 xf0 xf1 e2 p4 k4 HN2 hsb
    have HA5 : Hid (Arr (w4.setCell ⟨W.heap.size, 1, none⟩ (.string sb)) 42 W.heap.size [.string sa, .string sb]) := HA4.out.set 1 _
    have HP5 : Hid (PP (w4.setCell ⟨W.heap.size, 1, none⟩ (.string sb)) pb tb c ts s2) := HP4.out.box HLT.out _ _
    have HK5 : Hid (Kp pb W (w4.setCell ⟨W.heap.size, 1, none⟩ (.string sb))) := HK4.out.box (Nat.le_refl _) _ _
    have x0 := HA4.out.cell 0
    have x1 := HA4.out.cell 1
    have xf0 := HA4.out.free 0
    have xf1 := HA4.out.free 1
    simp only [List.getElem?_cons_zero, List.getElem?_cons_succ] at x0 x1
    go_upto_region 4 with (fail)
    clear x0 x1 xf0 xf1
    have x0 := HA5.out.cell 0
    have x1 := HA5.out.cell 1
    have xf0 := HA5.out.free 0
    have xf1 := HA5.out.free 1
    simp only [List.getElem?_cons_zero, List.getElem?_cons_succ] at x0 x1
    generalize w4.setCell ⟨W.heap.size, 1, none⟩ (.string sb) = w5 at HA5 HP5 HK5 x0 x1 xf0 xf1 ⊢
    go_wp2_with fail
    have hA := ((HA5.out.set 0 (.string sa)).set 1 (.string sb))
    simp only [List.set_cons_zero, List.set_cons_succ] at hA
    have c0 := hA.cell 0
    have c1 := hA.cell 1
    simp only [List.getElem?_cons_zero, List.getElem?_cons_succ] at c0 c1
    refine bodyPost_ret (v := .agg #[.string sa, .string sb]) ?_ rfl (.inl ⟨(a, b), s2, _, HE2.out, rfl, by rw [HSA.out, HSB.out], (HP5.out.box HLT.out _ _).box HLT.out _ _, (HK5.out.box (Nat.le_refl _) _ _).box (Nat.le_refl _) _ _⟩)
    simp [results, Tryz.results116, go_sem, c0, c1]
   ·have HK4 := hiD (HK3.out.trans k4)
    have HE2 : Hid (allowedF ts s = .bad k i) := by
     show _ = _
     unfold allowedF
     rw [HE1.out, PR.then_ok, if_pos HT.out, e2]; rfl
    clear e2 k4 HN2
    go_wp2_with fail
    exact ⟨rfl, .inr ⟨k, i, HE2.out, rfl, HK4.out⟩⟩
  | false =>
   have HT := hiD (of_decide_eq_false hd.symm)
   have HP3 : Hid (PP w3 pb tb c ts s1) := p3
   have HE2 : Hid (allowedF ts s = .ok (a, []) s1) := by
    show _ = _
    unfold allowedF
    rw [HE1.out, PR.then_ok, if_neg HT.out]
   clear hd p3 k3 HSK
   go_wp2_with fail
   have hA := ((HA3.out.set 0 (.string sa)).set 1 (.string ⟨#[]⟩))
   simp only [List.set_cons_zero, List.set_cons_succ] at hA
   have c0 := hA.cell 0
   have c1 := hA.cell 1
   simp only [List.getElem?_cons_zero, List.getElem?_cons_succ] at c0 c1
   refine bodyPost_ret (v := .agg #[.string sa, .string ⟨#[]⟩]) ?_ rfl (.inl ⟨(a, []), s1, _, HE2.out, rfl, by rw [HSA.out]; rfl, (HP3.out.box HLT.out _ _).box HLT.out _ _, (HK3.out.box (Nat.le_refl _) _ _).box (Nat.le_refl _) _ _⟩)
   simp [results, Tryz.results116, go_sem, c0, c1]
 ·have HK1 := hiD (HK0.out.trans k1)
  have HE2 : Hid (allowedF ts s = .bad k i) := by
   show _ = _
   unfold allowedF
   rw [e1]; rfl
  clear e1 k1 HN
  go_wp2_with fail
  exact ⟨rfl, .inr ⟨k, i, HE2.out, rfl, HK1.out⟩⟩
end
end Go.Proofs.YtkildckeikedhaaGreatDoor
