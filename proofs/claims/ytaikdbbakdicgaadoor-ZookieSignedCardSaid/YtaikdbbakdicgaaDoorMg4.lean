/-
  errors.As and fault.find on an error of type api.Code.
-/
import Derived.Test.YtaikdbbakdicgaaDoorMg3
import Derived.Test.YtaikdbbakdicgaaDoorMg0
import Derived.Lib.SmallJoins
import Derived.Stop.BytesEq
import Derived.Test.YtaikdbbakdicgaaDoorMg2
import Derived.Deep.RegionHeld3
import Derived.Deep.RegionLaw
import Derived.Deep.Cut
import Derived.Lib.ConvBytes
import Derived.Test.YtaikdbbakdicgaaDoorMg1
namespace Go.Proofs.YtaikdbbakdicgaaDoor.errAs
open Go.RowKit Go.Extern.Stop Go.Stop Go.Extern
set_option linter.unusedVariables false

theorem noAsC (v : Value) (x : TypeId) (w : World) : (Instr.typeAssert (.iface 35 v) x 139 true).run Tryd.prog w = .ok (.tuple #[.nilIface, .bool false]) w := run_typeAssert_lacksB Tryd.underlying139 (by kernel_rfl) (by kernel_rfl) v x w
theorem noUnwrapC (v : Value) (x : TypeId) (w : World) : (Instr.typeAssert (.iface 35 v) x 142 true).run Tryd.prog w = .ok (.tuple #[.nilIface, .bool false]) w := run_typeAssert_lacksB Tryd.underlying142 (by kernel_rfl) (by kernel_rfl) v x w
theorem noUnwrapsC (v : Value) (x : TypeId) (w : World) : (Instr.typeAssert (.iface 35 v) x 143 true).run Tryd.prog w = .ok (.tuple #[.nilIface, .bool false]) w := run_typeAssert_lacksB Tryd.underlying143 (by kernel_rfl) (by kernel_rfl) v x w

set_option maxRecDepth 100000 in
set_option maxHeartbeats 4000000 in
theorem as_C_F (c : Int) (tb : Nat) (a : Addr) (w : World) :
    Calls Tryd.prog 78 #[.iface 35 (.int .i64 c), .iface 112 (.pointer (some ⟨tb, 0, none⟩)), .agg #[.pointer (some ⟨4, 112, none⟩), .pointer (some a), .int .u64 150], .iface 134 (.agg #[.pointer (some ⟨4, 93, none⟩)])] w fun e w' => e = .returned (.bool false) ∧ Below w.heap.size w w' := by
  have h10 := @run_callFunc_extern Tryd.prog 83 _ ReflectliteType.typeOf Tryd.func83 (by kernel_rfl) (by kernel_rfl) (by kernel_rfl) (by kernel_rfl)
  have h35 := @run_callFunc_extern Tryd.prog 111 _ (ReflectliteType.relation "AssignableTo" ReflectliteType.assignableTo) Tryd.func111 (by kernel_rfl) (by kernel_rfl) (by kernel_rfl) (by kernel_rfl)
  have tO2 := typeOfC
  have mA := methodAssignableTo
  have a2 := assignableCF
  have nC := noAsC
  have nU := noUnwrapC
  have nUs := noUnwrapsC
  have hb := (Below.refl w.heap.size w).alloc (Nat.le_refl _) (.cells #[.pointer (some ⟨4, 112, none⟩), .pointer (some a), .int .u64 150] 121)
  obtain ⟨w0, hw0⟩ : ∃ w0, w0 = w.alloc (.cells #[.pointer (some ⟨4, 112, none⟩), .pointer (some a), .int .u64 150] 121) := ⟨_, rfl⟩
  rw [← hw0] at hb
  have HB := Lib.hid hb
  have HW := Lib.hid hw0
  clear hb hw0
  go_enter Tryd.func78, Tryd.ntmps78
  go_wp2_with fail
  rw [← HW.out]
  refine wp_loop_rounds 1 ?_
  rw [rounds_succ]
  go_wp2_with fail
  go_ret
  exact ⟨rfl, HB.out⟩

set_option maxRecDepth 100000 in
set_option maxHeartbeats 4000000 in
theorem as_C_C (c : Int) (tb : Nat) (a : Addr) (w : World) (ha : w.cell? a = some (.pointer (some ⟨tb, 0, none⟩))) (hf : SlotC w tb) :
    Calls Tryd.prog 78 #[.iface 35 (.int .i64 c), .iface 110 (.pointer (some ⟨tb, 0, none⟩)), .agg #[.pointer (some ⟨4, 110, none⟩), .pointer (some a), .int .u64 150], .iface 134 (.agg #[.pointer (some ⟨4, 35, none⟩)])] w (AsPostC w tb c) := by
  have h10 := @run_callFunc_extern Tryd.prog 83 _ ReflectliteType.typeOf Tryd.func83 (by kernel_rfl) (by kernel_rfl) (by kernel_rfl) (by kernel_rfl)
  have h35 := @run_callFunc_extern Tryd.prog 111 _ (ReflectliteType.relation "AssignableTo" ReflectliteType.assignableTo) Tryd.func111 (by kernel_rfl) (by kernel_rfl) (by kernel_rfl) (by kernel_rfl)
  have h11 := @run_callFunc_extern Tryd.prog 84 _ (ReflectliteValue.method (ReflectliteValue.valueError "reflectlite.Value.Elem" 0) ReflectliteValue.elem) Tryd.func84 (by kernel_rfl) (by kernel_rfl) (by kernel_rfl) (by kernel_rfl)
  have h6 := @run_callFunc_extern Tryd.prog 75 _ (fun args => ReflectliteValue.unpack (args.getD 0 (.tuple #[]))) Tryd.func75 (by kernel_rfl) (by kernel_rfl) (by kernel_rfl) (by kernel_rfl)
  have h12 := @run_callFunc_extern Tryd.prog 85 _ ReflectliteValue.set Tryd.func85 (by kernel_rfl) (by kernel_rfl) (by kernel_rfl) (by kernel_rfl)
  have tO := typeOfC
  have mA := methodAssignableTo
  have a1 := assignableC
  have v1 := valueOfC
  have hla : a.block < w.heap.size := cell_lt ha
  have htb := hf.lt
  have el := elemVPC a ⟨tb, 0, none⟩ ((w.alloc (.cells #[.pointer (some ⟨4, 110, none⟩), .pointer (some a), .int .u64 150] 121))) (by rw [World.cell?_alloc_lt _ _ a hla]; exact ha)
  obtain ⟨W2, hW2⟩ : ∃ W2, W2 = ((w.alloc (.cells #[.pointer (some ⟨4, 110, none⟩), .pointer (some a), .int .u64 150] 121)).alloc (.cells #[.int .i64 c] 35)) := ⟨_, rfl⟩
  have hs2 : SlotC W2 tb := by rw [hW2]; exact hf.alloc2 _ _
  obtain ⟨o0, q0, p0⟩ := hs2
  have st := setC ⟨tb, 0, none⟩ ⟨w.heap.size + 1, 0, none⟩ c o0 W2 (by rw [hW2]; rw [World.cell?_alloc_at _ _ _ _ (by simp)]; rfl) q0 p0
  have HFIN := Lib.hid (fun o1 o2 => fin_C hf c o1 o2)
  clear q0 p0 hf
  rw [hW2] at st
  go_enter Tryd.func78, Tryd.ntmps78
  go_wp2_with fail
  refine wp_loop_rounds 1 ?_
  rw [rounds_succ]
  go_wp2_with fail
  go_ret
  exact HFIN.out _ _

set_option maxRecDepth 100000 in
set_option maxHeartbeats 4000000 in
theorem As_C_F (c : Int) (tb : Nat) (w : World) (hg : ErrT w) (hf : SlotF w tb) :
    Calls Tryd.prog 67 #[.iface 35 (.int .i64 c), .iface 112 (.pointer (some ⟨tb, 0, none⟩))] w fun e w' => e = .returned (.bool false) ∧ Below w.heap.size w w' := by
  have h6 := @run_callFunc_extern Tryd.prog 75 _ (fun args => ReflectliteValue.unpack (args.getD 0 (.tuple #[]))) Tryd.func75 (by kernel_rfl) (by kernel_rfl) (by kernel_rfl) (by kernel_rfl)
  have h7 := @run_callFunc_extern Tryd.prog 76 _ (ReflectliteValue.methodAny (ReflectliteValue.valueError "reflectlite.Value.Type" 0) (fun t _ _ _ => ReflectliteType.toType t)) Tryd.func76 (by kernel_rfl) (by kernel_rfl) (by kernel_rfl) (by kernel_rfl)
  have h8 := @run_callFunc_extern Tryd.prog 77 _ (ReflectliteValue.method (ReflectliteValue.valueError "reflectlite.Value.IsNil" 0) ReflectliteValue.isNil) Tryd.func77 (by kernel_rfl) (by kernel_rfl) (by kernel_rfl) (by kernel_rfl)
  have h27 := @run_callFunc_extern Tryd.prog 101 _ (ReflectliteType.abiMethod fun t => do pure (.int .u8 (← Rtype.kind t))) Tryd.func101 (by kernel_rfl) (by kernel_rfl) (by kernel_rfl) (by kernel_rfl)
  have h37 := @run_callFunc_extern Tryd.prog 113 _ (ReflectliteType.method ReflectliteType.elem) Tryd.func113 (by kernel_rfl) (by kernel_rfl) (by kernel_rfl) (by kernel_rfl)
  have h38 := @run_callFunc_extern Tryd.prog 114 _ (ReflectliteType.relation "Implements" ReflectliteType.implements_) Tryd.func114 (by kernel_rfl) (by kernel_rfl) (by kernel_rfl) (by kernel_rfl)
  have f6 := valueOfPF
  have f7 := typePF
  have mK := methodKind
  have mE := methodElem
  have mI := methodImplements
  have k27 := kindPF
  have k25 := kindF
  have e27 := elemPF
  have i25 := implementsF
  have n8 := fun a W => isNilPF a ⟨tb, 0, none⟩ W
  have hgA := hg.alloc2
  have htb := hf.lt
  have HF := Lib.hid hf
  clear hf
  go_enter Tryd.func67, Tryd.ntmps67
  go_wp2_with fail
  refine (as_C_F c tb ⟨w.heap.size, 0, none⟩ _).mono ?_
  rintro e w1 ⟨rfl, h1⟩
  go_wp2_with fail
  go_ret
  exact ⟨rfl, ((Below.refl w.heap.size w).alloc (Nat.le_refl _) _).alloc (by simp) _ |>.trans (h1.mono (by simp; omega))⟩

set_option maxRecDepth 100000 in
set_option maxHeartbeats 4000000 in
theorem As_C_C (c : Int) (tb : Nat) (w : World) (hg : ErrT w) (hf : SlotC w tb) :
    Calls Tryd.prog 67 #[.iface 35 (.int .i64 c), .iface 110 (.pointer (some ⟨tb, 0, none⟩))] w (AsPostC w tb c) := by
  have h6 := @run_callFunc_extern Tryd.prog 75 _ (fun args => ReflectliteValue.unpack (args.getD 0 (.tuple #[]))) Tryd.func75 (by kernel_rfl) (by kernel_rfl) (by kernel_rfl) (by kernel_rfl)
  have h7 := @run_callFunc_extern Tryd.prog 76 _ (ReflectliteValue.methodAny (ReflectliteValue.valueError "reflectlite.Value.Type" 0) (fun t _ _ _ => ReflectliteType.toType t)) Tryd.func76 (by kernel_rfl) (by kernel_rfl) (by kernel_rfl) (by kernel_rfl)
  have h8 := @run_callFunc_extern Tryd.prog 77 _ (ReflectliteValue.method (ReflectliteValue.valueError "reflectlite.Value.IsNil" 0) ReflectliteValue.isNil) Tryd.func77 (by kernel_rfl) (by kernel_rfl) (by kernel_rfl) (by kernel_rfl)
  have h27 := @run_callFunc_extern Tryd.prog 101 _ (ReflectliteType.abiMethod fun t => do pure (.int .u8 (← Rtype.kind t))) Tryd.func101 (by kernel_rfl) (by kernel_rfl) (by kernel_rfl) (by kernel_rfl)
  have h37 := @run_callFunc_extern Tryd.prog 113 _ (ReflectliteType.method ReflectliteType.elem) Tryd.func113 (by kernel_rfl) (by kernel_rfl) (by kernel_rfl) (by kernel_rfl)
  have h38 := @run_callFunc_extern Tryd.prog 114 _ (ReflectliteType.relation "Implements" ReflectliteType.implements_) Tryd.func114 (by kernel_rfl) (by kernel_rfl) (by kernel_rfl) (by kernel_rfl)
  have f6 := valueOfPC
  have f7 := typePC
  have mK := methodKind
  have mE := methodElem
  have mI := methodImplements
  have k27 := kindPC
  have k25 := kindC
  have e27 := elemPC
  have i25 := implementsC
  have n8 := fun a W => isNilPC a ⟨tb, 0, none⟩ W
  have hgA := hg.alloc2
  have htb := hf.lt
  have HF := Lib.hid hf
  clear hf
  go_enter Tryd.func67, Tryd.ntmps67
  go_wp2_with fail
  refine (as_C_C c tb ⟨w.heap.size, 0, none⟩ _ (by simp) (HF.out.alloc2 _ _)).mono ?_
  rintro e w1 ⟨rfl, h1, h2⟩
  go_wp2_with fail
  go_ret
  exact ⟨rfl, grown_trans (grown_alloc2 (World.grownBy.refl _ _) _ _) h1, h2⟩

set_option maxRecDepth 100000 in
set_option maxHeartbeats 4000000 in
theorem find_CC (c : Int) (w : World) (hg : ErrT w) :
    Calls Tryd.prog 55 #[.iface 35 (.int .i64 c)] w fun e w' => e = .returned (.tuple #[.int .i64 c, .bool true]) ∧ Below w.heap.size w w' := by
  have hmf : ∀ (fn : Fn) (first cap : Array Value) (w : World), (Instr.makeFunc fn first cap).run Tryd.prog w = .ok (.func fn first cap) w := fun _ _ _ _ => rfl
  obtain ⟨W3, hW3⟩ : ∃ W3, W3 = (((w.alloc (.cells #[.int .i64 0] 35)).alloc (.cells #[.bool false] 4)).alloc (.cells #[.int .i64 0] 35)) := ⟨_, rfl⟩
  have hE : ErrT W3 := by rw [hW3]; exact ((hg.alloc _).alloc _).alloc _
  obtain ⟨h0, h1, h2, z3, B3⟩ := three w #[.int .i64 0] #[.bool false] #[.int .i64 0] 35 4 35
  rw [← hW3] at h0 h1 h2 z3 B3
  have hS : SlotC W3 (w.heap.size + 1 + 1) := ⟨.int .i64 0, cell_of_row _ _ 0 _ _ _ h2, frozen_of_row _ _ 0 _ _ h2⟩
  have k0 : W3.cell? ⟨w.heap.size, 0, none⟩ = some (.int .i64 0) := cell_of_row _ _ 0 _ _ _ h0
  have k1 : W3.cell? ⟨w.heap.size + 1, 0, none⟩ = some (.bool false) := cell_of_row _ _ 0 _ _ _ h1
  have f0 : W3.frozen? ⟨w.heap.size, 0, none⟩ = false := frozen_of_row _ _ 0 _ _ h0
  have f1 : W3.frozen? ⟨w.heap.size + 1, 0, none⟩ = false := frozen_of_row _ _ 0 _ _ h1
  have HW := Lib.hid hW3
  have K := Lib.hid (And.intro hE (And.intro hS (And.intro k0 (And.intro k1 (And.intro f0 (And.intro f1 (And.intro z3 B3)))))))
  clear hE hS k0 k1 f0 f1 z3 B3 h0 h1 h2 hW3
  go_enter_defers Tryd.func55, Tryd.ntmps55
  go_wp2_with fail
  rw [← HW.out]
  obtain ⟨hE, hS, k0, k1, f0, f1, z3, B3⟩ := K.out
  refine (As_C_C c _ _ hE hS).mono ?_
  rintro e w1 ⟨rfl, g1, t1⟩
  have k0' : w1.cell? ⟨w.heap.size, 0, none⟩ = some (.int .i64 0) := (cell_g g1 (by show w.heap.size < _; omega) (fun e => by injection e with e; have e : w.heap.size = w.heap.size + 1 + 1 := e; omega)).trans k0
  have k1' : w1.cell? ⟨w.heap.size + 1, 0, none⟩ = some (.bool false) := (cell_g g1 (by show w.heap.size + 1 < _; omega) (fun e => by injection e with e; have e : w.heap.size + 1 = w.heap.size + 1 + 1 := e; omega)).trans k1
  have f0' : w1.frozen? ⟨w.heap.size, 0, none⟩ = false := (frozen_g g1 (by show w.heap.size < _; omega) (fun e => by injection e with e; have e : w.heap.size = w.heap.size + 1 + 1 := e; omega)).trans f0
  have f1' : w1.frozen? ⟨w.heap.size + 1, 0, none⟩ = false := (frozen_g g1 (by show w.heap.size + 1 < _; omega) (fun e => by injection e with e; have e : w.heap.size + 1 = w.heap.size + 1 + 1 := e; omega)).trans f1
  have B1 : Below w.heap.size w w1 := B3.grown g1 B3.size (fun k hk => by injection hk with hk; omega)
  clear g1 hE hS k0 k1 f0 f1 z3 B3 K HW hg
  go_wp2_with fail
  refine leaves_cons (f := 66) (args := #[.pointer (some ⟨w.heap.size, 0, none⟩), .pointer (some ⟨w.heap.size + 1, 0, none⟩)]) (by simp) (by simp [go_sem]) ?_
  refine (idle_C _ _ _).mono ?_
  rintro e u' w'' ⟨rfl, rfl, rfl⟩
  have k1'' : (w1.setCell ⟨w.heap.size, 0, none⟩ (.int .i64 c)).cell? ⟨w.heap.size + 1, 0, none⟩ = some (.bool false) := by
    rw [World.cell?_setCell_other _ ⟨w.heap.size, 0, none⟩ ⟨w.heap.size + 1, 0, none⟩ _ (fun e => by injection e with e _ _; omega)]; exact k1'
  have q1 := World.cell?_setCell_same (w1.setCell ⟨w.heap.size, 0, none⟩ (.int .i64 c)) ⟨w.heap.size + 1, 0, none⟩ (.bool true) k1''
  have q0 : ((w1.setCell ⟨w.heap.size, 0, none⟩ (.int .i64 c)).setCell ⟨w.heap.size + 1, 0, none⟩ (.bool true)).cell? ⟨w.heap.size, 0, none⟩ = some (.int .i64 c) := by
    rw [World.cell?_setCell_other _ ⟨w.heap.size + 1, 0, none⟩ ⟨w.heap.size, 0, none⟩ _ (fun e => by injection e with e _ _; omega)]
    exact World.cell?_setCell_same _ _ _ k0'
  have B2 : Below w.heap.size w ((w1.setCell ⟨w.heap.size, 0, none⟩ (.int .i64 c)).setCell ⟨w.heap.size + 1, 0, none⟩ (.bool true)) := (B1.setCell (by exact Nat.le_refl _) _).setCell (by show w.heap.size ≤ w.heap.size + 1; omega) _
  generalize ((w1.setCell ⟨w.heap.size, 0, none⟩ (.int .i64 c)).setCell ⟨w.heap.size + 1, 0, none⟩ (.bool true)) = W at *
  refine ⟨.tuple #[.int .i64 c, .bool true], ?_, rfl, B2⟩
  simp [results, Tryd.results55, go_sem, q0, q1]

set_option maxRecDepth 100000 in
set_option maxHeartbeats 4000000 in
theorem find_CF (c : Int) (w : World) (hg : ErrT w) :
    Calls Tryd.prog 56 #[.iface 35 (.int .i64 c)] w fun e w' => e = .returned (.tuple #[.agg #[.int .i64 0, .int .i64 0], .bool false]) ∧ Below w.heap.size w w' := by
  have H := Lib.hid (fun tb w hg hf => As_C_F c tb w hg hf)
  have hmf : ∀ (fn : Fn) (first cap : Array Value) (w : World), (Instr.makeFunc fn first cap).run Tryd.prog w = .ok (.func fn first cap) w := fun _ _ _ _ => rfl
  obtain ⟨W3, hW3⟩ : ∃ W3, W3 = (((w.alloc (.cells #[.int .i64 0, .int .i64 0] 93)).alloc (.cells #[.bool false] 4)).alloc (.cells #[.int .i64 0, .int .i64 0] 93)) := ⟨_, rfl⟩
  have hE : ErrT W3 := by rw [hW3]; exact ((hg.alloc _).alloc _).alloc _
  obtain ⟨h0, h1, h2, z3, B3⟩ := three w #[.int .i64 0, .int .i64 0] #[.bool false] #[.int .i64 0, .int .i64 0] 93 4 93
  rw [← hW3] at h0 h1 h2 z3 B3
  have hS : SlotF W3 (w.heap.size + 1 + 1) := ⟨.int .i64 0, .int .i64 0, cell_of_row _ _ 0 _ _ _ h2, cell_of_row _ _ 1 _ _ _ h2, frozen_of_row _ _ 0 _ _ h2, frozen_of_row _ _ 1 _ _ h2⟩
  have k0 : W3.cell? ⟨w.heap.size, 0, none⟩ = some (.int .i64 0) := cell_of_row _ _ 0 _ _ _ h0
  have k1 : W3.cell? ⟨w.heap.size + 1, 0, none⟩ = some (.bool false) := cell_of_row _ _ 0 _ _ _ h1
  have f0 : W3.frozen? ⟨w.heap.size, 0, none⟩ = false := frozen_of_row _ _ 0 _ _ h0
  have f1 : W3.frozen? ⟨w.heap.size + 1, 0, none⟩ = false := frozen_of_row _ _ 0 _ _ h1
  have k01 : W3.cell? ⟨w.heap.size, 1, none⟩ = some (.int .i64 0) := cell_of_row _ _ 1 _ _ _ h0
  have f01 : W3.frozen? ⟨w.heap.size, 1, none⟩ = false := frozen_of_row _ _ 1 _ _ h0
  have HW := Lib.hid hW3
  have K01 := Lib.hid (And.intro k01 f01)
  clear k01 f01
  have K := Lib.hid (And.intro hE (And.intro hS (And.intro k0 (And.intro k1 (And.intro f0 (And.intro f1 (And.intro z3 B3)))))))
  clear hE hS k0 k1 f0 f1 z3 B3 h0 h1 h2 hW3
  go_enter_defers Tryd.func56, Tryd.ntmps56
  go_wp2_with fail
  rw [← HW.out]
  obtain ⟨hE, hS, k0, k1, f0, f1, z3, B3⟩ := K.out
  refine (H.out _ _ hE hS).mono ?_
  rintro e w1 ⟨rfl, g1⟩
  have k01' : w1.cell? ⟨w.heap.size, 1, none⟩ = some (.int .i64 0) := (g1.cell (by show w.heap.size < _; omega)).trans K01.out.1
  have f01' : w1.frozen? ⟨w.heap.size, 1, none⟩ = false := (World.frozen?_of_block (g1.block w.heap.size (by omega))).trans K01.out.2
  have k0' : w1.cell? ⟨w.heap.size, 0, none⟩ = some (.int .i64 0) := (g1.cell (by show w.heap.size < _; omega)).trans k0
  have k1' : w1.cell? ⟨w.heap.size + 1, 0, none⟩ = some (.bool false) := (g1.cell (by show w.heap.size + 1 < _; omega)).trans k1
  have f0' : w1.frozen? ⟨w.heap.size, 0, none⟩ = false := (World.frozen?_of_block (g1.block w.heap.size (by omega))).trans f0
  have f1' : w1.frozen? ⟨w.heap.size + 1, 0, none⟩ = false := (World.frozen?_of_block (g1.block (w.heap.size + 1) (by omega))).trans f1
  have B1 : Below w.heap.size w w1 := B3.trans (g1.mono B3.size)
  clear g1 hE hS k0 k1 f0 f1 z3 B3 K HW hg
  go_wp2_with fail
  refine leaves_cons (f := 68) (args := #[.pointer (some ⟨w.heap.size, 0, none⟩), .pointer (some ⟨w.heap.size + 1, 0, none⟩)]) (by simp) (by simp [go_sem]) ?_
  refine (idle_F _ _ _).mono ?_
  rintro e u' w'' ⟨rfl, rfl, rfl⟩
  have q0 : (((w1.setCell ⟨w.heap.size, 0, none⟩ (.int .i64 0)).setCell ⟨w.heap.size, 1, none⟩ (.int .i64 0)).setCell ⟨w.heap.size + 1, 0, none⟩ (.bool false)).cell? ⟨w.heap.size, 0, none⟩ = some (.int .i64 0) := by
    rw [World.cell?_setCell_other _ ⟨w.heap.size + 1, 0, none⟩ ⟨w.heap.size, 0, none⟩ _ (fun e => by injection e with e _ _; omega), World.cell?_setCell_other _ ⟨w.heap.size, 1, none⟩ ⟨w.heap.size, 0, none⟩ _ (fun e => by injection e with _ e _; omega)]
    exact World.cell?_setCell_same _ _ _ k0'
  have q01 : (((w1.setCell ⟨w.heap.size, 0, none⟩ (.int .i64 0)).setCell ⟨w.heap.size, 1, none⟩ (.int .i64 0)).setCell ⟨w.heap.size + 1, 0, none⟩ (.bool false)).cell? ⟨w.heap.size, 1, none⟩ = some (.int .i64 0) := by
    rw [World.cell?_setCell_other _ ⟨w.heap.size + 1, 0, none⟩ ⟨w.heap.size, 1, none⟩ _ (fun e => by injection e with e _ _; omega)]
    exact World.cell?_setCell_same _ _ _ ((World.cell?_setCell_other _ ⟨w.heap.size, 0, none⟩ ⟨w.heap.size, 1, none⟩ _ (fun e => by injection e with _ e _; omega)).trans k01')
  have q1 : (((w1.setCell ⟨w.heap.size, 0, none⟩ (.int .i64 0)).setCell ⟨w.heap.size, 1, none⟩ (.int .i64 0)).setCell ⟨w.heap.size + 1, 0, none⟩ (.bool false)).cell? ⟨w.heap.size + 1, 0, none⟩ = some (.bool false) := by
    refine World.cell?_setCell_same _ _ _ ?_ (u := .bool false)
    rw [World.cell?_setCell_other _ ⟨w.heap.size, 1, none⟩ ⟨w.heap.size + 1, 0, none⟩ _ (fun e => by injection e with e _ _; omega), World.cell?_setCell_other _ ⟨w.heap.size, 0, none⟩ ⟨w.heap.size + 1, 0, none⟩ _ (fun e => by injection e with e _ _; omega)]
    exact k1'
  have B2 : Below w.heap.size w (((w1.setCell ⟨w.heap.size, 0, none⟩ (.int .i64 0)).setCell ⟨w.heap.size, 1, none⟩ (.int .i64 0)).setCell ⟨w.heap.size + 1, 0, none⟩ (.bool false)) := ((B1.setCell (by exact Nat.le_refl _) _).setCell (by exact Nat.le_refl _) _).setCell (by show w.heap.size ≤ w.heap.size + 1; omega) _
  generalize (((w1.setCell ⟨w.heap.size, 0, none⟩ (.int .i64 0)).setCell ⟨w.heap.size, 1, none⟩ (.int .i64 0)).setCell ⟨w.heap.size + 1, 0, none⟩ (.bool false)) = W at *
  refine ⟨.tuple #[.agg #[.int .i64 0, .int .i64 0], .bool false], ?_, rfl, B2⟩
  simp [results, Tryd.results56, go_sem]
  simp only [q0, q01, q1, Result.andThen]

set_option maxRecDepth 100000 in
theorem code_C (c : Int) (w : World) (hg : ErrT w) :
    Calls Tryd.prog 38 #[.iface 35 (.int .i64 c)] w fun e w' => e = .returned (.tuple #[.int .i64 c, .bool true]) ∧ Below w.heap.size w w' := by
  have H := Lib.hid (find_CC c w hg)
  clear hg
  go_enter Tryd.func38, Tryd.ntmps38
  go_wp2_with fail
  refine H.out.mono ?_
  rintro e w1 ⟨rfl, B1⟩
  go_wp2_with fail
  go_ret2
  exact ⟨rfl, B1⟩
set_option maxRecDepth 100000 in
theorem at_C (c : Int) (w : World) (hg : ErrT w) :
    Calls Tryd.prog 39 #[.iface 35 (.int .i64 c)] w fun e w' => e = .returned (.tuple #[.int .i64 0, .bool false]) ∧ Below w.heap.size w w' := by
  have H := Lib.hid (find_CF c w hg)
  clear hg
  go_enter Tryd.func39, Tryd.ntmps39
  go_wp2_with fail
  refine H.out.mono ?_
  rintro e w1 ⟨rfl, B1⟩
  go_wp2_with fail
  go_ret2
  exact ⟨rfl, B1.alloc B1.size _⟩
end Go.Proofs.YtaikdbbakdicgaaDoor.errAs
/-
  fault.Shift of a code.
-/
namespace Go.Proofs.YtaikdbbakdicgaaDoor
open Go.ChangeShapes Go.WideShapes Go.ChangeAt Go.RowKit
open errAs (ErrT)
set_option linter.unusedVariables false

set_option maxRecDepth 100000 in
theorem shift_Cn (c n : Nat) (w : World) (hg : ErrT w) (hn : n ≤ 1000000000000) :
    Calls Tryd.prog 29 #[.iface 35 (.int .i64 c), .int .i64 n] w fun e w' => e = .returned (faultN c n) ∧ Below w.heap.size w w' := by
  have HE := Lib.hid hg
  have h0 : -9223372036854775808 ≤ (n : Int) := by omega
  have h1 : (n : Int) ≤ 9223372036854775807 := by omega
  clear hg
  go_enter Tryd.func29, Tryd.ntmps29
  go_wp2_with fail
  refine (errAs.code_C c _ HE.out).mono ?_
  rintro e w1 ⟨rfl, b1⟩
  have HE1 := Lib.hid (errT_below HE.out b1)
  have HB1 := Lib.hid b1
  clear b1
  go_wp2_with fail
  refine (errAs.at_C c _ HE1.out).mono ?_
  rintro e w2 ⟨rfl, b2⟩
  have HB2 := Lib.hid (HB1.out.trans (b2.mono HB1.out.size))
  clear b2
  go_wp2_with fail
  refine (fnew_any _ _ _).mono ?_
  rintro e w3 ⟨rfl, rfl⟩
  go_wp2_with fail
  go_ret
  exact ⟨rfl, HB2.out⟩
end Go.Proofs.YtaikdbbakdicgaaDoor
/-
  Rows of bytes of the call's own: later worlds, lower bases, the slice's form.
-/
namespace Go.Proofs.YtaikdbbakdicgaaDoor
open Go.ChangeShapes Go.WideShapes Go.ChangeAt Go.RowKit
set_option linter.unusedVariables false

theorem own_below {w w' : World} {base n : Nat} {v : Value} {l : List UInt8} (h : w.ownsRow base 5 1 v n (bvs l)) (hb : Below w.heap.size w w') : w'.ownsRow base 5 1 v n (bvs l) := by
  refine ⟨h.1, ?_⟩
  rcases h.2 with h | ⟨g', cap, cur, e, a1, a2, r⟩
  · exact .inl h
  · exact .inr ⟨g', cap, cur, e, a1, (hb.block g' (Array.getElem?_eq_some_iff.1 a2).1).trans a2, r⟩
theorem own_le {w : World} {base base' n : Nat} {v : Value} {l : List UInt8} (h : w.ownsRow base 5 1 v n (bvs l)) (hb : base' ≤ base) : w.ownsRow base' 5 1 v n (bvs l) := Joins.ownsRow_le h hb
theorem own_form {w : World} {base n : Nat} {v : Value} {l : List UInt8} (h : w.ownsRow base 5 1 v n (bvs l)) : ∃ q c, v = .slice q n c := by
  obtain ⟨q, c, hv, _⟩ := (Rd.of_own h).form
  have := h.1
  rw [bvs_length, Nat.mul_one] at this
  exact ⟨q, c, by rw [hv, this]⟩
theorem own_len {w : World} {base n : Nat} {v : Value} {l : List UInt8} (h : w.ownsRow base 5 1 v l.length (bvs l)) (hn : l.length = n) : w.ownsRow base 5 1 v n (bvs l) := hn ▸ h
theorem rd_form {B : Nat} {w : World} {v : Value} {l : List UInt8} (h : Rd B w v l) : ∃ q c, v = .slice q l.length c := by
  obtain ⟨q, c, hv, _⟩ := h.form
  exact ⟨q, c, hv⟩
theorem eqB_refl (l : List UInt8) : eqB l l = true := by unfold eqB; exact beq_self_eq_true l
end Go.Proofs.YtaikdbbakdicgaaDoor
/-
  The method Cursor.Take of a positive number.
-/
namespace Go.Proofs.YtaikdbbakdicgaaDoor
open Go.ChangeShapes Go.WideShapes Go.ChangeAt Go.RowKit
set_option linter.unusedVariables false

theorem Cur.drewN {w : World} {c at' : Nat} {l : List UInt8} (h : Cur w c l at') (k : Nat) : Cur (w.drewN k) c l at' := by
  obtain ⟨v, h1, h2, h3, h4⟩ := h
  exact ⟨v, h1, h2.below (w' := w.drewN k) ⟨rfl, rfl, rfl, Nat.le_refl _, fun _ _ => rfl⟩ (Nat.le_refl _), h3, h4⟩
set_option maxRecDepth 100000 in
set_option maxHeartbeats 800000 in
theorem take_no {w : World} {c at' : Nat} {l : List UInt8} (h : Cur w c l at') (n : Nat) (hn : l.length - at' < n) :
    Calls Tryd.prog 28 #[.pointer (some ⟨c, 0, none⟩), .int .i64 n] w fun e w' => e = .returned (.tuple #[.slice none 0 0, .iface 35 (.int .i64 1)]) ∧ ∃ k, w' = w.drewN k := by
  obtain ⟨m, hm⟩ : ∃ m, m = l.length - at' := ⟨_, rfl⟩
  have HL := Lib.hid (left_any h)
  rw [← hm] at HL hn
  have h1 : ¬ (n : Int) < 0 := by omega
  have h2 : (m : Int) < n := by omega
  clear hm
  go_enter Tryd.func28, Tryd.ntmps28
  go_wp2_with fail
  refine HL.out.mono ?_
  rintro e w1 ⟨rfl, nq, rfl⟩
  go_wp2_with fail
  go_ret2
  exact ⟨rfl, _, rfl⟩

/-- The slice of the n first bytes of what is left, as wide as it is long. -/
theorem rd_cut3 {B : Nat} {w : World} {b off cap n : Nat} {l : List UInt8} (h1 : l.length ≤ cap) (h2 : cap ≤ maxLen) (h3 : b < B) (hc : ∀ i, i < l.length → w.cell? ⟨b, off + i, none⟩ = some (bv (l.getD i 0))) (hn : n ≤ l.length) :
    Rd B w (.slice (some ⟨b, off, none⟩) n n) (l.take n) := by
  have hl : (l.take n).length = n := by rw [List.length_take]; omega
  refine .inr ⟨b, off, n, by rw [hl], by omega, by omega, h3, fun i hi => ?_⟩
  rw [hl] at hi
  rw [hc i (by omega)]
  congr 2
  simp [List.getD_eq_getElem?_getD, hi]

set_option maxRecDepth 100000 in
set_option maxHeartbeats 800000 in
theorem take_yes {w : World} {c at' : Nat} {l : List UInt8} (h : Cur w c l at') (n : Nat) (h0 : 0 < n) (hn : at' + n ≤ l.length) :
    Calls Tryd.prog 28 #[.pointer (some ⟨c, 0, none⟩), .int .i64 n] w fun e w' => ∃ v, e = .returned (.tuple #[v, .nilIface]) ∧ w'.ownsRow w.heap.size 5 1 v n (bvs ((l.drop at').take n)) ∧ Cur w' c l (at' + n) ∧ Below c w w' := by
  obtain ⟨T, hT⟩ : ∃ T, T = (l.drop at').take n := ⟨_, rfl⟩
  rw [← hT]
  have HT := Lib.hid hT
  clear hT
  obtain ⟨m, hm⟩ : ∃ m, m = l.length - at' := ⟨_, rfl⟩
  have HL := Lib.hid (left_any h)
  rw [← hm] at HL
  have h1 : ¬ (n : Int) < 0 := by omega
  have h2 : ¬ (m : Int) < n := by omega
  have h2n : ¬ m < n := by omega
  have h3 : (0 : Int) < n := by omega
  have HC := Lib.hid h
  have HN := Lib.hid hn
  have HM := Lib.hid hm
  clear hm h hn
  go_enter Tryd.func28, Tryd.ntmps28
  go_wp2_with fail
  refine HL.out.mono ?_
  rintro e w1 ⟨rfl, nq, rfl⟩
  have HC1 := Lib.hid (HC.out.drewN nq)
  go_wp2_with fail
  refine (rest_any HC1.out).mono ?_
  rintro e w2 ⟨v, rfl, hr, nq2, rfl⟩
  have HC2 := Lib.hid (HC1.out.drewN nq2)
  rcases hr with ⟨oa, rfl, h4⟩ | ⟨b, off, cap, rfl, h4, h5, h6, hc⟩
  · exfalso
    have := congrArg List.length h4
    have hn := HN.out
    rw [List.length_drop, List.length_nil] at this; omega
  have hdl : (l.drop at').length = m := by rw [List.length_drop]; exact HM.out.symm
  have hcut := rd_cut3 h4 h5 h6 hc (n := n) (by rw [hdl]; omega)
  rw [hdl] at h4 ⊢
  have g1 : (n : Int) ≤ cap := by omega
  clear hc HC1 HC HL
  have HCUT := Lib.hid (hcut.below (below_drewN (Below.refl c (w.drewN nq)) nq2) (Nat.le_refl _))
  clear hcut
  have HJ : Hid (∀ k, Below c w (w.drewN k) ∧ Cur (w.drewN k) c l at' ∧ (Rd c (w.drewN k) (.slice (some ⟨b, off, none⟩) n n) ((l.drop at').take n))) := by
    intro k
    obtain ⟨v, e1, e2, e3, e4⟩ := HC2.out
    exact ⟨below_drewN (Below.refl c w) k, ⟨v, e1, e2, e3, e4⟩, HCUT.out⟩
  have hcl : c < w.heap.size := (HC2.out.lt)
  have HJN : Hid (∀ k, Calls Tryd.prog 23 #[.slice (some ⟨w.heap.size, 0, none⟩) 1 1] ((w.drewN k).alloc (.cells #[.slice (some ⟨b, off, none⟩) n n] 22)) fun e w' => ∃ v, e = .returned v ∧ w'.ownsRow w.heap.size 5 1 v n (bvs ((l.drop at').take n)) ∧ Cur w' c l at' ∧ Below c w w') := by
    intro k
    obtain ⟨j1, j2, j3⟩ := HJ.out k
    have b0 : Below (w.drewN k).heap.size (w.drewN k) ((w.drewN k).alloc (.cells #[.slice (some ⟨b, off, none⟩) n n] 22)) := (Below.refl _ _).alloc (Nat.le_refl _) _
    have hs : (w.drewN k).heap.size = w.heap.size := rfl
    have r0 := j3.below b0 (by rw [hs]; omega)
    have hra : RdAll ((w.drewN k).alloc (.cells #[.slice (some ⟨b, off, none⟩) n n] 22)).heap.size ((w.drewN k).alloc (.cells #[.slice (some ⟨b, off, none⟩) n n] 22)) (some ⟨w.heap.size, 0, none⟩) [(l.drop at').take n] := by
      intro _
      refine ⟨w.heap.size, 0, rfl, by simp, fun i hi => ?_⟩
      obtain rfl : i = 0 := by simpa using hi
      refine ⟨.slice (some ⟨b, off, none⟩) n n, ?_, r0.mono (by simp; omega)⟩
      rw [Nat.add_zero, ← hs, cell_of_row _ _ _ #[.slice (some ⟨b, off, none⟩) n n] 22 (0, 0) (heap_alloc_new (w.drewN k) _)]; rfl
    obtain ⟨_, _, _, _, hm⟩ := j2
    refine (join_any (cap := 1) hra (Nat.le_refl _) (by simp) (by simp [total]; omega)).mono ?_
    rintro e w3 ⟨v, rfl, o3, b3⟩
    rw [show [(l.drop at').take n].flatten = (l.drop at').take n from List.append_nil _] at o3
    have hz : w.heap.size ≤ ((w.drewN k).alloc (.cells #[.slice (some ⟨b, off, none⟩) n n] 22)).heap.size := by simp
    have bT := (j1.trans (b0.mono (by rw [hs]; omega))).trans (b3.mono (by omega))
    exact ⟨v, rfl, own_le (own_len o3 (by rw [List.length_take, hdl]; omega)) hz, ((HJ.out k).2.1.below b0 (by rw [hs]; exact hcl)).below b3 (by omega), bT⟩
  rw [← HT.out] at HJN
  have HSZ := Lib.hid hcl
  clear HCUT HC2 HJ hcl
  go_wp2_with fail
  all_goals
    refine (HJN.out _).mono ?_
    rintro e w3 ⟨v3, rfl, o3, c3, b3⟩
    obtain ⟨u, _, q1, q2, _, q3, q4⟩ := c3.cells
    have q5 := HN.out
    have HFIN : Hid ((w3.setCell ⟨c, 1, none⟩ (.int .i64 ((at' : Int) + n))).ownsRow w.heap.size 5 1 v3 n (bvs T) ∧ Cur (w3.setCell ⟨c, 1, none⟩ (.int .i64 ((at' : Int) + n))) c l (at' + n) ∧ Below c w (w3.setCell ⟨c, 1, none⟩ (.int .i64 ((at' : Int) + n)))) := by
      have e1 : ((at' : Int) + n) = ((at' + n : Nat) : Int) := by omega
      rw [e1]
      exact ⟨ownsRow_setCell_below (w := w3) o3 (by exact HSZ.out) _, c3.moved (n := 0) (at' + n) HN.out, b3.setCell (by exact Nat.le_refl _) _⟩
    obtain ⟨ov, cv, rfl⟩ : ∃ q cp, v3 = .slice q n cp := own_form o3
    clear o3 c3 b3 HJN
    go_wp2_with fail
    go_ret2
    exact ⟨_, rfl, HFIN.out.1, HFIN.out.2.1, HFIN.out.2.2⟩
end Go.Proofs.YtaikdbbakdicgaaDoor
/-
  Zookies as values: fields, equality; zookie.check, zookie.Newer.
-/
namespace Go.Proofs.YtaikdbbakdicgaaDoor
open Go.ChangeShapes Go.WideShapes Go.ChangeAt Go.RowKit
open errAs (ErrT)
set_option linter.unusedVariables false

def zc (v r : Nat) (d : List UInt8) : List Value := .int .u8 v :: .int .u64 r :: bvs d
abbrev zkV (v r : Nat) (d : List UInt8) : Value := .agg (zc v r d).toArray
theorem zc_length {v r : Nat} {d : List UInt8} (hd : d.length = 32) : (zc v r d).length = 34 := by simp [zc, bvs_length, hd]
theorem zc0 (v r : Nat) (d : List UInt8) : (zc v r d)[0]? = some (.int .u8 v) := rfl
theorem zc1 (v r : Nat) (d : List UInt8) : (zc v r d)[1]? = some (.int .u64 r) := rfl
theorem zc_one {v r : Nat} {d : List UInt8} : ∀ u ∈ zc v r d, u.oneCell' = true := by
  intro u hu
  simp only [zc, List.mem_cons] at hu
  rcases hu with rfl | rfl | hu
  · rfl
  · rfl
  · exact bvs_oneCell d u hu
theorem fZ0 (v r : Nat) (d : List UInt8) (w : World) : (Instr.field 26 (zkV v r d) 0).run Tryd.prog w = .ok (.int .u8 v) w := by
  simp [Instr.field, run_underlying Tryd.underlying26, part, isAgg, run_underlying Tryd.underlying5, asAgg, zc]
theorem fZ1 (v r : Nat) (d : List UInt8) (w : World) : (Instr.field 26 (zkV v r d) 1).run Tryd.prog w = .ok (.int .u64 r) w := by
  simp [Instr.field, run_underlying Tryd.underlying26, part, isAgg, run_underlying Tryd.underlying23, asAgg, zc]
theorem sizeB (w : World) : (sizeOf 5).run Tryd.prog w = .ok 1 w := by kernel_rfl
theorem sizeD (w : World) : (sizeOf 24).run Tryd.prog w = .ok 32 w := by kernel_rfl
theorem partD {v r : Nat} {d : List UInt8} (hd : d.length = 32) (w : World) : (part 24 (zc v r d).toArray 2).run Tryd.prog w = .ok (.agg (bvs d).toArray) w := by
  simp only [part, isAgg, Sem.run_bind, run_underlying Tryd.underlying24, Result.andThen_ok, Sem.run_pure, if_true, sizeD]
  congr 2
  have h1 : (bvs d).length = 32 := by rw [bvs_length, hd]
  simp only [zc, List.extract_toArray, List.extract_eq_take_drop, List.drop_succ_cons, List.drop_zero]
  congr 1
  exact List.take_of_length_le (by omega)
theorem fZ2 {v r : Nat} {d : List UInt8} (hd : d.length = 32) (w : World) : (Instr.field 26 (zkV v r d) 2).run Tryd.prog w = .ok (.agg (bvs d).toArray) w := by
  have h := partD (v := v) (r := r) hd w
  simp [Instr.field, run_underlying Tryd.underlying26, asAgg, h]
theorem eqlD {d e : List UInt8} (hd : d.length = 32) (he : e.length = 32) (w : World) : (binOp .eql 24 (.agg (bvs d).toArray) (.agg (bvs e).toArray)).run Tryd.prog w = .ok (.bool (d == e)) w :=
  run_eql_bytes w 24 5 32 Tryd.underlying24 Tryd.underlying5 sizeB d e hd he
theorem part0 (v r : Nat) (d : List UInt8) (w : World) : (part 5 (zc v r d).toArray 0).run Tryd.prog w = .ok (.int .u8 v) w := by
  simp [part, isAgg, run_underlying Tryd.underlying5, zc]
theorem part1 (v r : Nat) (d : List UInt8) (w : World) : (part 23 (zc v r d).toArray 1).run Tryd.prog w = .ok (.int .u64 r) w := by
  simp [part, isAgg, run_underlying Tryd.underlying23, zc]
def eqZ (v r : Nat) (d : List UInt8) (v' r' : Nat) (d' : List UInt8) : Bool := v == v' && (r == r' && d == d')
theorem eqZ_refl (v r : Nat) (d : List UInt8) : eqZ v r d v r d = true := by simp [eqZ]
theorem natEq (a b : Nat) : ((a : Int) == (b : Int)) = (a == b) := by
  rw [Bool.eq_iff_iff]; simp only [beq_iff_eq]; omega
theorem equalZ {v r v' r' : Nat} {d d' : List UInt8} (hd : d.length = 32) (hd' : d'.length = 32) (w : World) :
    (Op.equalIn 10000 26 (.agg (zc v r d).toArray) (.agg (zc v' r' d').toArray)).run Tryd.prog w = .ok (eqZ v r d v' r' d') w := by
  rw [run_equalIn_struct w 9999 _ _ _ (by kernel_rfl) (by kernel_rfl)]
  have h0 := run_equalIn_int (P := Tryd.prog) w 9998 5 .u8 .u8 v v' Tryd.underlying5
  have h1 := run_equalIn_int (P := Tryd.prog) w 9998 23 .u64 .u64 r r' Tryd.underlying23
  have h2 : (Op.equalIn 9999 24 (.agg (bvs d).toArray) (.agg (bvs d').toArray)).run Tryd.prog w = .ok (d == d') w := run_equalIn_bytes w 9997 24 5 32 Tryd.underlying24 Tryd.underlying5 sizeB d d' hd hd'
  simp only [Nat.reduceAdd, natEq] at h0 h1
  simp only [Program.fieldsOf, Tryd.underlying26, Op.eqFields, Sem.run_bind, part0, part1, partD hd, partD hd', Result.andThen_ok, h0, h1, h2, eqZ, Sem.run_ite, Sem.run_pure, ne_eq]
  cases hv : (v == v') <;> cases hr : (r == r') <;> cases he : (d == d') <;> simp
theorem eqlZ {v r v' r' : Nat} {d d' : List UInt8} (hd : d.length = 32) (hd' : d'.length = 32) (w : World) :
    (binOp .eql 26 (zkV v r d) (zkV v' r' d')).run Tryd.prog w = .ok (.bool (eqZ v r d v' r' d')) w := by
  rw [run_eql_struct, equalZ hd hd']; rfl
theorem neqZ {v r v' r' : Nat} {d d' : List UInt8} (hd : d.length = 32) (hd' : d'.length = 32) (w : World) :
    (binOp .neq 26 (zkV v r d) (zkV v' r' d')).run Tryd.prog w = .ok (.bool (!eqZ v r d v' r' d')) w := by
  rw [run_neq_struct, equalZ hd hd']; rfl

theorem eqlNilN (d : Int) (w : World) : (binOp BinOp.neq 31 (.iface 35 (.int .i64 d)) .nilIface).run Tryd.prog w = .ok (.bool true) w := by kernel_rfl
def checkZ (v r : Nat) : Nat := if v ≠ 1 then 13 else if lim63 ≤ r then 15 else 0
theorem boxZ (v r : Nat) (d : List UInt8) (w : World) (t : TypeId) : (w.alloc (.cells (zc v r d).toArray t)).cell? ⟨w.heap.size, 0, none⟩ = some (.int .u8 v) ∧ (w.alloc (.cells (zc v r d).toArray t)).cell? ⟨w.heap.size, 1, none⟩ = some (.int .u64 r) :=
  ⟨(Arr.new' w t _ _ rfl).cell 0, (Arr.new' w t _ _ rfl).cell 1⟩
set_option maxRecDepth 100000 in
theorem zcheck_any (v r : Nat) (d : List UInt8) (hd : d.length = 32) (w : World) :
    Calls Tryd.prog 22 #[zkV v r d] w fun e w' => e = .returned (errV (checkZ v r)) ∧ Below w.heap.size w w' := by
  obtain ⟨h0, h1⟩ := boxZ v r d w 26
  have HB : Hid (Below w.heap.size w (w.alloc (.cells (zc v r d).toArray 26))) := (Below.refl _ _).alloc (Nat.le_refl _) _
  by_cases a : v = 1
  · by_cases b : r < lim63
    · have c : Hid (checkZ v r = 0) := by show _ = _; unfold checkZ; rw [if_neg (by omega), if_neg (by omega)]
      unfold lim63 at b
      have a' : (v : Int) = 1 := by omega
      have b' : (r : Int) ≤ 9223372036854775807 := by omega
      clear a b
      go_enter Tryd.func22, Tryd.ntmps22
      go_wp2_with fail
      go_ret
      exact ⟨by rw [c.out]; rfl, HB.out⟩
    · have c : Hid (checkZ v r = 15) := by show _ = _; unfold checkZ; rw [if_neg (by omega), if_pos (by omega)]
      unfold lim63 at b
      have a' : (v : Int) = 1 := by omega
      have b' : ¬ (r : Int) ≤ 9223372036854775807 := by omega
      clear a b
      go_enter Tryd.func22, Tryd.ntmps22
      go_wp2_with fail
      go_ret
      exact ⟨by rw [c.out]; rfl, HB.out⟩
  · have c : Hid (checkZ v r = 13) := by show _ = _; unfold checkZ; rw [if_pos a]
    have a' : ¬ (v : Int) = 1 := by omega
    clear a
    go_enter Tryd.func22, Tryd.ntmps22
    go_wp2_with fail
    go_ret
    exact ⟨by rw [c.out]; rfl, HB.out⟩
theorem Arr.zk {w : World} {t : TypeId} {g v r : Nat} {d : List UInt8} (h : Arr w t g (zc v r d)) : w.cell? ⟨g, 0, none⟩ = some (.int .u8 v) ∧ w.cell? ⟨g, 1, none⟩ = some (.int .u64 r) := ⟨h.cell 0, h.cell 1⟩
theorem rangeZ {w : World} {t : TypeId} {g v r : Nat} {d : List UInt8} (h : Arr w t g (zc v r d)) : w.rangeAt g 2 (bvs d) := fun j u hu => by
  rw [h.cell (2 + j), Nat.add_comm 2 j]
  simpa [zc] using hu
section
variable {ops : Array Oper} {rest : List Oper} {o : Oper} {a : Act} {Q : Exit → Act → World → Prop} {w : World} {g off : Nat} {x y : Operand}
/-- A load of 32 bytes out of the middle of a block, under a guard that is met. -/
theorem load32w {l : List UInt8} (hA : w.rangeAt g off (bvs l)) (hl : l.length = 32) (hs : Region.wanted o (yielded ops a.tmps) = true ∧ o.op = .load 24 x ∧ a.eval x = .pointer (some ⟨g, off, none⟩))
    (hk : wpList Tryd.prog ops Q rest (a.put o.dst (.agg (bvs l).toArray)) w) : wpList Tryd.prog ops Q (o :: rest) a w :=
  wpList_step fun K hK => by
    rw [if_pos hs.1]
    exact wp_load_mid _ x hs.2.1 g off hs.2.2 _ _ hA Tryd.underlying24 rfl (by rw [bvs_length, hl]; kernel_rfl) (hK _ _ hk)
/-- A zookie is loaded, and stored. -/
theorem loadZ {t : TypeId} {v r : Nat} {d : List UInt8} (hA : Arr w t g (zc v r d)) (hd : d.length = 32) (hs : o.guard = none ∧ o.op = .load 26 x ∧ a.eval x = .pointer (some ⟨g, 0, none⟩))
    (hk : wpList Tryd.prog ops Q rest (a.put o.dst (zkV v r d)) w) : wpList Tryd.prog ops Q (o :: rest) a w :=
  load_arr hs.1 _ x hs.2.1 hA hs.2.2 Tryd.underlying26 rfl (by rw [zc_length hd]; kernel_rfl) hk
theorem storeZ {t : TypeId} {v r v' r' : Nat} {d d' : List UInt8} (hA : Arr w t g (zc v' r' d')) (hd' : d'.length = 32) (hd : d.length = 32)
    (hs : o.guard = none ∧ o.op = .store 26 x y ∧ a.eval x = .pointer (some ⟨g, 0, none⟩) ∧ a.eval y = zkV v r d)
    (hk : ∀ w', w' = w.setRow g (zc v r d).toArray → wpList Tryd.prog ops Q rest (a.put o.dst undef) w') : wpList Tryd.prog ops Q (o :: rest) a w :=
  store_arr hs.1 _ x y hs.2.1 hA hs.2.2.1 hs.2.2.2 (by rw [zc_length hd]; kernel_rfl) (by rw [zc_length hd, zc_length hd']) zc_one (hk _ rfl)
end
def newerZ (v r : Nat) (d : List UInt8) (v' r' : Nat) (d' : List UInt8) : Bool := v == v' && (d == d' && decide (r' < r))
theorem twoZ (v r v' r' : Nat) (d d' : List UInt8) (w : World) (t : TypeId) :
    Arr ((w.alloc (.cells (zc v r d).toArray t)).alloc (.cells (zc v' r' d').toArray t)) t w.heap.size (zc v r d) ∧ Arr ((w.alloc (.cells (zc v r d).toArray t)).alloc (.cells (zc v' r' d').toArray t)) t (w.heap.size + 1) (zc v' r' d') ∧
      Below w.heap.size w ((w.alloc (.cells (zc v r d).toArray t)).alloc (.cells (zc v' r' d').toArray t)) :=
  ⟨(Arr.new' w t _ _ rfl).alloc _, Arr.new2 w _ t _ _ rfl, ((Below.refl _ _).alloc (Nat.le_refl _) _).alloc (by simp) _⟩
set_option maxRecDepth 100000 in
theorem znewer_any (v r v' r' : Nat) (d d' : List UInt8) (hd : d.length = 32) (hd' : d'.length = 32) (w : World) :
    Calls Tryd.prog 21 #[zkV v r d, zkV v' r' d'] w fun e w' => e = .returned (.bool (newerZ v r d v' r' d')) ∧ Below w.heap.size w w' := by
  obtain ⟨a1, a2, hb⟩ := twoZ v r v' r' d d' w 26
  have q0 := zc0 v r d
  have q1 := zc1 v r d
  have p0 := zc0 v' r' d'
  have p1 := zc1 v' r' d'
  have HR := Lib.hid (rangeZ a1)
  have HS := Lib.hid (rangeZ a2)
  have HD := Lib.hid hd
  have HD' := Lib.hid hd'
  have HB := Lib.hid hb
  have h4 := eqlD hd hd'
  obtain ⟨N, hN⟩ : ∃ N, N = newerZ v r d v' r' d' := ⟨_, rfl⟩
  rw [← hN]
  have HN := Lib.hid hN
  unfold newerZ at HN
  clear a1 a2 hb hd hd' hN
  by_cases a : v = v'
  · have a' : ((v : Int) == (v' : Int)) = true := by rw [beq_iff_eq]; omega
    by_cases b : d = d'
    · have hdd : (d == d') = true := by simpa using b
      rw [hdd] at h4
      clear hdd
      by_cases c : r' < r
      · have c' : (r' : Int) < r := by omega
        have HV : Hid (N = true) := by show _ = _; rw [HN.out]; simp [a, b, c]
        rw [HV.out]
        clear a b
        go_enter Tryd.func21, Tryd.ntmps21
        go_wp2_with (first
          | ((with_reducible refine load32w (x := .tmp 11) (l := d) (o := ⟨some 12, _, _, _, _, _⟩) HR.out HD.out ?_ ?_); exact ⟨rfl, rfl, rfl⟩)
          | ((with_reducible refine load32w (x := .tmp 13) (l := d') (o := ⟨some 14, _, _, _, _, _⟩) HS.out HD'.out ?_ ?_); exact ⟨rfl, rfl, rfl⟩))
        go_ret
        exact ⟨rfl, HB.out⟩
      · have c' : ¬ (r' : Int) < r := by omega
        have HV : Hid (N = false) := by show _ = _; rw [HN.out]; simp [a, b, c]
        rw [HV.out]
        clear a b
        go_enter Tryd.func21, Tryd.ntmps21
        go_wp2_with (first
          | ((with_reducible refine load32w (x := .tmp 11) (l := d) (o := ⟨some 12, _, _, _, _, _⟩) HR.out HD.out ?_ ?_); exact ⟨rfl, rfl, rfl⟩)
          | ((with_reducible refine load32w (x := .tmp 13) (l := d') (o := ⟨some 14, _, _, _, _, _⟩) HS.out HD'.out ?_ ?_); exact ⟨rfl, rfl, rfl⟩))
        go_ret
        exact ⟨rfl, HB.out⟩
    · have hdd : (d == d') = false := by simpa using b
      have HV : Hid (N = false) := by show _ = _; rw [HN.out]; simp [b]
      rw [hdd] at h4
      rw [HV.out]
      clear hdd a b
      go_enter Tryd.func21, Tryd.ntmps21
      go_wp2_with (first
        | ((with_reducible refine load32w (x := .tmp 11) (l := d) (o := ⟨some 12, _, _, _, _, _⟩) HR.out HD.out ?_ ?_); exact ⟨rfl, rfl, rfl⟩)
        | ((with_reducible refine load32w (x := .tmp 13) (l := d') (o := ⟨some 14, _, _, _, _, _⟩) HS.out HD'.out ?_ ?_); exact ⟨rfl, rfl, rfl⟩))
      go_ret
      exact ⟨rfl, HB.out⟩
  · have a' : ((v : Int) == (v' : Int)) = false := by rw [beq_eq_false_iff_ne]; omega
    have HV : Hid (N = false) := by show _ = _; rw [HN.out]; simp [a]
    rw [HV.out]
    clear a
    go_enter Tryd.func21, Tryd.ntmps21
    go_wp2_with fail
    go_ret
    exact ⟨rfl, HB.out⟩
end Go.Proofs.YtaikdbbakdicgaaDoor
/-
  Steps of a region that draws its order, of operations that may be guarded: a call, an append that leaves what was there, a load of a whole array.
-/
namespace Go.Proofs.YtaikdbbakdicgaaDoor
open Go.ChangeShapes Go.WideShapes Go.ChangeAt Go.RowKit
set_option linter.unusedVariables false
theorem arr_setCells {t : TypeId} {g k : Nat} {cs : List Value} (hk : k ≠ g) : ∀ (vs : List Value) (o : Nat) (w : World), Arr w t k cs → Arr (w.setCells g o vs) t k cs
  | [], _, _, h => h
  | v :: r, o, w, h => arr_setCells hk r (o + 1) _ (h.setCell (a := ⟨g, o, none⟩) hk v)
/-- append to a slice of the call's own: what it read it still reads; no other block is touched. -/
theorem run_held2 {w : World} {base C g off cap : Nat} {vx : Value} {l m : List UInt8} (hh : Held base w (.slice (some ⟨g, off, none⟩) l.length cap) l) (hr : Rd C w vx m) (hlen : l.length + m.length ≤ 140737488355328) (hbase : base ≤ w.heap.size) (ty : TypeId) :
    ∃ v' w', (Builtin.append_ #[22, 22] ty #[.slice (some ⟨g, off, none⟩) l.length cap, vx]).run Tryd.prog w = .ok v' w' ∧ Held base w' v' (l ++ m) ∧ Held base w' (.slice (some ⟨g, off, none⟩) l.length cap) l ∧ Below base w w' ∧ ∀ t k cs, k ≠ g → Arr w t k cs → Arr w' t k cs := by
  obtain ⟨i0, hi, hz0, hz1, hz2⟩ := info_parts Tryd.info5
  have hh' := hh
  rcases src_of_rd hr with ⟨rfl, rfl⟩ | ⟨ad, c, rfl, hc⟩
  · obtain ⟨v', w', h1, h2, h3⟩ := run_held hh hr hlen hbase ty
    rw [List.append_nil]
    rcases hh with ⟨h, _⟩ | ⟨g', off', cap', hv, h1, h2, h3, h4, h5, h6⟩
    · cases h
    · simp only [Value.slice.injEq, Option.some.injEq, Addr.mk.injEq] at hv
      obtain ⟨⟨rfl, rfl, _⟩, _, rfl⟩ := hv
      have hs := Src.ofNil (P := Tryd.prog) (size := i0.size) w Tryd.underlying22 0
      have h := run_append_room_src (P := Tryd.prog) w 22 22 ty 5 i0 Tryd.underlying22 hi g off l.length cap _ 0 [] hs (by omega) (fun j hj => by simp at hj) (fun j hj => by simp at hj)
      exact ⟨_, _, h, hh', hh', Below.refl _ _, fun _ _ _ _ h => h⟩
  · rcases hh with ⟨h, _⟩ | ⟨g', off', cap', hv, h1, h2, h3, h4, h5, h6⟩
    · cases h
    simp only [Value.slice.injEq, Option.some.injEq, Addr.mk.injEq] at hv
    obtain ⟨⟨rfl, rfl, _⟩, _, rfl⟩ := hv
    by_cases hroom : l.length + m.length ≤ cap
    · have h := run_append_room_cells (P := Tryd.prog) w 22 ty 5 i0 Tryd.underlying22 hi g off l.length cap ad m.length c (bvs m) (by rw [hz1]; simp [bvs]) hc (bvs_one m) hroom
        (fun j hj => by rw [hz1, Nat.mul_one, Nat.add_assoc]; exact (h6 (l.length + j) (by rw [bvs_length] at hj; omega)).1) (fun j hj => by rw [hz1, Nat.mul_one, Nat.add_assoc]; exact (h6 (l.length + j) (by rw [bvs_length] at hj; omega)).2)
      rw [hz1, Nat.mul_one] at h
      have hbel : Below base w (w.setCells g (off + l.length) (bvs m)) := Lib.below_setCells g h3 (bvs m) _ (Below.refl _ _)
      have hll : (l ++ m).length = l.length + m.length := List.length_append
      have hold : ∀ i, i < l.length → (w.setCells g (off + l.length) (bvs m)).cell? ⟨g, off + i, none⟩ = some (bv (l.getD i 0)) := fun i hil => by
        rw [World.cell?_setCells_out g (bvs m) _ w _ (fun _ _ => .inl (by show off + i < off + l.length; omega))]
        exact h5 i hil
      refine ⟨_, _, h, .inr ⟨g, off, cap, by rw [hll], by omega, h2, h3, Nat.lt_of_lt_of_le h4 hbel.size, fun i hi => ?_, fun i hi => ?_⟩, .inr ⟨g, off, cap, rfl, h1, h2, h3, Nat.lt_of_lt_of_le h4 hbel.size, hold, fun i hi => ?_⟩, hbel, fun t k cs hk ha => arr_setCells hk _ _ _ ha⟩
      · rw [getD_app]
        by_cases hil : i < l.length
        · rw [if_pos hil]; exact hold i hil
        · rw [if_neg hil]
          have := World.cell?_setCells_in g (bvs m) (off + l.length) w (fun j hj => by rw [Nat.add_assoc]; exact (h6 (l.length + j) (by rw [bvs_length] at hj; omega)).1) (i - l.length) (by rw [bvs_length]; omega)
          rw [show off + l.length + (i - l.length) = off + i by omega] at this
          rw [this]
          have hg := bvs_getElem m (i - l.length) (by omega)
          rw [List.getElem?_eq_getElem (by rw [bvs_length]; omega)] at hg
          exact hg
      all_goals exact ⟨World.isSome_setCells g (bvs m) _ w _ (h6 i hi).1, by rw [World.frozen?_setCells]; exact (h6 i hi).2⟩
    · obtain ⟨v', w', hrun, ho, hg⟩ := run_append_arg_grows (P := Tryd.prog) w 22 ty 5 i0 (.int .u8 0) 1 1 Tryd.underlying22 hi hz0 hz1 hz2 rfl (by decide) ⟨g, off, none⟩ l.length cap (bvs l) (by simp [bvs])
        (fun j u hj => by
          have hjl : j < l.length := by
            have := (List.getElem?_eq_some_iff.1 hj).1; simpa [bvs] using this
          rw [bvs_getElem l j hjl] at hj
          simp only [Option.some.injEq] at hj
          subst hj
          rw [Addr.add_mid]; exact h5 j hjl) ad m.length c (bvs m) (by simp [bvs]) hc (by omega) (by unfold maxLen; omega) (by omega)
      have hb2 : Below w.heap.size w w' := (Below.refl _ _).grown hg (Nat.le_refl _) (fun k hk => by cases hk)
      refine ⟨v', w', hrun, (Held.of_own (n := l.length + m.length) ?_).mono hbase, hh'.later hb2, (Below.refl _ _).grown hg hbase (fun k hk => by cases hk), fun t k cs _ ha => ha.later hb2⟩
      rw [bvs_append]; exact ho
section
variable {P : Program} {ops : Array Oper} {o : Oper} {a : Act} {w : World} {K : Act → World → Prop} {Q : Exit → Act → World → Prop} {E : Prop}
theorem stepw_call {f : FuncId} {args : Array Value} {R : Value → World → Prop}
    (hw : Region.wanted o (yielded ops a.tmps) = true) (hrun : (execOp a.eval o).run P w = .ok (.enter f args) w) (hc : Calls P f args w fun e w' => ∃ v, e = .returned v ∧ R v w')
    (hK : ∀ v w', R v w' → K (a.put o.dst v) w') : if Region.wanted o (yielded ops a.tmps) = true then Oper.wp P o a w K Q else E := by
  rw [if_pos hw]
  unfold Oper.wp
  rw [hrun]
  simp only [Oper.upon]
  refine hc.mono fun e w' ⟨v, he, hr⟩ => ?_
  subst he
  exact hK v w' hr
theorem stepw_held2 (hw : Region.wanted o (yielded ops a.tmps) = true) (s x : Operand)
    (ho : o.op = .call { callee := .builtin .append, args := #[s, x], argTypes := #[22, 22] })
    {base C g off cap : Nat} {vx : Value} {l m : List UInt8} (hs : a.eval s = .slice (some ⟨g, off, none⟩) l.length cap) (hh : Held base w (.slice (some ⟨g, off, none⟩) l.length cap) l) (hx : a.eval x = vx) (hr : Rd C w vx m) (hlen : l.length + m.length ≤ 140737488355328) (hbase : base ≤ w.heap.size)
    (hK : ∀ v' w', Held base w' v' (l ++ m) → Held base w' (.slice (some ⟨g, off, none⟩) l.length cap) l → Below base w w' → (∀ t k cs, k ≠ g → Arr w t k cs → Arr w' t k cs) → K (a.put o.dst v') w') : if Region.wanted o (yielded ops a.tmps) = true then Oper.wp Tryd.prog o a w K Q else E := by
  rw [if_pos hw]
  obtain ⟨v', w', hrun, r1, r2, r3, r4⟩ := run_held2 hh hr hlen hbase o.type
  unfold Oper.wp
  simp [execOp, ho, resolve, invoke, builtin, hs, hx, hrun, Result.andThen]
  exact hK v' w' r1 r2 r3 r4
variable {md : Region.Mode} {S : World → Prop}
/-- A whole array's load that is wanted, taken first. -/
theorem takew_arr {i : Nat} {o : Oper} {fuel : Nat} {listed : Array Bool} {a : Act} {w : World} (hi : ops[i]? = some o) (hs : Region.noSelect ops = true) (hf : Region.free md ops listed i = true) (hr : (Region.ready md ops listed).contains i = true)
    {v : Value} (hQ : ∀ c a w, Q (.panic c) (a.put o.dst v) w → Q (.panic c) a w) (hwt : Region.wanted o (yielded ops a.tmps) = true) {ty : TypeId} {x : Operand} {b : Nat} {cs : List Value} {d : TypeDesc} (hv : v = .agg cs.toArray) (ho : o.op = .load ty x ∧ a.eval x = .pointer (some ⟨b, 0, none⟩)) (hS : ∀ w, S w → w.rangeAt b 0 cs)
    (hu : P.underlying ty = some d) (hd : d.isRow = true) (hz : (P.info? ty).map (·.size) = some cs.length) (hw : S w)
    (h : wpAnyH P md ops Q S fuel (listed.setIfInBounds i true) (a.put o.dst (.agg cs.toArray)) w) : wpAnyH P md ops Q S (fuel + 1) listed a w := by
  subst hv
  exact wpAnyH_take hi hs hf hr hQ (yieldsIf_load_mid hwt ty x ho.1 b 0 ho.2 cs d hS hu hd hz) hw h
end
end Go.Proofs.YtaikdbbakdicgaaDoor
/-
  zookie.Payload.
-/
namespace Go.Proofs.YtaikdbbakdicgaaDoor
open Go.ChangeShapes Go.WideShapes Go.ChangeAt Go.RowKit
open errAs (ErrT)
set_option linter.unusedVariables false

theorem rd_three {w : World} {t : TypeId} {v0 v1 v2 : Value} {l0 l1 l2 : List UInt8} (h0 : Rd w.heap.size w v0 l0) (h1 : Rd w.heap.size w v1 l1) (h2 : Rd w.heap.size w v2 l2) :
    RdAll (w.alloc (.cells #[v0, v1, v2] t)).heap.size (w.alloc (.cells #[v0, v1, v2] t)) (some ⟨w.heap.size, 0, none⟩) [l0, l1, l2] := by
  intro _
  have hb : Below w.heap.size w (w.alloc (.cells #[v0, v1, v2] t)) := (Below.refl _ _).alloc (Nat.le_refl _) _
  refine ⟨w.heap.size, 0, rfl, by simp, fun i hi => ?_⟩
  have hA := Arr.new' w t #[v0, v1, v2] [v0, v1, v2] rfl
  have hi3 : i = 0 ∨ i = 1 ∨ i = 2 := by simp at hi; omega
  rcases hi3 with rfl | rfl | rfl
  · exact ⟨v0, hA.cell 0, (h0.below hb (Nat.le_refl _)).mono hb.size⟩
  · exact ⟨v1, hA.cell 1, (h1.below hb (Nat.le_refl _)).mono hb.size⟩
  · exact ⟨v2, hA.cell 2, (h2.below hb (Nat.le_refl _)).mono hb.size⟩
/-- The digest in the block of a zookie. -/
theorem rdZ {w : World} {t : TypeId} {g v r : Nat} {d : List UInt8} (h : Arr w t g (zc v r d)) (hd : d.length = 32) : Rd w.heap.size w (.slice (some ⟨g, 2, none⟩) 32 32) d := by
  refine .inr ⟨g, 2, 32, by rw [hd], by omega, by unfold maxLen; omega, h.lt, fun i hi => ?_⟩
  rw [h.cell (2 + i), Nat.add_comm 2 i]
  have := bvs_getElem d i hi
  simpa [zc] using this
theorem rd_now {B : Nat} {w w' : World} {v : Value} {l : List UInt8} (h : Rd w.heap.size w v l) (hb : Below w.heap.size w w') : Rd w'.heap.size w' v l := (h.below hb (Nat.le_refl _)).mono hb.size
theorem rd_byte1 (w : World) (b : UInt8) : Rd (w.alloc (.cells #[.int .u8 b.toNat] 5)).heap.size (w.alloc (.cells #[.int .u8 b.toNat] 5)) (.slice (some ⟨w.heap.size, 0, none⟩) 1 1) [b] :=
  (rd_lit w [b] #[.int .u8 b.toNat] rfl 1 rfl (by simp [maxLen])).mono (by simp)

set_option maxRecDepth 100000 in
theorem zpay_no (v r : Nat) (d : List UInt8) (hd : d.length = 32) (hc : checkZ v r ≠ 0) (w : World) :
    Calls Tryd.prog 9 #[zkV v r d] w fun e w' => e = .returned (.tuple #[.slice none 0 0, .bool false]) ∧ Below w.heap.size w w' := by
  have hA := Arr.new' w 26 (zc v r d).toArray (zc v r d) rfl
  have HB : Hid (Below w.heap.size w (w.alloc (.cells (zc v r d).toArray 26))) := (Below.refl _ _).alloc (Nat.le_refl _) _
  have HA := Lib.hid hA
  have HD := Lib.hid hd
  have hq := eqlNilN
  have hv : errV (checkZ v r) = .iface 35 (.int .i64 (checkZ v r : Nat)) := by unfold errV; rw [if_neg hc]
  have HV := Lib.hid hv
  clear hA hd hv hc
  go_enter Tryd.func9, Tryd.ntmps9
  go_wp2_with ((with_reducible refine loadZ (x := .tmp 1) (o := ⟨some 4, _, _, _, _, _⟩) HA.out HD.out ?_ ?_); exact ⟨rfl, rfl, rfl⟩)
  refine (zcheck_any v r d HD.out _).mono ?_
  rintro e w2 ⟨rfl, b2⟩
  rw [HV.out]
  have HB2 := Lib.hid (HB.out.trans (b2.mono HB.out.size))
  clear b2
  go_wp2_with fail
  go_ret2
  exact ⟨rfl, HB2.out⟩
set_option maxRecDepth 100000 in
set_option maxHeartbeats 1000000 in
theorem zpay_yes (r : Nat) (d : List UInt8) (hr : r < lim63) (hd : d.length = 32) (w : World) :
    Calls Tryd.prog 9 #[zkV 1 r d] w fun e w' => ∃ v, e = .returned (.tuple #[v, .bool true]) ∧ Rd w'.heap.size w' v (payZ r d) ∧ Below w.heap.size w w' := by
  have hA := Arr.new' w 26 (zc 1 r d).toArray (zc 1 r d) rfl
  have HB : Hid (Below w.heap.size w (w.alloc (.cells (zc 1 r d).toArray 26))) := (Below.refl _ _).alloc (Nat.le_refl _) _
  have HA := Lib.hid hA
  have HD := Lib.hid hd
  have HRL := Lib.hid hr
  have HV : Hid (errV (checkZ 1 r) = .nilIface) := by
    show errV _ = _
    rw [show checkZ 1 r = 0 by unfold checkZ; rw [if_neg (by omega), if_neg (by omega)]]; rfl
  clear hA hd hr
  go_enter Tryd.func9, Tryd.ntmps9
  go_wp2_with ((with_reducible refine loadZ (x := .tmp 1) (o := ⟨some 4, _, _, _, _, _⟩) HA.out HD.out ?_ ?_); exact ⟨rfl, rfl, rfl⟩)
  refine (zcheck_any 1 r d HD.out _).mono ?_
  rintro e w2 ⟨rfl, b2⟩
  rw [HV.out]
  have HB2 := Lib.hid (HB.out.trans (b2.mono HB.out.size))
  have HA2 := Lib.hid (HA.out.later b2)
  clear b2 HA HB
  obtain ⟨g, hg⟩ : ∃ g, g = w.heap.size := ⟨_, rfl⟩
  rw [← hg] at HA2 ⊢
  have HG := Lib.hid hg
  clear hg
  go_upto_region 3 with fail
  refine wp_region_noPanic ?_
  refine wp_region_held_drew (S := fun W' => Arr W' 26 g (zc 1 r d)) (by kernel_rfl) (HA2.out.later (Below.refl _ _).drew) (fun hHeld => ?_)
  try simp only [Act.put]
  have HB3 := Lib.hid (HB2.out.drew)
  generalize w2.drew = w3 at hHeld HB3 ⊢
  clear HA2 HB2
  refine wpAnyH_take (i := 0) (oi := ⟨some 7, _, _, _, _, _⟩) (v := .pointer (some ⟨g, 0, none⟩)) rfl (by kernel_rfl) (by kernel_rfl) (by kernel_rfl) (fun _ _ _ h => h) (.inl ⟨by rfl, fun w' hSw => ?_⟩) hHeld ?_
  focus (skip; clear hHeld; go_simp)
  try simp only [Act.put, List.setIfInBounds_toArray, List.set_cons_zero, List.set_cons_succ]
  refine wpAnyH_take (i := 1) (oi := ⟨some 8, _, _, _, _, _⟩) (v := .int .u8 (1 : Nat)) rfl (by kernel_rfl) (by kernel_rfl) (by kernel_rfl) (fun _ _ _ h => h) (.inl ⟨by rfl, fun w' hSw => ?_⟩) hHeld ?_
  focus ((have q0 := hSw.cell 0; have q1 := hSw.cell 1; simp only [zc, List.getElem?_cons_zero, List.getElem?_cons_succ] at q0 q1); clear hHeld; go_simp)
  try simp only [Act.put, List.setIfInBounds_toArray, List.set_cons_zero, List.set_cons_succ]
  refine wpAnyH_take (i := 3) (oi := ⟨some 10, _, _, _, _, _⟩) (v := .pointer (some ⟨g, 1, none⟩)) rfl (by kernel_rfl) (by kernel_rfl) (by kernel_rfl) (fun _ _ _ h => h) (.inl ⟨by rfl, fun w' hSw => ?_⟩) hHeld ?_
  focus (skip; clear hHeld; go_simp)
  try simp only [Act.put, List.setIfInBounds_toArray, List.set_cons_zero, List.set_cons_succ]
  refine wpAnyH_take (i := 4) (oi := ⟨some 11, _, _, _, _, _⟩) (v := .int .u64 r) rfl (by kernel_rfl) (by kernel_rfl) (by kernel_rfl) (fun _ _ _ h => h) (.inl ⟨by rfl, fun w' hSw => ?_⟩) hHeld ?_
  focus ((have q0 := hSw.cell 0; have q1 := hSw.cell 1; simp only [zc, List.getElem?_cons_zero, List.getElem?_cons_succ] at q0 q1); clear hHeld; go_simp)
  try simp only [Act.put, List.setIfInBounds_toArray, List.set_cons_zero, List.set_cons_succ]
  refine wpAnyH_take (i := 6) (oi := ⟨some 13, _, _, _, _, _⟩) (v := .pointer (some ⟨g, 2, none⟩)) rfl (by kernel_rfl) (by kernel_rfl) (by kernel_rfl) (fun _ _ _ h => h) (.inl ⟨by rfl, fun w' hSw => ?_⟩) hHeld ?_
  focus (skip; clear hHeld; go_simp)
  try simp only [Act.put, List.setIfInBounds_toArray, List.set_cons_zero, List.set_cons_succ]
  refine wpAnyH_take (i := 7) (oi := ⟨some 14, _, _, _, _, _⟩) (v := .slice (some ⟨g, 2, none⟩) 32 32) rfl (by kernel_rfl) (by kernel_rfl) (by kernel_rfl) (fun _ _ _ h => h) (.inl ⟨by rfl, fun w' hSw => ?_⟩) hHeld ?_
  focus (skip; clear hHeld; go_simp)
  try simp only [Act.put, List.setIfInBounds_toArray, List.set_cons_zero, List.set_cons_succ]
  refine wpAnyH_ready (rs := [2, 5]) (by kernel_rfl) (by simp) ?_
  refine AllReadyH.cons (o := ⟨some 9, _, _, _, _, _⟩) rfl (fun K' hK' => ?_) (AllReadyH.cons (o := ⟨some 12, _, _, _, _, _⟩) rfl (fun K' hK' => ?_) AllReadyH.nil)
  · go_simp
    have hb0 : Below w3.heap.size w3 (w3.alloc (.cells #[.int .u8 (1 : Nat)] 5)) := (Below.refl _ _).alloc (Nat.le_refl _) _
    have hkn := hHeld.later hb0
    refine hK'.out _ _ hkn (fun _ => ?_)
    clear hK' K' hHeld
    have hHeld := hkn
    clear hkn
    have HV9 : Hid (Rd (w3.alloc (.cells #[.int .u8 (1 : Nat)] 5)).heap.size (w3.alloc (.cells #[.int .u8 (1 : Nat)] 5)) (.slice (some ⟨w3.heap.size, 0, none⟩) 1 1) [1]) := rd_byte1 w3 1
    have HB4 := Lib.hid (HB3.out.trans (hb0.mono HB3.out.size))
    generalize w3.heap.size = n9 at HV9 ⊢
    generalize w3.alloc (.cells #[.int .u8 (1 : Nat)] 5) = w4 at hHeld HV9 HB4 ⊢
    clear hb0 HB3
    try simp only [Act.put, List.setIfInBounds_toArray, List.set_cons_zero, List.set_cons_succ]
    refine wpAnyH_ready (rs := [5]) (by kernel_rfl) (by simp) ?_
    refine AllReadyH.cons (o := ⟨some 12, _, _, _, _, _⟩) rfl (fun K' hK' => ?_) AllReadyH.nil
    refine stepw_call (R := fun v' w'' => w''.ownsRow w4.heap.size 5 1 v' (put r).length (bvs (put r)) ∧ Below w4.heap.size w4 w'') (by rfl) ?_ ((wput r (by have := HRL.out; unfold lim63 at this; unfold lim64; omega) _).mono fun e w'' ⟨v', h1, h2, h3⟩ => ⟨v', h1, h2, h3⟩) ?_
    focus go_simp
    rintro v12 w5 ⟨o12, b12⟩
    have hkn := hHeld.later b12
    refine hK'.out _ _ hkn (fun _ => ?_)
    clear hK' K' hHeld
    have hHeld := hkn
    clear hkn
    have HV12 := Lib.hid (Rd.of_own o12)
    have HB5 := Lib.hid (HB4.out.trans (b12.mono HB4.out.size))
    have HV9 := Lib.hid (rd_now (B := 0) HV9.out b12)
    clear o12 b12 HB4
    try simp only [Act.put, List.setIfInBounds_toArray, List.set_cons_zero, List.set_cons_succ]
    have hr14 := rdZ hHeld HD.out
    have HRA := Lib.hid (rd_three (t := 22) HV9.out HV12.out hr14)
    obtain ⟨q12, c12, rfl⟩ := rd_form HV12.out
    clear HV9 HV12 hr14
    refine wpAnyH_ready (rs := [8]) (by kernel_rfl) (by simp) ?_
    refine AllReadyH.cons (o := ⟨some 15, _, _, _, _, _⟩) rfl (fun K' hK' => ?_) AllReadyH.nil
    go_simp
    have hb0 : Below w5.heap.size w5 (w5.alloc (.cells #[.slice (some ⟨n9, 0, none⟩) 1 1, .slice q12 (put r).length c12, .slice (some ⟨g, 2, none⟩) 32 32] 22)) := (Below.refl _ _).alloc (Nat.le_refl _) _
    have hkn := hHeld.later hb0
    refine hK'.out _ _ hkn (fun _ => ?_)
    clear hK' K' hHeld
    have hHeld := hkn
    clear hkn
    have HB6 := Lib.hid (HB5.out.trans (hb0.mono HB5.out.size))
    generalize w5.heap.size = n15 at HRA ⊢
    generalize w5.alloc (.cells #[.slice (some ⟨n9, 0, none⟩) 1 1, .slice q12 (put r).length c12, .slice (some ⟨g, 2, none⟩) 32 32] 22) = w6 at hHeld HRA HB6 ⊢
    clear hb0 HB5
    try simp only [Act.put, List.setIfInBounds_toArray, List.set_cons_zero, List.set_cons_succ]
    refine wpAnyH_ready (rs := [9]) (by kernel_rfl) (by simp) ?_
    refine AllReadyH.cons (o := ⟨some 16, _, _, _, _, _⟩) rfl (fun K' hK' => ?_) AllReadyH.nil
    refine stepw_call (R := fun v' w'' => w''.ownsRow w6.heap.size 5 1 v' (payZ r d).length (bvs (payZ r d)) ∧ Below w6.heap.size w6 w'') (by rfl) ?_ ((join_any (cap := 3) HRA.out (Nat.le_refl _) (by simp) (by have := put_len10 (x := r) (by have := HRL.out; unfold lim63 at this; unfold lim64; omega); have := HD.out; simp [total]; omega)).mono fun e w'' ⟨v', h1, h2, h3⟩ => ⟨v', h1, by simpa [payZ] using h2, h3⟩) ?_
    focus go_simp
    rintro v16 w7 ⟨o16, b16⟩
    have hkn := hHeld.later b16
    refine hK'.out _ _ hkn (fun _ => ?_)
    clear hK' K' hHeld
    have hHeld := hkn
    clear hkn
    have HV16 := Lib.hid (Rd.of_own o16)
    have HB7 := Lib.hid (HB6.out.trans (b16.mono HB6.out.size))
    clear o16 b16 HB6 HRA
    try simp only [Act.put, List.setIfInBounds_toArray, List.set_cons_zero, List.set_cons_succ]
    refine wpAnyH_take (i := 10) (oi := ⟨some 2, _, _, _, _, _⟩) (v := v16) rfl (by kernel_rfl) (by kernel_rfl) (by kernel_rfl) (fun _ _ _ h => h) (.inl ⟨by rfl, fun w' hSw => ?_⟩) hHeld ?_
    focus (skip; clear hHeld; go_simp)
    try simp only [Act.put, List.setIfInBounds_toArray, List.set_cons_zero, List.set_cons_succ]
    refine wpAnyH_take (i := 11) (oi := ⟨some 3, _, _, _, _, _⟩) (v := .bool true) rfl (by kernel_rfl) (by kernel_rfl) (by kernel_rfl) (fun _ _ _ h => h) (.inl ⟨by rfl, fun w' hSw => ?_⟩) hHeld ?_
    focus (skip; clear hHeld; go_simp)
    try simp only [Act.put, List.setIfInBounds_toArray, List.set_cons_zero, List.set_cons_succ]
    refine wpAnyH_done (by kernel_rfl) ?_ _
    refine NoPanic.normal ?_
    obtain ⟨q16, c16, rfl⟩ := rd_form HV16.out
    clear hHeld
    go_wp2_with fail
    go_ret2
    exact ⟨_, rfl, HV16.out, HB7.out⟩
  · refine stepw_call (R := fun v' w'' => w''.ownsRow w3.heap.size 5 1 v' (put r).length (bvs (put r)) ∧ Below w3.heap.size w3 w'') (by rfl) ?_ ((wput r (by have := HRL.out; unfold lim63 at this; unfold lim64; omega) _).mono fun e w'' ⟨v', h1, h2, h3⟩ => ⟨v', h1, h2, h3⟩) ?_
    focus go_simp
    rintro v12 w4 ⟨o12, b12⟩
    have hkn := hHeld.later b12
    refine hK'.out _ _ hkn (fun _ => ?_)
    clear hK' K' hHeld
    have hHeld := hkn
    clear hkn
    have HV12 := Lib.hid (Rd.of_own o12)
    have HB4 := Lib.hid (HB3.out.trans (b12.mono HB3.out.size))
    clear o12 b12 HB3
    try simp only [Act.put, List.setIfInBounds_toArray, List.set_cons_zero, List.set_cons_succ]
    refine wpAnyH_ready (rs := [2]) (by kernel_rfl) (by simp) ?_
    refine AllReadyH.cons (o := ⟨some 9, _, _, _, _, _⟩) rfl (fun K' hK' => ?_) AllReadyH.nil
    go_simp
    have hb0 : Below w4.heap.size w4 (w4.alloc (.cells #[.int .u8 (1 : Nat)] 5)) := (Below.refl _ _).alloc (Nat.le_refl _) _
    have hkn := hHeld.later hb0
    refine hK'.out _ _ hkn (fun _ => ?_)
    clear hK' K' hHeld
    have hHeld := hkn
    clear hkn
    have HV9 : Hid (Rd (w4.alloc (.cells #[.int .u8 (1 : Nat)] 5)).heap.size (w4.alloc (.cells #[.int .u8 (1 : Nat)] 5)) (.slice (some ⟨w4.heap.size, 0, none⟩) 1 1) [1]) := rd_byte1 w4 1
    have HB5 := Lib.hid (HB4.out.trans (hb0.mono HB4.out.size))
    have HV12 := Lib.hid (rd_now (B := 0) HV12.out hb0)
    generalize w4.heap.size = n9 at HV9 ⊢
    generalize w4.alloc (.cells #[.int .u8 (1 : Nat)] 5) = w5 at hHeld HV9 HB5 HV12 ⊢
    clear hb0 HB4
    try simp only [Act.put, List.setIfInBounds_toArray, List.set_cons_zero, List.set_cons_succ]
    have hr14 := rdZ hHeld HD.out
    have HRA := Lib.hid (rd_three (t := 22) HV9.out HV12.out hr14)
    obtain ⟨q12, c12, rfl⟩ := rd_form HV12.out
    clear HV9 HV12 hr14
    refine wpAnyH_ready (rs := [8]) (by kernel_rfl) (by simp) ?_
    refine AllReadyH.cons (o := ⟨some 15, _, _, _, _, _⟩) rfl (fun K' hK' => ?_) AllReadyH.nil
    go_simp
    have hb0 : Below w5.heap.size w5 (w5.alloc (.cells #[.slice (some ⟨n9, 0, none⟩) 1 1, .slice q12 (put r).length c12, .slice (some ⟨g, 2, none⟩) 32 32] 22)) := (Below.refl _ _).alloc (Nat.le_refl _) _
    have hkn := hHeld.later hb0
    refine hK'.out _ _ hkn (fun _ => ?_)
    clear hK' K' hHeld
    have hHeld := hkn
    clear hkn
    have HB6 := Lib.hid (HB5.out.trans (hb0.mono HB5.out.size))
    generalize w5.heap.size = n15 at HRA ⊢
    generalize w5.alloc (.cells #[.slice (some ⟨n9, 0, none⟩) 1 1, .slice q12 (put r).length c12, .slice (some ⟨g, 2, none⟩) 32 32] 22) = w6 at hHeld HRA HB6 ⊢
    clear hb0 HB5
    try simp only [Act.put, List.setIfInBounds_toArray, List.set_cons_zero, List.set_cons_succ]
    refine wpAnyH_ready (rs := [9]) (by kernel_rfl) (by simp) ?_
    refine AllReadyH.cons (o := ⟨some 16, _, _, _, _, _⟩) rfl (fun K' hK' => ?_) AllReadyH.nil
    refine stepw_call (R := fun v' w'' => w''.ownsRow w6.heap.size 5 1 v' (payZ r d).length (bvs (payZ r d)) ∧ Below w6.heap.size w6 w'') (by rfl) ?_ ((join_any (cap := 3) HRA.out (Nat.le_refl _) (by simp) (by have := put_len10 (x := r) (by have := HRL.out; unfold lim63 at this; unfold lim64; omega); have := HD.out; simp [total]; omega)).mono fun e w'' ⟨v', h1, h2, h3⟩ => ⟨v', h1, by simpa [payZ] using h2, h3⟩) ?_
    focus go_simp
    rintro v16 w7 ⟨o16, b16⟩
    have hkn := hHeld.later b16
    refine hK'.out _ _ hkn (fun _ => ?_)
    clear hK' K' hHeld
    have hHeld := hkn
    clear hkn
    have HV16 := Lib.hid (Rd.of_own o16)
    have HB7 := Lib.hid (HB6.out.trans (b16.mono HB6.out.size))
    clear o16 b16 HB6 HRA
    try simp only [Act.put, List.setIfInBounds_toArray, List.set_cons_zero, List.set_cons_succ]
    refine wpAnyH_take (i := 10) (oi := ⟨some 2, _, _, _, _, _⟩) (v := v16) rfl (by kernel_rfl) (by kernel_rfl) (by kernel_rfl) (fun _ _ _ h => h) (.inl ⟨by rfl, fun w' hSw => ?_⟩) hHeld ?_
    focus (skip; clear hHeld; go_simp)
    try simp only [Act.put, List.setIfInBounds_toArray, List.set_cons_zero, List.set_cons_succ]
    refine wpAnyH_take (i := 11) (oi := ⟨some 3, _, _, _, _, _⟩) (v := .bool true) rfl (by kernel_rfl) (by kernel_rfl) (by kernel_rfl) (fun _ _ _ h => h) (.inl ⟨by rfl, fun w' hSw => ?_⟩) hHeld ?_
    focus (skip; clear hHeld; go_simp)
    try simp only [Act.put, List.setIfInBounds_toArray, List.set_cons_zero, List.set_cons_succ]
    refine wpAnyH_done (by kernel_rfl) ?_ _
    refine NoPanic.normal ?_
    obtain ⟨q16, c16, rfl⟩ := rd_form HV16.out
    clear hHeld
    go_wp2_with fail
    go_ret2
    exact ⟨_, rfl, HV16.out, HB7.out⟩
end Go.Proofs.YtaikdbbakdicgaaDoor
/-
  zookie.Parse.
-/
namespace Go.Proofs.YtaikdbbakdicgaaDoor
open Go.ChangeShapes Go.WideShapes Go.ChangeAt Go.RowKit
open errAs (ErrT)
set_option linter.unusedVariables false

set_option maxRecDepth 100000 in
theorem end_done {w : World} {c at' : Nat} {l : List UInt8} (h : Cur w c l at') (hl : at' = l.length) :
    Calls Tryd.prog 33 #[.pointer (some ⟨c, 0, none⟩)] w fun e w' => e = .returned .nilIface ∧ ∃ n, w' = w.drewN n := by
  have HL := Lib.hid (left_any h)
  rw [hl, Nat.sub_self] at HL
  go_enter Tryd.func33, Tryd.ntmps33
  go_wp2_with fail
  refine HL.out.mono ?_
  rintro e w1 ⟨rfl, nq, rfl⟩
  go_wp2_with fail
  go_ret
  exact ⟨rfl, _, rfl⟩
theorem resZ {fn : Func} {p q : Tmp} {tmps : Array Value} {w : World} {g v r : Nat} {t : TypeId} {d : List UInt8} (h : fn.results = #[.cell p 26, .tmp q]) (hA : Arr w t g (zc v r d)) (hd : d.length = 32) (hp : tmps.getD p undef = .pointer (some ⟨g, 0, none⟩)) :
    (results fn tmps).run Tryd.prog w = .ok (.tuple #[zkV v r d, tmps.getD q undef]) w :=
  results_cell_tmp h tmps w g t (zc v r d).toArray (0, 0) _ hp hA Tryd.underlying26 rfl (by rw [List.size_toArray, zc_length hd]; kernel_rfl)
theorem z32_length : z32.length = 32 := rfl
/-- The result's block g holds the zero zookie; the cursor in block c has come to at'. -/
def PZ (w : World) (g c : Nat) (l : List UInt8) (at' : Nat) (W : World) : Prop := Arr W 26 g (zc 0 0 z32) ∧ Below w.heap.size w W ∧ Cur W c l at' ∧ w.heap.size ≤ g ∧ g < c
theorem PZ.step {w W W' : World} {g c a a' : Nat} {l : List UInt8} (h : PZ w g c l a W) (hb : Below c W W') (hc : Cur W' c l a') : PZ w g c l a' W' :=
  ⟨h.1.below hb h.2.2.2.2, h.2.1.trans (hb.mono (by have := h.2.2.2; omega)), hc, h.2.2.2⟩
theorem PZ.same {w W W' : World} {g c a : Nat} {l : List UInt8} (h : PZ w g c l a W) (hb : Below W.heap.size W W') : PZ w g c l a W' :=
  ⟨h.1.later hb, h.2.1.trans (hb.mono h.2.1.size), h.2.2.1.below hb h.2.2.1.lt, h.2.2.2⟩
theorem grown_below {w w' : World} {c : Nat} (h : w.grownBy w' (some c)) (hc : c ≤ w.heap.size) : Below c w w' := (Below.refl _ _).grown h hc (fun k hk => by injection hk with hk; omega)
/-- What Parse hands back. -/
def zkT (P : Nat × Nat × List UInt8 × Nat × Nat) : Value := zkV P.1 P.2.1 P.2.2.1
def zkE (P : Nat × Nat × List UInt8 × Nat × Nat) : Value := errF P.2.2.2.1 P.2.2.2.2
theorem zkE_bad (c n : Nat) (h : c ≠ 0) : zkE (badZ c n) = faultN c n := by show errF c n = _; unfold errF; rw [if_neg h]
theorem fold_set (p : Nat) : ∀ (l A B : List Value) (k : Nat), A.length = p + k → B.length = l.length → (l.zipIdx k).foldl (fun (cs : Array Value) (x : Value × Nat) => cs.setIfInBounds (p + x.2) x.1) (A ++ B).toArray = (A ++ l).toArray
  | [], A, B, k, _, hb => by
    obtain rfl := List.eq_nil_of_length_eq_zero hb
    simp
  | v :: l, A, [], k, _, hb => by simp at hb
  | v :: l, A, u :: B, k, ha, hb => by
    rw [List.zipIdx_cons, List.foldl_cons]
    simp only [List.setIfInBounds_toArray]
    rw [← ha, List.set_append_right _ _ (Nat.le_refl _), Nat.sub_self, List.set_cons_zero]
    have := fold_set p l (A ++ [v]) B (k + 1) (by rw [List.length_append, ha]; simp; omega) (by simpa using hb)
    simpa [List.append_assoc] using this
theorem buildZ (r : Nat) (d : List UInt8) (hd : d.length = 32) : (bvs d).zipIdx.foldl (fun (cs : Array Value) (x : Value × Nat) => cs.setIfInBounds (2 + x.2) x.1) ([Value.int .u8 1, Value.int .u64 r] ++ bvs z32).toArray = (zc 1 r d).toArray :=
  fold_set 2 (bvs d) [Value.int .u8 1, Value.int .u64 r] (bvs z32) 0 rfl (by rw [bvs_length, bvs_length, hd]; rfl)
theorem arr_at32 (a : Addr) (n c : Nat) (h : ¬ n < 32) (w : World) : (Instr.arrayAt 24 (.slice (some a) n c)).run Tryd.prog w = .ok (.pointer (some a)) w := by
  simp [Instr.arrayAt, Sem.run_bind, run_underlying Tryd.underlying24, h]
set_option maxRecDepth 100000 in
set_option maxHeartbeats 2000000 in
theorem zparse_any {B : Nat} {w : World} {vb : Value} {l : List UInt8} (hr : Rd B w vb l) (hB : B ≤ w.heap.size) (hl : l.length ≤ 1000000000) (hE : ErrT w) :
    Calls Tryd.prog 12 #[vb] w fun e w' => e = .returned (.tuple #[zkT (parseZ l), zkE (parseZ l)]) ∧ Below w.heap.size w w' := by
  have HE := Lib.hid hE
  have HR := Lib.hid hr
  have HL := Lib.hid hl
  have HN : Hid (∀ z : Array Value, z.toList = zc 0 0 z32 → Calls Tryd.prog 27 #[vb] (w.alloc (.cells z 26)) fun e w1 => ∃ c, e = .returned (.pointer (some ⟨c, 0, none⟩)) ∧ PZ w w.heap.size c l 0 w1) := by
    intro z hz
    have hA := Arr.new' w 26 z _ hz
    have hb0 : Below w.heap.size w (w.alloc (.cells z 26)) := (Below.refl _ _).alloc (Nat.le_refl _) _
    refine (new_any (hr.below hb0 hB) (Nat.le_trans hB hb0.size) (by omega)).mono ?_
    rintro e w1 ⟨c, rfl, hc, hcur, b1⟩
    exact ⟨c, rfl, hA.later b1, hb0.trans (b1.mono hb0.size), hcur, Nat.le_refl _, Nat.lt_of_lt_of_le hA.lt hc⟩
  have hq := eqlNilN
  obtain ⟨ov, cv, rfl⟩ := rd_form hr
  clear hr hE
  go_enter Tryd.func12, Tryd.ntmps12
  go_wp2_with fail
  refine (HN.out _ rfl).mono ?_
  rintro e w1 ⟨c, rfl, hp1⟩
  have HP1 := Lib.hid hp1
  obtain ⟨g, hg⟩ : ∃ g, g = w.heap.size := ⟨_, rfl⟩
  rw [← hg] at HP1 ⊢
  clear HN hp1 hg
  cases l with
  | nil =>
    have HT := Lib.hid (take_no HP1.out.2.2.1 1 (by simp))
    go_wp2_with fail
    refine HT.out.mono ?_
    rintro e w2 ⟨rfl, k, rfl⟩
    have HP2 := Lib.hid (HP1.out.same (below_drewN (Below.refl _ _) k))
    clear HT HP1
    have HSH := Lib.hid (shift_Cn 1 0 (w1.drewN k) (errT_below HE.out HP2.out.2.1) (by omega))
    go_wp2_with fail
    refine HSH.out.mono ?_
    rintro e w3 ⟨rfl, b3⟩
    have HP3 := Lib.hid (HP2.out.same b3)
    clear b3 HP2 HSH
    have hA := HP3.out.1
    have HB := Lib.hid HP3.out.2.1
    have HG := Lib.hid HP3.out.2.2.2.1
    go_wp2_with ((with_reducible refine storeZ (x := .tmp 2) (y := .tmp 19) (v := 0) (r := 0) (d := z32) (o := ⟨none, .store _ _ _, _, _, _, _⟩) hA z32_length z32_length ?_ ?_); exact ⟨rfl, rfl, rfl, rfl⟩)
    refine bodyPost_ret (resZ rfl (hA.row _) z32_length rfl) rfl ⟨?_, below_row HB.out HG.out _⟩
    rw [show parseZ [] = badZ 1 0 from rfl, zkE_bad _ _ (by decide)]
    rfl
  | cons x b =>
    have HT := Lib.hid (take_yes HP1.out.2.2.1 1 (by decide) (by simp))
    go_wp2_with fail
    refine HT.out.mono ?_
    rintro e w2 ⟨v2, rfl, o2, c2, b2⟩
    have HP2 := Lib.hid (HP1.out.step b2 c2)
    rw [show ((x :: b).drop 0).take 1 = [x] from rfl] at o2
    obtain ⟨bk, of, cp2, rfl, hcell⟩ : ∃ bk of cp, v2 = .slice (some ⟨bk, of, none⟩) 1 cp ∧ w2.cell? ⟨bk, of, none⟩ = some (.int .u8 x.toNat) := by
      rcases Rd.of_own o2 with ⟨_, _, h⟩ | ⟨bk, of, cp, hv, _, _, _, h⟩
      · cases h
      · exact ⟨bk, of, cp, hv, h 0 (by simp)⟩
    clear o2 c2 b2 HT HP1
    by_cases hx : x.toNat = 1
    · have hx1 : (x.toNat : Int) = 1 := by omega
      have hx2 : ((x.toNat : Int) != 1) = false := by rw [hx1]; rfl
      have HAT := Lib.hid (at_any HP2.out.2.2.1)
      go_wp2_with fail
      refine HAT.out.mono ?_
      rintro e w3 ⟨rfl, rfl⟩
      have HNU := Lib.hid (Number_any HP2.out.2.2.1)
      unfold NumberPost at HNU
      rw [show (x :: b).drop (0 + 1) = b from rfl, Nat.zero_add] at HNU
      obtain ⟨m, hm⟩ : ∃ m, m = num b := ⟨_, rfl⟩
      rw [← hm] at HNU
      have HM := Lib.hid hm
      have HMP := Lib.hid (fun (h1 : m.2.2 ≠ 0) => parseZ_num (v := x) (b := b) hx (by rw [← hm]; exact h1))
      rw [← hm] at HMP
      clear HAT hm
      rw [show ((0 + 1 : Nat) : Int) = 1 from rfl]
      go_wp2_with fail
      refine HNU.out.mono ?_
      rintro e w4 ⟨rfl, c4, g4⟩
      have HP4 := Lib.hid (HP2.out.step (grown_below g4 (Nat.le_of_lt HP2.out.2.2.1.lt)) c4)
      clear c4 g4 HP2 HNU hcell
      by_cases hm0 : m.2.2 = 0
      · have hv : errV m.2.2 = .nilIface := by rw [hm0]; rfl
        rw [hv]
        clear hv
        have HM0 : Hid ((num b).2.2 = 0) := by rw [← HM.out]; exact hm0
        have HAT0 := num_at HM0.out
        rw [← HM.out] at HAT0
        clear hm0 HMP
        obtain ⟨rv, hrv⟩ : ∃ rv, rv = m.1 := ⟨_, rfl⟩
        obtain ⟨k, hk⟩ : ∃ k, k = m.2.1 := ⟨_, rfl⟩
        rw [← hrv]
        rw [← hk] at HP4 HAT0
        have HRV : Hid (rv = (num b).1) := by rw [hrv, HM.out]; rfl
        have HK : Hid (k = (num b).2.1) := by rw [hk, HM.out]; rfl
        obtain ⟨z1, z2, z3⟩ := HAT0
        clear hrv hk HM
        by_cases hlim : lim63 ≤ rv
        · have h1 : (9223372036854775807 : Int) < rv := by unfold lim63 at hlim; omega
          have HPZ := Lib.hid (parseZ_lim (v := x) (b := b) hx HM0.out (by rw [← HRV.out]; exact hlim))
          clear hlim
          go_wp2_with fail
          refine (fnew_any _ _ _).mono ?_
          rintro e w5 ⟨rfl, rfl⟩
          have hA := HP4.out.1
          have HB := Lib.hid HP4.out.2.1
          have HG := Lib.hid HP4.out.2.2.2.1
          go_wp2_with ((with_reducible refine storeZ (x := .tmp 2) (y := .tmp 43) (v := 0) (r := 0) (d := z32) (o := ⟨none, .store _ _ _, _, _, _, _⟩) hA z32_length z32_length ?_ ?_); exact ⟨rfl, rfl, rfl, rfl⟩)
          refine bodyPost_ret (resZ rfl (hA.row _) z32_length rfl) rfl ⟨?_, below_row HB.out HG.out _⟩
          rw [HPZ.out, zkE_bad _ _ (by decide)]
          rfl
        · have h1 : ¬ (9223372036854775807 : Int) < rv := by unfold lim63 at hlim; omega
          have HLM : Hid (¬ lim63 ≤ (num b).1) := by rw [← HRV.out]; exact hlim
          have HAT := Lib.hid (at_any HP4.out.2.2.1)
          clear hlim
          go_wp2_with fail
          refine HAT.out.mono ?_
          rintro e w5 ⟨rfl, rfl⟩
          obtain ⟨a2, ha2⟩ : ∃ a2, a2 = 1 + k := ⟨_, rfl⟩
          rw [← ha2] at HP4 ⊢
          have HA2 := Lib.hid ha2
          clear ha2 HAT
          by_cases hs : b.length < k + 32
          · have HT := Lib.hid (take_no HP4.out.2.2.1 32 (by have := HA2.out; rw [List.length_cons]; omega))
            have HPZ := Lib.hid (parseZ_short (v := x) (b := b) hx HM0.out HLM.out (by rw [← HK.out]; exact hs))
            rw [← HK.out, ← HA2.out] at HPZ
            go_wp2_with fail
            refine HT.out.mono ?_
            rintro e w6 ⟨rfl, kk, rfl⟩
            have HP6 := Lib.hid (HP4.out.same (below_drewN (Below.refl _ _) kk))
            clear HT HP4
            have HSH := Lib.hid (shift_Cn 1 a2 (w4.drewN kk) (errT_below HE.out HP6.out.2.1) (by have := HA2.out; omega))
            go_wp2_with fail
            refine HSH.out.mono ?_
            rintro e w7 ⟨rfl, b7⟩
            have HP7 := Lib.hid (HP6.out.same b7)
            clear b7 HP6 HSH
            have hA := HP7.out.1
            have HB := Lib.hid HP7.out.2.1
            have HG := Lib.hid HP7.out.2.2.2.1
            go_wp2_with ((with_reducible refine storeZ (x := .tmp 2) (y := .tmp 55) (v := 0) (r := 0) (d := z32) (o := ⟨none, .store _ _ _, _, _, _, _⟩) hA z32_length z32_length ?_ ?_); exact ⟨rfl, rfl, rfl, rfl⟩)
            refine bodyPost_ret (resZ rfl (hA.row _) z32_length rfl) rfl ⟨?_, below_row HB.out HG.out _⟩
            rw [HPZ.out, zkE_bad _ _ (by decide)]
            rfl
          · have HT := Lib.hid (take_yes HP4.out.2.2.1 32 (by decide) (by have := HA2.out; rw [List.length_cons]; omega))
            rw [show (x :: b).drop a2 = b.drop k by rw [HA2.out, Nat.add_comm 1 k, List.drop_succ_cons]] at HT
            obtain ⟨d, hd⟩ : ∃ d, d = (b.drop k).take 32 := ⟨_, rfl⟩
            rw [← hd] at HT
            have HDL : Hid (d.length = 32) := by show _ = _; rw [hd, List.length_take, List.length_drop]; omega
            have HD := Lib.hid hd
            clear hd
            go_wp2_with fail
            refine HT.out.mono ?_
            rintro e w6 ⟨v6, rfl, o6, c6, b6⟩
            have HP6 := Lib.hid (HP4.out.step b6 c6)
            have HO6 := Lib.hid o6
            clear o6 c6 b6 HT HP4
            by_cases hlong : k + 32 < b.length
            · have HEN := Lib.hid (end_left HP6.out.2.2.1 (by have := HA2.out; rw [List.length_cons]; omega))
              have HPZ := Lib.hid (parseZ_long (v := x) (b := b) hx HM0.out HLM.out (by rw [← HK.out]; exact hlong))
              rw [← HK.out, show 33 + k = a2 + 32 by have := HA2.out; omega] at HPZ
              go_wp2_with fail
              refine HEN.out.mono ?_
              rintro e w7 ⟨rfl, kk, rfl⟩
              have HP7 := Lib.hid (HP6.out.same (below_drewN (Below.refl _ _) kk))
              have HAT := Lib.hid (at_any HP7.out.2.2.1)
              clear HEN HP6
              go_wp2_with fail
              refine HAT.out.mono ?_
              rintro e w8 ⟨rfl, rfl⟩
              go_wp2_with fail
              refine (fnew_any _ _ _).mono ?_
              rintro e w9 ⟨rfl, rfl⟩
              have hA := HP7.out.1
              have HB := Lib.hid HP7.out.2.1
              have HG := Lib.hid HP7.out.2.2.2.1
              go_wp2_with ((with_reducible refine storeZ (x := .tmp 2) (y := .tmp 62) (v := 0) (r := 0) (d := z32) (o := ⟨none, .store _ _ _, _, _, _, _⟩) hA z32_length z32_length ?_ ?_); exact ⟨rfl, rfl, rfl, rfl⟩)
              refine bodyPost_ret (resZ rfl (hA.row _) z32_length rfl) rfl ⟨?_, below_row HB.out HG.out _⟩
              rw [HPZ.out, zkE_bad _ _ (by decide)]
              rfl
            · have HEN := Lib.hid (end_done HP6.out.2.2.1 (by have := HA2.out; rw [List.length_cons]; omega))
              have HPZ := Lib.hid (parseZ_yes (v := x) (b := b) hx HM0.out HLM.out (by rw [← HK.out]; omega))
              rw [← HK.out, ← HRV.out, show b.drop k = d by rw [HD.out, List.take_of_length_le (by rw [List.length_drop]; omega)]] at HPZ
              go_wp2_with fail
              refine HEN.out.mono ?_
              rintro e w7 ⟨rfl, kk, rfl⟩
              have hd7 := below_drewN (Below.refl w6.heap.size w6) kk
              have HP7 := Lib.hid (HP6.out.same hd7)
              have HO7 := Lib.hid (own_below HO6.out hd7)
              clear HEN HP6 hd7 HO6
              generalize w6.drewN kk = w7 at HP7 HO7 ⊢
              obtain ⟨bk6, of6, cp6, rfl, hran⟩ : ∃ bk of cp, v6 = .slice (some ⟨bk, of, none⟩) 32 cp ∧ w7.rangeAt bk of (bvs d) := by
                rcases Rd.of_own HO7.out with ⟨_, _, h⟩ | ⟨bk, of, cp, hv, _, _, _, h⟩
                · have := HDL.out; rw [h] at this; cases this
                · rw [HDL.out] at hv
                  refine ⟨bk, of, cp, hv, fun j u hu => ?_⟩
                  have hj : j < d.length := by have := (List.getElem?_eq_some_iff.1 hu).1; simpa [bvs] using this
                  rw [bvs_getElem d j hj] at hu
                  rw [h j hj]; exact hu
              have HRA := Lib.hid hran
              have har := arr_at32 ⟨bk6, of6, none⟩ 32 cp6 (by omega)
              have hbl : (bvs d).length = 32 := by rw [bvs_length, HDL.out]
              clear hran HO7
              have HBZ := Lib.hid (buildZ rv d HDL.out)
              have hA := HP7.out.1
              have HB := Lib.hid HP7.out.2.1
              have HG := Lib.hid HP7.out.2.2.2.1
              clear HP7
              go_wp2_with (first
                | ((with_reducible refine load32w (x := .tmp 68) (l := d) (o := ⟨some 69, _, _, _, _, _⟩) HRA.out HDL.out ?_ ?_); exact ⟨rfl, rfl, rfl⟩)
                | ((with_reducible refine storeZ (x := .tmp 2) (y := .tmp 70) (v := 1) (r := rv) (d := d) (o := ⟨none, .store _ _ _, _, _, _, _⟩) hA z32_length HDL.out ?_ ?_); exact ⟨rfl, rfl, rfl, congrArg Value.agg HBZ.out⟩))
              refine bodyPost_ret (resZ rfl (hA.row _) HDL.out rfl) rfl ⟨?_, below_row HB.out HG.out _⟩
              rw [HPZ.out]
              rfl
      · have hv : errV m.2.2 = .iface 35 (.int .i64 (m.2.2 : Nat)) := by unfold errV; rw [if_neg hm0]
        rw [hv]
        have HPZ := Lib.hid (HMP.out hm0)
        have HM0 := Lib.hid hm0
        have HSH := Lib.hid (shift_Cn m.2.2 1 w4 (errT_below HE.out HP4.out.2.1) (by omega))
        clear hv hm0 HMP
        go_wp2_with fail
        refine HSH.out.mono ?_
        rintro e w5 ⟨rfl, b5⟩
        have HP5 := Lib.hid (HP4.out.same b5)
        clear b5 HP4 HSH
        have hA := HP5.out.1
        have HB := Lib.hid HP5.out.2.1
        have HG := Lib.hid HP5.out.2.2.2.1
        go_wp2_with ((with_reducible refine storeZ (x := .tmp 2) (y := .tmp 37) (v := 0) (r := 0) (d := z32) (o := ⟨none, .store _ _ _, _, _, _, _⟩) hA z32_length z32_length ?_ ?_); exact ⟨rfl, rfl, rfl, rfl⟩)
        refine bodyPost_ret (resZ rfl (hA.row _) z32_length rfl) rfl ⟨?_, below_row HB.out HG.out _⟩
        rw [HPZ.out, zkE_bad _ _ HM0.out]
        rfl
    · have hx1 : ¬ (x.toNat : Int) = 1 := by omega
      have hx2 : ((x.toNat : Int) != 1) = true := by rw [bne_iff_ne]; exact hx1
      go_wp2_with fail
      refine (fnew_any _ _ _).mono ?_
      rintro e w3 ⟨rfl, rfl⟩
      have hA := HP2.out.1
      have HB := Lib.hid HP2.out.2.1
      have HG := Lib.hid HP2.out.2.2.2.1
      go_wp2_with ((with_reducible refine storeZ (x := .tmp 2) (y := .tmp 26) (v := 0) (r := 0) (d := z32) (o := ⟨none, .store _ _ _, _, _, _, _⟩) hA z32_length z32_length ?_ ?_); exact ⟨rfl, rfl, rfl, rfl⟩)
      refine bodyPost_ret (resZ rfl (hA.row _) z32_length rfl) rfl ⟨?_, below_row HB.out HG.out _⟩
      rw [parseZ_ver hx, zkE_bad _ _ (by decide)]
      rfl
end Go.Proofs.YtaikdbbakdicgaaDoor
/-
  mac.Equal.
-/
namespace Go.Proofs.YtaikdbbakdicgaaDoor
open Go.ChangeShapes Go.WideShapes Go.ChangeAt Go.RowKit
set_option linter.unusedVariables false

theorem u8o (x m : UInt8) : bits .or .u8 (x.toNat : Int) (m.toNat : Int) = ((x ||| m).toNat : Int) := by
  rw [u8_or_nat _ _ x.toNat_lt m.toNat_lt, UInt8.toNat_or]
theorem or_zero (d x y : UInt8) : d ||| (x ^^^ y) = 0 ↔ d = 0 ∧ x = y := by
  rw [← UInt8.toBitVec_inj, ← UInt8.toBitVec_inj, ← UInt8.toBitVec_inj, UInt8.toBitVec_or, UInt8.toBitVec_xor]
  simp
theorem eqB_getD (k l : List UInt8) (h : k.length = l.length) : (k == l) = true ↔ ∀ j, j < k.length → k.getD j 0 = l.getD j 0 := by
  rw [beq_iff_eq]
  refine ⟨fun e j _ => by rw [e], fun e => List.ext_getElem h fun j h1 h2 => ?_⟩
  have := e j h1
  simpa [List.getD_eq_getElem?_getD, List.getElem?_eq_getElem h1, List.getElem?_eq_getElem h2] using this
set_option maxRecDepth 100000 in
set_option maxHeartbeats 1000000 in
theorem mequal_any {B C : Nat} {w : World} {v u : Value} {k l : List UInt8} (hv : Rd B w v k) (hr : Rd C w u l) (hB : B ≤ w.heap.size) (hC : C ≤ w.heap.size) :
    Calls Tryd.prog 54 #[v, u] w fun e w' => e = .returned (.bool (k == l)) ∧ Below w.heap.size w w' := by
  have HV := Lib.hid (hv.mono hB)
  have HR := Lib.hid (hr.mono hC)
  obtain ⟨q, c, rfl, hm, _⟩ := hv.form
  obtain ⟨q2, c2, rfl, _, _⟩ := hr.form
  unfold maxLen at hm
  clear hv hr
  obtain ⟨n, hn⟩ : ∃ n, n = k.length := ⟨_, rfl⟩
  by_cases hl : k.length = l.length
  · have HL := Lib.hid hl
    have HN := Lib.hid hn
    rw [← hl, ← hn]
    rw [← hl, ← hn] at HR
    rw [← hn] at HV hm
    obtain ⟨E, hE⟩ : ∃ E, E = (k == l) := ⟨_, rfl⟩
    rw [← hE]
    have HE : Hid (E = true ↔ ∀ j, j < n → k.getD j 0 = l.getD j 0) := by show _ ↔ _; rw [hE, hn]; exact eqB_getD k l hl
    clear hl hn hE
    go_enter Tryd.func54, Tryd.ntmps54
    go_wp2_with fail
    go_loopw [5, 6, 14] (fun dv _ iv wr => ∃ (i : Nat) (d : UInt8), i ≤ n ∧ iv = .int .i64 i ∧ dv = .int .u8 d.toNat ∧ Hid ((d = 0 ↔ ∀ j, j < i → k.getD j 0 = l.getD j 0) ∧ Below w.heap.size w wr)) (fun _ _ iv _ => n - (intOf iv).toNat)
    case atStart => exact ⟨0, 0, Nat.zero_le _, rfl, rfl, ⟨fun _ j hj => absurd hj (by omega), fun _ => rfl⟩, Below.refl _ _⟩
    case round =>
      obtain ⟨i, d, hi, rfl, rfl, HM⟩ := hrel
      have hi0 : (0 : Int) ≤ i := by omega
      by_cases hlt : i < n
      · have hlt1 : (i : Int) < n := by omega
        obtain ⟨b, off, rfl, hcb⟩ : ∃ b off, q = some ⟨b, off, none⟩ ∧ wr.cell? ⟨b, off + i, none⟩ = some (.int .u8 (k.getD i 0).toNat) := by
          rcases HV.out with ⟨oa, _, h0⟩ | ⟨b, off, cap, hv, _, _, h3, h4⟩
          · have := HN.out; rw [h0] at this; simp at this; omega
          · simp only [Value.slice.injEq] at hv
            refine ⟨b, off, hv.1, ?_⟩
            rw [HM.out.2.cell (p := ⟨b, off + i, none⟩) h3, h4 i (by have := HN.out; omega)]
            rfl
        obtain ⟨b2, off2, rfl, hcb2⟩ : ∃ b off, q2 = some ⟨b, off, none⟩ ∧ wr.cell? ⟨b, off + i, none⟩ = some (.int .u8 (l.getD i 0).toNat) := by
          rcases HR.out with ⟨oa, he, h0⟩ | ⟨b, off, cap, hv, _, _, h3, h4⟩
          · simp only [Value.slice.injEq] at he; omega
          · simp only [Value.slice.injEq] at hv
            refine ⟨b, off, hv.1, ?_⟩
            rw [HM.out.2.cell (p := ⟨b, off + i, none⟩) h3, h4 i (by have h8 := HN.out; have h9 := HL.out; rw [← h9, ← h8]; exact hlt)]
            rfl
        have hsx : Hid ((d ||| (k.getD i 0 ^^^ l.getD i 0) = 0) ↔ ∀ j, j < i + 1 → k.getD j 0 = l.getD j 0) := by
          show _ ↔ _
          rw [or_zero, HM.out.1]
          exact ⟨fun ⟨h1, h2⟩ j hj => by rcases Nat.lt_succ_iff_lt_or_eq.1 hj with h | h; exact h1 j h; rw [h]; exact h2, fun h => ⟨fun j hj => h j (by omega), h i (by omega)⟩⟩
        obtain ⟨x, hx⟩ : ∃ x, x = k.getD i 0 := ⟨_, rfl⟩
        obtain ⟨y, hy⟩ : ∃ y, y = l.getD i 0 := ⟨_, rfl⟩
        rw [← hx] at hcb hsx
        rw [← hy] at hcb2 hsx
        have e1 := u8x x y
        have e2 := u8o d (x ^^^ y)
        obtain ⟨z, hz⟩ : ∃ z, z = x ^^^ y := ⟨_, rfl⟩
        rw [← hz] at e1 e2 hsx
        obtain ⟨d2, hd2⟩ : ∃ d2, d2 = d ||| z := ⟨_, rfl⟩
        rw [← hd2] at e2 hsx
        have HB := Lib.hid (Joins.below_draws w.heap.size wr 1)
        have HB2 := Lib.hid (HM.out.2.trans HB.out)
        clear HM hx hy hz hd2 HB
        go_wp2_with fail
        go_region
        all_goals go_wp2_with fail
        all_goals go_roundw
        case rel => exact ⟨i + 1, d2, by omega, by go_num, rfl, hsx.out, HB2.out⟩
        case measure => simp [intOf]; omega
      · obtain rfl : i = n := by omega
        go_wp2_with fail
        go_ret
        have hz : ((d.toNat : Int) == 0) = E := by
          rw [Bool.eq_iff_iff, HE.out, ← HM.out.1, beq_iff_eq, ← UInt8.toNat_inj]
          simp
        exact ⟨by rw [hz]; rfl, HM.out.2⟩
  · have h1 : ¬ (n : Int) = l.length := by omega
    have hne : (k == l) = false := by
      rw [beq_eq_false_iff_ne]; intro e; exact hl (by rw [e])
    rw [hne, ← hn]
    go_enter Tryd.func54, Tryd.ntmps54
    go_wp2_with fail
    go_ret
    exact ⟨rfl, Below.refl _ _⟩
end Go.Proofs.YtaikdbbakdicgaaDoor
/-
  []byte(s) of a string that is no constant.
-/
namespace Go.Proofs.YtaikdbbakdicgaaDoor
open Go.ChangeShapes Go.WideShapes Go.ChangeAt Go.RowKit
set_option linter.unusedVariables false

theorem str_length (s : ByteArray) : s.data.toList.length = s.size := by rw [Array.length_toList]; rfl
theorem conv_str (w : World) (s : ByteArray) (hs : s.size ≤ maxLen) : ∃ c w', (convert 9 22 (.string s)).run Tryd.prog w = .ok (.slice (some ⟨w.heap.size, 0, none⟩) s.size c) w' ∧ Rd w'.heap.size w' (.slice (some ⟨w.heap.size, 0, none⟩) s.size c) s.data.toList ∧ Below w.heap.size w w' := by
  refine ⟨_, _, Lib.run_convert_string_bytes w 9 22 5 s Tryd.underlying9 Tryd.underlying22 Tryd.underlying5, ?_, ?_⟩
  · refine .inr ⟨w.heap.size, 0, _, by rw [str_length], by rw [str_length]; exact grownCap_ge _ _ _ _, grownCap_le_maxLen _ _ _ _ hs, by rw [Lib.bytesWorld_size]; omega, fun i hi => ?_⟩
    rw [Nat.zero_add, Lib.bytesWorld_cell w _ s i (by rw [← str_length]; exact hi)]
    rfl
  · refine ⟨?_, ?_, ?_, by rw [Lib.bytesWorld_size]; omega, fun k hk => Lib.bytesWorld_at_old w _ s k hk⟩
    all_goals (unfold Lib.bytesWorld World.freeze; split <;> rfl)
theorem rd_two {w : World} {t : TypeId} {v0 v1 : Value} {l0 l1 : List UInt8} (h0 : Rd w.heap.size w v0 l0) (h1 : Rd w.heap.size w v1 l1) :
    RdAll (w.alloc (.cells #[v0, v1] t)).heap.size (w.alloc (.cells #[v0, v1] t)) (some ⟨w.heap.size, 0, none⟩) [l0, l1] := by
  intro _
  have hb : Below w.heap.size w (w.alloc (.cells #[v0, v1] t)) := (Below.refl _ _).alloc (Nat.le_refl _) _
  refine ⟨w.heap.size, 0, rfl, by simp, fun i hi => ?_⟩
  have hi2 : i < 2 := by simpa using hi
  rcases (show i = 0 ∨ i = 1 by omega) with rfl | rfl
  · refine ⟨v0, ?_, (h0.below hb (Nat.le_refl _)).mono hb.size⟩
    rw [cell_of_row _ _ _ #[v0, v1] t (0, 0) (heap_alloc_new w _)]; rfl
  · refine ⟨v1, ?_, (h1.below hb (Nat.le_refl _)).mono hb.size⟩
    rw [cell_of_row _ _ _ #[v0, v1] t (0, 0) (heap_alloc_new w _)]; rfl
end Go.Proofs.YtaikdbbakdicgaaDoor
/-
  mac.Check, mac.Derive, mac.Key.
-/
namespace Go.Proofs.YtaikdbbakdicgaaDoor
open Go.ChangeShapes Go.WideShapes Go.ChangeAt Go.RowKit
set_option linter.unusedVariables false

set_option maxRecDepth 100000 in
set_option maxHeartbeats 1000000 in
theorem mcheck_any {w : World} {v u : Value} {k cd : List UInt8} {oa : Option Addr} {cap : Nat} {ls : List (List UInt8)} (hv : Rd w.heap.size w v k) (hk : k.length ≤ 90000000000000) (hc : Rd w.heap.size w u cd) (hr : RdAll w.heap.size w oa ls) (hn : ls.length ≤ 1000000000000) (ht : total ls ≤ 90000000000000) (he : Env w) :
    Calls Tryd.prog 35 #[v, u, .slice oa ls.length cap] w fun e w' => e = .returned (.bool (decide (16 ≤ cd.length ∧ cd.length ≤ 32) && (hmac k ls.flatten).take cd.length == cd)) ∧ Below w.heap.size w w' := by
  obtain ⟨q, c, rfl, _, _⟩ := hv.form
  obtain ⟨q2, c2, rfl, _, _⟩ := hc.form
  obtain ⟨n, hN⟩ : ∃ n, n = cd.length := ⟨_, rfl⟩
  have HN := Lib.hid hN
  have HV := Lib.hid hv
  have HC := Lib.hid hc
  have HR := Lib.hid hr
  have HE := Lib.hid he
  have HKL := Lib.hid hk
  have HLN := Lib.hid hn
  have HT := Lib.hid ht
  rw [← hN] at HC ⊢
  clear hv hc hr he hk hn ht hN
  by_cases h1 : n < 16
  · have h1' : (n : Int) < 16 := by omega
    rw [show decide (16 ≤ n ∧ n ≤ 32) = false by rw [decide_eq_false_iff_not]; omega, Bool.false_and]
    go_enter Tryd.func35, Tryd.ntmps35
    go_wp2_with fail
    go_ret
    exact ⟨rfl, Below.refl _ _⟩
  · by_cases h2 : 32 < n
    · have h1' : ¬ (n : Int) < 16 := by omega
      have h2' : (32 : Int) < n := by omega
      rw [show decide (16 ≤ n ∧ n ≤ 32) = false by rw [decide_eq_false_iff_not]; omega, Bool.false_and]
      go_enter Tryd.func35, Tryd.ntmps35
      go_wp2_with fail
      go_ret
      exact ⟨rfl, Below.refl _ _⟩
    · have h1' : ¬ (n : Int) < 16 := by omega
      have h2' : ¬ (32 : Int) < n := by omega
      rw [show decide (16 ≤ n ∧ n ≤ 32) = true by rw [decide_eq_true_eq]; omega, Bool.true_and]
      have h3 : (0 : Int) ≤ n := by omega
      have h4 : (n : Int) ≤ 32 := by omega
      go_enter Tryd.func35, Tryd.ntmps35
      go_wp2_with fail
      refine (msum_any HV.out HKL.out HR.out HLN.out HT.out HE.out).mono ?_
      rintro e w1 ⟨rfl, b1⟩
      have HC1 := Lib.hid (HC.out.below b1 (Nat.le_refl _))
      have HB1 := Lib.hid b1
      obtain ⟨D, hD⟩ : ∃ D, D = hmac k ls.flatten := ⟨_, rfl⟩
      rw [← hD]
      have HDL : Hid (D.length = 32) := by rw [hD]; exact hmac_length _ _
      have HDE := Lib.hid hD
      clear b1 hD HV HC HR HE HKL HLN HT
      have hb2 : Below w1.heap.size w1 (w1.alloc (.cells (bvs D).toArray 24)) := (Below.refl _ _).alloc (Nat.le_refl _) _
      have HB2 := Lib.hid (HB1.out.trans (hb2.mono HB1.out.size))
      have HC2 := Lib.hid (HC1.out.below hb2 HB1.out.size)
      have HD2 : Hid (Rd (w1.alloc (.cells (bvs D).toArray 24)).heap.size (w1.alloc (.cells (bvs D).toArray 24)) (.slice (some ⟨w1.heap.size, 0, none⟩) n 32) (D.take n)) := by
        have hA := Arr.new' w1 24 (bvs D).toArray (bvs D) (by simp)
        have hl : (D.take n).length = n := by rw [List.length_take, HDL.out]; omega
        refine .inr ⟨w1.heap.size, 0, 32, by rw [hl], by rw [hl]; omega, by unfold maxLen; omega, hA.lt, fun i hi => ?_⟩
        rw [hl] at hi
        rw [Nat.zero_add, hA.cell i, bvs_getElem D i (by rw [HDL.out]; omega)]
        congr 2
        simp [List.getD_eq_getElem?_getD, hi]
      clear hb2 HB1 HC1
      go_wp2_with ((with_reducible refine at32b w1.heap.size (x := .tmp 7) (y := .tmp 18) (l := D) (o := ⟨none, .store _ _ _, _, _, _, _⟩) HDL.out ?_ ?_); exact ⟨rfl, rfl, rfl, rfl, rfl, rfl⟩)
      refine (mequal_any HD2.out HC2.out (Nat.le_refl _) HB2.out.size).mono ?_
      rintro e w3 ⟨rfl, b3⟩
      have HB3 := Lib.hid (HB2.out.trans (b3.mono HB2.out.size))
      obtain ⟨E, hE⟩ : ∃ E, E = (D.take n == cd) := ⟨_, rfl⟩
      rw [← hE]
      have HEE : Hid (E = ((hmac k ls.flatten).take n == cd)) := by show _ = _; rw [hE, HDE.out]
      clear b3 HB2 HC2 HD2 hE
      go_wp2_with fail
      go_ret
      exact ⟨by rw [← HEE.out]; rfl, HB3.out⟩
/-- The first c blocks of a derived string. -/
def derN (k lab : List UInt8) (c : Nat) : List UInt8 := ((List.range c).map fun j => hmac k (UInt8.ofNat (j + 1) :: lab)).flatten
theorem derN_succ (k lab : List UInt8) (c : Nat) : derN k lab (c + 1) = derN k lab c ++ hmac k (UInt8.ofNat (c + 1) :: lab) := by
  simp [derN, List.range_succ]
theorem derN_length (k lab : List UInt8) (c : Nat) : (derN k lab c).length = 32 * c := by
  induction c with
  | zero => rfl
  | succ c ih => rw [derN_succ, List.length_append, ih, hmac_length]; omega
def derive (k lab : List UInt8) (n : Nat) : List UInt8 := (derN k lab ((n + 31) / 32)).take n
theorem derive_length (k lab : List UInt8) (n : Nat) : (derive k lab n).length = n := by
  rw [derive, List.length_take, derN_length]; omega
theorem derN_take (k lab : List UInt8) (a b n : Nat) (h : n ≤ 32 * a) (hab : a ≤ b) : (derN k lab b).take n = (derN k lab a).take n := by
  induction b with
  | zero => rw [show a = 0 by omega]
  | succ b ih =>
    by_cases e : a = b + 1
    · rw [e]
    · rw [derN_succ, List.take_append_of_le_length (by rw [derN_length]; omega)]
      exact ih (by omega)
theorem Held.take {base : Nat} {w : World} {a : Option Addr} {n cap k : Nat} {l : List UInt8} (h : Held base w (.slice a n cap) l) (hk : k ≤ l.length) : Held base w (.slice a k cap) (l.take k) := by
  have hl : (l.take k).length = k := by rw [List.length_take]; omega
  rcases h with ⟨hv, h0⟩ | ⟨g, off, cap', hv, h1, h2, h3, h4, h5, h6⟩
  · simp only [Value.slice.injEq] at hv
    obtain ⟨rfl, rfl, rfl⟩ := hv
    subst h0
    obtain rfl : k = 0 := by simpa using hk
    exact .inl ⟨rfl, rfl⟩
  · simp only [Value.slice.injEq] at hv
    obtain ⟨rfl, rfl, rfl⟩ := hv
    refine .inr ⟨g, off, cap, by rw [hl], by omega, h2, h3, h4, fun i hi => ?_, h6⟩
    rw [hl] at hi
    rw [h5 i (by omega)]
    simp [List.getD_eq_getElem?_getD, hi]
section
variable {ops : Array Oper} {rest : List Oper} {o : Oper} {a : Act} {Q : Exit → Act → World → Prop} {w : World} {t : TypeId} {g : Nat} {x y : Operand}
end
end Go.Proofs.YtaikdbbakdicgaaDoor
/-
  vestrylaw04.awake returns true: the fixed examples hold; it changes nothing that was there.
-/
namespace Go.Proofs.YtaikdbbakdicgaaDoor
open Go.ChangeShapes Go.WideShapes Go.ChangeAt Go.RowKit
set_option linter.unusedVariables false

theorem decode_at (s : ByteArray) (hs : s.size ≤ 30000000000000) (w : World) {b : List UInt8} {n : Int} (hd : dec s.data.toList = (b, n)) :
    Calls Tryd.prog 34 #[.string s] w fun e w' => ∃ v, e = .returned (.tuple #[v, .int .i64 n]) ∧ Rd w'.heap.size w' v b ∧ Below w.heap.size w w' := by
  refine (decode_any s hs w).mono fun e w' ⟨v, h1, h2, h3⟩ => ?_
  rw [hd] at h1 h2
  exact ⟨v, h1, h2, h3⟩

theorem dec1 : dec [95, 45, 65] = ([255, 224], -1) := by decide +kernel
theorem dec2 : dec [95, 45, 66] = ([], 2) := by decide +kernel
theorem dec3 : dec [65, 61, 65] = ([], 1) := by decide +kernel
theorem enc1 : enc [255, 224] = [95, 45, 65] := by decide +kernel

end Go.Proofs.YtaikdbbakdicgaaDoor
