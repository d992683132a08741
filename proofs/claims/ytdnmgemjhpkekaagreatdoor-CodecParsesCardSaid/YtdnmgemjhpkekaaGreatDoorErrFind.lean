/-
  fault.Code and fault.At on nil and on an error of type api.Fault.
-/
import Derived.Test.YtdnmgemjhpkekaaGreatDoorErrWalk
import Derived.Tactics
import Derived.Tactics2
import Derived.Defers
import Derived.Recover
import Derived.Laws.Pointers
import Derived.Laws.Rows
namespace Go.Proofs.YtdnmgemjhpkekaaGreatDoor.errAs
open Go.RowKit Go.Extern.Stop Go.Stop Go.Extern

theorem cell_g {W w1 : World} {row : Option Nat} (h : W.grownBy w1 row) {p : Addr} (hp : p.block < W.heap.size) (hne : some p.block ≠ row) : w1.cell? p = W.cell? p := World.cell?_of_block (h.block p.block hp hne)
theorem frozen_g {W w1 : World} {row : Option Nat} (h : W.grownBy w1 row) {p : Addr} (hp : p.block < W.heap.size) (hne : some p.block ≠ row) : w1.frozen? p = W.frozen? p := World.frozen?_of_block (h.block p.block hp hne)

theorem idle_C (p q : Value) (w : World) :
    CallsD Tryz.prog 78 #[p, q] .returning w fun e u' w' => e = .returned (.tuple #[]) ∧ u' = .returning ∧ w' = w := by
  refine callsD_of_wpS Tryz.func78 rfl fun c₀ cs hu => ?_
  apply wpS_seq
  apply wpS_region
  simp [wpOpsS, go_sem, recoverD, hu, Tryz.ntmps78, Exit.thenS]
  refine wpS_cond (t := false) (by simp [Act.eval, Array.replicate]) ?_
  simp only [Bool.false_eq_true, if_false]
  refine wpS_of_wp (wp_skip ?_)
  cases c₀
  simp_all [bodyPostS, results, Tryz.results78]
theorem idle_F (p q : Value) (w : World) :
    CallsD Tryz.prog 80 #[p, q] .returning w fun e u' w' => e = .returned (.tuple #[]) ∧ u' = .returning ∧ w' = w := by
  refine callsD_of_wpS Tryz.func80 rfl fun c₀ cs hu => ?_
  apply wpS_seq
  apply wpS_region
  simp [wpOpsS, go_sem, recoverD, hu, Tryz.ntmps80, Exit.thenS]
  refine wpS_cond (t := false) (by simp [Act.eval, Array.replicate]) ?_
  simp only [Bool.false_eq_true, if_false]
  refine wpS_of_wp (wp_skip ?_)
  cases c₀
  simp_all [bodyPostS, results, Tryz.results80]

/-- Three blocks that a call has just made. -/
def Three (w : World) (c0 c1 c2 : Array Value) (t0 t1 t2 : TypeId) (W : World) : Prop :=
  W.heap[w.heap.size]? = some (.cells c0 t0 (0, 0)) ∧ W.heap[w.heap.size + 1]? = some (.cells c1 t1 (0, 0)) ∧ W.heap[w.heap.size + 1 + 1]? = some (.cells c2 t2 (0, 0)) ∧ W.heap.size = w.heap.size + 3 ∧ Below w.heap.size w W
theorem three (w : World) (c0 c1 c2 : Array Value) (t0 t1 t2 : TypeId) : Three w c0 c1 c2 t0 t1 t2 (((w.alloc (.cells c0 t0)).alloc (.cells c1 t1)).alloc (.cells c2 t2)) := by
  have e1 : w.heap.size + 1 = (w.alloc (.cells c0 t0)).heap.size := by simp
  have e2 : w.heap.size + 1 + 1 = ((w.alloc (.cells c0 t0)).alloc (.cells c1 t1)).heap.size := by simp
  refine ⟨?_, ?_, ?_, by simp, (((Below.refl w.heap.size w).alloc (Nat.le_refl _) _).alloc (by simp) _).alloc (by simp; omega) _⟩
  · exact (Below.heap_alloc _ _ _ (by simp; omega)).trans ((Below.heap_alloc _ _ _ (by simp)).trans (heap_alloc_new w _))
  · rw [e1]
    exact (Below.heap_alloc _ _ _ (by simp)).trans (heap_alloc_new _ _)
  · rw [e2]
    exact heap_alloc_new _ _

set_option maxRecDepth 100000 in
set_option maxHeartbeats 4000000 in
theorem find_C (c n : Int) (w : World) (hg : ErrT w) :
    Calls Tryz.prog 55 #[.iface 105 (.agg #[.int .i64 c, .int .i64 n])] w fun e w' => e = .returned (.tuple #[.int .i64 c, .bool true]) ∧ Below w.heap.size w w' := by
  have hmf : ∀ (fn : Fn) (first cap : Array Value) (w : World), (Instr.makeFunc fn first cap).run Tryz.prog w = .ok (.func fn first cap) w := fun _ _ _ _ => rfl
  obtain ⟨W3, hW3⟩ : ∃ W3, W3 = (((w.alloc (.cells #[.int .i64 0] 73)).alloc (.cells #[.bool false] 4)).alloc (.cells #[.int .i64 0] 73)) := ⟨_, rfl⟩
  have hE : ErrT W3 := by rw [hW3]; exact ((hg.alloc _).alloc _).alloc _
  obtain ⟨h0, h1, h2, z3, B3⟩ := three w #[.int .i64 0] #[.bool false] #[.int .i64 0] 73 4 73
  rw [← hW3] at h0 h1 h2 z3 B3
  have hS : SlotC W3 (w.heap.size + 1 + 1) := ⟨.int .i64 0, cell_of_row _ _ 0 _ _ _ h2, frozen_of_row _ _ 0 _ _ h2⟩
  have k0 : W3.cell? ⟨w.heap.size, 0, none⟩ = some (.int .i64 0) := cell_of_row _ _ 0 _ _ _ h0
  have k1 : W3.cell? ⟨w.heap.size + 1, 0, none⟩ = some (.bool false) := cell_of_row _ _ 0 _ _ _ h1
  have f0 : W3.frozen? ⟨w.heap.size, 0, none⟩ = false := frozen_of_row _ _ 0 _ _ h0
  have f1 : W3.frozen? ⟨w.heap.size + 1, 0, none⟩ = false := frozen_of_row _ _ 0 _ _ h1
  have HW := Lib.hid hW3
  have K := Lib.hid (And.intro hE (And.intro hS (And.intro k0 (And.intro k1 (And.intro f0 (And.intro f1 (And.intro z3 B3)))))))
  clear hE hS k0 k1 f0 f1 z3 B3 h0 h1 h2 hW3
  go_enter_defers Tryz.func55, Tryz.ntmps55
  go_wp2_with fail
  rw [← HW.out]
  obtain ⟨hE, hS, k0, k1, f0, f1, z3, B3⟩ := K.out
  refine (As_F_C c n _ _ hE hS).mono ?_
  rintro e w1 ⟨rfl, g1, t1⟩
  have k0' : w1.cell? ⟨w.heap.size, 0, none⟩ = some (.int .i64 0) := (cell_g g1 (by show w.heap.size < _; omega) (fun e => by injection e with e; have e : w.heap.size = w.heap.size + 1 + 1 := e; omega)).trans k0
  have k1' : w1.cell? ⟨w.heap.size + 1, 0, none⟩ = some (.bool false) := (cell_g g1 (by show w.heap.size + 1 < _; omega) (fun e => by injection e with e; have e : w.heap.size + 1 = w.heap.size + 1 + 1 := e; omega)).trans k1
  have f0' : w1.frozen? ⟨w.heap.size, 0, none⟩ = false := (frozen_g g1 (by show w.heap.size < _; omega) (fun e => by injection e with e; have e : w.heap.size = w.heap.size + 1 + 1 := e; omega)).trans f0
  have f1' : w1.frozen? ⟨w.heap.size + 1, 0, none⟩ = false := (frozen_g g1 (by show w.heap.size + 1 < _; omega) (fun e => by injection e with e; have e : w.heap.size + 1 = w.heap.size + 1 + 1 := e; omega)).trans f1
  have B1 : Below w.heap.size w w1 := B3.grown g1 B3.size (fun k hk => by injection hk with hk; omega)
  clear g1 hE hS k0 k1 f0 f1 z3 B3 K HW hg
  go_wp2_with fail
  refine leaves_cons (f := 78) (args := #[.pointer (some ⟨w.heap.size, 0, none⟩), .pointer (some ⟨w.heap.size + 1, 0, none⟩)]) (by simp) (by simp [go_sem]) ?_
  refine (idle_C _ _ _).mono ?_
  rintro e u' w'' ⟨rfl, rfl, rfl⟩
  have k1'' : (w1.setCell ⟨w.heap.size, 0, none⟩ (.int .i64 c)).cell? ⟨w.heap.size + 1, 0, none⟩ = some (.bool false) := by
    rw [World.cell?_setCell_other _ ⟨w.heap.size, 0, none⟩ ⟨w.heap.size + 1, 0, none⟩ _ (fun e => by injection e with e _ _; omega)]; exact k1'
  have q1 := World.cell?_setCell_same (w1.setCell ⟨w.heap.size, 0, none⟩ (.int .i64 c)) ⟨w.heap.size + 1, 0, none⟩ (.bool true) k1''
  have q0 : ((w1.setCell ⟨w.heap.size, 0, none⟩ (.int .i64 c)).setCell ⟨w.heap.size + 1, 0, none⟩ (.bool true)).cell? ⟨w.heap.size, 0, none⟩ = some (.int .i64 c) := by
    rw [World.cell?_setCell_other _ ⟨w.heap.size + 1, 0, none⟩ ⟨w.heap.size, 0, none⟩ _ (fun e => by injection e with e _ _; omega)]
    exact World.cell?_setCell_same _ _ _ k0'
  have B2 : Below w.heap.size w ((w1.setCell ⟨w.heap.size, 0, none⟩ (.int .i64 c)).setCell ⟨w.heap.size + 1, 0, none⟩ (.bool true)) := (B1.setCell (by exact Nat.le_refl _) _).setCell (by show w.heap.size ≤ w.heap.size + 1; omega) _
  generalize ((w1.setCell ⟨w.heap.size, 0, none⟩ (.int .i64 c)).setCell ⟨w.heap.size + 1, 0, none⟩ (.bool true)) = W at *
  refine ⟨.tuple #[.int .i64 c, .bool true], ?_, rfl, B2⟩
  simp [results, Tryz.results55, go_sem, q0, q1]
set_option maxRecDepth 100000 in
set_option maxHeartbeats 4000000 in
theorem find_F (c n : Int) (w : World) (hg : ErrT w) :
    Calls Tryz.prog 56 #[.iface 105 (.agg #[.int .i64 c, .int .i64 n])] w fun e w' => e = .returned (.tuple #[.agg #[.int .i64 c, .int .i64 n], .bool true]) ∧ Below w.heap.size w w' := by
  have hmf : ∀ (fn : Fn) (first cap : Array Value) (w : World), (Instr.makeFunc fn first cap).run Tryz.prog w = .ok (.func fn first cap) w := fun _ _ _ _ => rfl
  obtain ⟨W3, hW3⟩ : ∃ W3, W3 = (((w.alloc (.cells #[.int .i64 0, .int .i64 0] 105)).alloc (.cells #[.bool false] 4)).alloc (.cells #[.int .i64 0, .int .i64 0] 105)) := ⟨_, rfl⟩
  have hE : ErrT W3 := by rw [hW3]; exact ((hg.alloc _).alloc _).alloc _
  obtain ⟨h0, h1, h2, z3, B3⟩ := three w #[.int .i64 0, .int .i64 0] #[.bool false] #[.int .i64 0, .int .i64 0] 105 4 105
  rw [← hW3] at h0 h1 h2 z3 B3
  have hS : SlotF W3 (w.heap.size + 1 + 1) := ⟨.int .i64 0, .int .i64 0, cell_of_row _ _ 0 _ _ _ h2, cell_of_row _ _ 1 _ _ _ h2, frozen_of_row _ _ 0 _ _ h2, frozen_of_row _ _ 1 _ _ h2⟩
  have k0 : W3.cell? ⟨w.heap.size, 0, none⟩ = some (.int .i64 0) := cell_of_row _ _ 0 _ _ _ h0
  have k1 : W3.cell? ⟨w.heap.size + 1, 0, none⟩ = some (.bool false) := cell_of_row _ _ 0 _ _ _ h1
  have f0 : W3.frozen? ⟨w.heap.size, 0, none⟩ = false := frozen_of_row _ _ 0 _ _ h0
  have f1 : W3.frozen? ⟨w.heap.size + 1, 0, none⟩ = false := frozen_of_row _ _ 0 _ _ h1
  have k01 : W3.cell? ⟨w.heap.size, 1, none⟩ = some (.int .i64 0) := cell_of_row _ _ 1 _ _ _ h0
  have f01 : W3.frozen? ⟨w.heap.size, 1, none⟩ = false := frozen_of_row _ _ 1 _ _ h0
  have HW := Lib.hid hW3
  have K01 := Lib.hid (And.intro k01 f01)
  clear k01 f01
  have K := Lib.hid (And.intro hE (And.intro hS (And.intro k0 (And.intro k1 (And.intro f0 (And.intro f1 (And.intro z3 B3)))))))
  clear hE hS k0 k1 f0 f1 z3 B3 h0 h1 h2 hW3
  go_enter_defers Tryz.func56, Tryz.ntmps56
  go_wp2_with fail
  rw [← HW.out]
  obtain ⟨hE, hS, k0, k1, f0, f1, z3, B3⟩ := K.out
  refine (As_F_F c n _ _ hE hS).mono ?_
  rintro e w1 ⟨rfl, g1, t1, t2⟩
  have k01' : w1.cell? ⟨w.heap.size, 1, none⟩ = some (.int .i64 0) := (cell_g g1 (by show w.heap.size < _; omega) (fun e => by injection e with e; have e : w.heap.size = w.heap.size + 1 + 1 := e; omega)).trans K01.out.1
  have f01' : w1.frozen? ⟨w.heap.size, 1, none⟩ = false := (frozen_g g1 (by show w.heap.size < _; omega) (fun e => by injection e with e; have e : w.heap.size = w.heap.size + 1 + 1 := e; omega)).trans K01.out.2
  have k0' : w1.cell? ⟨w.heap.size, 0, none⟩ = some (.int .i64 0) := (cell_g g1 (by show w.heap.size < _; omega) (fun e => by injection e with e; have e : w.heap.size = w.heap.size + 1 + 1 := e; omega)).trans k0
  have k1' : w1.cell? ⟨w.heap.size + 1, 0, none⟩ = some (.bool false) := (cell_g g1 (by show w.heap.size + 1 < _; omega) (fun e => by injection e with e; have e : w.heap.size + 1 = w.heap.size + 1 + 1 := e; omega)).trans k1
  have f0' : w1.frozen? ⟨w.heap.size, 0, none⟩ = false := (frozen_g g1 (by show w.heap.size < _; omega) (fun e => by injection e with e; have e : w.heap.size = w.heap.size + 1 + 1 := e; omega)).trans f0
  have f1' : w1.frozen? ⟨w.heap.size + 1, 0, none⟩ = false := (frozen_g g1 (by show w.heap.size + 1 < _; omega) (fun e => by injection e with e; have e : w.heap.size + 1 = w.heap.size + 1 + 1 := e; omega)).trans f1
  have B1 : Below w.heap.size w w1 := B3.grown g1 B3.size (fun k hk => by injection hk with hk; omega)
  clear g1 hE hS k0 k1 f0 f1 z3 B3 K HW hg
  go_wp2_with fail
  refine leaves_cons (f := 80) (args := #[.pointer (some ⟨w.heap.size, 0, none⟩), .pointer (some ⟨w.heap.size + 1, 0, none⟩)]) (by simp) (by simp [go_sem]) ?_
  refine (idle_F _ _ _).mono ?_
  rintro e u' w'' ⟨rfl, rfl, rfl⟩
  have q0 : (((w1.setCell ⟨w.heap.size, 0, none⟩ (.int .i64 c)).setCell ⟨w.heap.size, 1, none⟩ (.int .i64 n)).setCell ⟨w.heap.size + 1, 0, none⟩ (.bool true)).cell? ⟨w.heap.size, 0, none⟩ = some (.int .i64 c) := by
    rw [World.cell?_setCell_other _ ⟨w.heap.size + 1, 0, none⟩ ⟨w.heap.size, 0, none⟩ _ (fun e => by injection e with e _ _; omega), World.cell?_setCell_other _ ⟨w.heap.size, 1, none⟩ ⟨w.heap.size, 0, none⟩ _ (fun e => by injection e with _ e _; omega)]
    exact World.cell?_setCell_same _ _ _ k0'
  have q01 : (((w1.setCell ⟨w.heap.size, 0, none⟩ (.int .i64 c)).setCell ⟨w.heap.size, 1, none⟩ (.int .i64 n)).setCell ⟨w.heap.size + 1, 0, none⟩ (.bool true)).cell? ⟨w.heap.size, 1, none⟩ = some (.int .i64 n) := by
    rw [World.cell?_setCell_other _ ⟨w.heap.size + 1, 0, none⟩ ⟨w.heap.size, 1, none⟩ _ (fun e => by injection e with e _ _; omega)]
    exact World.cell?_setCell_same _ _ _ ((World.cell?_setCell_other _ ⟨w.heap.size, 0, none⟩ ⟨w.heap.size, 1, none⟩ _ (fun e => by injection e with _ e _; omega)).trans k01')
  have q1 : (((w1.setCell ⟨w.heap.size, 0, none⟩ (.int .i64 c)).setCell ⟨w.heap.size, 1, none⟩ (.int .i64 n)).setCell ⟨w.heap.size + 1, 0, none⟩ (.bool true)).cell? ⟨w.heap.size + 1, 0, none⟩ = some (.bool true) := by
    refine World.cell?_setCell_same _ _ _ ?_ (u := .bool false)
    rw [World.cell?_setCell_other _ ⟨w.heap.size, 1, none⟩ ⟨w.heap.size + 1, 0, none⟩ _ (fun e => by injection e with e _ _; omega), World.cell?_setCell_other _ ⟨w.heap.size, 0, none⟩ ⟨w.heap.size + 1, 0, none⟩ _ (fun e => by injection e with e _ _; omega)]
    exact k1'
  have B2 : Below w.heap.size w (((w1.setCell ⟨w.heap.size, 0, none⟩ (.int .i64 c)).setCell ⟨w.heap.size, 1, none⟩ (.int .i64 n)).setCell ⟨w.heap.size + 1, 0, none⟩ (.bool true)) := ((B1.setCell (by exact Nat.le_refl _) _).setCell (by exact Nat.le_refl _) _).setCell (by show w.heap.size ≤ w.heap.size + 1; omega) _
  generalize (((w1.setCell ⟨w.heap.size, 0, none⟩ (.int .i64 c)).setCell ⟨w.heap.size, 1, none⟩ (.int .i64 n)).setCell ⟨w.heap.size + 1, 0, none⟩ (.bool true)) = W at *
  refine ⟨.tuple #[.agg #[.int .i64 c, .int .i64 n], .bool true], ?_, rfl, B2⟩
  simp [results, Tryz.results56, go_sem]
  simp only [q0, q01, q1, Result.andThen]

set_option maxRecDepth 100000 in
theorem code_F (c n : Int) (w : World) (hg : ErrT w) :
    Calls Tryz.prog 29 #[.iface 105 (.agg #[.int .i64 c, .int .i64 n])] w fun e w' => e = .returned (.tuple #[.int .i64 c, .bool true]) ∧ Below w.heap.size w w' := by
  have H := Lib.hid (find_C c n w hg)
  clear hg
  go_enter Tryz.func29, Tryz.ntmps29
  go_wp2_with fail
  refine H.out.mono ?_
  rintro e w1 ⟨rfl, B1⟩
  go_wp2_with fail
  go_ret2
  exact ⟨rfl, B1⟩

set_option maxRecDepth 100000 in
theorem at_F (c n : Int) (w : World) (hg : ErrT w) :
    Calls Tryz.prog 30 #[.iface 105 (.agg #[.int .i64 c, .int .i64 n])] w fun e w' => e = .returned (.tuple #[.int .i64 n, .bool true]) ∧ Below w.heap.size w w' := by
  have H := Lib.hid (find_F c n w hg)
  clear hg
  go_enter Tryz.func30, Tryz.ntmps30
  go_wp2_with fail
  refine H.out.mono ?_
  rintro e w1 ⟨rfl, B1⟩
  go_wp2_with fail
  go_ret2
  exact ⟨rfl, B1.alloc B1.size _⟩
end Go.Proofs.YtdnmgemjhpkekaaGreatDoor.errAs
