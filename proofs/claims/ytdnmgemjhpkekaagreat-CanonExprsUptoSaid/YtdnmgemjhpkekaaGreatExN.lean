/-
  expr.yieldLeaves and the iterator that leaves makes: what it yields.
-/
import Derived.Test.YtdnmgemjhpkekaaGreatExK
import Derived.Test.YtdnmgemjhpkekaaGreatExI
import Derived.Test.YtdnmgemjhpkekaaGreatTurnG
import Derived.RangeFuncNested
import Derived.RangeFuncBound
import Derived.RangeFuncCalls
import Derived.RangeFuncLeaves
import Derived.Shelf.Abstract
import Derived.Shelf.RegionOpen
import Derived.WalkKit
import Derived.WalkMore
import Derived.OwnWalkIn
import Derived.TacticsInMore
import Derived.LoopNIn
import Derived.LoopIn
import Derived.Deep.Cut
namespace Go.Proofs.YtdnmgemjhpkekaaGreat
open Go.ChangeShapes Go.WideShapes Go.ChangeAt Go.RowKit
set_option linter.unusedVariables false
attribute [local go_sem] Oper.semAt_some

/-- What is handed out: a leaf, and the value that reads as it. -/
abbrev OutE := Ex × Value
def outE (x : OutE) : Array Value := #[x.2]
def fsts (l : List OutE) : List Ex := l.map Prod.fst
theorem fsts_app (a b : List OutE) : fsts (a ++ b) = fsts a ++ fsts b := List.map_append
theorem fsts_len (a : List OutE) : (fsts a).length = a.length := List.length_map _
def GoodE (P : Nat → Prop) (LV : List Ex) (pre : List OutE) (x : OutE) (W : World) : Prop := RdE P W x.1 x.2 ∧ (fsts pre ++ [x.1]) <+: LV
def YlPost (n₀ : Nat) (J Jx : List OutE → World → Prop) (ls : List Ex) (pre : List OutE) (w : World) (r : Ending) (w' : World) : Prop :=
  (r = .returned (.bool true) ∧ ∃ out, fsts out = ls ∧ J (pre ++ out) w' ∧ Below n₀ w w') ∨ (r = .returned (.bool false) ∧ ∃ out, fsts out <+: ls ∧ Jx (pre ++ out) w')
theorem prefix_app {a b c L : List Ex} (h : a ++ (b ++ c) <+: L) : a ++ b <+: L := by
  rw [← List.append_assoc] at h
  exact (List.prefix_append _ _).trans h
theorem leavesL_take : ∀ (ks : List Ex) (i : Nat), i < ks.length → leavesL (ks.take i) ++ leavesE (ks.getD i ex0) <+: leavesL ks
  | [], i, h => by simp at h
  | e :: r, 0, _ => by simp only [List.take_zero, leavesL, List.getD_cons_zero, List.nil_append]; exact List.prefix_append _ _
  | e :: r, i + 1, h => by
    have := leavesL_take r i (by simpa using h)
    simp only [List.take_succ_cons, leavesL, List.getD_cons_succ, List.append_assoc]
    exact (List.prefix_append_right_inj _).2 this
theorem prefix_mono {a b c L : List Ex} (h : a ++ b <+: L) (hc : c <+: b) : a ++ c <+: L := ((List.prefix_append_right_inj a).2 hc).trans h
theorem leaves_leaf {k : Int} {v n : List UInt8} {ks : List Ex} (h : leafK k = true) : leavesE (.mk k v n ks) = [.mk k v n ks] := by unfold leavesE; rw [if_pos h]
theorem leaves_kids {k : Int} {v n : List UInt8} {ks : List Ex} (h : ¬ leafK k = true) : leavesE (.mk k v n ks) = leavesL ks := by unfold leavesE; rw [if_neg h]
theorem drew_size (w : World) : w.drew.heap.size = w.heap.size := rfl

theorem turns_good (P : Nat → Prop) (LV : List Ex) (B : Nat) (hP : ∀ b, P b → b < B) (pre : List OutE) (x : OutE) : Turns B (GoodE P LV pre x) := fun W l o o' hl h ho hx =>
  ⟨hx.1.keep fun b hb n => World.cell?_of_block (World.putObj_heap_other (by have := hP b hb; show b ≠ l; omega)), hx.2⟩
end Go.Proofs.YtdnmgemjhpkekaaGreat
