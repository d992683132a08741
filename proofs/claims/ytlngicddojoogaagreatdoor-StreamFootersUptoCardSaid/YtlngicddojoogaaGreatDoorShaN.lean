/-
  A whole array stored into the block that was made last, its number said.
-/
import Derived.Test.YtlngicddojoogaaGreatDoorShaL
namespace Go.Proofs.YtlngicddojoogaaGreatDoor
open Go.ChangeShapes Go.WideShapes Go.ChangeAt Go.RowKit
set_option linter.unusedVariables false
section
variable {ops : Array Oper} {rest : List Oper} {o : Oper} {a : Act} {Q : Exit → Act → World → Prop} {w : World} {t : TypeId} {x y : Operand}
theorem at8w (g : Nat) {l : List UInt32} {cs : Array Value} (hl : l.length = 8) (hs : o.guard = none ∧ o.op = .store 97 x y ∧ a.eval x = .pointer (some ⟨g, 0, none⟩) ∧ a.eval y = .agg (wvs l).toArray ∧ cs.toList.length = 8 ∧ g = w.heap.size)
    (hk : wpList Tryz.prog ops Q rest (a.put o.dst undef) (w.alloc (.cells (wvs l).toArray t))) : wpList Tryz.prog ops Q (o :: rest) a (w.alloc (.cells cs t)) := by
  obtain ⟨h1, h2, h3, h4, h5, h6⟩ := hs
  subst h6
  exact new8w hl ⟨h1, h2, h3, h4, h5⟩ hk
theorem at64w (g : Nat) {l : List UInt32} {cs : Array Value} (hl : l.length = 64) (hs : o.guard = none ∧ o.op = .store 103 x y ∧ a.eval x = .pointer (some ⟨g, 0, none⟩) ∧ a.eval y = .agg (wvs l).toArray ∧ cs.toList.length = 64 ∧ g = w.heap.size)
    (hk : wpList Tryz.prog ops Q rest (a.put o.dst undef) (w.alloc (.cells (wvs l).toArray t))) : wpList Tryz.prog ops Q (o :: rest) a (w.alloc (.cells cs t)) := by
  obtain ⟨h1, h2, h3, h4, h5, h6⟩ := hs
  subst h6
  exact new64w hl ⟨h1, h2, h3, h4, h5⟩ hk
theorem at32b (g : Nat) {l : List UInt8} {cs : Array Value} (hl : l.length = 32) (hs : o.guard = none ∧ o.op = .store 23 x y ∧ a.eval x = .pointer (some ⟨g, 0, none⟩) ∧ a.eval y = .agg (bvs l).toArray ∧ cs.toList.length = 32 ∧ g = w.heap.size)
    (hk : wpList Tryz.prog ops Q rest (a.put o.dst undef) (w.alloc (.cells (bvs l).toArray t))) : wpList Tryz.prog ops Q (o :: rest) a (w.alloc (.cells cs t)) := by
  obtain ⟨h1, h2, h3, h4, h5, h6⟩ := hs
  subst h6
  exact new32b hl ⟨h1, h2, h3, h4, h5⟩ hk
end
end Go.Proofs.YtlngicddojoogaaGreatDoor
