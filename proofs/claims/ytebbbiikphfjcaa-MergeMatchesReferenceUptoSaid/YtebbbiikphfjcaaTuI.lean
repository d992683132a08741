/-
  Worlds that have grown.
-/
import Derived.Test.YtebbbiikphfjcaaTuB
namespace Go.Proofs.Ytebbbiikphfjcaa
open Go.ChangeShapes Go.WideShapes Go.ChangeAt Go.RowKit
set_option linter.unusedVariables false

theorem grown_trans {w w1 w2 : World} {r : Option Nat} (h1 : w.grownBy w1 r) (h2 : w1.grownBy w2 r) : w.grownBy w2 r :=
  ⟨h2.os.trans h1.os, h2.tape.trans h1.tape, h2.output.trans h1.output, Nat.le_trans h1.size h2.size, fun k hk hne => (h2.block k (Nat.lt_of_lt_of_le hk h1.size) hne).trans (h1.block k hk hne)⟩
theorem grown_of {w w' : World} (h : Below w.heap.size w w') (r : Option Nat) : w.grownBy w' r := ⟨h.os, h.tape, h.output, h.size, fun k hk _ => h.block k hk⟩
theorem grown_cell {w w' : World} {r : Option Nat} (h : w.grownBy w' r) {a : Addr} (ha : w.heap.size ≤ a.block) (v : Value) : w.grownBy (w'.setCell a v) r :=
  ⟨h.os, h.tape, h.output, Nat.le_trans h.size (by simp [World.setCell]), fun k hk hne => (Below.heap_setCell w' a v k (by omega)).trans (h.block k hk hne)⟩
theorem grown_below' {w w' : World} {c C : Nat} (h : w.grownBy w' (some c)) (hC : C ≤ c) (hw : C ≤ w.heap.size) : Below C w w' := (Below.refl _ _).grown h hw (fun k hk => by injection hk with hk; omega)
theorem Arr.grown {w w' : World} {t : TypeId} {g c : Nat} {cs : List Value} (h : Arr w t g cs) (hg : w.grownBy w' (some c)) (hne : g ≠ c) : Arr w' t g cs := (hg.block g h.lt (fun e => hne (Option.some.inj e))).trans h
end Go.Proofs.Ytebbbiikphfjcaa
