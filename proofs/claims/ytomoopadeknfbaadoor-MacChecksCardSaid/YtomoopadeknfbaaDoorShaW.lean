/-
  What the walks of the law say of digests and of slices in fresh memory.
-/
import Derived.Test.YtomoopadeknfbaaDoorShaS
namespace Go.Proofs.YtomoopadeknfbaaDoor
open Go.ChangeShapes Go.WideShapes Go.ChangeAt Go.RowKit
set_option linter.unusedVariables false

theorem digest_length (l : List UInt8) : (digest l).length = 32 := joinS_length _
theorem rd_one {B : Nat} {w : World} {t : TypeId} {v0 : Value} {l0 : List UInt8} (h0 : Rd B w v0 l0) (hB : B ≤ w.heap.size) :
    RdAll (w.heap.size + 1) (w.alloc (.cells #[v0] t)) (some ⟨w.heap.size, 0, none⟩) [l0] := by
  intro _
  have hb : Below w.heap.size w (w.alloc (.cells #[v0] t)) := (Below.refl _ _).alloc (Nat.le_refl _) _
  refine ⟨w.heap.size, 0, rfl, by omega, fun i hi => ?_⟩
  obtain rfl : i = 0 := by simpa using hi
  refine ⟨v0, ?_, (h0.below hb hB).mono (by omega)⟩
  rw [cell_of_row _ _ _ #[v0] t (0, 0) (heap_alloc_new w _)]; rfl
theorem rd_mark (w : World) (l : List UInt8) (cs : Array Value) (fr : Nat × Nat) (hcs : cs.toList = bvs l) (n : Nat) (hn : n = l.length) (hm : l.length ≤ maxLen) : Rd (w.heap.size + 1) (w.alloc (.cells cs 5 fr)) (.slice (some ⟨w.heap.size, 0, none⟩) n n) l := by
  subst hn
  refine .inr ⟨_, 0, _, rfl, Nat.le_refl _, hm, by omega, fun i hi => ?_⟩
  rw [Nat.zero_add, cell_of_row _ _ i cs 5 fr (heap_alloc_new w _)]
  rw [← Array.getElem?_toList, hcs]
  exact bvs_getElem l i hi
theorem dcell {w : World} {t : TypeId} {g : Nat} {l : List UInt8} (h : Arr w t g (bvs l)) (i : Nat) (hi : i < l.length) (n : Nat) (hn : (l.getD i 0).toNat = n) : w.cell? ⟨g, i, none⟩ = some (.int .u8 n) := by
  rw [h.cell i, bvs_getElem l i hi]
  unfold bv; rw [hn]

end Go.Proofs.YtomoopadeknfbaaDoor
