/-
  expr.Right.
-/
import Derived.Test.YtdnmgemjhpkekaaGreatExN
import Derived.Deep.CutBlock
namespace Go.Proofs.YtdnmgemjhpkekaaGreat
open Go.ChangeShapes Go.WideShapes Go.ChangeAt Go.RowKit
set_option linter.unusedVariables false
attribute [local go_sem] Oper.semAt_some

mutual
theorem leaves_size : ∀ e : Ex, (leavesE e).length ≤ sizeE e
  | .mk k v n ks => by
    unfold leavesE sizeE
    split
    · simp
    · have := leavesL_size ks; omega
theorem leavesL_size : ∀ ks : List Ex, (leavesL ks).length ≤ sizeL ks
  | [] => by simp [leavesL]
  | e :: r => by
    unfold leavesL sizeL
    have := leaves_size e
    have := leavesL_size r
    simp only [List.length_append]; omega
end
def rightE (e : Ex) : Bool := decide ((leavesE e).length ≤ 32) && (decide (depthE e ≤ 16) && formE e)
def RI (w : World) (A : List Value) (pre : List OutE) (W : World) : Prop := Arr W 3 (w.heap.size + 1) [.int .i64 (pre.length : Nat)] ∧ Arr W 24 w.heap.size A ∧ Below w.heap.size w W
theorem RI.later {w : World} {A : List Value} {pre : List OutE} {W W' : World} (h : RI w A pre W) (hb : Below W.heap.size W W') : RI w A pre W' := ⟨h.1.later hb, h.2.1.later hb, h.2.2.trans (hb.mono h.2.2.size)⟩
theorem RI.turns {w : World} {A : List Value} {B : Nat} (hB : w.heap.size + 1 < B) (pre : List OutE) : Turns B (RI w A pre) := fun W l o o' hl h ho hx =>
  ⟨arr_turn (by omega) hx.1, arr_turn (by omega) hx.2.1, hx.2.2.trans (below_put W l o' (by omega))⟩
end Go.Proofs.YtdnmgemjhpkekaaGreat
