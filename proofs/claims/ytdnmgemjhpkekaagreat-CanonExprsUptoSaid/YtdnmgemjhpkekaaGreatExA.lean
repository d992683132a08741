/-
  Expressions as plain data: depth, number of parts, leaves, rightness, text, order.
-/
import Derived.Test.YtdnmgemjhpkekaaGreatBstr
import Derived.WalkKit
import Derived.ProofKit
import Derived.OpenShut
import Derived.Below
import Derived.Lib.Hide
namespace Go.Proofs.YtdnmgemjhpkekaaGreat
open Go.ChangeShapes Go.WideShapes Go.ChangeAt Go.RowKit
set_option linter.unusedVariables false

/-- An expression: kind, via, name, kids. -/
inductive Ex where
  | mk (k : Int) (via nm : List UInt8) (ks : List Ex)
def Ex.kind : Ex → Int | .mk k _ _ _ => k
def Ex.via : Ex → List UInt8 | .mk _ v _ _ => v
def Ex.nm : Ex → List UInt8 | .mk _ _ n _ => n
def Ex.kids : Ex → List Ex | .mk _ _ _ ks => ks
def ex0 : Ex := .mk 0 [] [] []
mutual
def depthE : Ex → Nat
  | .mk _ _ _ ks => depthL ks + 1
def depthL : List Ex → Nat
  | [] => 0
  | e :: r => max (depthE e) (depthL r)
end
theorem depthE_pos : ∀ e : Ex, 1 ≤ depthE e
  | .mk _ _ _ ks => by unfold depthE; omega
theorem depthL_get : ∀ (ks : List Ex) (i : Nat), i < ks.length → depthE (ks.getD i ex0) ≤ depthL ks
  | [], i, h => by simp at h
  | e :: r, 0, _ => by unfold depthL; exact Nat.le_max_left _ _
  | e :: r, i + 1, h => by
    unfold depthL
    exact Nat.le_trans (depthL_get r i (by simpa using h)) (Nat.le_max_right _ _)
theorem depthL_snoc : ∀ (ks : List Ex) (e : Ex), depthL (ks ++ [e]) = max (depthL ks) (depthE e)
  | [], e => by simp [depthL]
  | a :: r, e => by rw [List.cons_append]; unfold depthL; rw [depthL_snoc r e]; omega
theorem take_snocE {ks : List Ex} {k : Nat} (hk : k < ks.length) : ks.take (k + 1) = ks.take k ++ [ks.getD k ex0] := by
  rw [List.take_succ_eq_append_getElem hk, List.getD_eq_getElem?_getD, List.getElem?_eq_getElem hk]; rfl
theorem depthL_take : ∀ (ks : List Ex) (k : Nat), depthL (ks.take k) ≤ depthL ks
  | [], k => by simp
  | a :: r, 0 => by simp [depthL]
  | a :: r, k + 1 => by
    rw [List.take_succ_cons]; unfold depthL
    have := depthL_take r k
    omega
/-- Kinds without kids. -/
def leafK (k : Int) : Bool := k != 3 && k != 4 && k != 5
mutual
def leavesE : Ex → List Ex
  | .mk k v n ks => if leafK k = true then [.mk k v n ks] else leavesL ks
def leavesL : List Ex → List Ex
  | [] => []
  | e :: r => leavesE e ++ leavesL r
end
theorem leavesL_snoc : ∀ (ks : List Ex) (e : Ex), leavesL (ks ++ [e]) = leavesL ks ++ leavesE e
  | [], e => by simp [leavesL]
  | a :: r, e => by rw [List.cons_append]; unfold leavesL; rw [leavesL_snoc r e, List.append_assoc]
mutual
def sizeE : Ex → Nat
  | .mk _ _ _ ks => sizeL ks + 1
def sizeL : List Ex → Nat
  | [] => 0
  | e :: r => sizeE e + sizeL r
end
theorem sizeE_pos : ∀ e : Ex, 1 ≤ sizeE e
  | .mk _ _ _ ks => by unfold sizeE; omega
theorem sizeL_len : ∀ ks : List Ex, ks.length ≤ sizeL ks
  | [] => Nat.zero_le _
  | e :: r => by unfold sizeL; have := sizeE_pos e; have := sizeL_len r; simp only [List.length_cons]; omega
theorem sizeL_get : ∀ (ks : List Ex) (i : Nat), i < ks.length → sizeE (ks.getD i ex0) ≤ sizeL ks
  | [], i, h => by simp at h
  | e :: r, 0, _ => by unfold sizeL; exact Nat.le_add_right _ _
  | e :: r, i + 1, h => by
    unfold sizeL
    exact Nat.le_trans (sizeL_get r i (by simpa using h)) (Nat.le_add_left _ _)
mutual
theorem depth_size : ∀ e : Ex, depthE e ≤ sizeE e
  | .mk _ _ _ ks => by unfold depthE sizeE; have := depthL_size ks; omega
theorem depthL_size : ∀ ks : List Ex, depthL ks ≤ sizeL ks
  | [] => Nat.le_refl _
  | e :: r => by unfold depthL sizeL; have := depth_size e; have := depthL_size r; omega
end
end Go.Proofs.YtdnmgemjhpkekaaGreat
