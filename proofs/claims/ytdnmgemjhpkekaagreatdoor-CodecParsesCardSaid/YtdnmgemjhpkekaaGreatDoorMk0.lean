/-
  Expressions as plain data: depth, number of parts, leaves, rightness, text, order.
-/
import Derived.Test.YtdnmgemjhpkekaaGreatDoorBstr
import Derived.WalkKit
import Derived.ProofKit
import Derived.OpenShut
import Derived.Below
import Derived.Lib.Hide
import Derived.Test.YtdnmgemjhpkekaaGreatDoorArr
import Derived.Maps.AppendAt
import Derived.Test.YtdnmgemjhpkekaaGreatDoorNameR
import Derived.Test.YtdnmgemjhpkekaaGreatDoorTurnG
import Derived.RangeFuncNested
import Derived.RangeFuncBound
import Derived.RangeFuncCalls
import Derived.RangeFuncLeaves
import Derived.Shelf.Abstract
import Derived.Shelf.RegionOpen
import Derived.WalkMore
import Derived.OwnWalkIn
import Derived.TacticsInMore
import Derived.LoopNIn
import Derived.LoopIn
import Derived.Deep.Cut
import Derived.Deep.CutBlock
import Derived.Test.YtdnmgemjhpkekaaGreatDoorTuA
import Derived.Laws.OwnMore
import Derived.Deep.RegionLaw
import Derived.Test.YtdnmgemjhpkekaaGreatDoorTuI
import Derived.Test.YtdnmgemjhpkekaaGreatDoorShelf
import Derived.Lib.Small
import Derived.Lib.Bytealg
import Derived.Lib.Hide
namespace Go.Proofs.YtdnmgemjhpkekaaGreatDoor
theorem hiD {p : Prop} (h : p) : RowKit.Hid p := h
theorem pz0 (l : List Value) (i : Nat) (a : Value) : l.toArray.setIfInBounds i a = (l.set i a).toArray := by simp
theorem pz1 (a b : Value) (l : List Value) : (a :: l).set 0 b = b :: l := rfl
theorem pz2 (a b : Value) (l : List Value) (n : Nat) : (a :: l).set (n + 1) b = a :: l.set n b := rfl
end Go.Proofs.YtdnmgemjhpkekaaGreatDoor
namespace Go.Proofs.YtdnmgemjhpkekaaGreatDoor
open Go.ChangeShapes Go.WideShapes Go.ChangeAt Go.RowKit
set_option linter.unusedVariables false
theorem Arr.all1 {w : World} {t : TypeId} {g : Nat} {a0 : Value} (h : Arr w t g [a0]) : w.cell? ⟨g, 0, none⟩ = some a0 ∧ w.frozen? ⟨g, 0, none⟩ = false := ⟨h.cell 0, h.free 0⟩
theorem Arr.all2 {w : World} {t : TypeId} {g : Nat} {a0 a1 : Value} (h : Arr w t g [a0, a1]) : w.cell? ⟨g, 0, none⟩ = some a0 ∧ w.frozen? ⟨g, 0, none⟩ = false ∧ w.cell? ⟨g, 1, none⟩ = some a1 ∧ w.frozen? ⟨g, 1, none⟩ = false := ⟨h.cell 0, h.free 0, h.cell 1, h.free 1⟩
theorem Arr.all3 {w : World} {t : TypeId} {g : Nat} {a0 a1 a2 : Value} (h : Arr w t g [a0, a1, a2]) : w.cell? ⟨g, 0, none⟩ = some a0 ∧ w.frozen? ⟨g, 0, none⟩ = false ∧ w.cell? ⟨g, 1, none⟩ = some a1 ∧ w.frozen? ⟨g, 1, none⟩ = false ∧ w.cell? ⟨g, 2, none⟩ = some a2 ∧ w.frozen? ⟨g, 2, none⟩ = false := ⟨h.cell 0, h.free 0, h.cell 1, h.free 1, h.cell 2, h.free 2⟩
theorem Arr.all4 {w : World} {t : TypeId} {g : Nat} {a0 a1 a2 a3 : Value} (h : Arr w t g [a0, a1, a2, a3]) : w.cell? ⟨g, 0, none⟩ = some a0 ∧ w.frozen? ⟨g, 0, none⟩ = false ∧ w.cell? ⟨g, 1, none⟩ = some a1 ∧ w.frozen? ⟨g, 1, none⟩ = false ∧ w.cell? ⟨g, 2, none⟩ = some a2 ∧ w.frozen? ⟨g, 2, none⟩ = false ∧ w.cell? ⟨g, 3, none⟩ = some a3 ∧ w.frozen? ⟨g, 3, none⟩ = false := ⟨h.cell 0, h.free 0, h.cell 1, h.free 1, h.cell 2, h.free 2, h.cell 3, h.free 3⟩
theorem Arr.all5 {w : World} {t : TypeId} {g : Nat} {a0 a1 a2 a3 a4 : Value} (h : Arr w t g [a0, a1, a2, a3, a4]) : w.cell? ⟨g, 0, none⟩ = some a0 ∧ w.frozen? ⟨g, 0, none⟩ = false ∧ w.cell? ⟨g, 1, none⟩ = some a1 ∧ w.frozen? ⟨g, 1, none⟩ = false ∧ w.cell? ⟨g, 2, none⟩ = some a2 ∧ w.frozen? ⟨g, 2, none⟩ = false ∧ w.cell? ⟨g, 3, none⟩ = some a3 ∧ w.frozen? ⟨g, 3, none⟩ = false ∧ w.cell? ⟨g, 4, none⟩ = some a4 ∧ w.frozen? ⟨g, 4, none⟩ = false := ⟨h.cell 0, h.free 0, h.cell 1, h.free 1, h.cell 2, h.free 2, h.cell 3, h.free 3, h.cell 4, h.free 4⟩
theorem Arr.all7 {w : World} {t : TypeId} {g : Nat} {a0 a1 a2 a3 a4 a5 a6 : Value} (h : Arr w t g [a0, a1, a2, a3, a4, a5, a6]) : w.cell? ⟨g, 0, none⟩ = some a0 ∧ w.frozen? ⟨g, 0, none⟩ = false ∧ w.cell? ⟨g, 1, none⟩ = some a1 ∧ w.frozen? ⟨g, 1, none⟩ = false ∧ w.cell? ⟨g, 2, none⟩ = some a2 ∧ w.frozen? ⟨g, 2, none⟩ = false ∧ w.cell? ⟨g, 3, none⟩ = some a3 ∧ w.frozen? ⟨g, 3, none⟩ = false ∧ w.cell? ⟨g, 4, none⟩ = some a4 ∧ w.frozen? ⟨g, 4, none⟩ = false ∧ w.cell? ⟨g, 5, none⟩ = some a5 ∧ w.frozen? ⟨g, 5, none⟩ = false ∧ w.cell? ⟨g, 6, none⟩ = some a6 ∧ w.frozen? ⟨g, 6, none⟩ = false := ⟨h.cell 0, h.free 0, h.cell 1, h.free 1, h.cell 2, h.free 2, h.cell 3, h.free 3, h.cell 4, h.free 4, h.cell 5, h.free 5, h.cell 6, h.free 6⟩
theorem Arr.off2 {w : World} {t : TypeId} {g b : Nat} {cs : List Value} (h : Arr w t g cs) (hb : g ≠ b) (a0 a1 : Value) : Arr ((w.setCell ⟨b, 0, none⟩ a0).setCell ⟨b, 1, none⟩ a1) t g cs := ((h.setCell (a := ⟨b, 0, none⟩) hb a0).setCell (a := ⟨b, 1, none⟩) hb a1)
theorem Arr.off4 {w : World} {t : TypeId} {g b : Nat} {cs : List Value} (h : Arr w t g cs) (hb : g ≠ b) (a0 a1 a2 a3 : Value) : Arr ((((w.setCell ⟨b, 0, none⟩ a0).setCell ⟨b, 1, none⟩ a1).setCell ⟨b, 2, none⟩ a2).setCell ⟨b, 3, none⟩ a3) t g cs := ((((h.setCell (a := ⟨b, 0, none⟩) hb a0).setCell (a := ⟨b, 1, none⟩) hb a1).setCell (a := ⟨b, 2, none⟩) hb a2).setCell (a := ⟨b, 3, none⟩) hb a3)
theorem Arr.off5 {w : World} {t : TypeId} {g b : Nat} {cs : List Value} (h : Arr w t g cs) (hb : g ≠ b) (a0 a1 a2 a3 a4 : Value) : Arr (((((w.setCell ⟨b, 0, none⟩ a0).setCell ⟨b, 1, none⟩ a1).setCell ⟨b, 2, none⟩ a2).setCell ⟨b, 3, none⟩ a3).setCell ⟨b, 4, none⟩ a4) t g cs := (((((h.setCell (a := ⟨b, 0, none⟩) hb a0).setCell (a := ⟨b, 1, none⟩) hb a1).setCell (a := ⟨b, 2, none⟩) hb a2).setCell (a := ⟨b, 3, none⟩) hb a3).setCell (a := ⟨b, 4, none⟩) hb a4)
end Go.Proofs.YtdnmgemjhpkekaaGreatDoor
namespace Go.Proofs.YtdnmgemjhpkekaaGreatDoor
open Go.ChangeShapes Go.WideShapes Go.ChangeAt Go.RowKit
set_option linter.unusedVariables false

inductive Ex where
 | mk (k : Int) (via nm : List UInt8) (ks : List Ex)
def Ex.kind : Ex → Int | .mk k _ _ _ => k
def Ex.via : Ex → List UInt8 | .mk _ v _ _ => v
def Ex.nm : Ex → List UInt8 | .mk _ _ n _ => n
def Ex.kids : Ex → List Ex | .mk _ _ _ ks => ks
def ex0 : Ex := .mk 0 [] [] []
mutual
def depthE : Ex → Nat
 | .mk _ _ _ ks => depthL ks + 1
def depthL : List Ex → Nat
 | [] => 0
 | e :: r => max (depthE e) (depthL r)
end
theorem depthE_pos : ∀ e : Ex, 1 ≤ depthE e
 | .mk _ _ _ ks => by unfold depthE; omega
theorem depthL_get : ∀ (ks : List Ex) (i : Nat), i < ks.length → depthE (ks.getD i ex0) ≤ depthL ks
 | [], i, h => by simp at h
 | e :: r, 0, _ => by unfold depthL; exact Nat.le_max_left _ _
 | e :: r, i + 1, h => by
  unfold depthL
  exact Nat.le_trans (depthL_get r i (by simpa using h)) (Nat.le_max_right _ _)
theorem depthL_snoc : ∀ (ks : List Ex) (e : Ex), depthL (ks ++ [e]) = max (depthL ks) (depthE e)
 | [], e => by simp [depthL]
 | a :: r, e => by rw [List.cons_append]; unfold depthL; rw [depthL_snoc r e]; omega
theorem take_snocE {ks : List Ex} {k : Nat} (hk : k < ks.length) : ks.take (k + 1) = ks.take k ++ [ks.getD k ex0] := by
 rw [List.take_succ_eq_append_getElem hk, List.getD_eq_getElem?_getD, List.getElem?_eq_getElem hk]; rfl
theorem depthL_take : ∀ (ks : List Ex) (k : Nat), depthL (ks.take k) ≤ depthL ks
 | [], k => by simp
 | a :: r, 0 => by simp [depthL]
 | a :: r, k + 1 => by
  rw [List.take_succ_cons]; unfold depthL
  have := depthL_take r k
  omega
def leafK (k : Int) : Bool := k != 3 && k != 4 && k != 5
mutual
def leavesE : Ex → List Ex
 | .mk k v n ks => if leafK k = true then [.mk k v n ks] else leavesL ks
def leavesL : List Ex → List Ex
 | [] => []
 | e :: r => leavesE e ++ leavesL r
end
theorem leavesL_snoc : ∀ (ks : List Ex) (e : Ex), leavesL (ks ++ [e]) = leavesL ks ++ leavesE e
 | [], e => by simp [leavesL]
 | a :: r, e => by rw [List.cons_append]; unfold leavesL; rw [leavesL_snoc r e, List.append_assoc]
mutual
def sizeE : Ex → Nat
 | .mk _ _ _ ks => sizeL ks + 1
def sizeL : List Ex → Nat
 | [] => 0
 | e :: r => sizeE e + sizeL r
end
theorem sizeE_pos : ∀ e : Ex, 1 ≤ sizeE e
 | .mk _ _ _ ks => by unfold sizeE; omega
theorem sizeL_len : ∀ ks : List Ex, ks.length ≤ sizeL ks
 | [] => Nat.zero_le _
 | e :: r => by unfold sizeL; have := sizeE_pos e; have := sizeL_len r; simp only [List.length_cons]; omega
theorem sizeL_get : ∀ (ks : List Ex) (i : Nat), i < ks.length → sizeE (ks.getD i ex0) ≤ sizeL ks
 | [], i, h => by simp at h
 | e :: r, 0, _ => by unfold sizeL; exact Nat.le_add_right _ _
 | e :: r, i + 1, h => by
  unfold sizeL
  exact Nat.le_trans (sizeL_get r i (by simpa using h)) (Nat.le_add_left _ _)
mutual
theorem depth_size : ∀ e : Ex, depthE e ≤ sizeE e
 | .mk _ _ _ ks => by unfold depthE sizeE; have := depthL_size ks; omega
theorem depthL_size : ∀ ks : List Ex, depthL ks ≤ sizeL ks
 | [] => Nat.le_refl _
 | e :: r => by unfold depthL sizeL; have := depth_size e; have := depthL_size r; omega
end
def exv (e : Ex) (q : Option Addr) (c : Nat) : Value := .agg #[.int .i64 e.kind, .string (bstr e.via), .string (bstr e.nm), .slice q e.kids.length c]
mutual
def RdE (P : Nat → Prop) (w : World) : Ex → Value → Prop
 | .mk k via nm ks, v => ∃ q c, v = .agg #[.int .i64 k, .string (bstr via), .string (bstr nm), .slice q ks.length c] ∧ ks.length ≤ c ∧ (0 < ks.length → ∃ b o, q = some ⟨b, o, none⟩ ∧ P b ∧ RdL P w ks b o)
def RdL (P : Nat → Prop) (w : World) : List Ex → Nat → Nat → Prop
 | [], _, _ => True
 | e :: r, b, o => (∃ v0 v1 v2 v3, w.cell? ⟨b, o, none⟩ = some v0 ∧ w.cell? ⟨b, o + 1, none⟩ = some v1 ∧ w.cell? ⟨b, o + 2, none⟩ = some v2 ∧ w.cell? ⟨b, o + 3, none⟩ = some v3 ∧ RdE P w e (.agg #[v0, v1, v2, v3])) ∧ RdL P w r b (o + 4)
end
mutual
theorem RdE.keep {P : Nat → Prop} {w w' : World} (hk : ∀ b, P b → ∀ n, w'.cell? ⟨b, n, none⟩ = w.cell? ⟨b, n, none⟩) : ∀ {e : Ex} {v : Value}, RdE P w e v → RdE P w' e v
 | .mk k via nm ks, v, h => by
  unfold RdE at h ⊢
  obtain ⟨q, c, h1, h2, h3⟩ := h
  refine ⟨q, c, h1, h2, fun h0 => ?_⟩
  obtain ⟨b, o, h4, h5, h6⟩ := h3 h0
  exact ⟨b, o, h4, h5, RdL.keep hk h5 h6⟩
theorem RdL.keep {P : Nat → Prop} {w w' : World} (hk : ∀ b, P b → ∀ n, w'.cell? ⟨b, n, none⟩ = w.cell? ⟨b, n, none⟩) {b : Nat} (hb : P b) : ∀ {ks : List Ex} {o : Nat}, RdL P w ks b o → RdL P w' ks b o
 | [], _, _ => by unfold RdL; trivial
 | e :: r, o, h => by
  unfold RdL at h ⊢
  obtain ⟨⟨v0, v1, v2, v3, c0, c1, c2, c3, h1⟩, h2⟩ := h
  exact ⟨⟨v0, v1, v2, v3, (hk b hb _).trans c0, (hk b hb _).trans c1, (hk b hb _).trans c2, (hk b hb _).trans c3, RdE.keep hk h1⟩, RdL.keep hk hb h2⟩
end
mutual
theorem RdE.imp {P Q : Nat → Prop} {w : World} (hPQ : ∀ b, P b → Q b) : ∀ {e : Ex} {v : Value}, RdE P w e v → RdE Q w e v
 | .mk k via nm ks, v, h => by
  unfold RdE at h ⊢
  obtain ⟨q, c, h1, h2, h3⟩ := h
  refine ⟨q, c, h1, h2, fun h0 => ?_⟩
  obtain ⟨b, o, h4, h5, h6⟩ := h3 h0
  exact ⟨b, o, h4, hPQ b h5, RdL.imp hPQ h6⟩
theorem RdL.imp {P Q : Nat → Prop} {w : World} (hPQ : ∀ b, P b → Q b) {b : Nat} : ∀ {ks : List Ex} {o : Nat}, RdL P w ks b o → RdL Q w ks b o
 | [], _, _ => by unfold RdL; trivial
 | e :: r, o, h => by
  unfold RdL at h ⊢
  obtain ⟨⟨v0, v1, v2, v3, c0, c1, c2, c3, h1⟩, h2⟩ := h
  exact ⟨⟨v0, v1, v2, v3, c0, c1, c2, c3, RdE.imp hPQ h1⟩, RdL.imp hPQ h2⟩
end
theorem cells_below {C : Nat} {w w' : World} (hb : Below C w w') {P : Nat → Prop} (hP : ∀ b, P b → b < C) : ∀ b, P b → ∀ n, w'.cell? ⟨b, n, none⟩ = w.cell? ⟨b, n, none⟩ :=
 fun b h n => hb.cell (p := ⟨b, n, none⟩) (hP b h)
theorem RdE.below {P : Nat → Prop} {C : Nat} {w w' : World} {e : Ex} {v : Value} (h : RdE P w e v) (hb : Below C w w') (hP : ∀ b, P b → b < C) : RdE P w' e v := h.keep (cells_below hb hP)
def Bt (A B : Nat) : Nat → Prop := fun b => A ≤ b ∧ b < B
theorem RdE.form {P : Nat → Prop} {w : World} {e : Ex} {v : Value} (h : RdE P w e v) : ∃ q c, v = exv e q c ∧ e.kids.length ≤ c ∧ (0 < e.kids.length → ∃ b o, q = some ⟨b, o, none⟩ ∧ P b ∧ RdL P w e.kids b o) := by
 cases e with
 | mk k via nm ks => unfold RdE at h; exact h
theorem RdE.of {P : Nat → Prop} {w : World} {e : Ex} {q : Option Addr} {c : Nat} (h1 : e.kids.length ≤ c) (h2 : 0 < e.kids.length → ∃ b o, q = some ⟨b, o, none⟩ ∧ P b ∧ RdL P w e.kids b o) : RdE P w e (exv e q c) := by
 cases e with
 | mk k via nm ks => unfold RdE; exact ⟨q, c, rfl, h1, h2⟩
theorem RdL.at {P : Nat → Prop} {w : World} {b : Nat} : ∀ {ks : List Ex} {o i : Nat}, RdL P w ks b o → i < ks.length → ∃ q c, w.cell? ⟨b, o + i * 4, none⟩ = some (.int .i64 (ks.getD i ex0).kind) ∧ w.cell? ⟨b, o + i * 4 + 1, none⟩ = some (.string (bstr (ks.getD i ex0).via)) ∧
  w.cell? ⟨b, o + i * 4 + 2, none⟩ = some (.string (bstr (ks.getD i ex0).nm)) ∧ w.cell? ⟨b, o + i * 4 + 3, none⟩ = some (.slice q (ks.getD i ex0).kids.length c) ∧ RdE P w (ks.getD i ex0) (exv (ks.getD i ex0) q c)
 | [], _, _, _, h => by simp at h
 | e :: r, o, 0, h, _ => by
  unfold RdL at h
  obtain ⟨⟨v0, v1, v2, v3, c0, c1, c2, c3, h1⟩, _⟩ := h
  obtain ⟨q, c, h2, h3, h4⟩ := h1.form
  unfold exv at h2
  simp only [Value.agg.injEq, Array.mk.injEq, List.cons.injEq, and_true] at h2
  obtain ⟨rfl, rfl, rfl, rfl⟩ := h2
  simp only [Nat.zero_mul, Nat.add_zero]
  exact ⟨q, c, c0, c1, c2, c3, h1⟩
 | e :: r, o, i + 1, h, hi => by
  unfold RdL at h
  have := RdL.at (i := i) h.2 (by simpa using hi)
  rw [show o + 4 + i * 4 = o + (i + 1) * 4 by omega] at this
  exact this
set_option maxRecDepth 100000 in
theorem isLeaf_any {P : Nat → Prop} {w : World} {e : Ex} {v : Value} (h : RdE P w e v) : Calls Tryz.prog 129 #[v] w fun r w' => r = .returned (.bool (leafK e.kind)) ∧ Below w.heap.size w w' := by
 obtain ⟨q, c, rfl, _⟩ := h.form
 obtain ⟨k, xv, xn, ks⟩ := e
 unfold exv
 show Calls _ _ #[.agg #[.int .i64 k, .string (bstr xv), .string (bstr xn), .slice q ks.length c]] _ _
 clear h
 go_enter Tryz.func129, Tryz.ntmps129
 go_wp2_with fail
 all_goals
  go_ret
  refine ⟨ret_b ?_, (Below.refl _ _).alloc (Nat.le_refl _) _⟩
  unfold leafK Ex.kind
  first | rfl | (rw [Bool.eq_iff_iff]; simp only [Bool.and_eq_true, bne_iff_ne]; first | done | omega | (simp; omega)) | (rw [Bool.eq_iff_iff]; simp; omega)
set_option maxRecDepth 100000 in
theorem rleaf_any {P : Nat → Prop} {w : World} {e : Ex} {v : Value} (h : RdE P w e v) : Calls Tryz.prog 66 #[v] w fun r w' => r = .returned (.bool (leafK e.kind)) ∧ Below w.heap.size w w' := by
 obtain ⟨q, c, rfl, _⟩ := h.form
 obtain ⟨k, xv, xn, ks⟩ := e
 unfold exv
 show Calls _ _ #[.agg #[.int .i64 k, .string (bstr xv), .string (bstr xn), .slice q ks.length c]] _ _
 clear h
 go_enter Tryz.func66, Tryz.ntmps66
 go_wp2_with fail
 all_goals
  go_ret
  refine ⟨ret_b ?_, (Below.refl _ _).alloc (Nat.le_refl _) _⟩
  unfold leafK Ex.kind
  first | rfl | (rw [Bool.eq_iff_iff]; simp only [Bool.and_eq_true, bne_iff_ne]; first | done | omega | (simp; omega)) | (rw [Bool.eq_iff_iff]; simp; omega)
set_option maxRecDepth 100000 in
set_option maxHeartbeats 2000000 in
theorem depth_any : ∀ (n : Nat) (e : Ex) (v : Value) (P : Nat → Prop) (w : World), sizeE e ≤ n → sizeE e ≤ 1000000 → RdE P w e v → (∀ b, P b → b < w.heap.size) → Calls Tryz.prog 115 #[v] w fun r w' => r = .returned (.int .i64 (depthE e : Nat)) ∧ Below w.heap.size w w' := by
 intro n
 induction n with
 | zero => intro e v P w h; have := sizeE_pos e; omega
 | succ n ih =>
  intro e v P w hn hm h hP
  obtain ⟨q, c, rfl, hc, hk⟩ := h.form
  obtain ⟨k, xv, xn, ks⟩ := e
  unfold exv
  show Calls _ _ #[.agg #[.int .i64 k, .string (bstr xv), .string (bstr xn), .slice q ks.length c]] _ _
  have HK : Hid (0 < ks.length → ∃ b o, q = some ⟨b, o, none⟩ ∧ P b ∧ RdL P w ks b o) := hk
  have hks : sizeL ks ≤ n := by unfold sizeE at hn; omega
  have hkm : sizeL ks ≤ 1000000 := by unfold sizeE at hm; omega
  have hlen := sizeL_len ks
  have HIH := hiD ih
  have HB0 : Hid (Below w.heap.size w (w.alloc (.cells #[.int .i64 k, .string (bstr xv), .string (bstr xn), .slice q ks.length c] 42))) := (Below.refl _ _).alloc (Nat.le_refl _) _
  clear h ih hc hk hn hm
  go_enter Tryz.func115, Tryz.ntmps115
  go_wp2_with fail
  go_loopw [3, 9] (fun dv iv wr => ∃ i : Nat, i ≤ ks.length ∧ iv = .int .i64 i ∧ dv = .int .i64 (depthL (ks.take i) : Nat) ∧ Hid (Below w.heap.size w wr)) (fun _ iv _ => ks.length - (intOf iv).toNat)
  case atStart => exact ⟨0, Nat.zero_le _, rfl, by simp [depthL], HB0.out⟩
  case round =>
   obtain ⟨i, hi, rfl, rfl, HI⟩ := hrel
   have hi0 : (0 : Int) ≤ i := by omega
   have HTK := depthL_take ks i
   have hds := depthL_size ks
   obtain ⟨D, hD⟩ : ∃ D, D = depthL (ks.take i) := ⟨_, rfl⟩
   rw [← hD] at HTK ⊢
   have HD := hiD hD
   have hD1 : (D : Int) ≤ 1000000 := by omega
   clear hD HTK hds
   by_cases hlt : i < ks.length
   ·have hi1 : (i : Int) < ks.length := by omega
    obtain ⟨ba, oa, rfl, hba, hl⟩ := HK.out (by omega)
    obtain ⟨x, hx⟩ : ∃ x, x = ks.getD i ex0 := ⟨_, rfl⟩
    obtain ⟨q2, c2, x0, x1, x2, x3, hr⟩ := hl.at hlt
    have hxs := sizeL_get ks i hlt
    have hxd := depthL_get ks i hlt
    rw [← hx] at x0 x1 x2 x3 hr hxs hxd
    have HX := hiD hx
    obtain ⟨xk, xv2, xn2, xs⟩ := x
    have cc : ∀ n, wr.cell? ⟨ba, n, none⟩ = w.cell? ⟨ba, n, none⟩ := fun n => (HI.out).cell (p := ⟨ba, n, none⟩) (hP _ hba)
    have X0 : wr.cell? ⟨ba, oa + i * 4, none⟩ = some (.int .i64 xk) := (cc _).trans x0
    have X1 : wr.cell? ⟨ba, oa + i * 4 + 1, none⟩ = some (.string (bstr xv2)) := (cc _).trans x1
    have X2 : wr.cell? ⟨ba, oa + i * 4 + 2, none⟩ = some (.string (bstr xn2)) := (cc _).trans x2
    have X3 : wr.cell? ⟨ba, oa + i * 4 + 3, none⟩ = some (.slice q2 xs.length c2) := (cc _).trans x3
    clear x0 x1 x2 x3 cc hx
    have HBA : Hid (Below wr.heap.size wr (wr.alloc (.cells #[.int .i64 xk, .string (bstr xv2), .string (bstr xn2), .slice q2 xs.length c2] 42))) := (Below.refl _ _).alloc (Nat.le_refl _) _
    have HR : Hid (RdE P (wr.alloc (.cells #[.int .i64 xk, .string (bstr xv2), .string (bstr xn2), .slice q2 xs.length c2] 42)) (.mk xk xv2 xn2 xs) (.agg #[.int .i64 xk, .string (bstr xv2), .string (bstr xn2), .slice q2 xs.length c2])) := (hr.below (HI.out) hP).below HBA.out (fun b hb => Nat.lt_of_lt_of_le (hP b hb) (HI.out).size)
    have HC := hiD (HIH.out (.mk xk xv2 xn2 xs) _ P _ (by omega) (by omega) HR.out (fun b hb => Nat.lt_of_lt_of_le (hP b hb) (Nat.le_trans HI.out.size HBA.out.size)))
    have HTD : Hid (depthL (ks.take (i + 1)) = max D (depthE (.mk xk xv2 xn2 xs))) := by show _ = _; rw [take_snocE hlt, depthL_snoc, ← HX.out, HD.out]
    obtain ⟨E, hE⟩ : ∃ E, E = depthE (.mk xk xv2 xn2 xs) := ⟨_, rfl⟩
    have hE1 : (E : Int) ≤ 1000000 := by have := depthL_size ks; omega
    rw [← hE] at HC HTD
    clear hl hr hxs hxd hE
    go_wp2_with fail
    refine HC.out.mono ?_
    rintro r w5 ⟨rfl, b5⟩
    have HB5 := hiD (HI.out.trans ((HBA.out.trans (b5.mono HBA.out.size)).mono HI.out.size))
    clear b5
    go_wp2_with fail
    go_roundw
    case rel => exact ⟨i + 1, by omega, by go_num, by rw [HTD.out]; congr 1; omega, HB5.out⟩
    case measure => simp [intOf]; omega
   ·have hi1 : ¬ (i : Int) < ks.length := by omega
    have HK2 : Hid (ks.take i = ks) := List.take_of_length_le (by omega)
    go_wp2_with fail
    go_ret
    exact ⟨by rw [HD.out, HK2.out]; unfold depthE; rfl, HI.out⟩
mutual
def okE (M : Nat) : Ex → Prop
 | .mk _ v n ks => v.length ≤ M ∧ n.length ≤ M ∧ okL M ks
def okL (M : Nat) : List Ex → Prop
 | [] => True
 | e :: r => okE M e ∧ okL M r
end
theorem okL_get {M : Nat} : ∀ {ks : List Ex} {i : Nat}, okL M ks → i < ks.length → okE M (ks.getD i ex0)
 | [], _, _, h => by simp at h
 | e :: r, 0, h, _ => by unfold okL at h; exact h.1
 | e :: r, i + 1, h, hi => by unfold okL at h; exact okL_get (i := i) h.2 (by simpa using hi)
mutual
def cntE : Nat → Ex → Nat
 | 0, _ => 500
 | d + 1, .mk _ v n ks => cntL d (1 + v.length / 200 + n.length / 200) ks
def cntL : Nat → Nat → List Ex → Nat
 | _, n, [] => n
 | d, n, e :: r => if n < 500 then cntL d (n + cntE d e) r else n
end
def bigM : Nat := 140737488355328
theorem cntL_le (d B : Nat) (h : ∀ e, okE bigM e → cntE d e + 499 ≤ B) : ∀ (ks : List Ex) (n : Nat), okL bigM ks → n ≤ B → cntL d n ks ≤ B
 | [], n, _, hn => by unfold cntL; exact hn
 | e :: r, n, ho, hn => by
  unfold okL at ho
  unfold cntL
  split
  ·exact cntL_le d B h r _ ho.2 (by have := h e ho.1; omega)
  ·exact hn
theorem cntE_le : ∀ (d : Nat) (e : Ex), okE bigM e → cntE d e ≤ (d + 1) * 1500000000000
 | 0, e, _ => by unfold cntE; omega
 | d + 1, .mk k v n ks, h => by
  unfold okE bigM at h
  unfold cntE
  refine cntL_le d _ (fun e he => ?_) ks _ h.2.2 ?_
  ·have := cntE_le d e he
   have e2 : (d + 1 + 1) * 1500000000000 = (d + 1) * 1500000000000 + 1500000000000 := by rw [Nat.add_mul]
   omega
  ·have e2 : (d + 1 + 1) * 1500000000000 = (d + 1) * 1500000000000 + 1500000000000 := by rw [Nat.add_mul]
   omega
mutual
theorem cntE_few : ∀ (d : Nat) (e : Ex), cntE d e < 500 → sizeE e ≤ cntE d e ∧ okE 100000 e ∧ depthE e ≤ d
 | 0, e, h => by unfold cntE at h; omega
 | d + 1, .mk k v n ks, h => by
  unfold cntE at h ⊢
  obtain ⟨h1, h2, h3, h4⟩ := cntL_few d ks _ h
  unfold sizeE okE depthE
  exact ⟨by omega, ⟨by omega, by omega, h2⟩, by omega⟩
theorem cntL_few : ∀ (d : Nat) (ks : List Ex) (n : Nat), cntL d n ks < 500 → n + sizeL ks ≤ cntL d n ks ∧ okL 100000 ks ∧ depthL ks ≤ d ∧ n ≤ cntL d n ks
 | d, [], n, h => by unfold cntL at h ⊢; unfold sizeL okL depthL; exact ⟨by omega, trivial, by omega, by omega⟩
 | d, e :: r, n, h => by
  unfold cntL at h ⊢
  split at h
  ·rename_i hn
   rw [if_pos hn]
   obtain ⟨h1, h2, h3, h4⟩ := cntL_few d r _ h
   obtain ⟨g1, g2, g3⟩ := cntE_few d e (by omega)
   unfold sizeL okL depthL
   exact ⟨by omega, ⟨g2, h2⟩, by omega, by omega⟩
  ·omega
end
theorem cntL_step {d n i : Nat} {ks : List Ex} (h : n < 500) (hi : i < ks.length) : cntL d n (ks.drop i) = cntL d (n + cntE d (ks.getD i ex0)) (ks.drop (i + 1)) := by
 rw [List.drop_eq_getElem_cons hi]
 conv => lhs; unfold cntL
 rw [if_pos h, List.getD_eq_getElem?_getD, List.getElem?_eq_getElem hi]; rfl
theorem cntL_ge : ∀ (d : Nat) (ks : List Ex) (n : Nat), n ≤ cntL d n ks
 | d, [], n => by unfold cntL; exact Nat.le_refl _
 | d, e :: r, n => by
  unfold cntL
  split
  ·exact Nat.le_trans (Nat.le_add_right _ _) (cntL_ge d r _)
  ·exact Nat.le_refl _
theorem cntE_pos : ∀ (d : Nat) (e : Ex), 1 ≤ cntE d e
 | 0, e => by unfold cntE; omega
 | d + 1, .mk k v n ks => by unfold cntE; have := cntL_ge d ks (1 + v.length / 200 + n.length / 200); omega
theorem cntL_stop {d n : Nat} {ks : List Ex} (h : ¬ n < 500) : cntL d n ks = n := by
 cases ks with
 | nil => unfold cntL; rfl
 | cons e r => unfold cntL; rw [if_neg h]
theorem quo200 (n : Nat) : Int.tdiv (n : Int) 200 = ((n / 200 : Nat) : Int) := by
 rw [Int.tdiv_eq_ediv_of_nonneg (by omega)]; rfl
set_option maxRecDepth 100000 in
set_option maxHeartbeats 2000000 in
theorem count_any : ∀ (d : Nat) (e : Ex) (v : Value) (P : Nat → Prop) (w : World), d ≤ 31 → okE bigM e → RdE P w e v → (∀ b, P b → b < w.heap.size) → Calls Tryz.prog 38 #[v, .int .i64 (31 - (d : Int))] w fun r w' => r = .returned (.int .i64 (cntE d e : Nat)) ∧ Below w.heap.size w w' := by
 intro d
 induction d with
 | zero =>
  intro e v P w _ hok h hP
  obtain ⟨q, c, rfl, hc, hk⟩ := h.form
  obtain ⟨k, xv, xn, ks⟩ := e
  unfold exv
  show Calls _ _ #[.agg #[.int .i64 k, .string (bstr xv), .string (bstr xn), .slice q ks.length c], .int .i64 31] _ _
  have HK : Hid (0 < ks.length → ∃ b o, q = some ⟨b, o, none⟩ ∧ P b ∧ RdL P w ks b o) := hk
  have HB0 : Hid (Below w.heap.size w (w.alloc (.cells #[.int .i64 k, .string (bstr xv), .string (bstr xn), .slice q ks.length c] 42))) := (Below.refl _ _).alloc (Nat.le_refl _) _
  unfold okE bigM at hok
  obtain ⟨sv, hsv⟩ : ∃ s, s = bstr xv := ⟨_, rfl⟩
  obtain ⟨sn, hsn⟩ : ∃ s, s = bstr xn := ⟨_, rfl⟩
  have zv : (sv.size : Int) ≤ 140737488355328 := by rw [hsv, bstr_size]; omega
  have zn : (sn.size : Int) ≤ 140737488355328 := by rw [hsn, bstr_size]; omega
  rw [← hsv, ← hsn] at HB0 ⊢
  clear h hc hk hok hsv hsn
  go_enter Tryz.func38, Tryz.ntmps38
  go_wp2_with fail
  go_ret
  exact ⟨by unfold cntE; rfl, HB0.out⟩
 | succ d ih =>
  intro e v P w hd hok h hP
  obtain ⟨q, c, rfl, hc, hk⟩ := h.form
  obtain ⟨k, xv, xn, ks⟩ := e
  unfold exv
  show Calls _ _ #[.agg #[.int .i64 k, .string (bstr xv), .string (bstr xn), .slice q ks.length c], .int .i64 (31 - ((d + 1 : Nat) : Int))] _ _
  have HK : Hid (0 < ks.length → ∃ b o, q = some ⟨b, o, none⟩ ∧ P b ∧ RdL P w ks b o) := hk
  rw [show (31 - ((d + 1 : Nat) : Int)) = 30 - (d : Int) by omega]
  unfold okE at hok
  have HOK := hiD hok.2.2
  have HIH := hiD ih
  have zl1 : xv.length ≤ 140737488355328 := hok.1
  have zl2 : xn.length ≤ 140737488355328 := hok.2.1
  have HB0 : Hid (Below w.heap.size w (w.alloc (.cells #[.int .i64 k, .string (bstr xv), .string (bstr xn), .slice q ks.length c] 42))) := (Below.refl _ _).alloc (Nat.le_refl _) _
  have HA0 : Hid (Arr (w.alloc (.cells #[.int .i64 k, .string (bstr xv), .string (bstr xn), .slice q ks.length c] 42)) 42 w.heap.size [.int .i64 k, .string (bstr xv), .string (bstr xn), .slice q ks.length c]) := Arr.new' _ _ _ _ rfl
  obtain ⟨sv, hsv⟩ : ∃ s, s = bstr xv := ⟨_, rfl⟩
  obtain ⟨sn, hsn⟩ : ∃ s, s = bstr xn := ⟨_, rfl⟩
  have zv : sv.size = xv.length := by rw [hsv, bstr_size]
  have zn : sn.size = xn.length := by rw [hsn, bstr_size]
  obtain ⟨N0, hN0⟩ : ∃ N, N = 1 + sv.size / 200 + sn.size / 200 := ⟨_, rfl⟩
  have HT : Hid (cntE (d + 1) (.mk k xv xn ks) = cntL d N0 ks) := by show _ = _; unfold cntE; rw [hN0, zv, zn]
  have HNI : Hid ((N0 : Int) = 1 + (sv.size : Int) / 200 + (sn.size : Int) / 200) := by show _ = _; rw [hN0]; omega
  have HN : Hid (N0 ≤ 1500000000000) := by show _ ≤ _; omega
  have q1 := quo200 sv.size
  have q2 := quo200 sn.size
  have zv2 : (sv.size : Int) ≤ 140737488355328 := by omega
  have zn2 : (sn.size : Int) ≤ 140737488355328 := by omega
  have hdd : (d : Int) ≤ 30 := by omega
  have hgd : ¬ (30 : Int) < 30 - (d : Int) := by omega
  have HCL : Hid (ks.length ≤ c) := hc
  rw [← hsv, ← hsn] at HB0 HA0 ⊢
  clear h ih hc hk hok hsv hsn zv zn zl1 zl2
  go_enter Tryz.func38, Tryz.ntmps38
  go_wp2_with fail
  go_loopw [5, 6] (fun nv iv wr => ∃ i N : Nat, i ≤ ks.length ∧ i ≤ N ∧ iv = .int .i64 i ∧ nv = .int .i64 N ∧ N ≤ 50000000000000 ∧ Hid (cntL d N (ks.drop i) = cntL d N0 ks) ∧ Hid (Below w.heap.size w wr ∧ Arr wr 42 w.heap.size [.int .i64 k, .string sv, .string sn, .slice q ks.length c])) (fun _ iv _ => ks.length - (intOf iv).toNat)
  case atStart => exact ⟨0, N0, Nat.zero_le _, Nat.zero_le _, rfl, by rw [HNI.out], by have := HN.out; omega, rfl, HB0.out, HA0.out⟩
  case round =>
   obtain ⟨i, N, hi, hiN, rfl, rfl, hN, HNT, HI2⟩ := hrel
   have HI := hiD HI2.out.1
   have HAI := hiD HI2.out.2
   have hq3 := HAI.out.cell 3
   simp only [List.getElem?_cons_zero, List.getElem?_cons_succ] at hq3
   have hi0 : (0 : Int) ≤ i := by omega
   have hN1 : (N : Int) ≤ 50000000000000 := by omega
   clear HI2 hN q1 q2 zv2 zn2
   by_cases hlt : i < ks.length
   ·have hi1 : (i : Int) < ks.length := by omega
    by_cases h5 : N < 500
    ·have h51 : (N : Int) < 500 := by omega
     obtain ⟨ba, oa, rfl, hba, hl⟩ := HK.out (by omega)
     obtain ⟨x, hx⟩ : ∃ x, x = ks.getD i ex0 := ⟨_, rfl⟩
     obtain ⟨q2, c2, x0, x1, x2, x3, hr⟩ := hl.at hlt
     have hxs := sizeL_get ks i hlt
     have hxd := depthL_get ks i hlt
     rw [← hx] at x0 x1 x2 x3 hr hxs hxd
     have HX := hiD hx
     obtain ⟨xk, xv2, xn2, xs⟩ := x
     have cc : ∀ n, wr.cell? ⟨ba, n, none⟩ = w.cell? ⟨ba, n, none⟩ := fun n => (HI.out).cell (p := ⟨ba, n, none⟩) (hP _ hba)
     have X0 : wr.cell? ⟨ba, oa + i * 4, none⟩ = some (.int .i64 xk) := (cc _).trans x0
     have X1 : wr.cell? ⟨ba, oa + i * 4 + 1, none⟩ = some (.string (bstr xv2)) := (cc _).trans x1
     have X2 : wr.cell? ⟨ba, oa + i * 4 + 2, none⟩ = some (.string (bstr xn2)) := (cc _).trans x2
     have X3 : wr.cell? ⟨ba, oa + i * 4 + 3, none⟩ = some (.slice q2 xs.length c2) := (cc _).trans x3
     clear x0 x1 x2 x3 cc hx
     have HR : Hid (RdE P wr (.mk xk xv2 xn2 xs) (.agg #[.int .i64 xk, .string (bstr xv2), .string (bstr xn2), .slice q2 xs.length c2])) := hr.below (HI.out) hP
     have HC := HIH.out (.mk xk xv2 xn2 xs) _ P _ (by omega) (HX.out ▸ okL_get HOK.out hlt) HR.out (fun b hb => Nat.lt_of_lt_of_le (hP b hb) HI.out.size)
     rw [show (31 - (d : Int)) = 30 - (d : Int) + 1 by omega] at HC
     have HST := hiD (cntL_step (d := d) h5 hlt)
     obtain ⟨E, hE⟩ : ∃ E, E = cntE d (.mk xk xv2 xn2 xs) := ⟨_, rfl⟩
     have hE1 : (E : Int) ≤ 46500000000000 := by
      have := cntE_le d (.mk xk xv2 xn2 xs) (HX.out ▸ okL_get HOK.out hlt)
      have h2 : (d + 1) * 1500000000000 ≤ 31 * 1500000000000 := Nat.mul_le_mul_right _ (by omega)
      omega
     have hE0 : 1 ≤ E := by rw [hE]; exact cntE_pos _ _
     have HED := hiD hE
     rw [← hE] at HC
     have HC := hiD HC
     clear hl hr hxs hxd hE
     go_wp2_with fail
     refine HC.out.mono ?_
     rintro r w5 ⟨rfl, b5⟩
     have HB5 := hiD (HI.out.trans (b5.mono HI.out.size))
     have HA5 := hiD (HAI.out.later b5)
     clear b5
     go_wp2_with fail
     go_roundw
     case rel => exact ⟨i + 1, N + E, by omega, by omega, by go_num, by go_num, by omega, by show _ = _; rw [← HNT.out, HST.out, ← HX.out, ← HED.out], HB5.out, HA5.out⟩
     case measure => simp [intOf]; omega
    ·have h51 : ¬ (N : Int) < 500 := by omega
     have HR2 : Hid (cntE (d + 1) (.mk k xv xn ks) = N) := by show _ = _; rw [HT.out, ← HNT.out, cntL_stop h5]
     go_wp2_with fail
     go_ret
     exact ⟨by rw [HR2.out]; rfl, HI.out⟩
   ·have hi1 : ¬ (i : Int) < ks.length := by omega
    have HR2 : Hid (cntE (d + 1) (.mk k xv xn ks) = N) := by show _ = _; rw [HT.out, ← HNT.out, List.drop_of_length_le (by omega)]; unfold cntL; rfl
    go_wp2_with fail
    go_ret
    exact ⟨by rw [HR2.out]; rfl, HI.out⟩
set_option maxRecDepth 100000 in
theorem few_any (e : Ex) (v : Value) (P : Nat → Prop) (w : World) (hok : okE bigM e) (h : RdE P w e v) (hP : ∀ b, P b → b < w.heap.size) : Calls Tryz.prog 15 #[v] w fun r w' => r = .returned (.bool (decide (cntE 31 e ≤ 150))) ∧ Below w.heap.size w w' := by
 have HOK := hiD hok
 have H := hiD h
 obtain ⟨q, c, rfl, hc, hk⟩ := h.form
 obtain ⟨k, xv, xn, ks⟩ := e
 unfold exv
 show Calls _ _ #[.agg #[.int .i64 k, .string (bstr xv), .string (bstr xn), .slice q ks.length c]] _ _
 have HK : Hid (0 < ks.length → ∃ b o, q = some ⟨b, o, none⟩ ∧ P b ∧ RdL P w ks b o) := hk
 have HB0 : Hid (Below w.heap.size w (w.alloc (.cells #[.int .i64 k, .string (bstr xv), .string (bstr xn), .slice q ks.length c] 42))) := (Below.refl _ _).alloc (Nat.le_refl _) _
 have HC := count_any 31 (.mk k xv xn ks) _ P (w.alloc (.cells #[.int .i64 k, .string (bstr xv), .string (bstr xn), .slice q ks.length c] 42)) (Nat.le_refl _) HOK.out (H.out.below HB0.out hP) (fun b hb => Nat.lt_of_lt_of_le (hP b hb) HB0.out.size)
 rw [show (31 - ((31 : Nat) : Int)) = 0 by rfl] at HC
 have HC := hiD HC
 clear h hc hk hok
 go_enter Tryz.func15, Tryz.ntmps15
 go_wp2_with fail
 refine HC.out.mono ?_
 rintro r w5 ⟨rfl, b5⟩
 have HB5 := hiD (HB0.out.trans (b5.mono HB0.out.size))
 clear b5
 go_wp2_with fail
 go_ret
 exact ⟨ret_b (by rw [decide_eq_decide]; omega), HB5.out⟩
def CellsL (P : Nat → Prop) (w : World) : List Ex → List Value → Prop
 | [], [] => True
 | e :: r, v0 :: v1 :: v2 :: v3 :: cs => RdE P w e (.agg #[v0, v1, v2, v3]) ∧ CellsL P w r cs
 | _, _ => False
theorem CellsL.keep {P : Nat → Prop} {w w' : World} (hk : ∀ b, P b → ∀ n, w'.cell? ⟨b, n, none⟩ = w.cell? ⟨b, n, none⟩) : ∀ {ks : List Ex} {cs : List Value}, CellsL P w ks cs → CellsL P w' ks cs
 | [], [], _ => trivial
 | e :: r, v0 :: v1 :: v2 :: v3 :: cs, h => ⟨RdE.keep hk h.1, CellsL.keep hk h.2⟩
 | [], _ :: _, h => h.elim
 | _ :: _, [], h => h.elim
 | _ :: _, [_], h => h.elim
 | _ :: _, [_, _], h => h.elim
 | _ :: _, [_, _, _], h => h.elim
theorem CellsL.imp {P Q : Nat → Prop} {w : World} (hPQ : ∀ b, P b → Q b) : ∀ {ks : List Ex} {cs : List Value}, CellsL P w ks cs → CellsL Q w ks cs
 | [], [], _ => trivial
 | e :: r, v0 :: v1 :: v2 :: v3 :: cs, h => ⟨RdE.imp hPQ h.1, CellsL.imp hPQ h.2⟩
 | [], _ :: _, h => h.elim
 | _ :: _, [], h => h.elim
 | _ :: _, [_], h => h.elim
 | _ :: _, [_, _], h => h.elim
 | _ :: _, [_, _, _], h => h.elim
theorem CellsL.snoc {P : Nat → Prop} {w : World} {e : Ex} {v0 v1 v2 v3 : Value} (he : RdE P w e (.agg #[v0, v1, v2, v3])) : ∀ {ks : List Ex} {cs : List Value}, CellsL P w ks cs → CellsL P w (ks ++ [e]) (cs ++ [v0, v1, v2, v3])
 | [], [], _ => ⟨he, trivial⟩
 | e :: r, v0 :: v1 :: v2 :: v3 :: cs, h => ⟨h.1, CellsL.snoc he h.2⟩
 | [], _ :: _, h => h.elim
 | _ :: _, [], h => h.elim
 | _ :: _, [_], h => h.elim
 | _ :: _, [_, _], h => h.elim
 | _ :: _, [_, _, _], h => h.elim
theorem CellsL.rdL {P : Nat → Prop} {w : World} {b : Nat} : ∀ {ks : List Ex} {cs : List Value} {o : Nat}, CellsL P w ks cs → (∀ j u, cs[j]? = some u → w.cell? ⟨b, o + j, none⟩ = some u) → RdL P w ks b o
 | [], _, _, _, _ => by unfold RdL; trivial
 | e :: r, v0 :: v1 :: v2 :: v3 :: cs, o, h, hc => by
  unfold RdL
  refine ⟨⟨v0, v1, v2, v3, hc 0 v0 rfl, hc 1 v1 rfl, hc 2 v2 rfl, hc 3 v3 rfl, h.1⟩, CellsL.rdL h.2 fun j u hj => ?_⟩
  rw [show o + 4 + j = o + (j + 4) by omega]
  exact hc (j + 4) u hj
 | _ :: _, [], _, h, _ => h.elim
 | _ :: _, [_], _, h, _ => h.elim
 | _ :: _, [_, _], _, h, _ => h.elim
 | _ :: _, [_, _, _], _, h, _ => h.elim
theorem CellsL.ones {P : Nat → Prop} {w : World} : ∀ {ks : List Ex} {cs : List Value}, CellsL P w ks cs → ∀ u ∈ cs, u.oneCell' = true
 | [], [], _, u, hu => by cases hu
 | e :: r, v0 :: v1 :: v2 :: v3 :: cs, h, u, hu => by
  obtain ⟨q, c, h2, _⟩ := h.1.form
  unfold exv at h2
  simp only [Value.agg.injEq, Array.mk.injEq, List.cons.injEq, and_true] at h2
  obtain ⟨rfl, rfl, rfl, rfl⟩ := h2
  rcases List.mem_cons.1 hu with rfl | hu
  ·rfl
  rcases List.mem_cons.1 hu with rfl | hu
  ·rfl
  rcases List.mem_cons.1 hu with rfl | hu
  ·rfl
  rcases List.mem_cons.1 hu with rfl | hu
  ·rfl
  exact CellsL.ones h.2 u hu
 | [], _ :: _, h, _, _ => h.elim
 | _ :: _, [], h, _, _ => h.elim
 | _ :: _, [_], h, _, _ => h.elim
 | _ :: _, [_, _], h, _, _ => h.elim
 | _ :: _, [_, _, _], h, _, _ => h.elim
def Sub (base : Nat) (w : World) (v : Value) : Nat → Prop := fun b => base ≤ b ∧ b < w.heap.size ∧ some b ≠ v.ownBlock
def ExRow (base : Nat) (w : World) (v : Value) (ks : List Ex) : Prop := ∃ cs, w.ownsRow base 42 4 v ks.length cs ∧ CellsL (Sub base w v) w ks cs
theorem ExRow.nil (base : Nat) (w : World) : ExRow base w (.slice none 0 0) [] := ⟨[], World.ownsRow_nil _ _ _ _, trivial⟩
theorem ExRow.form {base : Nat} {w : World} {v : Value} {ks : List Ex} (h : ExRow base w v ks) : ∃ q c, v = .slice q ks.length c := by
 obtain ⟨cs, h1, _⟩ := h
 rcases h1.2 with ⟨h, hn⟩ | ⟨g, cap, cur, hv, _⟩
 ·exact ⟨none, 0, by rw [hn]; exact h⟩
 ·exact ⟨_, _, hv⟩
theorem ExRow.blk {base : Nat} {w : World} {v : Value} {ks : List Ex} (h : ExRow base w v ks) {b : Nat} (hb : v.ownBlock = some b) : b < w.heap.size := by
 obtain ⟨cs, h1, _⟩ := h
 rcases h1.2 with ⟨h, _⟩ | ⟨g, cap, cur, hv, h0, hg, _⟩
 ·rw [h] at hb; cases hb
 ·rw [hv] at hb; cases hb; exact (Array.getElem?_eq_some_iff.1 hg).1
theorem ExRow.later {base : Nat} {w w' : World} {v : Value} {ks : List Ex} (h : ExRow base w v ks) (hb : Below w.heap.size w w') : ExRow base w' v ks := by
 obtain ⟨cs, h1, h2⟩ := h
 refine ⟨cs, ⟨h1.1, ?_⟩, (h2.keep (cells_below hb fun b hb => hb.2.1)).imp fun b h => ⟨h.1, Nat.lt_of_lt_of_le h.2.1 hb.size, h.2.2⟩⟩
 rcases h1.2 with h | ⟨g, cap, cur, rfl, h0, hg, r⟩
 ·exact .inl h
 ·exact .inr ⟨g, cap, cur, rfl, h0, (hb.block g (Array.getElem?_eq_some_iff.1 hg).1).trans hg, r⟩
theorem ExRow.set {base : Nat} {w : World} {v : Value} {ks : List Ex} (h : ExRow base w v ks) {a : Addr} (ha : a.block < base) (x : Value) : ExRow base (w.setCell a x) v ks := by
 obtain ⟨cs, h1, h2⟩ := h
 have hs : (w.setCell a x).heap.size = w.heap.size := by simp [World.setCell]
 refine ⟨cs, ⟨h1.1, ?_⟩, ?_⟩
 ·rcases h1.2 with h | ⟨g, cap, cur, rfl, h0, hg, r⟩
  ·exact .inl h
  ·exact .inr ⟨g, cap, cur, rfl, h0, (Below.heap_setCell w a x g (by omega)).trans hg, r⟩
 ·refine (h2.keep fun b hb n => ?_).imp fun b h => ⟨h.1, by rw [hs]; exact h.2.1, h.2.2⟩
  exact World.cell?_of_block (Below.heap_setCell w a x b (by have := hb.1; omega))
theorem ExRow.rd {base : Nat} {w : World} {q : Option Addr} {n c : Nat} {ks : List Ex} (h : ExRow base w (.slice q n c) ks) (k : Int) (via nm : List UInt8) : RdE (Bt base w.heap.size) w (.mk k via nm ks) (.agg #[.int .i64 k, .string (bstr via), .string (bstr nm), .slice q n c]) := by
 obtain ⟨cs, h1, h2⟩ := h
 unfold RdE
 rcases h1.2 with ⟨hv, hn⟩ | ⟨g, cap, cur, hv, h0, hg, hcap, _, hcz, htk⟩
 ·simp only [Value.slice.injEq] at hv
  obtain ⟨rfl, rfl, rfl⟩ := hv
  exact ⟨none, 0, by rw [hn], by omega, fun h => by omega⟩
 ·simp only [Value.slice.injEq] at hv
  obtain ⟨rfl, rfl, rfl⟩ := hv
  refine ⟨_, _, rfl, hcap, fun _ => ⟨g, 0, rfl, ⟨h0, (Array.getElem?_eq_some_iff.1 hg).1⟩, ?_⟩⟩
  refine (h2.rdL fun j u hj => ?_).imp fun b h => ⟨h.1, h.2.1⟩
  rw [Nat.zero_add]
  have hjl : j < cs.length := (List.getElem?_eq_some_iff.1 hj).1
  rw [cell_of_row w g _ cur _ (0, 0) hg, ← Array.getElem?_toList]
  rw [← htk, List.getElem?_take, if_pos (by rw [h1.1] at hjl; exact hjl)] at hj
  exact hj
theorem Tryz.infoEx : (Tryz.prog.info? 42).map (fun i => (i.zero, i.size, i.bytes)) = some (some (.agg #[.int .i64 0, .string ByteArray.empty, .string ByteArray.empty, .slice none 0 0]), 4, 64) := by kernel_rfl
theorem app_ex {ops : Array Oper} {rest : List Oper} {o : Oper} {a : Act} {Q : Exit → Act → World → Prop} {w : World} (hgd : o.guard = none) (s x : Operand) (ho : o.op = .call { callee := .builtin .append, args := #[s, x], argTypes := #[40, 40] })
  {base n : Nat} {v : Value} {ks : List Ex} {e : Ex} {v0 v1 v2 v3 : Value} (hs : a.eval s = v) (hown : ExRow base w v ks) (hx : a.eval x = .slice (some ⟨n, 0, none⟩) 1 1) (hc : Arr w 42 n [v0, v1, v2, v3])
  (he : RdE (Sub base w v) w e (.agg #[v0, v1, v2, v3])) (hlen : ks.length + 1 ≤ 1000000) (hbase : base ≤ w.heap.size)
  (h : ∀ v' w', ExRow base w' v' (ks ++ [e]) → Below base w w' → w.grownBy w' v.ownBlock → wpList Tryz.prog ops Q rest (a.put o.dst v') w') : wpList Tryz.prog ops Q (o :: rest) a w := by
 obtain ⟨i0, hi, hz0, hz1, hz2⟩ := info_parts Tryz.infoEx
 obtain ⟨cs, h1, h2⟩ := hown
 have hone : CellsL (Sub base w v) w [e] [v0, v1, v2, v3] := ⟨he, trivial⟩
 refine wpList_append_own_at w hgd s x 40 ho base 42 i0 _ 4 64 Tryz.underlying40 hi hz0 hz1 hz2 rfl (by decide) v ks.length cs hs h1 ⟨n, 0, none⟩ 1 1 [v0, v1, v2, v3] hx rfl ?_ hone.ones (by unfold maxLen; omega) (by omega) hbase ?_
 ·intro j u hu
  have := hc.cell j
  rw [hu] at this
  cases j <;> simpa [Addr.add] using this
 ·intro v' w' r1 r2 _ r4
  have hb : Below base w w' := (Below.refl _ _).grown r2 hbase (fun k hk => (h1.lt k hk).1)
  refine h v' w' ⟨cs ++ [v0, v1, v2, v3], by rw [List.length_append]; exact r1, ?_⟩ hb r2
  have hk : ∀ b, Sub base w v b → ∀ m, w'.cell? ⟨b, m, none⟩ = w.cell? ⟨b, m, none⟩ := fun b hb m => World.cell?_of_block (r2.block b hb.2.1 hb.2.2)
  have hS : ∀ b, Sub base w v b → Sub base w' v' b := fun b hb => ⟨hb.1, Nat.lt_of_lt_of_le hb.2.1 r2.size, by
   rcases r4 with r4 | r4
   ·rw [r4]; exact hb.2.2
   ·rw [r4]; intro e; have := Option.some.inj e; have := hb.2.1; omega⟩
  exact CellsL.snoc ((he.keep hk).imp hS) ((h2.keep hk).imp hS)
theorem Arr.set4 {w : World} {t : TypeId} {g : Nat} {a b c d : Value} (h : Arr w t g [a, b, c, d]) (x0 x1 x2 x3 : Value) : Arr ((((w.setCell ⟨g, 0, none⟩ x0).setCell ⟨g, 1, none⟩ x1).setCell ⟨g, 2, none⟩ x2).setCell ⟨g, 3, none⟩ x3) t g [x0, x1, x2, x3] := (((h.set 0 x0).set 1 x1).set 2 x2).set 3 x3
theorem below_set4 {B : Nat} {w0 w : World} {g : Nat} (h : Below B w0 w) (hg : B ≤ g) (x0 x1 x2 x3 : Value) : Below B w0 ((((w.setCell ⟨g, 0, none⟩ x0).setCell ⟨g, 1, none⟩ x1).setCell ⟨g, 2, none⟩ x2).setCell ⟨g, 3, none⟩ x3) :=
  (((h.setCell (p := ⟨g, 0, none⟩) hg _).setCell (p := ⟨g, 1, none⟩) hg _).setCell (p := ⟨g, 2, none⟩) hg _).setCell (p := ⟨g, 3, none⟩) hg _
theorem ExRow.set4 {base : Nat} {w : World} {v : Value} {ks : List Ex} (h : ExRow base w v ks) {g : Nat} (hg : g < base) (x0 x1 x2 x3 : Value) : ExRow base ((((w.setCell ⟨g, 0, none⟩ x0).setCell ⟨g, 1, none⟩ x1).setCell ⟨g, 2, none⟩ x2).setCell ⟨g, 3, none⟩ x3) v ks :=
  (((h.set (a := ⟨g, 0, none⟩) hg x0).set (a := ⟨g, 1, none⟩) hg x1).set (a := ⟨g, 2, none⟩) hg x2).set (a := ⟨g, 3, none⟩) hg x3
theorem resE {fn : Func} {p : Tmp} (h : fn.results = #[.cell p 42]) {tmps : Array Value} {w : World} {g : Nat} {a b c d : Value} (hA : Arr w 42 g [a, b, c, d]) (hp : tmps.getD p undef = .pointer (some ⟨g, 0, none⟩)) :
    (results fn tmps).run Tryz.prog w = .ok (.agg #[a, b, c, d]) w :=
  results_cell_row h tmps w g 42 #[a, b, c, d] (0, 0) _ hp hA Tryz.underlying42 rfl (by kernel_rfl)
def ClPost (e : Ex) (w : World) (r : Ending) (w' : World) : Prop := ∃ v', r = .returned v' ∧ RdE (Bt w.heap.size w'.heap.size) w' e v' ∧ Below w.heap.size w w'
def CX (w : World) (A : List Value) (v : Value) (ks : List Ex) (W : World) : Prop :=
  Arr W 42 w.heap.size A ∧ Arr W 42 (w.heap.size + 1) [.int .i64 0, .string ByteArray.empty, .string ByteArray.empty, .slice none 0 0] ∧ ExRow (w.heap.size + 2) W v ks ∧ Below w.heap.size w W ∧ w.heap.size + 2 ≤ W.heap.size
theorem CX.later {w W W' : World} {A : List Value} {v : Value} {ks : List Ex} (h : CX w A v ks W) (hb : Below W.heap.size W W') : CX w A v ks W' :=
  ⟨h.1.later hb, h.2.1.later hb, h.2.2.1.later hb, h.2.2.2.1.trans (hb.mono h.2.2.2.1.size), Nat.le_trans h.2.2.2.2 hb.size⟩
theorem CX.row {w W W' : World} {A : List Value} {v v' : Value} {ks ks' : List Ex} (h : CX w A v ks W) (hT : ExRow (w.heap.size + 2) W' v' ks') (hb : Below (w.heap.size + 2) W W') : CX w A v' ks' W' :=
  ⟨h.1.below hb (by omega), h.2.1.below hb (by omega), hT, h.2.2.2.1.trans (hb.mono (by omega)), Nat.le_trans h.2.2.2.2 hb.size⟩
theorem step_ex {ops : Array Oper} {o : Oper} {a : Act} {w : World} {K : Act → World → Prop} {Q : Exit → Act → World → Prop} {E : Prop} (hgd : o.guard = none) (s x : Operand) (ho : o.op = .call { callee := .builtin .append, args := #[s, x], argTypes := #[40, 40] })
    {base n : Nat} {v : Value} {ks : List Ex} {e : Ex} {v0 v1 v2 v3 : Value} (hs : a.eval s = v) (hown : ExRow base w v ks) (hx : a.eval x = .slice (some ⟨n, 0, none⟩) 1 1) (hc : Arr w 42 n [v0, v1, v2, v3])
    (he : RdE (Sub base w v) w e (.agg #[v0, v1, v2, v3])) (hlen : ks.length + 1 ≤ 1000000) (hbase : base ≤ w.heap.size)
    (hK : ∀ v' w', ExRow base w' v' (ks ++ [e]) → Below base w w' → K (a.put o.dst v') w') : if Region.wanted o (yielded ops a.tmps) = true then Oper.wp Tryz.prog o a w K Q else E := by
  have hw : Region.wanted o (yielded ops a.tmps) = true := by simp [Region.wanted, hgd]
  rw [if_pos hw]
  obtain ⟨i0, hi, hz0, hz1, hz2⟩ := info_parts Tryz.infoEx
  obtain ⟨cs, h1, h2⟩ := hown
  have hone : CellsL (Sub base w v) w [e] [v0, v1, v2, v3] := ⟨he, trivial⟩
  obtain ⟨v', w', hrun, r1, r2, _, r4⟩ := run_append_own_at (P := Tryz.prog) w base 40 o.type 42 i0 _ 4 64 Tryz.underlying40 hi hz0 hz1 hz2 rfl (by decide) v ks.length cs h1 ⟨n, 0, none⟩ 1 1 [v0, v1, v2, v3] rfl
    (fun j u hu => by
      have := hc.cell j
      rw [hu] at this
      cases j <;> simpa [Addr.add] using this) hone.ones (by unfold maxLen; omega) (by omega) hbase
  unfold Oper.wp
  simp [execOp, ho, resolve, invoke, builtin, hs, hx, hrun, Result.andThen]
  have hb : Below base w w' := (Below.refl _ _).grown r2 hbase (fun k hk => (h1.lt k hk).1)
  refine hK v' w' ⟨cs ++ [v0, v1, v2, v3], by rw [List.length_append]; exact r1, ?_⟩ hb
  have hk : ∀ b, Sub base w v b → ∀ m, w'.cell? ⟨b, m, none⟩ = w.cell? ⟨b, m, none⟩ := fun b hb m => World.cell?_of_block (r2.block b hb.2.1 hb.2.2)
  have hS : ∀ b, Sub base w v b → Sub base w' v' b := fun b hb => ⟨hb.1, Nat.lt_of_lt_of_le hb.2.1 r2.size, by
    rcases r4 with r4 | r4
    · rw [r4]; exact hb.2.2
    · rw [r4]; intro e; have := Option.some.inj e; have := hb.2.1; omega⟩
  exact CellsL.snoc ((he.keep hk).imp hS) ((h2.keep hk).imp hS)
def CR (w : World) (A : List Value) (a b c : Value) (v : Value) (ks : List Ex) (W : World) : Prop :=
  Arr W 42 w.heap.size A ∧ Arr W 42 (w.heap.size + 1) [.int .i64 0, .string ByteArray.empty, .string ByteArray.empty, .slice none 0 0] ∧ Arr W 42 (w.heap.size + 2) [a, b, c, v] ∧ ExRow (w.heap.size + 3) W v ks ∧ Below w.heap.size w W ∧ w.heap.size + 3 ≤ W.heap.size
theorem CR.later {w W W' : World} {A : List Value} {a b c v : Value} {ks : List Ex} (h : CR w A a b c v ks W) (hb : Below W.heap.size W W') : CR w A a b c v ks W' :=
  ⟨h.1.later hb, h.2.1.later hb, h.2.2.1.later hb, h.2.2.2.1.later hb, h.2.2.2.2.1.trans (hb.mono h.2.2.2.2.1.size), Nat.le_trans h.2.2.2.2.2 hb.size⟩
theorem CR.row {w W W' : World} {A : List Value} {a b c v v' : Value} {ks ks' : List Ex} (h : CR w A a b c v ks W) (hT : ExRow (w.heap.size + 3) W' v' ks') (hb : Below (w.heap.size + 3) W W') : CR w A a b c v' ks' (W'.setCell ⟨w.heap.size + 2, 3, none⟩ v') :=
  ⟨(h.1.below hb (by omega)).setCell (by simp) _, (h.2.1.below hb (by omega)).setCell (by simp) _, (h.2.2.1.below hb (by omega)).set 3 v', hT.set (by simp) _, (h.2.2.2.2.1.trans (hb.mono (by omega))).setCell (p := ⟨w.heap.size + 2, 3, none⟩) (by simp) _, by simpa [World.setCell] using Nat.le_trans h.2.2.2.2.2 hb.size⟩
def sgK (k : Int) : List UInt8 := if k = 3 then [32, 43, 32] else if k = 4 then [32, 38, 32] else [32, 45, 32]
set_option maxRecDepth 100000 in
theorem mkLeaves_any (k : Int) (xv xn : List UInt8) (q : Option Addr) (m c : Nat) (w : World) : Calls Tryz.prog 114 #[.agg #[.int .i64 k, .string (bstr xv), .string (bstr xn), .slice q m c]] w fun r w' => r = .returned (.func (.func 123) #[] #[.pointer (some ⟨w.heap.size, 0, none⟩)]) ∧ w' = w.alloc (.cells #[.int .i64 k, .string (bstr xv), .string (bstr xn), .slice q m c] 42) := by
 go_enter Tryz.func114, Tryz.ntmps114
 go_wp2_with fail
 go_ret
 exact ⟨rfl, rfl⟩
def partB (k : Int) (v n : List UInt8) (m : Nat) : Bool :=
 if k = 1 then decide (m = 0) && decide (v = []) && isName (bstr n)
 else if k = 2 then decide (m = 0) && isName (bstr v) && isName (bstr n)
 else if k = 3 ∨ k = 4 then decide (2 ≤ m) && decide (v = []) && decide (n = [])
 else if k = 5 then decide (m = 2) && decide (v = []) && decide (n = [])
 else false
mutual
def formE : Ex → Bool
 | .mk k v n ks => partB k v n ks.length && formL ks
def formL : List Ex → Bool
 | [] => true
 | e :: r => formE e && formL r
end
theorem good_all : ∀ {ks : List Ex} {d : Nat}, (∀ j, j < ks.length → (decide (depthE (ks.getD j ex0) ≤ d) && formE (ks.getD j ex0)) = true) → depthL ks ≤ d ∧ formL ks = true
 | [], d, _ => ⟨by unfold depthL; omega, rfl⟩
 | e :: r, d, h => by
  have h0 := h 0 (by simp)
  simp only [List.getD_cons_zero, Bool.and_eq_true, decide_eq_true_eq] at h0
  obtain ⟨g1, g2⟩ := good_all (ks := r) (d := d) (fun j hj => by have := h (j + 1) (by simpa using hj); simpa using this)
  unfold depthL formL
  exact ⟨by omega, by rw [h0.2, g2]; rfl⟩
theorem formL_get : ∀ {ks : List Ex} {j : Nat}, j < ks.length → formL ks = true → formE (ks.getD j ex0) = true
 | [], _, h, _ => by simp at h
 | e :: r, 0, _, h => by unfold formL at h; simp only [Bool.and_eq_true] at h; exact h.1
 | e :: r, j + 1, hj, h => by unfold formL at h; simp only [Bool.and_eq_true] at h; exact formL_get (j := j) (by simpa using hj) h.2
theorem bad_one {k : Int} {v n : List UInt8} {ks : List Ex} {d j : Nat} (hj : j < ks.length) (h : (decide (depthE (ks.getD j ex0) ≤ d) && formE (ks.getD j ex0)) = false) : (decide (depthE (.mk k v n ks) ≤ d + 1) && formE (.mk k v n ks)) = false := by
 rw [Bool.eq_false_iff] at h ⊢
 intro e
 simp only [Bool.and_eq_true, decide_eq_true_eq] at e
 refine h ?_
 simp only [Bool.and_eq_true, decide_eq_true_eq]
 obtain ⟨e1, e2⟩ := e
 unfold depthE at e1
 unfold formE at e2
 simp only [Bool.and_eq_true] at e2
 have := depthL_get ks j hj
 exact ⟨by omega, formL_get hj e2.2⟩
theorem all_good {k : Int} {v n : List UInt8} {ks : List Ex} {d : Nat} (h : ∀ j, j < ks.length → (decide (depthE (ks.getD j ex0) ≤ d) && formE (ks.getD j ex0)) = true) : (decide (depthE (.mk k v n ks) ≤ d + 1) && formE (.mk k v n ks)) = partB k v n ks.length := by
 obtain ⟨h1, h2⟩ := good_all h
 unfold depthE formE
 rw [h2, decide_eq_true (by omega)]; simp
theorem bstr_nil {l : List UInt8} (h : l = []) : ((bstr l).toList == []) = true := by rw [toList_data, bstr_data, h]; rfl
theorem bstr_nnil {l : List UInt8} (h : ¬ l = []) : ((bstr l).toList == []) = false := by rw [toList_data, bstr_data, beq_eq_false_iff_ne]; exact h
set_option maxRecDepth 100000 in
set_option maxHeartbeats 8000000 in
theorem rright_any : ∀ (d : Nat) (e : Ex) (v : Value) (P : Nat → Prop) (w : World), d ≤ 31 → okE 100000 e → sizeE e ≤ 900000 → RdE P w e v → (∀ b, P b → b < w.heap.size) → Calls Tryz.prog 40 #[v, .int .i64 (d : Nat)] w fun r w' => r = .returned (.bool (decide (depthE e ≤ d) && formE e)) ∧ Below w.heap.size w w' := by
 intro d
 induction d with
 | zero =>
  intro e v P w _ hok hm h hP
  have HD : Hid ((decide (depthE e ≤ 0) && formE e) = false) := by show _ = _; have := depthE_pos e; rw [decide_eq_false (by omega)]; rfl
  rw [HD.out]
  obtain ⟨q, c, rfl, hc, hk⟩ := h.form
  obtain ⟨k, xv, xn, ks⟩ := e
  unfold exv
  show Calls _ _ #[.agg #[.int .i64 k, .string (bstr xv), .string (bstr xn), .slice q ks.length c], .int .i64 0] _ _
  have HK : Hid (0 < ks.length → ∃ b o, q = some ⟨b, o, none⟩ ∧ P b ∧ RdL P w ks b o) := hk
  have HB0 : Hid (Below w.heap.size w (w.alloc (.cells #[.int .i64 k, .string (bstr xv), .string (bstr xn), .slice q ks.length c] 42))) := (Below.refl _ _).alloc (Nat.le_refl _) _
  clear h hc hk hok hm
  go_enter Tryz.func40, Tryz.ntmps40
  go_wp2_with fail
  go_ret
  exact ⟨rfl, HB0.out⟩
 | succ d ih =>
  intro e v P w hd hok hm h hP
  obtain ⟨q, c, rfl, hc, hk⟩ := h.form
  obtain ⟨k, xv, xn, ks⟩ := e
  unfold exv
  show Calls _ _ #[.agg #[.int .i64 k, .string (bstr xv), .string (bstr xn), .slice q ks.length c], .int .i64 ((d + 1 : Nat) : Int)] _ _
  have HK : Hid (0 < ks.length → ∃ b o, q = some ⟨b, o, none⟩ ∧ P b ∧ RdL P w ks b o) := hk
  unfold okE at hok
  have HOK := hiD hok.2.2
  have HIH := hiD ih
  have hv1 : (bstr xv).size ≤ 1000000 := by rw [bstr_size]; omega
  have hn1 : (bstr xn).size ≤ 1000000 := by rw [bstr_size]; omega
  have HV := hiD (fun W => risName_any (bstr xv) hv1 W)
  have HN := hiD (fun W => risName_any (bstr xn) hn1 W)
  have hkm : sizeL ks ≤ 900000 := by unfold sizeE at hm; omega
  have hlen := sizeL_len ks
  have bd0 : ((d : Int) + 1 == 0) = false := by rw [beq_eq_false_iff_ne]; omega
  have hd1 : (d : Int) ≤ 30 := by omega
  rw [show ((d + 1 : Nat) : Int) = (d : Int) + 1 by omega]
  have HB0 : Hid (Below w.heap.size w (w.alloc (.cells #[.int .i64 k, .string (bstr xv), .string (bstr xn), .slice q ks.length c] 42))) := (Below.refl _ _).alloc (Nat.le_refl _) _
  have HA0 : Hid (Arr (w.alloc (.cells #[.int .i64 k, .string (bstr xv), .string (bstr xn), .slice q ks.length c] 42)) 42 w.heap.size [.int .i64 k, .string (bstr xv), .string (bstr xn), .slice q ks.length c]) := Arr.new' _ _ _ _ rfl
  clear h ih hc hk hok hm hv1 hn1
  go_enter Tryz.func40, Tryz.ntmps40
  go_wp2_with fail
  go_loopw [6] (fun iv wr => ∃ i : Nat, i ≤ ks.length ∧ iv = .int .i64 i ∧ Hid (∀ j, j < i → (decide (depthE (ks.getD j ex0) ≤ d) && formE (ks.getD j ex0)) = true) ∧ Hid (Below w.heap.size w wr ∧ Arr wr 42 w.heap.size [.int .i64 k, .string (bstr xv), .string (bstr xn), .slice q ks.length c])) (fun iv _ => ks.length - (intOf iv).toNat)
  case atStart => exact ⟨0, Nat.zero_le _, rfl, fun j hj => absurd hj (Nat.not_lt_zero _), HB0.out, HA0.out⟩
  case round =>
   obtain ⟨i, hi, rfl, HG, HI2⟩ := hrel
   have HI := hiD HI2.out.1
   have HAI := hiD HI2.out.2
   have hq0 := HAI.out.cell 0
   have hq1 := HAI.out.cell 1
   have hq2 := HAI.out.cell 2
   have hq3 := HAI.out.cell 3
   simp only [List.getElem?_cons_zero, List.getElem?_cons_succ] at hq0 hq1 hq2 hq3
   have hi0 : (0 : Int) ≤ i := by omega
   clear HI2
   by_cases hlt : i < ks.length
   ·have hi1 : (i : Int) < ks.length := by omega
    obtain ⟨ba, oa, rfl, hba, hl⟩ := HK.out (by omega)
    obtain ⟨x, hx⟩ : ∃ x, x = ks.getD i ex0 := ⟨_, rfl⟩
    obtain ⟨q2, c2, x0, x1, x2, x3, hr⟩ := hl.at hlt
    have hxs := sizeL_get ks i hlt
    have hxd := depthL_get ks i hlt
    rw [← hx] at x0 x1 x2 x3 hr hxs hxd
    have HX := hiD hx
    obtain ⟨xk, xv2, xn2, xs⟩ := x
    have cc : ∀ n, wr.cell? ⟨ba, n, none⟩ = w.cell? ⟨ba, n, none⟩ := fun n => (HI.out).cell (p := ⟨ba, n, none⟩) (hP _ hba)
    have X0 : wr.cell? ⟨ba, oa + i * 4, none⟩ = some (.int .i64 xk) := (cc _).trans x0
    have X1 : wr.cell? ⟨ba, oa + i * 4 + 1, none⟩ = some (.string (bstr xv2)) := (cc _).trans x1
    have X2 : wr.cell? ⟨ba, oa + i * 4 + 2, none⟩ = some (.string (bstr xn2)) := (cc _).trans x2
    have X3 : wr.cell? ⟨ba, oa + i * 4 + 3, none⟩ = some (.slice q2 xs.length c2) := (cc _).trans x3
    clear x0 x1 x2 x3 cc hx
    have HR : Hid (RdE P wr (.mk xk xv2 xn2 xs) (.agg #[.int .i64 xk, .string (bstr xv2), .string (bstr xn2), .slice q2 xs.length c2])) := hr.below (HI.out) hP
    have HC := hiD (HIH.out (.mk xk xv2 xn2 xs) _ P _ (by omega) (HX.out ▸ okL_get HOK.out hlt) (by omega) HR.out (fun b hb => Nat.lt_of_lt_of_le (hP b hb) HI.out.size))
    obtain ⟨E, hE⟩ : ∃ E, E = (decide (depthE (.mk xk xv2 xn2 xs) ≤ d) && formE (.mk xk xv2 xn2 xs)) := ⟨_, rfl⟩
    rw [← hE] at HC
    have HED := hiD hE
    have HLT : Hid (i < ks.length) := hlt
    clear hl hr hxs hxd hE
    go_wp2_with fail
    refine HC.out.mono ?_
    rintro r w5 ⟨rfl, b5⟩
    have HB5 := hiD (HI.out.trans (b5.mono HI.out.size))
    have HA5 := hiD (HAI.out.later b5)
    clear b5
    cases hEb : E with
    | false =>
     have HBD : Hid ((decide (depthE (.mk k xv xn ks) ≤ d + 1) && formE (.mk k xv xn ks)) = false) := bad_one HLT.out (by rw [← HX.out, ← HED.out, hEb])
     clear hEb
     go_wp2_with fail
     go_ret
     exact ⟨by rw [HBD.out]; rfl, HB5.out⟩
    | true =>
     have HEB := hiD hEb
     clear hEb
     go_wp2_with fail
     go_roundw
     case rel =>
      refine ⟨i + 1, by omega, by go_num, fun j hj => ?_, HB5.out, HA5.out⟩
      by_cases e : j = i
      ·subst e; rw [← HX.out, ← HED.out, HEB.out]
      ·exact HG.out j (by omega)
     case measure => simp [intOf]; omega
   ·have hi1 : ¬ (i : Int) < ks.length := by omega
    have HF : Hid ((decide (depthE (.mk k xv xn ks) ≤ d + 1) && formE (.mk k xv xn ks)) = partB k xv xn ks.length) := all_good fun j hj => HG.out j (by omega)
    by_cases h1 : k = 1
    ·by_cases hz : ks.length = 0
     ·by_cases hv : xv = []
      ·have HP : Hid (partB k xv xn ks.length = isName (bstr xn)) := by show _ = _; unfold partB; simp [*]
       have b1 : (k == 1) = true := by rw [h1]; rfl
       have bz : ((ks.length : Int) == 0) = true := by rw [hz]; rfl
       have ev := bstr_nil hv
       clear h1 hv hz
       go_wp2_with fail
       refine (HN.out _).mono ?_
       rintro r w6 ⟨rfl, hw⟩
       subst hw
       go_wp2_with fail
       go_ret
       exact ⟨by rw [HF.out, HP.out]; rfl, HI.out⟩
      ·have HP : Hid (partB k xv xn ks.length = false) := by show _ = _; unfold partB; simp [*]
       have b1 : (k == 1) = true := by rw [h1]; rfl
       have bz : ((ks.length : Int) == 0) = true := by rw [hz]; rfl
       have ev := bstr_nnil hv
       clear h1 hv hz
       go_wp2_with fail
       go_ret
       exact ⟨by rw [HF.out, HP.out]; rfl, HI.out⟩
     ·have HP : Hid (partB k xv xn ks.length = false) := by show _ = _; unfold partB; simp [*]
      have b1 : (k == 1) = true := by rw [h1]; rfl
      have bz : ((ks.length : Int) == 0) = false := by rw [beq_eq_false_iff_ne]; omega
      clear h1 hz
      go_wp2_with fail
      go_ret
      exact ⟨by rw [HF.out, HP.out]; rfl, HI.out⟩
    ·by_cases h2 : k = 2
     ·by_cases hz : ks.length = 0
      ·cases hB : isName (bstr xv) with
       | false =>
        have HP : Hid (partB k xv xn ks.length = false) := by show _ = _; unfold partB; simp [*]
        have HVb := HV.out
        rw [hB] at HVb
        have HVb := hiD HVb
        have b1 : (k == 1) = false := by rw [beq_eq_false_iff_ne]; exact h1
        have b2 : (k == 2) = true := by rw [h2]; rfl
        have bz : ((ks.length : Int) == 0) = true := by rw [hz]; rfl
        clear h1 h2 hz
        clear hB
        go_wp2_with fail
        refine (HVb.out _).mono ?_
        rintro r w6 ⟨rfl, hw⟩
        subst hw
        go_wp2_with fail
        go_ret
        exact ⟨by rw [HF.out, HP.out]; rfl, HI.out⟩
       | true =>
        have HP : Hid (partB k xv xn ks.length = isName (bstr xn)) := by show _ = _; unfold partB; simp [*]
        have HVb := HV.out
        rw [hB] at HVb
        have HVb := hiD HVb
        have b1 : (k == 1) = false := by rw [beq_eq_false_iff_ne]; exact h1
        have b2 : (k == 2) = true := by rw [h2]; rfl
        have bz : ((ks.length : Int) == 0) = true := by rw [hz]; rfl
        clear h1 h2 hz
        clear hB
        go_wp2_with fail
        refine (HVb.out _).mono ?_
        rintro r w6 ⟨rfl, hw⟩
        subst hw
        go_wp2_with fail
        refine (HN.out _).mono ?_
        rintro r w7 ⟨rfl, hw⟩
        subst hw
        go_wp2_with fail
        go_ret
        exact ⟨by rw [HF.out, HP.out]; rfl, HI.out⟩
      ·have HP : Hid (partB k xv xn ks.length = false) := by show _ = _; unfold partB; simp [*]
       have b1 : (k == 1) = false := by rw [beq_eq_false_iff_ne]; exact h1
       have b2 : (k == 2) = true := by rw [h2]; rfl
       have bz : ((ks.length : Int) == 0) = false := by rw [beq_eq_false_iff_ne]; omega
       clear h1 h2 hz
       go_wp2_with fail
       go_ret
       exact ⟨by rw [HF.out, HP.out]; rfl, HI.out⟩
     ·by_cases h3 : k = 3
      ·by_cases hg : 2 ≤ ks.length
       ·by_cases hv : xv = []
        ·by_cases hn : xn = []
         ·have HP : Hid (partB k xv xn ks.length = true) := by show _ = _; unfold partB; simp [*]
          have b1 : (k == 1) = false := by rw [beq_eq_false_iff_ne]; exact h1
          have b2 : (k == 2) = false := by rw [beq_eq_false_iff_ne]; exact h2
          have b3 : (k == 3) = true := by rw [h3]; rfl
          have bg : (2 : Int) ≤ ks.length := by omega
          have ev := bstr_nil hv
          have en := bstr_nil hn
          clear h1 h2 h3 hg hn hv
          go_wp2_with fail
          go_ret
          exact ⟨by rw [HF.out, HP.out]; rfl, HI.out⟩
         ·have HP : Hid (partB k xv xn ks.length = false) := by show _ = _; unfold partB; simp [*]
          have b1 : (k == 1) = false := by rw [beq_eq_false_iff_ne]; exact h1
          have b2 : (k == 2) = false := by rw [beq_eq_false_iff_ne]; exact h2
          have b3 : (k == 3) = true := by rw [h3]; rfl
          have bg : (2 : Int) ≤ ks.length := by omega
          have ev := bstr_nil hv
          have en := bstr_nnil hn
          clear h1 h2 h3 hg hn hv
          go_wp2_with fail
          go_ret
          exact ⟨by rw [HF.out, HP.out]; rfl, HI.out⟩
        ·have HP : Hid (partB k xv xn ks.length = false) := by show _ = _; unfold partB; simp [*]
         have b1 : (k == 1) = false := by rw [beq_eq_false_iff_ne]; exact h1
         have b2 : (k == 2) = false := by rw [beq_eq_false_iff_ne]; exact h2
         have b3 : (k == 3) = true := by rw [h3]; rfl
         have bg : (2 : Int) ≤ ks.length := by omega
         have ev := bstr_nnil hv
         clear h1 h2 h3 hg hv
         go_wp2_with fail
         go_ret
         exact ⟨by rw [HF.out, HP.out]; rfl, HI.out⟩
       ·have HP : Hid (partB k xv xn ks.length = false) := by show _ = _; unfold partB; simp [*]
        have b1 : (k == 1) = false := by rw [beq_eq_false_iff_ne]; exact h1
        have b2 : (k == 2) = false := by rw [beq_eq_false_iff_ne]; exact h2
        have b3 : (k == 3) = true := by rw [h3]; rfl
        have bg : ¬ (2 : Int) ≤ ks.length := by omega
        clear h1 h2 h3 hg
        go_wp2_with fail
        go_ret
        exact ⟨by rw [HF.out, HP.out]; rfl, HI.out⟩
      ·by_cases h4 : k = 4
       ·by_cases hg : 2 ≤ ks.length
        ·by_cases hv : xv = []
         ·by_cases hn : xn = []
          ·have HP : Hid (partB k xv xn ks.length = true) := by show _ = _; unfold partB; simp [*]
           have b1 : (k == 1) = false := by rw [beq_eq_false_iff_ne]; exact h1
           have b2 : (k == 2) = false := by rw [beq_eq_false_iff_ne]; exact h2
           have b3 : (k == 3) = false := by rw [beq_eq_false_iff_ne]; exact h3
           have b4 : (k == 4) = true := by rw [h4]; rfl
           have bg : (2 : Int) ≤ ks.length := by omega
           have ev := bstr_nil hv
           have en := bstr_nil hn
           clear h1 h2 h3 h4 hg hn hv
           go_wp2_with fail
           go_ret
           exact ⟨by rw [HF.out, HP.out]; rfl, HI.out⟩
          ·have HP : Hid (partB k xv xn ks.length = false) := by show _ = _; unfold partB; simp [*]
           have b1 : (k == 1) = false := by rw [beq_eq_false_iff_ne]; exact h1
           have b2 : (k == 2) = false := by rw [beq_eq_false_iff_ne]; exact h2
           have b3 : (k == 3) = false := by rw [beq_eq_false_iff_ne]; exact h3
           have b4 : (k == 4) = true := by rw [h4]; rfl
           have bg : (2 : Int) ≤ ks.length := by omega
           have ev := bstr_nil hv
           have en := bstr_nnil hn
           clear h1 h2 h3 h4 hg hn hv
           go_wp2_with fail
           go_ret
           exact ⟨by rw [HF.out, HP.out]; rfl, HI.out⟩
         ·have HP : Hid (partB k xv xn ks.length = false) := by show _ = _; unfold partB; simp [*]
          have b1 : (k == 1) = false := by rw [beq_eq_false_iff_ne]; exact h1
          have b2 : (k == 2) = false := by rw [beq_eq_false_iff_ne]; exact h2
          have b3 : (k == 3) = false := by rw [beq_eq_false_iff_ne]; exact h3
          have b4 : (k == 4) = true := by rw [h4]; rfl
          have bg : (2 : Int) ≤ ks.length := by omega
          have ev := bstr_nnil hv
          clear h1 h2 h3 h4 hg hv
          go_wp2_with fail
          go_ret
          exact ⟨by rw [HF.out, HP.out]; rfl, HI.out⟩
        ·have HP : Hid (partB k xv xn ks.length = false) := by show _ = _; unfold partB; simp [*]
         have b1 : (k == 1) = false := by rw [beq_eq_false_iff_ne]; exact h1
         have b2 : (k == 2) = false := by rw [beq_eq_false_iff_ne]; exact h2
         have b3 : (k == 3) = false := by rw [beq_eq_false_iff_ne]; exact h3
         have b4 : (k == 4) = true := by rw [h4]; rfl
         have bg : ¬ (2 : Int) ≤ ks.length := by omega
         clear h1 h2 h3 h4 hg
         go_wp2_with fail
         go_ret
         exact ⟨by rw [HF.out, HP.out]; rfl, HI.out⟩
       ·by_cases h5 : k = 5
        ·by_cases ht : ks.length = 2
         ·by_cases hv : xv = []
          ·by_cases hn : xn = []
           ·have HP : Hid (partB k xv xn ks.length = true) := by show _ = _; unfold partB; simp [*]
            have b1 : (k == 1) = false := by rw [beq_eq_false_iff_ne]; exact h1
            have b2 : (k == 2) = false := by rw [beq_eq_false_iff_ne]; exact h2
            have b3 : (k == 3) = false := by rw [beq_eq_false_iff_ne]; exact h3
            have b4 : (k == 4) = false := by rw [beq_eq_false_iff_ne]; exact h4
            have b5 : (k == 5) = true := by rw [h5]; rfl
            have bt : ((ks.length : Int) == 2) = true := by rw [ht]; rfl
            have ev := bstr_nil hv
            have en := bstr_nil hn
            clear h1 h2 h3 h4 h5 hn ht hv
            go_wp2_with fail
            go_ret
            exact ⟨by rw [HF.out, HP.out]; rfl, HI.out⟩
           ·have HP : Hid (partB k xv xn ks.length = false) := by show _ = _; unfold partB; simp [*]
            have b1 : (k == 1) = false := by rw [beq_eq_false_iff_ne]; exact h1
            have b2 : (k == 2) = false := by rw [beq_eq_false_iff_ne]; exact h2
            have b3 : (k == 3) = false := by rw [beq_eq_false_iff_ne]; exact h3
            have b4 : (k == 4) = false := by rw [beq_eq_false_iff_ne]; exact h4
            have b5 : (k == 5) = true := by rw [h5]; rfl
            have bt : ((ks.length : Int) == 2) = true := by rw [ht]; rfl
            have ev := bstr_nil hv
            have en := bstr_nnil hn
            clear h1 h2 h3 h4 h5 hn ht hv
            go_wp2_with fail
            go_ret
            exact ⟨by rw [HF.out, HP.out]; rfl, HI.out⟩
          ·have HP : Hid (partB k xv xn ks.length = false) := by show _ = _; unfold partB; simp [*]
           have b1 : (k == 1) = false := by rw [beq_eq_false_iff_ne]; exact h1
           have b2 : (k == 2) = false := by rw [beq_eq_false_iff_ne]; exact h2
           have b3 : (k == 3) = false := by rw [beq_eq_false_iff_ne]; exact h3
           have b4 : (k == 4) = false := by rw [beq_eq_false_iff_ne]; exact h4
           have b5 : (k == 5) = true := by rw [h5]; rfl
           have bt : ((ks.length : Int) == 2) = true := by rw [ht]; rfl
           have ev := bstr_nnil hv
           clear h1 h2 h3 h4 h5 ht hv
           go_wp2_with fail
           go_ret
           exact ⟨by rw [HF.out, HP.out]; rfl, HI.out⟩
         ·have HP : Hid (partB k xv xn ks.length = false) := by show _ = _; unfold partB; simp [*]
          have b1 : (k == 1) = false := by rw [beq_eq_false_iff_ne]; exact h1
          have b2 : (k == 2) = false := by rw [beq_eq_false_iff_ne]; exact h2
          have b3 : (k == 3) = false := by rw [beq_eq_false_iff_ne]; exact h3
          have b4 : (k == 4) = false := by rw [beq_eq_false_iff_ne]; exact h4
          have b5 : (k == 5) = true := by rw [h5]; rfl
          have bt : ((ks.length : Int) == 2) = false := by rw [beq_eq_false_iff_ne]; omega
          clear h1 h2 h3 h4 h5 ht
          go_wp2_with fail
          go_ret
          exact ⟨by rw [HF.out, HP.out]; rfl, HI.out⟩
        ·have HP : Hid (partB k xv xn ks.length = false) := by show _ = _; unfold partB; simp [*]
         have b1 : (k == 1) = false := by rw [beq_eq_false_iff_ne]; exact h1
         have b2 : (k == 2) = false := by rw [beq_eq_false_iff_ne]; exact h2
         have b3 : (k == 3) = false := by rw [beq_eq_false_iff_ne]; exact h3
         have b4 : (k == 4) = false := by rw [beq_eq_false_iff_ne]; exact h4
         have b5 : (k == 5) = false := by rw [beq_eq_false_iff_ne]; exact h5
         clear h1 h2 h3 h4 h5
         go_wp2_with fail
         go_ret
         exact ⟨by rw [HF.out, HP.out]; rfl, HI.out⟩
set_option maxRecDepth 100000 in
set_option maxHeartbeats 1000000 in
theorem nameless_any (k : Int) (xv xn : List UInt8) (q : Option Addr) (m c : Nat) (w : World) : Calls Tryz.prog 136 #[.agg #[.int .i64 k, .string (bstr xv), .string (bstr xn), .slice q m c]] w fun r w' => r = .returned (.bool (decide (xn = []) && decide (xv = []))) ∧ Below w.heap.size w w' := by
 have HB0 : Hid (Below w.heap.size w (w.alloc (.cells #[.int .i64 k, .string (bstr xv), .string (bstr xn), .slice q m c] 183))) := (Below.refl _ _).alloc (Nat.le_refl _) _
 by_cases hn : xn = []
 ·by_cases hv : xv = []
  ·have HP : Hid ((decide (xn = []) && decide (xv = [])) = true) := by show _ = _; simp [*]
   have en := bstr_nil hn
   have ev := bstr_nil hv
   clear hn hv
   go_enter Tryz.func136, Tryz.ntmps136
   go_wp2_with fail
   go_ret
   exact ⟨by rw [HP.out]; rfl, HB0.out⟩
  ·have HP : Hid ((decide (xn = []) && decide (xv = [])) = false) := by show _ = _; simp [*]
   have en := bstr_nil hn
   have ev := bstr_nnil hv
   clear hn hv
   go_enter Tryz.func136, Tryz.ntmps136
   go_wp2_with fail
   go_ret
   exact ⟨by rw [HP.out]; rfl, HB0.out⟩
 ·have HP : Hid ((decide (xn = []) && decide (xv = [])) = false) := by show _ = _; simp [*]
  have en := bstr_nnil hn
  clear hn
  go_enter Tryz.func136, Tryz.ntmps136
  go_wp2_with fail
  go_ret
  exact ⟨by rw [HP.out]; rfl, HB0.out⟩
set_option maxRecDepth 100000 in
set_option maxHeartbeats 1000000 in
theorem isNothing_any (k : Int) (xv xn : List UInt8) (q : Option Addr) (m c : Nat) (w : World) : Calls Tryz.prog 134 #[.agg #[.int .i64 k, .string (bstr xv), .string (bstr xn), .slice q m c]] w fun r w' => r = .returned (.bool (false)) ∧ Below w.heap.size w w' := by
 have HB0 : Hid (Below w.heap.size w (w.alloc (.cells #[.int .i64 k, .string (bstr xv), .string (bstr xn), .slice q m c] 183))) := (Below.refl _ _).alloc (Nat.le_refl _) _
 go_enter Tryz.func134, Tryz.ntmps134
 go_wp2_with fail
 go_ret
 exact ⟨rfl, HB0.out⟩
set_option maxRecDepth 100000 in
set_option maxHeartbeats 1000000 in
theorem isMany_any (k : Int) (xv xn : List UInt8) (q : Option Addr) (m c : Nat) (w : World) : Calls Tryz.prog 132 #[.agg #[.int .i64 k, .string (bstr xv), .string (bstr xn), .slice q m c]] w fun r w' => r = .returned (.bool ((decide (xn = []) && decide (xv = [])) && decide (2 ≤ m))) ∧ Below w.heap.size w w' := by
 have HB0 : Hid (Below w.heap.size w (w.alloc (.cells #[.int .i64 k, .string (bstr xv), .string (bstr xn), .slice q m c] 183))) := (Below.refl _ _).alloc (Nat.le_refl _) _
 have HA0 : Hid (Arr (w.alloc (.cells #[.int .i64 k, .string (bstr xv), .string (bstr xn), .slice q m c] 183)) 183 w.heap.size [.int .i64 k, .string (bstr xv), .string (bstr xn), .slice q m c]) := Arr.new' _ _ _ _ rfl
 have HC := hiD (nameless_any k xv xn q m c (w.alloc (.cells #[.int .i64 k, .string (bstr xv), .string (bstr xn), .slice q m c] 183)))
 obtain ⟨E, hE⟩ : ∃ E, E = (decide (xn = []) && decide (xv = [])) := ⟨_, rfl⟩
 rw [← hE] at HC ⊢
 clear hE
 cases E with
 | false =>
  have HP : Hid ((false && decide (2 ≤ m)) = false) := by show _ = _; simp [*]
  go_enter Tryz.func132, Tryz.ntmps132
  go_wp2_with fail
  refine HC.out.mono ?_
  rintro r w2 ⟨rfl, b2⟩
  have HB2 := hiD (HB0.out.trans (b2.mono HB0.out.size))
  have hq3 := (HA0.out.later b2).cell 3
  simp only [List.getElem?_cons_zero, List.getElem?_cons_succ] at hq3
  clear b2
  go_wp2_with fail
  go_ret
  exact ⟨by rw [HP.out]; first | rfl | exact congrArg (fun b => Ending.returned (.bool b)) (decide_eq_false (by omega)), HB2.out⟩
 | true =>
  by_cases hg : 2 ≤ m
  ·have HP : Hid ((true && decide (2 ≤ m)) = true) := by show _ = _; simp [*]
   have bg : (2 : Int) ≤ m := by omega
   clear hg
   go_enter Tryz.func132, Tryz.ntmps132
   go_wp2_with fail
   refine HC.out.mono ?_
   rintro r w2 ⟨rfl, b2⟩
   have HB2 := hiD (HB0.out.trans (b2.mono HB0.out.size))
   have hq3 := (HA0.out.later b2).cell 3
   simp only [List.getElem?_cons_zero, List.getElem?_cons_succ] at hq3
   clear b2
   go_wp2_with fail
   go_ret
   exact ⟨by rw [HP.out]; first | rfl | exact congrArg (fun b => Ending.returned (.bool b)) (decide_eq_false (by omega)), HB2.out⟩
  ·have HP : Hid ((true && decide (2 ≤ m)) = false) := by show _ = _; simp [*]
   have bg : ¬ (2 : Int) ≤ m := by omega
   clear hg
   go_enter Tryz.func132, Tryz.ntmps132
   go_wp2_with fail
   refine HC.out.mono ?_
   rintro r w2 ⟨rfl, b2⟩
   have HB2 := hiD (HB0.out.trans (b2.mono HB0.out.size))
   have hq3 := (HA0.out.later b2).cell 3
   simp only [List.getElem?_cons_zero, List.getElem?_cons_succ] at hq3
   clear b2
   go_wp2_with fail
   go_ret
   exact ⟨by rw [HP.out]; first | rfl | exact congrArg (fun b => Ending.returned (.bool b)) (decide_eq_false (by omega)), HB2.out⟩
set_option maxRecDepth 100000 in
set_option maxHeartbeats 1000000 in
theorem isPair_any (k : Int) (xv xn : List UInt8) (q : Option Addr) (m c : Nat) (w : World) : Calls Tryz.prog 133 #[.agg #[.int .i64 k, .string (bstr xv), .string (bstr xn), .slice q m c]] w fun r w' => r = .returned (.bool ((decide (xn = []) && decide (xv = [])) && decide (m = 2))) ∧ Below w.heap.size w w' := by
 have HB0 : Hid (Below w.heap.size w (w.alloc (.cells #[.int .i64 k, .string (bstr xv), .string (bstr xn), .slice q m c] 183))) := (Below.refl _ _).alloc (Nat.le_refl _) _
 have HA0 : Hid (Arr (w.alloc (.cells #[.int .i64 k, .string (bstr xv), .string (bstr xn), .slice q m c] 183)) 183 w.heap.size [.int .i64 k, .string (bstr xv), .string (bstr xn), .slice q m c]) := Arr.new' _ _ _ _ rfl
 have HC := hiD (nameless_any k xv xn q m c (w.alloc (.cells #[.int .i64 k, .string (bstr xv), .string (bstr xn), .slice q m c] 183)))
 obtain ⟨E, hE⟩ : ∃ E, E = (decide (xn = []) && decide (xv = [])) := ⟨_, rfl⟩
 rw [← hE] at HC ⊢
 clear hE
 cases E with
 | false =>
  have HP : Hid ((false && decide (m = 2)) = false) := by show _ = _; simp [*]
  go_enter Tryz.func133, Tryz.ntmps133
  go_wp2_with fail
  refine HC.out.mono ?_
  rintro r w2 ⟨rfl, b2⟩
  have HB2 := hiD (HB0.out.trans (b2.mono HB0.out.size))
  have hq3 := (HA0.out.later b2).cell 3
  simp only [List.getElem?_cons_zero, List.getElem?_cons_succ] at hq3
  clear b2
  go_wp2_with fail
  go_ret
  exact ⟨by rw [HP.out]; first | rfl | exact congrArg (fun b => Ending.returned (.bool b)) (decide_eq_false (by omega)), HB2.out⟩
 | true =>
  by_cases ht : m = 2
  ·have HP : Hid ((true && decide (m = 2)) = true) := by show _ = _; simp [*]
   have bt : ((m : Int) == 2) = true := by rw [ht]; rfl
   clear ht
   go_enter Tryz.func133, Tryz.ntmps133
   go_wp2_with fail
   refine HC.out.mono ?_
   rintro r w2 ⟨rfl, b2⟩
   have HB2 := hiD (HB0.out.trans (b2.mono HB0.out.size))
   have hq3 := (HA0.out.later b2).cell 3
   simp only [List.getElem?_cons_zero, List.getElem?_cons_succ] at hq3
   clear b2
   go_wp2_with fail
   go_ret
   exact ⟨by rw [HP.out]; first | rfl | exact congrArg (fun b => Ending.returned (.bool b)) (decide_eq_false (by omega)), HB2.out⟩
  ·have HP : Hid ((true && decide (m = 2)) = false) := by show _ = _; simp [*]
   have bt : ((m : Int) == 2) = false := by rw [beq_eq_false_iff_ne]; omega
   clear ht
   go_enter Tryz.func133, Tryz.ntmps133
   go_wp2_with fail
   refine HC.out.mono ?_
   rintro r w2 ⟨rfl, b2⟩
   have HB2 := hiD (HB0.out.trans (b2.mono HB0.out.size))
   have hq3 := (HA0.out.later b2).cell 3
   simp only [List.getElem?_cons_zero, List.getElem?_cons_succ] at hq3
   clear b2
   go_wp2_with fail
   go_ret
   exact ⟨by rw [HP.out]; first | rfl | exact congrArg (fun b => Ending.returned (.bool b)) (decide_eq_false (by omega)), HB2.out⟩
set_option maxRecDepth 100000 in
set_option maxHeartbeats 1000000 in
theorem isRef_any (k : Int) (xv xn : List UInt8) (q : Option Addr) (m c : Nat) (w : World) (hr : ResT w) : Calls Tryz.prog 130 #[.agg #[.int .i64 k, .string (bstr xv), .string (bstr xn), .slice q m c]] w fun r w' => r = .returned (.bool (isName (bstr xn) && decide (xv = []) && decide (m = 0))) ∧ Below w.heap.size w w' := by
 have HA0 : Hid (Arr (w.alloc (.cells #[.int .i64 k, .string (bstr xv), .string (bstr xn), .slice q m c] 183)) 183 w.heap.size [.int .i64 k, .string (bstr xv), .string (bstr xn), .slice q m c]) := Arr.new' _ _ _ _ rfl
 have HB0 : Hid (Below w.heap.size w (w.alloc (.cells #[.int .i64 k, .string (bstr xv), .string (bstr xn), .slice q m c] 183))) := (Below.refl _ _).alloc (Nat.le_refl _) _
 have HRS : Hid (ResT (w.alloc (.cells #[.int .i64 k, .string (bstr xv), .string (bstr xn), .slice q m c] 183))) := hr.below HB0.out hr.lt
 clear hr
 have HC := hiD (isName_any (bstr xn) (w.alloc (.cells #[.int .i64 k, .string (bstr xv), .string (bstr xn), .slice q m c] 183)) HRS.out)
 obtain ⟨E, hE⟩ : ∃ E, E = isName (bstr xn) := ⟨_, rfl⟩
 rw [← hE] at HC ⊢
 clear hE
 cases E with
 | false =>
  have HP : Hid ((false && decide (xv = []) && decide (m = 0)) = false) := by show _ = _; simp [*]
  go_enter Tryz.func130, Tryz.ntmps130
  go_wp2_with fail
  refine HC.out.mono ?_
  rintro r w2 ⟨rfl, b2⟩
  have HB2 := hiD (HB0.out.trans (b2.mono HB0.out.size))
  have HA2 := (HA0.out.later b2)
  have hq1 := HA2.cell 1
  have hq3 := HA2.cell 3
  simp only [List.getElem?_cons_zero, List.getElem?_cons_succ] at hq1 hq3
  clear b2 HA2
  go_wp2_with fail
  go_ret
  exact ⟨by rw [HP.out]; rfl, HB2.out⟩
 | true =>
  by_cases hv : xv = []
  ·by_cases hz : m = 0
   ·have HP : Hid ((true && decide (xv = []) && decide (m = 0)) = true) := by show _ = _; simp [*]
    have ev := bstr_nil hv
    have bz : ((m : Int) == 0) = true := by rw [hz]; rfl
    clear hv hz
    go_enter Tryz.func130, Tryz.ntmps130
    go_wp2_with fail
    refine HC.out.mono ?_
    rintro r w2 ⟨rfl, b2⟩
    have HB2 := hiD (HB0.out.trans (b2.mono HB0.out.size))
    have HA2 := (HA0.out.later b2)
    have hq1 := HA2.cell 1
    have hq3 := HA2.cell 3
    simp only [List.getElem?_cons_zero, List.getElem?_cons_succ] at hq1 hq3
    clear b2 HA2
    go_wp2_with fail
    go_ret
    exact ⟨by rw [HP.out]; rfl, HB2.out⟩
   ·have HP : Hid ((true && decide (xv = []) && decide (m = 0)) = false) := by show _ = _; simp [*]
    have ev := bstr_nil hv
    have bz : ((m : Int) == 0) = false := by rw [beq_eq_false_iff_ne]; omega
    clear hv hz
    go_enter Tryz.func130, Tryz.ntmps130
    go_wp2_with fail
    refine HC.out.mono ?_
    rintro r w2 ⟨rfl, b2⟩
    have HB2 := hiD (HB0.out.trans (b2.mono HB0.out.size))
    have HA2 := (HA0.out.later b2)
    have hq1 := HA2.cell 1
    have hq3 := HA2.cell 3
    simp only [List.getElem?_cons_zero, List.getElem?_cons_succ] at hq1 hq3
    clear b2 HA2
    go_wp2_with fail
    go_ret
    exact ⟨by rw [HP.out]; rfl, HB2.out⟩
  ·have HP : Hid ((true && decide (xv = []) && decide (m = 0)) = false) := by show _ = _; simp [*]
   have ev := bstr_nnil hv
   clear hv
   go_enter Tryz.func130, Tryz.ntmps130
   go_wp2_with fail
   refine HC.out.mono ?_
   rintro r w2 ⟨rfl, b2⟩
   have HB2 := hiD (HB0.out.trans (b2.mono HB0.out.size))
   have HA2 := (HA0.out.later b2)
   have hq1 := HA2.cell 1
   have hq3 := HA2.cell 3
   simp only [List.getElem?_cons_zero, List.getElem?_cons_succ] at hq1 hq3
   clear b2 HA2
   go_wp2_with fail
   go_ret
   exact ⟨by rw [HP.out]; rfl, HB2.out⟩
set_option maxRecDepth 100000 in
set_option maxHeartbeats 1000000 in
theorem isArrow_any (k : Int) (xv xn : List UInt8) (q : Option Addr) (m c : Nat) (w : World) (hr : ResT w) : Calls Tryz.prog 131 #[.agg #[.int .i64 k, .string (bstr xv), .string (bstr xn), .slice q m c]] w fun r w' => r = .returned (.bool (isName (bstr xn) && isName (bstr xv) && decide (m = 0))) ∧ Below w.heap.size w w' := by
 have HA0 : Hid (Arr (w.alloc (.cells #[.int .i64 k, .string (bstr xv), .string (bstr xn), .slice q m c] 183)) 183 w.heap.size [.int .i64 k, .string (bstr xv), .string (bstr xn), .slice q m c]) := Arr.new' _ _ _ _ rfl
 have HB0 : Hid (Below w.heap.size w (w.alloc (.cells #[.int .i64 k, .string (bstr xv), .string (bstr xn), .slice q m c] 183))) := (Below.refl _ _).alloc (Nat.le_refl _) _
 have HRS : Hid (ResT (w.alloc (.cells #[.int .i64 k, .string (bstr xv), .string (bstr xn), .slice q m c] 183))) := hr.below HB0.out hr.lt
 clear hr
 have HC := hiD (isName_any (bstr xn) (w.alloc (.cells #[.int .i64 k, .string (bstr xv), .string (bstr xn), .slice q m c] 183)) HRS.out)
 have HV := hiD (fun W h => isName_any (bstr xv) W h)
 obtain ⟨E, hE⟩ : ∃ E, E = isName (bstr xn) := ⟨_, rfl⟩
 rw [← hE] at HC ⊢
 clear hE
 obtain ⟨F, hF⟩ : ∃ F, F = isName (bstr xv) := ⟨_, rfl⟩
 rw [← hF] at HV ⊢
 clear hF
 cases E with
 | false =>
  have HP : Hid ((false && F && decide (m = 0)) = false) := by show _ = _; simp [*]
  go_enter Tryz.func131, Tryz.ntmps131
  go_wp2_with fail
  refine HC.out.mono ?_
  rintro r w2 ⟨rfl, b2⟩
  have HB2 := hiD (HB0.out.trans (b2.mono HB0.out.size))
  have HA2 := hiD (HA0.out.later b2)
  have HR2 := hiD (HRS.out.below b2 HRS.out.lt)
  have hq1 := HA2.out.cell 1
  simp only [List.getElem?_cons_zero, List.getElem?_cons_succ] at hq1
  clear b2
  go_wp2_with fail
  go_ret
  exact ⟨by rw [HP.out]; rfl, HB2.out⟩
 | true =>
  cases F with
  | false =>
   have HP : Hid ((true && false && decide (m = 0)) = false) := by show _ = _; simp [*]
   go_enter Tryz.func131, Tryz.ntmps131
   go_wp2_with fail
   refine HC.out.mono ?_
   rintro r w2 ⟨rfl, b2⟩
   have HB2 := hiD (HB0.out.trans (b2.mono HB0.out.size))
   have HA2 := hiD (HA0.out.later b2)
   have HR2 := hiD (HRS.out.below b2 HRS.out.lt)
   have hq1 := HA2.out.cell 1
   simp only [List.getElem?_cons_zero, List.getElem?_cons_succ] at hq1
   clear b2
   go_wp2_with fail
   refine (HV.out _ HR2.out).mono ?_
   rintro r w3 ⟨rfl, b3⟩
   have HB3 := hiD (HB2.out.trans (b3.mono HB2.out.size))
   have hq3 := (HA2.out.later b3).cell 3
   simp only [List.getElem?_cons_zero, List.getElem?_cons_succ] at hq3
   clear b3
   go_wp2_with fail
   go_ret
   exact ⟨by rw [HP.out]; rfl, HB3.out⟩
  | true =>
   by_cases hz : m = 0
   ·have HP : Hid ((true && true && decide (m = 0)) = true) := by show _ = _; simp [*]
    have bz : ((m : Int) == 0) = true := by rw [hz]; rfl
    clear hz
    go_enter Tryz.func131, Tryz.ntmps131
    go_wp2_with fail
    refine HC.out.mono ?_
    rintro r w2 ⟨rfl, b2⟩
    have HB2 := hiD (HB0.out.trans (b2.mono HB0.out.size))
    have HA2 := hiD (HA0.out.later b2)
    have HR2 := hiD (HRS.out.below b2 HRS.out.lt)
    have hq1 := HA2.out.cell 1
    simp only [List.getElem?_cons_zero, List.getElem?_cons_succ] at hq1
    clear b2
    go_wp2_with fail
    refine (HV.out _ HR2.out).mono ?_
    rintro r w3 ⟨rfl, b3⟩
    have HB3 := hiD (HB2.out.trans (b3.mono HB2.out.size))
    have hq3 := (HA2.out.later b3).cell 3
    simp only [List.getElem?_cons_zero, List.getElem?_cons_succ] at hq3
    clear b3
    go_wp2_with fail
    go_ret
    exact ⟨by rw [HP.out]; rfl, HB3.out⟩
   ·have HP : Hid ((true && true && decide (m = 0)) = false) := by show _ = _; simp [*]
    have bz : ((m : Int) == 0) = false := by rw [beq_eq_false_iff_ne]; omega
    clear hz
    go_enter Tryz.func131, Tryz.ntmps131
    go_wp2_with fail
    refine HC.out.mono ?_
    rintro r w2 ⟨rfl, b2⟩
    have HB2 := hiD (HB0.out.trans (b2.mono HB0.out.size))
    have HA2 := hiD (HA0.out.later b2)
    have HR2 := hiD (HRS.out.below b2 HRS.out.lt)
    have hq1 := HA2.out.cell 1
    simp only [List.getElem?_cons_zero, List.getElem?_cons_succ] at hq1
    clear b2
    go_wp2_with fail
    refine (HV.out _ HR2.out).mono ?_
    rintro r w3 ⟨rfl, b3⟩
    have HB3 := hiD (HB2.out.trans (b3.mono HB2.out.size))
    have hq3 := (HA2.out.later b3).cell 3
    simp only [List.getElem?_cons_zero, List.getElem?_cons_succ] at hq3
    clear b3
    go_wp2_with fail
    go_ret
    exact ⟨by rw [HP.out]; rfl, HB3.out⟩
def chk (k : Int) : FuncId := if k = 1 then 130 else if k = 2 then 131 else if k = 3 ∨ k = 4 then 132 else if k = 5 then 133 else 134
theorem part_any (k : Int) (xv xn : List UInt8) (q : Option Addr) (m c : Nat) (w : World) (hr : ResT w) : Calls Tryz.prog (chk k) #[.agg #[.int .i64 k, .string (bstr xv), .string (bstr xn), .slice q m c]] w fun r w' => r = .returned (.bool (partB k xv xn m)) ∧ Below w.heap.size w w' := by
 unfold chk partB
 split
 ·exact (isRef_any k xv xn q m c w hr).mono fun r w' ⟨h1, h2⟩ => ⟨by rw [h1]; congr 2; ac_rfl, h2⟩
 split
 ·exact (isArrow_any k xv xn q m c w hr).mono fun r w' ⟨h1, h2⟩ => ⟨by rw [h1]; congr 2; ac_rfl, h2⟩
 split
 ·exact (isMany_any k xv xn q m c w).mono fun r w' ⟨h1, h2⟩ => ⟨by rw [h1]; congr 2; ac_rfl, h2⟩
 split
 ·exact (isPair_any k xv xn q m c w).mono fun r w' ⟨h1, h2⟩ => ⟨by rw [h1]; congr 2; ac_rfl, h2⟩
 ·exact isNothing_any k xv xn q m c w
set_option maxRecDepth 100000 in
set_option maxHeartbeats 1000000 in
theorem checkOf_any (k : Int) (w : World) : Calls Tryz.prog 125 #[.int .i64 k] w fun r w' => r = .returned (.func (.func (chk k)) #[] #[]) ∧ w = w' := by
 by_cases h1 : k = 1
 ·have HP : Hid (chk k = 130) := by show _ = _; unfold chk; simp [*]
  have b1 : (k == 1) = true := by rw [h1]; rfl
  clear h1
  go_enter Tryz.func125, Tryz.ntmps125
  go_wp2_with fail
  go_ret
  exact ⟨by rw [HP.out]; rfl, rfl⟩
 ·by_cases h2 : k = 2
  ·have HP : Hid (chk k = 131) := by show _ = _; unfold chk; simp [*]
   have b1 : (k == 1) = false := by rw [beq_eq_false_iff_ne]; exact h1
   have b2 : (k == 2) = true := by rw [h2]; rfl
   clear h1 h2
   go_enter Tryz.func125, Tryz.ntmps125
   go_wp2_with fail
   go_ret
   exact ⟨by rw [HP.out]; rfl, rfl⟩
  ·by_cases h3 : k = 3
   ·have HP : Hid (chk k = 132) := by show _ = _; unfold chk; simp [*]
    have b1 : (k == 1) = false := by rw [beq_eq_false_iff_ne]; exact h1
    have b2 : (k == 2) = false := by rw [beq_eq_false_iff_ne]; exact h2
    have b3 : (k == 3) = true := by rw [h3]; rfl
    clear h1 h2 h3
    go_enter Tryz.func125, Tryz.ntmps125
    go_wp2_with fail
    go_ret
    exact ⟨by rw [HP.out]; rfl, rfl⟩
   ·by_cases h4 : k = 4
    ·have HP : Hid (chk k = 132) := by show _ = _; unfold chk; simp [*]
     have b1 : (k == 1) = false := by rw [beq_eq_false_iff_ne]; exact h1
     have b2 : (k == 2) = false := by rw [beq_eq_false_iff_ne]; exact h2
     have b3 : (k == 3) = false := by rw [beq_eq_false_iff_ne]; exact h3
     have b4 : (k == 4) = true := by rw [h4]; rfl
     clear h1 h2 h3 h4
     go_enter Tryz.func125, Tryz.ntmps125
     go_wp2_with fail
     go_ret
     exact ⟨by rw [HP.out]; rfl, rfl⟩
    ·by_cases h5 : k = 5
     ·have HP : Hid (chk k = 133) := by show _ = _; unfold chk; simp [*]
      have b1 : (k == 1) = false := by rw [beq_eq_false_iff_ne]; exact h1
      have b2 : (k == 2) = false := by rw [beq_eq_false_iff_ne]; exact h2
      have b3 : (k == 3) = false := by rw [beq_eq_false_iff_ne]; exact h3
      have b4 : (k == 4) = false := by rw [beq_eq_false_iff_ne]; exact h4
      have b5 : (k == 5) = true := by rw [h5]; rfl
      clear h1 h2 h3 h4 h5
      go_enter Tryz.func125, Tryz.ntmps125
      go_wp2_with fail
      go_ret
      exact ⟨by rw [HP.out]; rfl, rfl⟩
     ·have HP : Hid (chk k = 134) := by show _ = _; unfold chk; simp [*]
      have b1 : (k == 1) = false := by rw [beq_eq_false_iff_ne]; exact h1
      have b2 : (k == 2) = false := by rw [beq_eq_false_iff_ne]; exact h2
      have b3 : (k == 3) = false := by rw [beq_eq_false_iff_ne]; exact h3
      have b4 : (k == 4) = false := by rw [beq_eq_false_iff_ne]; exact h4
      have b5 : (k == 5) = false := by rw [beq_eq_false_iff_ne]; exact h5
      clear h1 h2 h3 h4 h5
      go_enter Tryz.func125, Tryz.ntmps125
      go_wp2_with fail
      go_ret
      exact ⟨by rw [HP.out]; rfl, rfl⟩
theorem formL_all : ∀ {ks : List Ex}, (∀ j, j < ks.length → formE (ks.getD j ex0) = true) → formL ks = true
 | [], _ => rfl
 | e :: r, h => by
  have h0 := h 0 (by simp)
  simp only [List.getD_cons_zero] at h0
  unfold formL
  rw [h0, formL_all (ks := r) (fun j hj => by have := h (j + 1) (by simpa using hj); simpa using this)]; rfl
theorem formE_bad {k : Int} {v n : List UInt8} {ks : List Ex} {j : Nat} (hj : j < ks.length) (h : formE (ks.getD j ex0) = false) : formE (.mk k v n ks) = false := by
 rw [Bool.eq_false_iff]
 intro e
 unfold formE at e
 simp only [Bool.and_eq_true] at e
 rw [formL_get hj e.2] at h
 cases h
theorem chk_cases (k : Int) : chk k = 130 ∨ chk k = 131 ∨ chk k = 132 ∨ chk k = 133 ∨ chk k = 134 := by
 unfold chk
 split
 ·exact .inl rfl
 split
 ·exact .inr (.inl rfl)
 split
 ·exact .inr (.inr (.inl rfl))
 split
 ·exact .inr (.inr (.inr (.inl rfl)))
 ·exact .inr (.inr (.inr (.inr rfl)))
set_option maxRecDepth 100000 in
set_option maxHeartbeats 16000000 in
theorem parts_any : ∀ (n : Nat) (e : Ex) (v : Value) (P : Nat → Prop) (w : World), sizeE e ≤ n → sizeE e ≤ 900000 → RdE P w e v → (∀ b, P b → b < w.heap.size) → ResT w → Calls Tryz.prog 116 #[v] w fun r w' => r = .returned (.bool (formE e)) ∧ Below w.heap.size w w' := by
 intro n
 induction n with
 | zero => intro e v P w h; have := sizeE_pos e; omega
 | succ n ih =>
  intro e v P w hn hm h hP hr
  obtain ⟨q, c, rfl, hc, hk⟩ := h.form
  obtain ⟨k, xv, xn, ks⟩ := e
  unfold exv
  show Calls _ _ #[.agg #[.int .i64 k, .string (bstr xv), .string (bstr xn), .slice q ks.length c]] _ _
  have HK : Hid (0 < ks.length → ∃ b o, q = some ⟨b, o, none⟩ ∧ P b ∧ RdL P w ks b o) := hk
  have hks : sizeL ks ≤ n := by unfold sizeE at hn; omega
  have hkm : sizeL ks ≤ 900000 := by unfold sizeE at hm; omega
  have hlen := sizeL_len ks
  have HIH := hiD ih
  have HRS := hiD hr
  have HB0 : Hid (Below w.heap.size w (w.alloc (.cells #[.int .i64 k, .string (bstr xv), .string (bstr xn), .slice q ks.length c] 42))) := (Below.refl _ _).alloc (Nat.le_refl _) _
  have HA0 : Hid (Arr (w.alloc (.cells #[.int .i64 k, .string (bstr xv), .string (bstr xn), .slice q ks.length c] 42)) 42 w.heap.size [.int .i64 k, .string (bstr xv), .string (bstr xn), .slice q ks.length c]) := Arr.new' _ _ _ _ rfl
  have HCK := hiD (fun W => checkOf_any k W)
  have HPT := hiD (fun W h => part_any k xv xn q ks.length c W h)
  have HR0 : Hid (ResT (w.alloc (.cells #[.int .i64 k, .string (bstr xv), .string (bstr xn), .slice q ks.length c] 42))) := hr.below HB0.out hr.lt
  obtain ⟨fid, hfid⟩ : ∃ f, f = chk k := ⟨_, rfl⟩
  obtain ⟨E, hE⟩ : ∃ E, E = partB k xv xn ks.length := ⟨_, rfl⟩
  rw [← hfid] at HCK HPT
  rw [← hE] at HPT
  have HE := hiD hE
  have HFX : Hid (partB k xv xn ks.length = E) := hE.symm
  have hcs := chk_cases k
  rw [← hfid] at hcs
  clear h ih hc hk hn hm hr hfid hE
  rcases hcs with hf | hf | hf | hf | hf
  all_goals
   rw [hf] at HCK HPT
   clear hf
   go_enter Tryz.func116, Tryz.ntmps116
   go_wp2_with fail
   refine (HCK.out _).mono ?_
   rintro r w1 ⟨rfl, hw⟩
   subst hw
   go_wp2_with fail
   refine (HPT.out _ HR0.out).mono ?_
   rintro r w2 ⟨rfl, b2⟩
   have HB2 := hiD (HB0.out.trans (b2.mono HB0.out.size))
   have hq3 := (HA0.out.later b2).cell 3
   simp only [List.getElem?_cons_zero, List.getElem?_cons_succ] at hq3
   clear b2
   cases hEb : E with
   | false =>
    have HBD : Hid (formE (.mk k xv xn ks) = false) := by show _ = _; unfold formE; rw [HFX.out, hEb]; rfl
    clear hEb
    go_wp2_with fail
    go_ret
    exact ⟨by rw [HBD.out]; rfl, HB2.out⟩
   | true =>
    have HEB : Hid (partB k xv xn ks.length = true) := by show _ = _; rw [HFX.out, hEb]
    clear hEb
    go_wp2_with fail
    go_loopw [16] (fun iv wr => ∃ i : Nat, i ≤ ks.length ∧ iv = .int .i64 i ∧ Hid (∀ j, j < i → formE (ks.getD j ex0) = true) ∧ Hid (Below w.heap.size w wr)) (fun iv _ => ks.length - (intOf iv).toNat)
    case atStart => exact ⟨0, Nat.zero_le _, rfl, fun j hj => absurd hj (Nat.not_lt_zero _), HB2.out⟩
    case round =>
     obtain ⟨i, hi, rfl, HG, HI⟩ := hrel
     have hi0 : (0 : Int) ≤ i := by omega
     by_cases hlt : i < ks.length
     ·have hi1 : (i : Int) < ks.length := by omega
      obtain ⟨ba, oa, rfl, hba, hl⟩ := HK.out (by omega)
      obtain ⟨x, hx⟩ : ∃ x, x = ks.getD i ex0 := ⟨_, rfl⟩
      obtain ⟨q2, c2, x0, x1, x2, x3, hr⟩ := hl.at hlt
      have hxs := sizeL_get ks i hlt
      have hxd := depthL_get ks i hlt
      rw [← hx] at x0 x1 x2 x3 hr hxs hxd
      have HX := hiD hx
      obtain ⟨xk, xv2, xn2, xs⟩ := x
      have cc : ∀ n, wr.cell? ⟨ba, n, none⟩ = w.cell? ⟨ba, n, none⟩ := fun n => (HI.out).cell (p := ⟨ba, n, none⟩) (hP _ hba)
      have X0 : wr.cell? ⟨ba, oa + i * 4, none⟩ = some (.int .i64 xk) := (cc _).trans x0
      have X1 : wr.cell? ⟨ba, oa + i * 4 + 1, none⟩ = some (.string (bstr xv2)) := (cc _).trans x1
      have X2 : wr.cell? ⟨ba, oa + i * 4 + 2, none⟩ = some (.string (bstr xn2)) := (cc _).trans x2
      have X3 : wr.cell? ⟨ba, oa + i * 4 + 3, none⟩ = some (.slice q2 xs.length c2) := (cc _).trans x3
      clear x0 x1 x2 x3 cc hx
      have HBA : Hid (Below wr.heap.size wr (wr.alloc (.cells #[.int .i64 xk, .string (bstr xv2), .string (bstr xn2), .slice q2 xs.length c2] 42))) := (Below.refl _ _).alloc (Nat.le_refl _) _
      have HR : Hid (RdE P (wr.alloc (.cells #[.int .i64 xk, .string (bstr xv2), .string (bstr xn2), .slice q2 xs.length c2] 42)) (.mk xk xv2 xn2 xs) (.agg #[.int .i64 xk, .string (bstr xv2), .string (bstr xn2), .slice q2 xs.length c2])) := (hr.below (HI.out) hP).below HBA.out (fun b hb => Nat.lt_of_lt_of_le (hP b hb) (HI.out).size)
      have HRW : Hid (ResT (wr.alloc (.cells #[.int .i64 xk, .string (bstr xv2), .string (bstr xn2), .slice q2 xs.length c2] 42))) := (HRS.out.below (HI.out.trans (HBA.out.mono HI.out.size)) HRS.out.lt)
      have HC := hiD (HIH.out (.mk xk xv2 xn2 xs) _ P _ (by omega) (by omega) HR.out (fun b hb => Nat.lt_of_lt_of_le (hP b hb) (Nat.le_trans HI.out.size HBA.out.size)) HRW.out)
      obtain ⟨G, hG⟩ : ∃ G, G = formE (.mk xk xv2 xn2 xs) := ⟨_, rfl⟩
      rw [← hG] at HC
      have HGD := hiD hG
      have HLT : Hid (i < ks.length) := hlt
      clear hl hr hxs hxd hG
      go_wp2_with fail
      refine HC.out.mono ?_
      rintro r w5 ⟨rfl, b5⟩
      have HB5 := hiD (HI.out.trans ((HBA.out.trans (b5.mono HBA.out.size)).mono HI.out.size))
      clear b5
      cases hGb : G with
      | false =>
       have HBD : Hid (formE (.mk k xv xn ks) = false) := formE_bad HLT.out (by rw [← HX.out, ← HGD.out, hGb])
       clear hGb
       go_wp2_with fail
       go_ret
       exact ⟨by rw [HBD.out]; rfl, HB5.out⟩
      | true =>
       have HGB := hiD hGb
       clear hGb
       go_wp2_with fail
       go_roundw
       case rel =>
        refine ⟨i + 1, by omega, by go_num, fun j hj => ?_, HB5.out⟩
        by_cases e : j = i
        ·subst e; rw [← HX.out, ← HGD.out, HGB.out]
        ·exact HG.out j (by omega)
       case measure => simp [intOf]; omega
     ·have hi1 : ¬ (i : Int) < ks.length := by omega
      have HBD : Hid (formE (.mk k xv xn ks) = true) := by
       show _ = _
       unfold formE
       rw [HEB.out, formL_all fun j hj => HG.out j (by omega)]; rfl
      go_wp2_with fail
      go_ret
      exact ⟨by rw [HBD.out]; rfl, HI.out⟩
attribute [local go_sem] Oper.semAt_some

abbrev OutE := Ex × Value
def outE (x : OutE) : Array Value := #[x.2]
def fsts (l : List OutE) : List Ex := l.map Prod.fst
theorem fsts_app (a b : List OutE) : fsts (a ++ b) = fsts a ++ fsts b := List.map_append
theorem fsts_len (a : List OutE) : (fsts a).length = a.length := List.length_map _
def GoodE (P : Nat → Prop) (LV : List Ex) (pre : List OutE) (x : OutE) (W : World) : Prop := RdE P W x.1 x.2 ∧ (fsts pre ++ [x.1]) <+: LV
def YlPost (n₀ : Nat) (J Jx : List OutE → World → Prop) (ls : List Ex) (pre : List OutE) (w : World) (r : Ending) (w' : World) : Prop :=
 (r = .returned (.bool true) ∧ ∃ out, fsts out = ls ∧ J (pre ++ out) w' ∧ Below n₀ w w') ∨ (r = .returned (.bool false) ∧ ∃ out, fsts out <+: ls ∧ Jx (pre ++ out) w')
theorem prefix_app {a b c L : List Ex} (h : a ++ (b ++ c) <+: L) : a ++ b <+: L := by
 rw [← List.append_assoc] at h
 exact (List.prefix_append _ _).trans h
theorem leavesL_take : ∀ (ks : List Ex) (i : Nat), i < ks.length → leavesL (ks.take i) ++ leavesE (ks.getD i ex0) <+: leavesL ks
 | [], i, h => by simp at h
 | e :: r, 0, _ => by simp only [List.take_zero, leavesL, List.getD_cons_zero, List.nil_append]; exact List.prefix_append _ _
 | e :: r, i + 1, h => by
  have := leavesL_take r i (by simpa using h)
  simp only [List.take_succ_cons, leavesL, List.getD_cons_succ, List.append_assoc]
  exact (List.prefix_append_right_inj _).2 this
theorem prefix_mono {a b c L : List Ex} (h : a ++ b <+: L) (hc : c <+: b) : a ++ c <+: L := ((List.prefix_append_right_inj a).2 hc).trans h
theorem leaves_leaf {k : Int} {v n : List UInt8} {ks : List Ex} (h : leafK k = true) : leavesE (.mk k v n ks) = [.mk k v n ks] := by unfold leavesE; rw [if_pos h]
theorem leaves_kids {k : Int} {v n : List UInt8} {ks : List Ex} (h : ¬ leafK k = true) : leavesE (.mk k v n ks) = leavesL ks := by unfold leavesE; rw [if_neg h]
theorem drew_size (w : World) : w.drew.heap.size = w.heap.size := rfl

set_option maxRecDepth 100000 in
set_option maxHeartbeats 4000000 in
theorem yl_any (l n₀ : Nat) (P : Nat → Prop) (hP : ∀ b, P b → b < n₀) (LV : List Ex) (J Jx : List OutE → World → Prop) (HJ : Hid (∀ s A B, J s A → Below A.heap.size A B → J s B))
  (HY : Hid (∀ pre x W1, J pre W1 → GoodE P LV pre x W1 → pre.length < LV.length → YieldAt Fence.wide 4 Tryz.prog l (outE x) W1 fun e W' => (e = .returned (.bool true) ∧ J (pre ++ [x]) W' ∧ Below n₀ W1 W') ∨ (e = .returned (.bool false) ∧ Jx (pre ++ [x]) W'))) :
  ∀ (n : Nat) (e : Ex) (v : Value) (pre : List OutE) (w : World), sizeE e ≤ n → sizeE e ≤ 900000 → RdE P w e v → n₀ ≤ w.heap.size → J pre w → fsts pre ++ leavesE e <+: LV →
   Calls Tryz.prog 124 #[v, .func (.yield l) #[] #[]] w (YlPost n₀ J Jx (leavesE e) pre w) := by
 intro n
 induction n with
 | zero => intro e v pre w h; have := sizeE_pos e; omega
 | succ n ih =>
  intro e v pre w hn hm h hs hj hp
  have H := hiD h
  obtain ⟨q, c, rfl, hc, hk⟩ := h.form
  obtain ⟨k, xv, xn, ks⟩ := e
  unfold exv
  show Calls _ _ #[.agg #[.int .i64 k, .string (bstr xv), .string (bstr xn), .slice q ks.length c], .func (.yield l) #[] #[]] _ _
  have HK : Hid (0 < ks.length → ∃ b o, q = some ⟨b, o, none⟩ ∧ P b ∧ RdL P w ks b o) := hk
  have hks : sizeL ks ≤ n := by unfold sizeE at hn; omega
  have hkm : sizeL ks ≤ 900000 := by unfold sizeE at hm; omega
  have hlen := sizeL_len ks
  have HIH := hiD ih
  have HP := hiD hP
  have HS := hiD hs
  have HB0 : Hid (Below w.heap.size w (w.alloc (.cells #[.int .i64 k, .string (bstr xv), .string (bstr xn), .slice q ks.length c] 42))) := (Below.refl _ _).alloc (Nat.le_refl _) _
  have HA0 : Hid (Arr (w.alloc (.cells #[.int .i64 k, .string (bstr xv), .string (bstr xn), .slice q ks.length c] 42)) 42 w.heap.size [.int .i64 k, .string (bstr xv), .string (bstr xn), .slice q ks.length c]) := Arr.new' _ _ _ _ rfl
  have HJ0 := hiD (HJ.out _ _ _ hj HB0.out)
  have HLF := hiD ((isLeaf_any (H.out.below HB0.out (fun b hb => Nat.lt_of_lt_of_le (hP b hb) hs))))
  have HPR := hiD hp
  obtain ⟨lf, hlf⟩ : ∃ lf, lf = leafK k := ⟨_, rfl⟩
  have HLK := hiD hlf
  have HLF2 : Hid (Calls Tryz.prog 129 #[.agg #[.int .i64 k, .string (bstr xv), .string (bstr xn), .slice q ks.length c]] (w.alloc (.cells #[.int .i64 k, .string (bstr xv), .string (bstr xn), .slice q ks.length c] 42)) fun r w' => r = .returned (.bool lf) ∧ Below (w.alloc (.cells #[.int .i64 k, .string (bstr xv), .string (bstr xn), .slice q ks.length c] 42)).heap.size (w.alloc (.cells #[.int .i64 k, .string (bstr xv), .string (bstr xn), .slice q ks.length c] 42)) w') := by
   have := HLF.out
   unfold exv at this
   simp only [Ex.kind, Ex.via, Ex.nm, Ex.kids] at this
   rw [← hlf] at this
   exact this
  clear h ih hc hk hn hm hs hj hp hlf hP HLF
  go_enter Tryz.func124, Tryz.ntmps124
  go_wp2_with fail
  refine HLF2.out.mono ?_
  rintro r w2 ⟨rfl, b2⟩
  have HJ2 := hiD (HJ.out _ _ _ HJ0.out b2)
  have HA2 := hiD (HA0.out.later b2)
  have HB2 := hiD (HB0.out.trans (b2.mono HB0.out.size))
  clear b2 HJ0 HA0 HB0 HLF2
  have a0 := HA2.out.cell 0
  have a1 := HA2.out.cell 1
  have a2 := HA2.out.cell 2
  have a3 := HA2.out.cell 3
  simp only [List.getElem?_cons_zero, List.getElem?_cons_succ] at a0 a1 a2 a3
  cases lf with
  | true =>
   have HL : Hid (leavesE (.mk k xv xn ks) = [.mk k xv xn ks]) := leaves_leaf HLK.out.symm
   have HR2 := hiD (H.out.below HB2.out (fun b hb => Nat.lt_of_lt_of_le (HP.out b hb) HS.out))
   have HG : Hid (GoodE P LV pre (.mk k xv xn ks, .agg #[.int .i64 k, .string (bstr xv), .string (bstr xn), .slice q ks.length c]) w2) := ⟨HR2.out, by have := HPR.out; rw [HL.out] at this; exact this⟩
   have HYY := hiD (HY.out pre _ w2 HJ2.out HG.out (by have := HG.out.2.length_le; rw [List.length_append, fsts_len, List.length_singleton] at this; omega))
   go_upto_region 2 with (fail)
   obtain ⟨fn, tmps, assign, body, hy, hR⟩ := HYY.out
   dsimp only [outE] at hy
   refine (wpIn_wide (n := 5)).1 ?_
   gi_wp2
   refine hR.mono ?_
   rintro e W3 (⟨rfl, hJ3, hk3⟩ | ⟨rfl, hJx3⟩)
   ·have HJ3 := hiD (And.intro hJ3 ((HB2.out.mono HS.out).trans hk3))
    clear hJ3 hk3 hy hR
    gi_wp2
    go_wp2_with fail
    go_ret
    exact .inl ⟨rfl, _, by rw [HL.out]; rfl, HJ3.out.1, HJ3.out.2⟩
   ·have HJ3 := hiD hJx3
    clear hJx3 hy hR
    gi_wp2
    go_wp2_with fail
    go_ret
    exact .inr ⟨rfl, _, by rw [HL.out]; exact List.prefix_refl _, HJ3.out⟩
  | false =>
   have HL : Hid (leavesE (.mk k xv xn ks) = leavesL ks) := leaves_kids (by rw [← HLK.out]; exact Bool.false_ne_true)
   have HM0 : Hid (∃ out, fsts out = leavesL (ks.take 0) ∧ J (pre ++ out) w2 ∧ Below n₀ w w2) := ⟨[], by simp [fsts, leavesL], by rw [List.append_nil]; exact HJ2.out, HB2.out.mono HS.out⟩
   clear HJ2 HA2 HB2 HLK H
   go_wp2_with fail
   go_loopw [15] (fun iv wr => ∃ i : Nat, iv = .int .i64 i ∧ i ≤ ks.length ∧ Hid (∃ out, fsts out = leavesL (ks.take i) ∧ J (pre ++ out) wr ∧ Below n₀ w wr)) (fun iv _ => ks.length - (intOf iv).toNat)
   case atStart => exact ⟨0, rfl, Nat.zero_le _, HM0.out⟩
   case round =>
    obtain ⟨i, rfl, hi, HM⟩ := hrel
    clear HM0 a0 a1 a2 a3
    have hi0 : (0 : Int) ≤ i := by omega
    obtain ⟨out, ho, hjw, hbw⟩ := HM.out
    have HO := hiD ho
    have HJW := hiD hjw
    have HI := hiD hbw
    clear ho hjw hbw HM
    by_cases hlt : i < ks.length
    ·have hi1 : (i : Int) < ks.length := by omega
     have hP := HP.out
     obtain ⟨ba, oa, rfl, hba, hl⟩ := HK.out (by omega)
     obtain ⟨x, hx⟩ : ∃ x, x = ks.getD i ex0 := ⟨_, rfl⟩
     obtain ⟨q2, c2, x0, x1, x2, x3, hr⟩ := hl.at hlt
     have hxs := sizeL_get ks i hlt
     have hxd := depthL_get ks i hlt
     rw [← hx] at x0 x1 x2 x3 hr hxs hxd
     have HX := hiD hx
     obtain ⟨xk, xv2, xn2, xs⟩ := x
     have cc : ∀ n, wr.cell? ⟨ba, n, none⟩ = w.cell? ⟨ba, n, none⟩ := fun n => (HI.out).cell (p := ⟨ba, n, none⟩) (hP _ hba)
     have X0 : wr.cell? ⟨ba, oa + i * 4, none⟩ = some (.int .i64 xk) := (cc _).trans x0
     have X1 : wr.cell? ⟨ba, oa + i * 4 + 1, none⟩ = some (.string (bstr xv2)) := (cc _).trans x1
     have X2 : wr.cell? ⟨ba, oa + i * 4 + 2, none⟩ = some (.string (bstr xn2)) := (cc _).trans x2
     have X3 : wr.cell? ⟨ba, oa + i * 4 + 3, none⟩ = some (.slice q2 xs.length c2) := (cc _).trans x3
     clear x0 x1 x2 x3 cc hx
     have HBA : Hid (Below wr.heap.size wr (wr.alloc (.cells #[.int .i64 xk, .string (bstr xv2), .string (bstr xn2), .slice q2 xs.length c2] 42))) := (Below.refl _ _).alloc (Nat.le_refl _) _
     have HR : Hid (RdE P (wr.alloc (.cells #[.int .i64 xk, .string (bstr xv2), .string (bstr xn2), .slice q2 xs.length c2] 42)) (.mk xk xv2 xn2 xs) (.agg #[.int .i64 xk, .string (bstr xv2), .string (bstr xn2), .slice q2 xs.length c2])) := (hr.below HI.out hP).below HBA.out (fun b hb => Nat.lt_of_lt_of_le (hP b hb) (Nat.le_trans HS.out HI.out.size))
     have HTK : Hid (ks.take (i + 1) = ks.take i ++ [.mk xk xv2 xn2 xs]) := by show _ = _; rw [take_snocE hlt, ← HX.out]
     have HPX : Hid (fsts (pre ++ out) ++ leavesE (.mk xk xv2 xn2 xs) <+: LV) := by
      show _ <+: _
      have h1 := HPR.out
      rw [HL.out] at h1
      have h2 := prefix_mono h1 (leavesL_take ks i hlt)
      rw [← HX.out, ← HO.out, ← List.append_assoc, ← fsts_app] at h2
      exact h2
     have HC := hiD (HIH.out (.mk xk xv2 xn2 xs) _ (pre ++ out) _ (by omega) (by omega) HR.out (Nat.le_trans (Nat.le_trans HS.out HI.out.size) HBA.out.size) (HJ.out _ _ _ HJW.out HBA.out) HPX.out)
     clear hl hr hxs hxd hba hP
     go_wp2_with fail
     refine HC.out.mono ?_
     rintro r w5 (⟨rfl, o2, ho2, hj2, hb2⟩ | ⟨rfl, o2, ho2, hj2⟩)
     ·have HJ5 : Hid (∃ out, fsts out = leavesL (ks.take (i + 1)) ∧ J (pre ++ out) w5 ∧ Below n₀ w w5) :=
       ⟨out ++ o2, by rw [fsts_app, HO.out, ho2, HTK.out, leavesL_snoc], by rw [← List.append_assoc]; exact hj2, (HI.out.trans (HBA.out.mono (Nat.le_trans HS.out HI.out.size))).trans hb2⟩
      clear ho2 hj2 hb2
      go_wp2_with fail
      go_roundw
      case rel => exact ⟨i + 1, by go_num, by omega, HJ5.out⟩
      case measure => simp [intOf]; omega
     ·have HJ5 : Hid (∃ out, fsts out <+: leavesL ks ∧ Jx (pre ++ out) w5) :=
       ⟨out ++ o2, by
        rw [fsts_app, HO.out]
        have h2 := leavesL_take ks i hlt
        rw [← HX.out] at h2
        exact prefix_mono h2 ho2, by rw [← List.append_assoc]; exact hj2⟩
      clear ho2 hj2
      go_wp2_with fail
      go_ret
      exact .inr ⟨rfl, by rw [HL.out]; exact HJ5.out⟩
    ·have hi1 : ¬ (i : Int) < ks.length := by omega
     have HK2 : Hid (ks.take i = ks) := List.take_of_length_le (by omega)
     go_wp2_with fail
     go_ret
     exact .inl ⟨rfl, out, by rw [HL.out, HO.out, HK2.out], HJW.out, HI.out⟩
theorem leaves1_reads (P : Nat → Prop) (n₀ : Nat) (w : World) (g : Nat) (q : Option Addr) (c : Nat) (e : Ex) (hm : sizeE e ≤ 900000) (hA : Arr w 42 g [.int .i64 e.kind, .string (bstr e.via), .string (bstr e.nm), .slice q e.kids.length c]) (h : RdE P w e (exv e q c)) (hP : ∀ b, P b → b < n₀) (hn : n₀ ≤ w.heap.size) :
  SeqReads Fence.wide 5 Tryz.prog 123 #[.pointer (some ⟨g, 0, none⟩)] outE n₀ (GoodE P (leavesE e)) (fun xs => fsts xs = leavesE e) (fun xs => fsts xs <+: leavesE e) (leavesE e).length w := by
 intro l J Jx W hW hJ hJx hY h0
 refine callsIn_wide.2 ?_
 have hy := yl_any l n₀ P hP (leavesE e) J Jx hJ hY _ e _ [] W (Nat.le_refl _) hm (h.below hW fun b hb => Nat.lt_of_lt_of_le (hP b hb) hn) (Nat.le_trans hn hW.size) h0 (by simp [fsts])
 obtain ⟨k, xv, xn, ks⟩ := e
 unfold exv at hy
 simp only [Ex.kind, Ex.via, Ex.nm, Ex.kids] at hy hA
 have HY := hiD hy
 have a0 := (hA.later hW).cell 0
 have a1 := (hA.later hW).cell 1
 have a2 := (hA.later hW).cell 2
 have a3 := (hA.later hW).cell 3
 simp only [List.getElem?_cons_zero, List.getElem?_cons_succ] at a0 a1 a2 a3
 clear hy hA h hP hn hW hJ hJx hY h0
 go_enter Tryz.func123, Tryz.ntmps123
 go_wp2_with fail
 refine HY.out.mono ?_
 rintro r w5 (⟨rfl, o2, ho2, hj2, hb2⟩ | ⟨rfl, o2, ho2, hj2⟩)
 ·have HO := hiD (And.intro ho2 hj2)
  clear ho2 hj2 hb2
  go_wp2_with fail
  go_end0
  exact ⟨⟨_, rfl⟩, .inl ⟨o2, HO.out.1, HO.out.2⟩⟩
 ·have HO := hiD (And.intro ho2 hj2)
  clear ho2 hj2
  go_wp2_with fail
  go_end0
  exact ⟨⟨_, rfl⟩, .inr ⟨o2, HO.out.1, HO.out.2⟩⟩
theorem turns_good (P : Nat → Prop) (LV : List Ex) (B : Nat) (hP : ∀ b, P b → b < B) (pre : List OutE) (x : OutE) : Turns B (GoodE P LV pre x) := fun W l o o' hl h ho hx =>
 ⟨hx.1.keep fun b hb n => World.cell?_of_block (World.putObj_heap_other (by have := hP b hb; show b ≠ l; omega)), hx.2⟩
attribute [local go_sem] Oper.semAt_some

mutual
theorem leaves_size : ∀ e : Ex, (leavesE e).length ≤ sizeE e
 | .mk k v n ks => by
  unfold leavesE sizeE
  split
  ·simp
  ·have := leavesL_size ks; omega
theorem leavesL_size : ∀ ks : List Ex, (leavesL ks).length ≤ sizeL ks
 | [] => by simp [leavesL]
 | e :: r => by
  unfold leavesL sizeL
  have := leaves_size e
  have := leavesL_size r
  simp only [List.length_append]; omega
end
def rightE (e : Ex) : Bool := decide ((leavesE e).length ≤ 32) && (decide (depthE e ≤ 16) && formE e)
def RI (w : World) (A : List Value) (pre : List OutE) (W : World) : Prop := Arr W 3 (w.heap.size + 1) [.int .i64 (pre.length : Nat)] ∧ Arr W 42 w.heap.size A ∧ Below w.heap.size w W
theorem RI.later {w : World} {A : List Value} {pre : List OutE} {W W' : World} (h : RI w A pre W) (hb : Below W.heap.size W W') : RI w A pre W' := ⟨h.1.later hb, h.2.1.later hb, h.2.2.trans (hb.mono h.2.2.size)⟩
theorem RI.turns {w : World} {A : List Value} {B : Nat} (hB : w.heap.size + 1 < B) (pre : List OutE) : Turns B (RI w A pre) := fun W l o o' hl h ho hx =>
 ⟨arr_turn (by omega) hx.1, arr_turn (by omega) hx.2.1, hx.2.2.trans (below_put W l o' (by omega))⟩
set_option maxRecDepth 100000 in
set_option maxHeartbeats 4000000 in
theorem eright_any (e : Ex) (v : Value) (P : Nat → Prop) (w : World) (hm : sizeE e ≤ 900000) (h : RdE P w e v) (hP : ∀ b, P b → b < w.heap.size) (hr : ResT w) : Calls Tryz.prog 104 #[v] w fun r w' => r = .returned (.bool (rightE e)) ∧ Below w.heap.size w w' := by
 have H := hiD h
 have HP := hiD hP
 have HRT := hiD hr
 have HM := hiD hm
 obtain ⟨q, c, rfl, hc, hk⟩ := h.form
 obtain ⟨k, xv, xn, ks⟩ := e
 unfold exv
 show Calls _ _ #[.agg #[.int .i64 k, .string (bstr xv), .string (bstr xn), .slice q ks.length c]] _ _
 have hsz := leaves_size (.mk k xv xn ks)
 obtain ⟨E, hE⟩ : ∃ E, E = Ex.mk k xv xn ks := ⟨_, rfl⟩
 rw [← hE] at hsz HM H ⊢
 have HEE := hiD hE
 obtain ⟨N, hN⟩ : ∃ N, N = (leavesE E).length := ⟨_, rfl⟩
 have HN := hiD hN
 have hn1 : N ≤ 900000 := by have := HM.out; omega
 clear h hk hc hm hP hr hsz hE hN
 refine calls_marks Tryz.func104 rfl ?_
 simp only [Tryz.ntmps104, List.size_toArray, List.length_cons, List.length_nil, Nat.reduceAdd, Nat.reduceSub, Array.replicate_succ, Array.replicate_zero, List.push_toArray, List.append_toArray, List.nil_append, List.cons_append]
 go_wp2_with fail
 refine (mkLeaves_any k xv xn q ks.length c _).mono ?_
 rintro r w3 ⟨rfl, rfl⟩
 have HR0 : Hid (RI w [.int .i64 k, .string (bstr xv), .string (bstr xn), .slice q ks.length c] [] (((w.alloc (.cells #[.int .i64 k, .string (bstr xv), .string (bstr xn), .slice q ks.length c] 42)).alloc (.cells #[.int .i64 0] 3)).alloc (.cells #[.int .i64 k, .string (bstr xv), .string (bstr xn), .slice q ks.length c] 42))) :=
  ⟨(Arr.new2 w _ 3 #[.int .i64 0] _ rfl).alloc _, ((Arr.new' w _ _ _ rfl).alloc _).alloc _, (((Below.refl _ _).alloc (Nat.le_refl _) _).alloc (by simp) _).alloc (by simp; omega) _⟩
 have HA3 : Hid (Arr (((w.alloc (.cells #[.int .i64 k, .string (bstr xv), .string (bstr xn), .slice q ks.length c] 42)).alloc (.cells #[.int .i64 0] 3)).alloc (.cells #[.int .i64 k, .string (bstr xv), .string (bstr xn), .slice q ks.length c] 42)) 42 (w.heap.size + 2) [.int .i64 k, .string (bstr xv), .string (bstr xn), .slice q ks.length c]) := Arr.new3 w _ _ _ _ _ rfl
 have HSZ : Hid (w.heap.size + 2 < (((w.alloc (.cells #[.int .i64 k, .string (bstr xv), .string (bstr xn), .slice q ks.length c] 42)).alloc (.cells #[.int .i64 0] 3)).alloc (.cells #[.int .i64 k, .string (bstr xv), .string (bstr xn), .slice q ks.length c] 42)).heap.size) := by show _ < _; simp
 simp only [World.size_alloc]
 rw [show w.heap.size + 1 + 1 = w.heap.size + 2 from rfl]
 generalize (((w.alloc (.cells #[.int .i64 k, .string (bstr xv), .string (bstr xn), .slice q ks.length c] 42)).alloc (.cells #[.int .i64 0] 3)).alloc (.cells #[.int .i64 k, .string (bstr xv), .string (bstr xn), .slice q ks.length c] 42)) = w0 at HR0 HA3 HSZ ⊢
 have HSEQ : Hid (SeqReads Fence.wide 5 Tryz.prog 123 #[.pointer (some ⟨w.heap.size + 2, 0, none⟩)] outE w.heap.size (GoodE P (leavesE E)) (fun xs => fsts xs = leavesE E) (fun xs => fsts xs <+: leavesE E) N w0) := by
  show SeqReads _ _ _ _ _ _ _ _ _ _ _ _
  rw [HN.out]
  refine leaves1_reads P w.heap.size w0 (w.heap.size + 2) q c E HM.out ?_ ?_ HP.out HR0.out.2.2.size
  ·rw [HEE.out]; exact HA3.out
  ·rw [HEE.out]; have := H.out.below HR0.out.2.2 HP.out; rw [HEE.out] at this; exact this
 go_upto_block 0 with fail
 refine wp_block_range (gf := 123) (lb := #[.pointer (some ⟨w.heap.size + 2, 0, none⟩)]) rfl (enters_of Tryz.func123 (by kernel_rfl) rfl) HSEQ.out HR0.out.2.2.size (fun pre x => turns_good P (leavesE E) _ (fun b hb => Nat.lt_of_lt_of_le (HP.out b hb) HR0.out.2.2.size) pre x) (fun _ => rfl)
  (RI w [.int .i64 k, .string (bstr xv), .string (bstr xn), .slice q ks.length c]) (fun _ _ => False) (fun _ _ _ h hb => h.later hb) (fun _ _ _ h _ => h.elim) (fun pre => RI.turns (by have := HSZ.out; omega) pre) (fun _ _ _ _ _ _ _ _ h => h.elim)
  HR0.out (fun x t => t.setIfInBounds 6 x.2) ?assign0 ?body0 ?done0
 case assign0 =>
  intro lq x W K hK
  dsimp only [outE] at hK ⊢
  simp only [List.setIfInBounds_toArray, List.set_cons_zero, List.set_cons_succ] at hK
  gi_wp2
  simpa using hK
 case body0 =>
  rintro lq pre x W HI HG hlen
  have HII := hiD HI
  obtain ⟨m, hm⟩ : ∃ m, m = pre.length := ⟨_, rfl⟩
  have ht := HI.1.cell 0
  have hf := HI.1.free 0
  rw [← hm] at ht
  simp only [List.getElem?_cons_zero] at ht
  have hm4 : (m : Int) ≤ 900000 := by omega
  have hm0 : (0 : Int) ≤ m := by omega
  have HMM := hiD hm
  clear HI HG hlen hm
  simp only [List.setIfInBounds_toArray, List.set_cons_zero, List.set_cons_succ]
  gi_wp2
  refine ⟨KeepsOthers.setCell _ _ _, (Below.refl w.heap.size W).setCell (p := ⟨w.heap.size + 1, 0, none⟩) (by simp) _, ?_, HII.out.2.1.setCell (by simp) _, HII.out.2.2.setCell (p := ⟨w.heap.size + 1, 0, none⟩) (by simp) _⟩
  have := HII.out.1.set 0 (.int .i64 ((m : Int) + 1))
  rw [List.length_append, List.length_singleton, Int.natCast_add, ← HMM.out]
  exact this
 case done0 =>
  rintro D0 xs W hDD hxs hK
  obtain ⟨h1, h2⟩ : fsts xs = leavesE E ∧ RI w [.int .i64 k, .string (bstr xv), .string (bstr xn), .slice q ks.length c] xs W := by
   rcases hxs with h | h
   ·exact h
   ·exact h.elim
  have hlen : xs.length = N := by rw [HN.out, ← h1, fsts_len]
  have ht := h2.1.cell 0
  have a0 := h2.2.1.cell 0
  have a1 := h2.2.1.cell 1
  have a2 := h2.2.1.cell 2
  have a3 := h2.2.1.cell 3
  simp only [List.getElem?_cons_zero, List.getElem?_cons_succ] at ht a0 a1 a2 a3
  rw [hlen] at ht
  have HW := hiD h2
  have HKD := hiD hK
  have HDD := hiD hDD
  have hEW : RdE P W E (.agg #[.int .i64 k, .string (bstr xv), .string (bstr xn), .slice q ks.length c]) := by
   have := H.out.below HW.out.2.2 HP.out
   rw [HEE.out] at this ⊢
   exact this
  have HEW := hiD hEW
  have HPW : Hid (∀ b, P b → b < W.heap.size) := fun b hb => Nat.lt_of_lt_of_le (HP.out b hb) HW.out.2.2.size
  have HDP := hiD (depth_any _ E _ P W (Nat.le_refl _) (by have := HM.out; omega) hEW HPW.out)
  obtain ⟨d, hd⟩ : ∃ d, d = depthE E := ⟨_, rfl⟩
  obtain ⟨f, hf⟩ : ∃ f, f = formE E := ⟨_, rfl⟩
  have HRE : Hid (rightE E = (decide (N ≤ 32) && (decide (d ≤ 16) && f))) := by show _ = _; unfold rightE; rw [hd, hf, HN.out]
  rw [← hd] at HDP
  have HF := hiD hf
  have HD0 : Hid (D0 < W.heap.size) := (Array.getElem?_eq_some_iff.1 hK).1
  have HWD : Hid (w.heap.size ≤ D0) := Nat.le_trans HR0.out.2.2.size hDD
  clear h1 h2 hlen hxs hK hDD hEW hd hf
  by_cases hN : N ≤ 32
  ·have hN1 : (N : Int) ≤ 32 := by omega
   go_wp2_with fail
   refine HDP.out.mono ?_
   rintro r w5 ⟨rfl, b5⟩
   have HB5 := hiD b5
   have HK5 : Hid (w5.heap[D0]? = some (.deferred (some []))) := (b5.block D0 HD0.out).trans HKD.out
   have z0 := (HW.out.2.1.later b5).cell 0
   have z1 := (HW.out.2.1.later b5).cell 1
   have z2 := (HW.out.2.1.later b5).cell 2
   have z3 := (HW.out.2.1.later b5).cell 3
   simp only [List.getElem?_cons_zero, List.getElem?_cons_succ] at z0 z1 z2 z3
   have HW5 := hiD (HW.out.2.2.trans (b5.mono HW.out.2.2.size))
   have HPT := hiD (parts_any _ E _ P w5 (Nat.le_refl _) HM.out (HEW.out.below b5 HPW.out) (fun b hb => Nat.lt_of_lt_of_le (HPW.out b hb) b5.size) (HRT.out.below HW5.out HRT.out.lt))
   rw [← HF.out] at HPT
   clear b5
   by_cases hd : d ≤ 16
   ·have hd1 : (d : Int) ≤ 16 := by omega
    have HFIN : Hid (rightE E = f) := by show _ = _; rw [HRE.out, decide_eq_true hN, decide_eq_true hd]; rfl
    go_wp2_with fail
    refine HPT.out.mono ?_
    rintro r w6 ⟨rfl, b6⟩
    have HK6 : Hid (w6.heap[D0]? = some (.deferred (some []))) := (b6.block D0 (Array.getElem?_eq_some_iff.1 HK5.out).1).trans HK5.out
    have HW6 := hiD (HW5.out.trans (b6.mono HW5.out.size))
    clear b6
    go_wp2_with fail
    refine ⟨by simp, .inl ⟨D0, _, rfl, run_takeDeferred HK6.out, ?_⟩⟩
    exact ⟨_, results_tmp rfl _ _ _, by rw [HFIN.out]; rfl, HW6.out.trans (below_put w6 _ _ HWD.out)⟩
   ·have hd1 : ¬ (d : Int) ≤ 16 := by omega
    have HFIN : Hid (rightE E = false) := by show _ = _; rw [HRE.out, decide_eq_true hN, decide_eq_false hd]; rfl
    go_wp2_with fail
    refine ⟨by simp, .inl ⟨D0, _, rfl, run_takeDeferred HK5.out, ?_⟩⟩
    exact ⟨_, results_tmp rfl _ _ _, by rw [HFIN.out]; rfl, HW5.out.trans (below_put w5 _ _ HWD.out)⟩
  ·have hN1 : ¬ (N : Int) ≤ 32 := by omega
   have HFIN : Hid (rightE E = false) := by show _ = _; rw [HRE.out, decide_eq_false hN]; rfl
   go_wp2_with fail
   refine ⟨by simp, .inl ⟨D0, _, rfl, run_takeDeferred HKD.out, ?_⟩⟩
   exact ⟨_, results_tmp rfl _ _ _, by rw [HFIN.out]; rfl, HW.out.2.2.trans (below_put W _ _ HWD.out)⟩
end Go.Proofs.YtdnmgemjhpkekaaGreatDoor

namespace Go.Proofs.YtdnmgemjhpkekaaGreatDoor
open Go.ChangeShapes Go.WideShapes Go.ChangeAt Go.RowKit
set_option linter.unusedVariables false

inductive Rs (α : Type) where
 | bad (c o : Nat)
 | ok (x : α) (o lv : Nat)
def Rs.then {α β : Type} : Rs α → (α → Nat → Nat → Rs β) → Rs β
 | .bad c o, _ => .bad c o
 | .ok x o lv, f => f x o lv
theorem then_ok {α β : Type} {r : Rs α} {f : α → Nat → Nat → Rs β} {y : β} {o lv : Nat} (h : r.then f = .ok y o lv) : ∃ x o1 l1, r = .ok x o1 l1 ∧ f x o1 l1 = .ok y o lv := by
 cases r with
 | bad c o => cases h
 | ok x o1 l1 => exact ⟨x, o1, l1, rfl, h⟩
def nameR (b : List UInt8) (emp : Bool) (o lv : Nat) : Rs (List UInt8) :=
 if (partP 64 (b.drop o)).2.2 ≠ 0 then .bad (partP 64 (b.drop o)).2.2 o
 else if isName (bstr (partP 64 (b.drop o)).1) = true ∨ emp = true ∧ (partP 64 (b.drop o)).1 = [] then .ok (partP 64 (b.drop o)).1 (o + (partP 64 (b.drop o)).2.1) lv
 else .bad 5 o
def numK (b : List UInt8) (lo hi high : Nat) (o lv : Nat) : Rs Nat :=
 if (num (b.drop o)).2.2 ≠ 0 then .bad (num (b.drop o)).2.2 o
 else if hi < (num (b.drop o)).1 then .bad high o
 else if (num (b.drop o)).1 < lo then .bad 6 o
 else .ok (num (b.drop o)).1 (o + (num (b.drop o)).2.1) lv
def manyR {α : Type} (f : Nat → Nat → Rs α) : Nat → Nat → Nat → Rs (List α)
 | 0, o, lv => .ok [] o lv
 | n + 1, o, lv => (f o lv).then fun x o1 l1 => (manyR f n o1 l1).then fun xs o2 l2 => .ok (x :: xs) o2 l2
def leafR (b : List UInt8) (k o lv : Nat) : Rs Ex :=
 if k = 2 then (nameR b false o lv).then fun v o1 l1 => (nameR b false o1 l1).then fun n o2 l2 => .ok (.mk 2 v n []) o2 (l2 + 1)
 else (nameR b false o lv).then fun n o2 l2 => .ok (.mk 1 [] n []) o2 (l2 + 1)
def kidsR (b : List UInt8) (k o lv : Nat) : Rs Nat := if k < 5 then numK b 2 32 15 o lv else .ok 2 o lv
def readE (b : List UInt8) : Nat → Nat → Nat → Rs Ex
 | 0, o, lv => (numK b 1 5 6 o lv).then fun _ _ _ => .bad 7 o
 | d + 1, o, lv => (numK b 1 5 6 o lv).then fun k o1 l1 =>
  if k < 3 then (if 32 ≤ lv then .bad 15 o else leafR b k o1 l1)
  else (kidsR b k o1 l1).then fun n o2 l2 => (manyR (readE b d) n o2 l2).then fun ks o3 l3 => .ok (.mk (k : Nat) [] [] ks) o3 l3
def parseEx (b : List UInt8) : Ex × Nat × Nat :=
 match readE b 16 0 0 with
 | .bad c o => (ex0, c, o)
 | .ok e o _ => if o < b.length then (ex0, 16, o) else (e, 0, 0)
/-! ### what is written -/
mutual
def putE : Ex → List UInt8
 | .mk k v n ks => put k.toNat ++ ((if k = 2 then putS (bstr v) else []) ++ ((if k < 3 then putS (bstr n) else []) ++ ((if k = 3 ∨ k = 4 then put ks.length else []) ++ putEs ks)))
def putEs : List Ex → List UInt8
 | [] => []
 | e :: r => putE e ++ putEs r
end
theorem putEs_snoc : ∀ (l : List Ex) (e : Ex), putEs (l ++ [e]) = putEs l ++ putE e
 | [], e => by simp [putEs]
 | a :: r, e => by rw [List.cons_append, putEs, putEs_snoc r e, putEs, List.append_assoc]
/-! ### reading in order -/
theorem numK_ok {b : List UInt8} {lo hi high o lv x o1 l1 : Nat} (ho : o ≤ b.length) (h : numK b lo hi high o lv = .ok x o1 l1) : lo ≤ x ∧ x ≤ hi ∧ l1 = lv ∧ o < o1 ∧ o1 ≤ b.length ∧ b.drop o = put x ++ b.drop o1 := by
 unfold numK at h
 split at h
 ·cases h
 split at h
 ·cases h
 split at h
 ·cases h
 rename_i h1 h2 h3
 have h1' := Classical.not_not.1 h1
 cases h
 obtain ⟨b1, b2⟩ := num_back h1'
 obtain ⟨c1, c2, c3⟩ := num_at h1'
 rw [List.length_drop] at c2
 refine ⟨by omega, by omega, rfl, by omega, by omega, ?_⟩
 rw [← b1, ← List.drop_drop, List.take_append_drop]
theorem nameR_ok {b : List UInt8} {emp : Bool} {o lv : Nat} {s : List UInt8} {o1 l1 : Nat} (ho : o ≤ b.length) (h : nameR b emp o lv = .ok s o1 l1) : (isName (bstr s) = true ∨ emp = true ∧ s = []) ∧ s.length ≤ 64 ∧ l1 = lv ∧ o ≤ o1 ∧ o1 ≤ b.length ∧ b.drop o = putS (bstr s) ++ b.drop o1 := by
 unfold nameR at h
 split at h
 ·cases h
 split at h
 ·rename_i h1 h2
  have h1' := Classical.not_not.1 h1
  cases h
  obtain ⟨b1, b2, b3, b4⟩ := part_back h1'
  rw [List.length_drop] at b3
  refine ⟨h2, b1, rfl, by omega, by omega, ?_⟩
  rw [show putS (bstr (partP 64 (b.drop o)).1) = _ from b2, ← List.drop_drop, List.take_append_drop]
 ·cases h
theorem numK_put {b : List UInt8} {lo hi high o lv x : Nat} {r : List UInt8} (hx : x < lim64) (h1 : lo ≤ x) (h2 : x ≤ hi) (h : b.drop o = put x ++ r) : numK b lo hi high o lv = .ok x (o + (put x).length) lv := by
 unfold numK
 rw [h, num_put hx r]
 simp only []
 rw [if_neg (by simp), if_neg (by omega), if_neg (by omega)]
theorem nameR_put {b : List UInt8} {emp : Bool} {o lv : Nat} {s r : List UInt8} (hs : isName (bstr s) = true ∨ emp = true ∧ s = []) (hl : s.length ≤ 64) (h : b.drop o = putS (bstr s) ++ r) : nameR b emp o lv = .ok s (o + (putS (bstr s)).length) lv := by
 have hp := part_put (most := 64) r (by rw [bstr_size]; exact hl) (by omega)
 rw [← h] at hp
 unfold nameR
 simp only [hp, bstr_data]
 rw [if_neg (by simp)]
 exact if_pos hs
theorem drop_next {b : List UInt8} {o : Nat} {p r : List UInt8} (h : b.drop o = p ++ r) : b.drop (o + p.length) = r := by
 rw [← List.drop_drop, h, List.drop_left' rfl]
theorem name_len {s : List UInt8} (h : isName (bstr s) = true) : s.length ≤ 64 := by
 have := name_size h
 rwa [bstr_size] at this
/-! ### what was read is what was written -/
theorem many_back {α : Type} {f : Nat → Nat → Rs α} {B : Nat} {b : List UInt8} (R : α → Prop) (L : α → Nat) (pt : α → List UInt8)
  (hf : ∀ o lv x o1 l1, o ≤ b.length → lv ≤ 32 → f o lv = .ok x o1 l1 → R x ∧ l1 = lv + L x ∧ l1 ≤ 32 ∧ o ≤ o1 ∧ o1 ≤ b.length ∧ b.drop o = pt x ++ b.drop o1) :
  ∀ (n o lv : Nat) (xs : List α) (o1 l1 : Nat), o ≤ b.length → lv ≤ 32 → manyR f n o lv = .ok xs o1 l1 → xs.length = n ∧ (∀ x ∈ xs, R x) ∧ l1 = lv + (xs.map L).sum ∧ l1 ≤ 32 ∧ o ≤ o1 ∧ o1 ≤ b.length ∧ b.drop o = (xs.map pt).flatten ++ b.drop o1
 | 0, o, lv, xs, o1, l1, ho, hl, h => by
  cases h
  exact ⟨rfl, by simp, by simp, hl, Nat.le_refl _, ho, by simp⟩
 | n + 1, o, lv, xs, o1, l1, ho, hl, h => by
  unfold manyR at h
  obtain ⟨x, oa, la, e1, h⟩ := then_ok h
  obtain ⟨ys, ob, lb, e2, h⟩ := then_ok h
  cases h
  obtain ⟨a1, a2, a3, a4, a5, a6⟩ := hf _ _ _ _ _ ho hl e1
  obtain ⟨c1, c2, c3, c4, c5, c6, c7⟩ := many_back (B := B) R L pt hf n _ _ _ _ _ a5 a3 e2
  refine ⟨by rw [List.length_cons, c1], ?_, ?_, c4, by omega, c6, ?_⟩
  ·intro y hy
   rcases List.mem_cons.1 hy with rfl | hy
   ·exact a1
   ·exact c2 y hy
  ·rw [List.map_cons, List.sum_cons]; omega
  ·rw [a6, c7, List.map_cons, List.flatten_cons, List.append_assoc]
theorem putEs_flat : ∀ l : List Ex, (l.map putE).flatten = putEs l
 | [] => rfl
 | e :: r => by rw [List.map_cons, List.flatten_cons, putEs_flat r, putEs]
theorem leaves_sum : ∀ l : List Ex, (l.map fun e => (leavesE e).length).sum = (leavesL l).length
 | [] => rfl
 | e :: r => by rw [List.map_cons, List.sum_cons, leaves_sum r, leavesL, List.length_append]
theorem formL_ofall : ∀ {l : List Ex}, (∀ e ∈ l, formE e = true) → formL l = true
 | [], _ => by unfold formL; rfl
 | e :: r, h => by unfold formL; rw [h e (by simp), formL_ofall fun x hx => h x (by simp [hx])]; rfl
theorem depthL_all : ∀ {l : List Ex} {d : Nat}, (∀ e ∈ l, depthE e ≤ d) → depthL l ≤ d
 | [], _, _ => by unfold depthL; exact Nat.zero_le _
 | e :: r, d, h => by
  unfold depthL
  have := h e (by simp)
  have := depthL_all (l := r) (d := d) fun x hx => h x (by simp [hx])
  omega
theorem leaf_back {b : List UInt8} {k o lv : Nat} {e : Ex} {o1 l1 : Nat} (hk : k = 1 ∨ k = 2) (ho : o ≤ b.length) (h : leafR b k o lv = .ok e o1 l1) : formE e = true ∧ depthE e = 1 ∧ (leavesE e).length = 1 ∧ l1 = lv + 1 ∧ o ≤ o1 ∧ o1 ≤ b.length ∧ put k ++ b.drop o = putE e ++ b.drop o1 := by
 unfold leafR at h
 rcases hk with rfl | rfl
 ·rw [if_neg (by decide)] at h
  obtain ⟨n, oa, la, e1, h⟩ := then_ok h
  cases h
  obtain ⟨a1, a2, rfl, a4, a5, a6⟩ := nameR_ok ho e1
  have hn : isName (bstr n) = true := by rcases a1 with a | ⟨a, _⟩ <;> first | exact a | cases a
  refine ⟨by simp [formE, formL, partB, hn], by simp [depthE, depthL], by simp [leavesE, leafK], rfl, a4, a5, ?_⟩
  rw [a6]
  simp [putE, putEs]
 ·rw [if_pos rfl] at h
  obtain ⟨v, oa, la, e1, h⟩ := then_ok h
  obtain ⟨n, ob, lb, e2, h⟩ := then_ok h
  cases h
  obtain ⟨a1, a2, rfl, a4, a5, a6⟩ := nameR_ok ho e1
  obtain ⟨c1, c2, rfl, c4, c5, c6⟩ := nameR_ok a5 e2
  have hv : isName (bstr v) = true := by rcases a1 with a | ⟨a, _⟩ <;> first | exact a | cases a
  have hn : isName (bstr n) = true := by rcases c1 with a | ⟨a, _⟩ <;> first | exact a | cases a
  refine ⟨by simp [formE, formL, partB, hn, hv], by simp [depthE, depthL], by simp [leavesE, leafK], rfl, by omega, c5, ?_⟩
  rw [a6, c6]
  simp [putE, putEs]
theorem readE_back {b : List UInt8} : ∀ (d o lv : Nat) (e : Ex) (o1 l1 : Nat), o ≤ b.length → lv ≤ 32 → readE b d o lv = .ok e o1 l1 → (formE e = true ∧ depthE e ≤ d) ∧ l1 = lv + (leavesE e).length ∧ l1 ≤ 32 ∧ o ≤ o1 ∧ o1 ≤ b.length ∧ b.drop o = putE e ++ b.drop o1
 | 0, o, lv, e, o1, l1, ho, hl, h => by
  unfold readE at h
  obtain ⟨_, _, _, _, h⟩ := then_ok h
  cases h
 | d + 1, o, lv, e, o1, l1, ho, hl, h => by
  unfold readE at h
  obtain ⟨k, oa, la, e1, h⟩ := then_ok h
  obtain ⟨a1, a2, rfl, a4, a5, a6⟩ := numK_ok ho e1
  split at h
  ·rename_i hk
   split at h
   ·cases h
   ·rename_i hv
    obtain ⟨c1, c2, c3, c4, c5, c6, c7⟩ := leaf_back (by omega) a5 h
    exact ⟨⟨c1, by omega⟩, by omega, by omega, by omega, c6, by rw [a6, c7]⟩
  ·rename_i hk
   obtain ⟨n, ob, lb, e2, h⟩ := then_ok h
   obtain ⟨ks, oc, lc, e3, h⟩ := then_ok h
   cases h
   have hn : lb = la ∧ oa ≤ ob ∧ ob ≤ b.length ∧ (if k < 5 then 2 ≤ n else n = 2) ∧ b.drop oa = (if k < 5 then put n else []) ++ b.drop ob := by
    unfold kidsR at e2
    by_cases hk5 : k < 5
    ·rw [if_pos hk5] at e2
     obtain ⟨x1, x2, x3, x4, x5, x6⟩ := numK_ok a5 e2
     exact ⟨x3, by omega, x5, by rw [if_pos hk5]; exact x1, by rw [if_pos hk5]; exact x6⟩
    ·rw [if_neg hk5] at e2
     cases e2; exact ⟨rfl, Nat.le_refl _, a5, by rw [if_neg hk5], by rw [if_neg hk5]; rfl⟩
   obtain ⟨rfl, n1, n2, n3, n4⟩ := hn
   obtain ⟨m1, m2, m3, m4, m5, m6, m7⟩ := many_back (B := 0) (fun e => formE e = true ∧ depthE e ≤ d) (fun e => (leavesE e).length) putE (fun o lv x o1 l1 => readE_back d o lv x o1 l1) n _ _ _ _ _ n2 hl e3
   have hL : ¬ leafK (k : Nat) = true := by
    have : k = 3 ∨ k = 4 ∨ k = 5 := by omega
    rcases this with rfl | rfl | rfl <;> decide
   rw [leaves_sum] at m3
   rw [putEs_flat] at m7
   refine ⟨⟨?_, ?_⟩, ?_, m4, by omega, m6, ?_⟩
   ·unfold formE
    rw [formL_ofall fun x hx => (m2 x hx).1, Bool.and_true]
    have : k = 3 ∨ k = 4 ∨ k = 5 := by omega
    rcases this with rfl | rfl | rfl <;> simp at n3 <;> simp [partB, m1, n3]
   ·unfold depthE
    have := depthL_all fun x hx => (m2 x hx).2
    omega
   ·unfold leavesE; rw [if_neg hL]; exact m3
   ·rw [a6, n4, m7]
    have : k = 3 ∨ k = 4 ∨ k = 5 := by omega
    rcases this with rfl | rfl | rfl <;> simp [putE, m1]
/-! ### what was written is read -/
theorem many_put {f : Nat → Nat → Rs Ex} {b : List UInt8} : ∀ (ks : List Ex) (o lv : Nat) (r : List UInt8), (∀ e ∈ ks, ∀ o lv r, lv + (leavesE e).length ≤ 32 → b.drop o = putE e ++ r → f o lv = .ok e (o + (putE e).length) (lv + (leavesE e).length)) → lv + (leavesL ks).length ≤ 32 → b.drop o = putEs ks ++ r → manyR f ks.length o lv = .ok ks (o + (putEs ks).length) (lv + (leavesL ks).length)
 | [], o, lv, r, _, _, _ => by simp [manyR, putEs, leavesL]
 | e :: ks, o, lv, r, hf, hl, h => by
  rw [leavesL, List.length_append] at hl
  rw [putEs, List.append_assoc] at h
  rw [List.length_cons, manyR, hf e (by simp) o lv _ (by omega) h]
  show Rs.then (manyR f ks.length _ _) _ = _
  rw [many_put ks _ _ r (fun x hx => hf x (by simp [hx])) (by omega) (drop_next h)]
  show Rs.ok (e :: ks) _ _ = _
  rw [putEs, leavesL, List.length_append, List.length_append, Nat.add_assoc, Nat.add_assoc]
theorem formL_mem : ∀ {l : List Ex}, formL l = true → ∀ e ∈ l, formE e = true
 | [], _, e, he => by simp at he
 | a :: r, h, e, he => by
  unfold formL at h
  simp only [Bool.and_eq_true] at h
  rcases List.mem_cons.1 he with rfl | he
  ·exact h.1
  ·exact formL_mem h.2 e he
theorem depthL_mem : ∀ {l : List Ex} {d : Nat}, depthL l ≤ d → ∀ e ∈ l, depthE e ≤ d
 | [], d, _, e, he => by simp at he
 | a :: r, d, h, e, he => by
  unfold depthL at h
  rcases List.mem_cons.1 he with rfl | he
  ·omega
  ·exact depthL_mem (l := r) (by omega) e he
mutual
theorem leavesE_pos : ∀ e : Ex, formE e = true → 1 ≤ (leavesE e).length
 | .mk k v n ks, he => by
  unfold leavesE
  split
  ·simp
  ·rename_i hk
   unfold formE at he
   simp only [Bool.and_eq_true] at he
   have h2 := leavesL_le ks he.2
   have h3 : 2 ≤ ks.length := by
    have h4 := he.1
    unfold partB at h4
    split at h4
    ·rename_i h5; subst h5; exact absurd rfl hk
    split at h4
    ·rename_i h5; subst h5; exact absurd rfl hk
    split at h4
    ·simp only [Bool.and_eq_true, decide_eq_true_eq] at h4; exact h4.1.1
    split at h4
    ·simp only [Bool.and_eq_true, decide_eq_true_eq] at h4; omega
    ·cases h4
   omega
theorem leavesL_le : ∀ l : List Ex, formL l = true → l.length ≤ (leavesL l).length
 | [], _ => Nat.zero_le _
 | e :: r, h => by
  unfold formL at h
  simp only [Bool.and_eq_true] at h
  have a1 := leavesL_le r h.2
  have a2 := leavesE_pos e h.1
  rw [leavesL, List.length_append, List.length_cons]; omega
end
theorem readE_put {b : List UInt8} : ∀ (d : Nat) (e : Ex), formE e = true → depthE e ≤ d → ∀ o lv r, lv + (leavesE e).length ≤ 32 → b.drop o = putE e ++ r → readE b d o lv = .ok e (o + (putE e).length) (lv + (leavesE e).length)
 | 0, e, _, hd => by have := depthE_pos e; omega
 | d + 1, .mk k v n ks, hf, hd => by
  intro o lv r hl h
  unfold formE at hf
  simp only [Bool.and_eq_true] at hf
  obtain ⟨hp, hks⟩ := hf
  unfold depthE at hd
  unfold partB at hp
  split at hp
  ·rename_i hk; subst hk
   simp only [Bool.and_eq_true, decide_eq_true_eq] at hp
   obtain ⟨⟨h1, rfl⟩, h3⟩ := hp
   obtain rfl := List.length_eq_zero_iff.1 h1
   have e1 : putE (.mk 1 [] n []) = put 1 ++ putS (bstr n) := by simp [putE, putEs]
   have e2 : (leavesE (.mk 1 [] n [])).length = 1 := by simp [leavesE, leafK]
   rw [e2] at hl
   rw [e1, List.append_assoc] at h
   rw [e1, e2]
   unfold readE
   rw [numK_put (by decide) (by decide) (by decide) h]
   simp only [Rs.then]
   rw [if_pos (by decide), if_neg (by omega)]
   unfold leafR
   rw [if_neg (by decide), nameR_put (.inl h3) (name_len h3) (drop_next h)]
   show Rs.ok _ _ _ = _
   rw [List.length_append, Nat.add_assoc]
  split at hp
  ·rename_i hk; subst hk
   simp only [Bool.and_eq_true, decide_eq_true_eq] at hp
   obtain ⟨⟨h1, h2⟩, h3⟩ := hp
   obtain rfl := List.length_eq_zero_iff.1 h1
   have e1 : putE (.mk 2 v n []) = put 2 ++ (putS (bstr v) ++ putS (bstr n)) := by simp [putE, putEs]
   have e2 : (leavesE (.mk 2 v n [])).length = 1 := by simp [leavesE, leafK]
   rw [e2] at hl
   rw [e1, List.append_assoc, List.append_assoc] at h
   rw [e1, e2]
   unfold readE
   rw [numK_put (by decide) (by decide) (by decide) h]
   simp only [Rs.then]
   rw [if_pos (by decide), if_neg (by omega)]
   unfold leafR
   rw [if_pos rfl, nameR_put (.inl h2) (name_len h2) (drop_next h)]
   show Rs.then (nameR b false _ _) _ = _
   rw [nameR_put (.inl h3) (name_len h3) (drop_next (drop_next h))]
   show Rs.ok _ _ _ = _
   simp only [List.length_append, Nat.add_assoc]
  have hmore : ∀ (K : Nat), (K = 3 ∨ K = 4 ∨ K = 5) → k = (K : Nat) → v = [] → n = [] → 2 ≤ ks.length → (K = 5 → ks.length = 2) → readE b (d + 1) o lv = .ok (.mk k v n ks) (o + (putE (.mk k v n ks)).length) (lv + (leavesE (.mk k v n ks)).length) := by
   rintro K hK rfl rfl rfl h2 h5
   have hL : ¬ leafK (K : Nat) = true := by rcases hK with rfl | rfl | rfl <;> decide
   have e2 : leavesE (.mk (K : Nat) [] [] ks) = leavesL ks := by unfold leavesE; rw [if_neg hL]
   have e1 : putE (.mk (K : Nat) [] [] ks) = put K ++ ((if K < 5 then put ks.length else []) ++ putEs ks) := by
    rcases hK with rfl | rfl | rfl <;> simp [putE]
   rw [e2] at hl
   rw [e1, List.append_assoc, List.append_assoc] at h
   rw [e1, e2]
   have h32 := leavesL_le ks hks
   unfold readE
   rw [numK_put (by unfold lim64; omega) (by omega) (by omega) h]
   simp only [Rs.then]
   rw [if_neg (by omega)]
   have hn : kidsR b K (o + (put K).length) lv = .ok ks.length (o + (put K).length + (if K < 5 then put ks.length else []).length) lv := by
    unfold kidsR
    have h' := drop_next h
    by_cases hK5 : K < 5
    ·rw [if_pos hK5] at h' ⊢
     rw [if_pos hK5, numK_put (by unfold lim64; omega) h2 (by omega) h']
    ·rw [if_neg hK5, if_neg hK5, h5 (by omega)]; rfl
   rw [hn]
   show Rs.then (manyR (readE b d) ks.length _ _) _ = _
   rw [many_put ks _ _ r (fun e he => readE_put d e (formL_mem hks e he) (depthL_mem (by omega) e he)) (by omega) (drop_next (drop_next h))]
   show Rs.ok _ _ _ = _
   simp only [List.length_append, Nat.add_assoc]
  split at hp
  ·rename_i hk
   simp only [Bool.and_eq_true, decide_eq_true_eq] at hp
   obtain ⟨⟨h1, h2⟩, h3⟩ := hp
   rcases hk with rfl | rfl
   ·exact hmore 3 (by decide) rfl h2 h3 h1 (by omega)
   ·exact hmore 4 (by decide) rfl h2 h3 h1 (by omega)
  split at hp
  ·rename_i hk
   simp only [Bool.and_eq_true, decide_eq_true_eq] at hp
   obtain ⟨⟨h1, h2⟩, h3⟩ := hp
   exact hmore 5 (by decide) (by subst hk; rfl) h2 h3 (by omega) (fun _ => h1)
  ·cases hp
end Go.Proofs.YtdnmgemjhpkekaaGreatDoor
namespace Go.Proofs.YtdnmgemjhpkekaaGreatDoor
open Go.ChangeShapes Go.WideShapes Go.ChangeAt Go.RowKit
set_option linter.unusedVariables false
set_option linter.unusedSimpArgs false

abbrev AlB := List UInt8 × List UInt8
abbrev MemB := List UInt8 × Int × List AlB × Ex
abbrev DefB := List UInt8 × List MemB
def GoodA (a : AlB) : Prop := isName (bstr a.1) = true ∧ (a.2 = [] ∨ isName (bstr a.2) = true)
def FineE (e : Ex) : Prop := rightE e = true ∧ okE 64 e ∧ sizeE e ≤ 64
def GoodM (m : MemB) : Prop := isName (bstr m.1) = true ∧ ((m.2.1 = 1 ∧ 1 ≤ m.2.2.1.length ∧ m.2.2.1.length ≤ 32 ∧ (∀ a ∈ m.2.2.1, GoodA a) ∧ m.2.2.2 = ex0) ∨ (m.2.1 = 2 ∧ m.2.2.1 = [] ∧ FineE m.2.2.2))
def GoodD (d : DefB) : Prop := isName (bstr d.1) = true ∧ d.2.length ≤ 64 ∧ ∀ m ∈ d.2, GoodM m
def GoodS (l : List DefB) : Prop := l.length ≤ 64 ∧ ∀ d ∈ l, GoodD d

/-! ### expressions of the form are small -/
theorem partB_2 {k : Int} {v n : List UInt8} {m : Nat} (h : partB k v n m = true) : v.length ≤ 64 ∧ n.length ≤ 64 ∧ (leafK k = true ∧ m = 0 ∨ leafK k = false ∧ 2 ≤ m) := by
 unfold partB at h
 split at h
 ·rename_i hk; subst hk
  simp only [Bool.and_eq_true, decide_eq_true_eq] at h
  obtain ⟨⟨rfl, rfl⟩, h3⟩ := h
  exact ⟨Nat.zero_le _, name_len h3, .inl ⟨rfl, rfl⟩⟩
 split at h
 ·rename_i hk; subst hk
  simp only [Bool.and_eq_true, decide_eq_true_eq] at h
  obtain ⟨⟨rfl, h2⟩, h3⟩ := h
  exact ⟨name_len h2, name_len h3, .inl ⟨rfl, rfl⟩⟩
 split at h
 ·rename_i hk
  simp only [Bool.and_eq_true, decide_eq_true_eq] at h
  obtain ⟨⟨h1, rfl⟩, rfl⟩ := h
  exact ⟨Nat.zero_le _, Nat.zero_le _, .inr ⟨by rcases hk with rfl | rfl <;> rfl, h1⟩⟩
 split at h
 ·rename_i hk; subst hk
  simp only [Bool.and_eq_true, decide_eq_true_eq] at h
  obtain ⟨⟨h1, rfl⟩, rfl⟩ := h
  exact ⟨Nat.zero_le _, Nat.zero_le _, .inr ⟨rfl, by omega⟩⟩
 ·cases h
mutual
theorem form_small : ∀ e : Ex, formE e = true → okE 64 e ∧ sizeE e + 1 ≤ 2 * (leavesE e).length
 | .mk k v n ks, h => by
  unfold formE at h
  simp only [Bool.and_eq_true] at h
  obtain ⟨a1, a2, a3⟩ := partB_2 h.1
  obtain ⟨b1, b2⟩ := forms_small ks h.2
  refine ⟨by unfold okE; exact ⟨a1, a2, b1⟩, ?_⟩
  unfold sizeE leavesE
  rcases a3 with ⟨hk, hm⟩ | ⟨hk, hm⟩
  ·rw [if_pos hk]
   obtain rfl := List.length_eq_zero_iff.1 hm
   simp [sizeL]
  ·rw [if_neg (by rw [hk]; simp)]
   omega
theorem forms_small : ∀ l : List Ex, formL l = true → okL 64 l ∧ sizeL l + l.length ≤ 2 * (leavesL l).length
 | [], _ => by unfold okL; exact ⟨trivial, by simp [sizeL]⟩
 | e :: r, h => by
  unfold formL at h
  simp only [Bool.and_eq_true] at h
  obtain ⟨a1, a2⟩ := form_small e h.1
  obtain ⟨b1, b2⟩ := forms_small r h.2
  refine ⟨by unfold okL; exact ⟨a1, b1⟩, ?_⟩
  rw [sizeL, leavesL, List.length_append, List.length_cons]
  omega
end
theorem fine_of {e : Ex} (hf : formE e = true) (hd : depthE e ≤ 16) (hl : (leavesE e).length ≤ 32) : FineE e := by
 obtain ⟨h1, h2⟩ := form_small e hf
 refine ⟨?_, h1, by omega⟩
 unfold rightE
 rw [hf, decide_eq_true hd, decide_eq_true hl]; rfl
theorem right_all {e : Ex} (h : rightE e = true) : formE e = true ∧ depthE e ≤ 16 ∧ (leavesE e).length ≤ 32 := by
 unfold rightE at h
 simp only [Bool.and_eq_true, decide_eq_true_eq] at h
 exact ⟨h.2.2, h.2.1, h.1⟩

/-! ### every error has a code -/
theorem ne_then {α β : Type} {r : Rs α} {f : α → Nat → Nat → Rs β} (h : ∀ c o, r = .bad c o → c ≠ 0) (hf : ∀ x o l c a, f x o l = .bad c a → c ≠ 0) : ∀ c a, r.then f = .bad c a → c ≠ 0 := by
 intro c a e
 cases r with
 | bad c' o' => cases e; exact h _ _ rfl
 | ok x o' l => exact hf x o' l c a e
theorem ne_ok {α : Type} (x : α) (o l : Nat) : ∀ c a, Rs.ok x o l = .bad c a → c ≠ 0 := fun _ _ e => by cases e
theorem numK_ne {b : List UInt8} {lo hi high o lv : Nat} (hh : high ≠ 0) : ∀ c a, numK b lo hi high o lv = .bad c a → c ≠ 0 := by
 intro c a e
 unfold numK at e
 split at e
 ·rename_i h; cases e; exact h
 split at e
 ·cases e; exact hh
 split at e
 ·cases e; decide
 ·cases e
theorem nameR_ne {b : List UInt8} {emp : Bool} {o lv : Nat} : ∀ c a, nameR b emp o lv = .bad c a → c ≠ 0 := by
 intro c a e
 unfold nameR at e
 split at e
 ·rename_i h; cases e; exact h
 split at e
 ·cases e
 ·cases e; decide
theorem many_ne {α : Type} {f : Nat → Nat → Rs α} (hf : ∀ o l c a, f o l = .bad c a → c ≠ 0) : ∀ n o l c a, manyR f n o l = .bad c a → c ≠ 0
 | 0, o, l, c, a, e => by cases e
 | n + 1, o, l, c, a, e => ne_then (hf o l) (fun x o1 l1 => ne_then (many_ne hf n o1 l1) fun xs o2 l2 => ne_ok _ _ _) c a e
theorem leafR_ne {b : List UInt8} {k o lv : Nat} : ∀ c a, leafR b k o lv = .bad c a → c ≠ 0 := by
 intro c a e
 unfold leafR at e
 split at e
 ·exact ne_then nameR_ne (fun x o1 l1 => ne_then nameR_ne fun y o2 l2 => ne_ok _ _ _) c a e
 ·exact ne_then nameR_ne (fun x o1 l1 => ne_ok _ _ _) c a e
theorem readE_ne {b : List UInt8} : ∀ d o lv c a, readE b d o lv = .bad c a → c ≠ 0
 | 0, o, lv, c, a, e => ne_then (numK_ne (by decide)) (fun x o1 l1 c a e => by cases e; decide) c a e
 | d + 1, o, lv, c, a, e => by
  unfold readE at e
  refine ne_then (numK_ne (by decide)) (fun k o1 l1 c a e => ?_) c a e
  split at e
  ·split at e
   ·cases e; decide
   ·exact leafR_ne c a e
  ·refine ne_then ?_ (fun n o2 l2 => ne_then (many_ne (readE_ne d) n o2 l2) fun ks o3 l3 => ne_ok _ _ _) c a e
   intro c a e
   unfold kidsR at e
   split at e
   ·exact numK_ne (by decide) c a e
   ·cases e
/-! ### a whole expression -/
theorem parseEx_ok {b : List UInt8} (hc : (parseEx b).2.1 = 0) : FineE (parseEx b).1 ∧ b = putE (parseEx b).1 ∧ (parseEx b).2.2 = 0 := by
 unfold parseEx at hc ⊢
 cases hr : readE b 16 0 0 with
 | bad c o =>
  rw [hr] at hc
  exact absurd hc (readE_ne 16 0 0 c o hr)
 | ok x o l =>
  rw [hr] at hc
  simp only [] at hc ⊢
  obtain ⟨⟨h1, h2⟩, h3, h4, h5, h6, h7⟩ := readE_back 16 0 0 x o l (Nat.zero_le _) (by decide) hr
  by_cases ho : o < b.length
  ·rw [if_pos ho] at hc; cases hc
  ·rw [if_neg ho]
   refine ⟨fine_of h1 h2 (show (leavesE x).length ≤ 32 by omega), ?_, rfl⟩
   have : b.drop o = [] := List.drop_eq_nil_of_le (by omega)
   rwa [this, List.append_nil, List.drop_zero] at h7
theorem parseEx_put {e : Ex} (h : rightE e = true) : parseEx (putE e) = (e, 0, 0) := by
 obtain ⟨h1, h2, h3⟩ := right_all h
 unfold parseEx
 rw [readE_put (b := putE e) 16 e h1 h2 0 0 [] (by omega) (by simp)]
 simp only []
 rw [if_neg (by omega)]
theorem parseEx_fail {b : List UInt8} (hc : (parseEx b).2.1 ≠ 0) : (parseEx b).1 = ex0 := by
 unfold parseEx at hc ⊢
 cases hr : readE b 16 0 0 with
 | bad c o => rfl
 | ok x o l =>
  rw [hr] at hc
  simp only [] at hc ⊢
  by_cases ho : o < b.length
  ·rw [if_pos ho]
  ·rw [if_neg ho] at hc; exact absurd rfl hc

/-! ### schemas -/
def allR (b : List UInt8) (o lv : Nat) : Rs AlB := (nameR b false o lv).then fun a o1 l1 => (nameR b true o1 l1).then fun r o2 l2 => .ok (a, r) o2 l2
def relR (b n : List UInt8) (o lv : Nat) : Rs MemB := (numK b 1 32 15 o lv).then fun t o1 l1 => (manyR (allR b) t o1 l1).then fun ls o2 l2 => .ok (n, 1, ls, ex0) o2 0
def permR (b n : List UInt8) (o lv : Nat) : Rs MemB := (readE b 16 o 0).then fun e o1 l1 => .ok (n, 2, [], e) o1 0
def memR (b : List UInt8) (o lv : Nat) : Rs MemB := (nameR b false o lv).then fun n o1 l1 => (numK b 1 2 6 o1 l1).then fun k o2 l2 => if k = 2 then permR b n o2 l2 else relR b n o2 l2
def defR (b : List UInt8) (o lv : Nat) : Rs DefB := (nameR b false o lv).then fun n o1 l1 => (numK b 0 64 15 o1 l1).then fun k o2 l2 => (manyR (memR b) k o2 l2).then fun ms o3 l3 => .ok (n, ms) o3 l3
def schR (b : List UInt8) (o lv : Nat) : Rs (List DefB) := (numK b 0 64 15 o lv).then fun k o1 l1 => manyR (defR b) k o1 l1
def putA (a : AlB) : List UInt8 := putS (bstr a.1) ++ putS (bstr a.2)
def putM (m : MemB) : List UInt8 := putS (bstr m.1) ++ (put m.2.1.toNat ++ (if m.2.1 = 2 then putE m.2.2.2 else put m.2.2.1.length ++ (m.2.2.1.map putA).flatten))
def putD (d : DefB) : List UInt8 := putS (bstr d.1) ++ (put d.2.length ++ (d.2.map putM).flatten)
def putSc (l : List DefB) : List UInt8 := put l.length ++ (l.map putD).flatten
def parseSc (b : List UInt8) : List DefB × Nat × Nat :=
 match schR b 0 0 with
 | .bad c o => ([], c, o)
 | .ok d o _ => if o < b.length then ([], 16, o) else (d, 0, 0)
theorem many_back0 {α : Type} {f : Nat → Nat → Rs α} {b : List UInt8} (R : α → Prop) (pt : α → List UInt8)
  (hf : ∀ o x o1 l1, o ≤ b.length → f o 0 = .ok x o1 l1 → R x ∧ l1 = 0 ∧ o ≤ o1 ∧ o1 ≤ b.length ∧ b.drop o = pt x ++ b.drop o1) :
  ∀ (n o : Nat) (xs : List α) (o1 l1 : Nat), o ≤ b.length → manyR f n o 0 = .ok xs o1 l1 → xs.length = n ∧ (∀ x ∈ xs, R x) ∧ l1 = 0 ∧ o ≤ o1 ∧ o1 ≤ b.length ∧ b.drop o = (xs.map pt).flatten ++ b.drop o1
 | 0, o, xs, o1, l1, ho, h => by
  cases h
  exact ⟨rfl, by simp, rfl, Nat.le_refl _, ho, by simp⟩
 | n + 1, o, xs, o1, l1, ho, h => by
  unfold manyR at h
  obtain ⟨x, oa, la, e1, h⟩ := then_ok h
  obtain ⟨ys, ob, lb, e2, h⟩ := then_ok h
  cases h
  obtain ⟨a1, rfl, a4, a5, a6⟩ := hf _ _ _ _ ho e1
  obtain ⟨c1, c2, c3, c5, c6, c7⟩ := many_back0 R pt hf n _ _ _ _ a5 e2
  refine ⟨by rw [List.length_cons, c1], ?_, c3, by omega, c6, ?_⟩
  ·intro y hy
   rcases List.mem_cons.1 hy with rfl | hy
   ·exact a1
   ·exact c2 y hy
  ·rw [a6, c7, List.map_cons, List.flatten_cons, List.append_assoc]
theorem many_put0 {α : Type} {f : Nat → Nat → Rs α} {b : List UInt8} {pt : α → List UInt8} : ∀ (xs : List α) (o : Nat) (r : List UInt8), (∀ x ∈ xs, ∀ o r, b.drop o = pt x ++ r → f o 0 = .ok x (o + (pt x).length) 0) → b.drop o = (xs.map pt).flatten ++ r → manyR f xs.length o 0 = .ok xs (o + (xs.map pt).flatten.length) 0
 | [], o, r, _, _ => by simp [manyR]
 | x :: xs, o, r, hf, h => by
  rw [List.map_cons, List.flatten_cons, List.append_assoc] at h
  rw [List.length_cons, manyR, hf x (by simp) o _ h]
  show Rs.then (manyR f xs.length _ _) _ = _
  rw [many_put0 xs _ r (fun y hy => hf y (by simp [hy])) (drop_next h)]
  show Rs.ok (x :: xs) _ _ = _
  rw [List.map_cons, List.flatten_cons, List.length_append, Nat.add_assoc]
theorem name_of {s : List UInt8} (h : isName (bstr s) = true ∨ false = true ∧ s = []) : isName (bstr s) = true := by
 rcases h with h | ⟨h, _⟩
 ·exact h
 ·cases h
theorem allR_back {b : List UInt8} (o : Nat) (x : AlB) (o1 l1 : Nat) (ho : o ≤ b.length) (h : allR b o 0 = .ok x o1 l1) : GoodA x ∧ l1 = 0 ∧ o ≤ o1 ∧ o1 ≤ b.length ∧ b.drop o = putA x ++ b.drop o1 := by
 unfold allR at h
 obtain ⟨v, oa, la, e1, h⟩ := then_ok h
 obtain ⟨n, ob, lb, e2, h⟩ := then_ok h
 cases h
 obtain ⟨a1, a2, rfl, a4, a5, a6⟩ := nameR_ok ho e1
 obtain ⟨c1, c2, rfl, c4, c5, c6⟩ := nameR_ok a5 e2
 refine ⟨⟨name_of a1, ?_⟩, rfl, by omega, c5, by rw [a6, c6, putA, List.append_assoc]⟩
 rcases c1 with h | ⟨_, h⟩
 ·exact .inr h
 ·exact .inl h
theorem memR_back {b : List UInt8} (o : Nat) (x : MemB) (o1 l1 : Nat) (ho : o ≤ b.length) (h : memR b o 0 = .ok x o1 l1) : GoodM x ∧ l1 = 0 ∧ o ≤ o1 ∧ o1 ≤ b.length ∧ b.drop o = putM x ++ b.drop o1 := by
 unfold memR at h
 obtain ⟨n, oa, la, e1, h⟩ := then_ok h
 obtain ⟨k, ob, lb, e2, h⟩ := then_ok h
 obtain ⟨a1, a2, rfl, a4, a5, a6⟩ := nameR_ok ho e1
 obtain ⟨c1, c2, rfl, c4, c5, c6⟩ := numK_ok a5 e2
 have hn := name_of a1
 by_cases hk : k = 2
 ·rw [if_pos hk] at h; subst hk
  unfold permR at h
  obtain ⟨e, oc, lc, e3, h⟩ := then_ok h
  cases h
  obtain ⟨⟨d1, d2⟩, d3, d4, d5, d6, d7⟩ := readE_back 16 _ _ _ _ _ c5 (by decide) e3
  refine ⟨⟨hn, .inr ⟨rfl, rfl, fine_of d1 d2 (show (leavesE e).length ≤ 32 by omega)⟩⟩, rfl, by omega, d6, ?_⟩
  rw [a6, c6, d7]
  simp [putM]
 ·rw [if_neg hk] at h
  have hk1 : k = 1 := by omega
  subst hk1
  unfold relR at h
  obtain ⟨t, oc, lc, e3, h⟩ := then_ok h
  obtain ⟨ls, od, ld, e4, h⟩ := then_ok h
  cases h
  obtain ⟨d1, d2, rfl, d4, d5, d6⟩ := numK_ok c5 e3
  obtain ⟨f1, f2, f3, f5, f6, f7⟩ := many_back0 GoodA putA allR_back _ _ _ _ _ d5 e4
  refine ⟨⟨hn, .inl ⟨rfl, by simp only []; omega, by simp only []; omega, f2, rfl⟩⟩, rfl, by omega, f6, ?_⟩
  rw [a6, c6, d6, f7]
  simp [putM, f1]
theorem defR_back {b : List UInt8} (o : Nat) (x : DefB) (o1 l1 : Nat) (ho : o ≤ b.length) (h : defR b o 0 = .ok x o1 l1) : GoodD x ∧ l1 = 0 ∧ o ≤ o1 ∧ o1 ≤ b.length ∧ b.drop o = putD x ++ b.drop o1 := by
 unfold defR at h
 obtain ⟨n, oa, la, e1, h⟩ := then_ok h
 obtain ⟨k, ob, lb, e2, h⟩ := then_ok h
 obtain ⟨ms, oc, lc, e3, h⟩ := then_ok h
 cases h
 obtain ⟨a1, a2, rfl, a4, a5, a6⟩ := nameR_ok ho e1
 obtain ⟨c1, c2, rfl, c4, c5, c6⟩ := numK_ok a5 e2
 obtain ⟨f1, f2, f3, f5, f6, f7⟩ := many_back0 GoodM putM memR_back _ _ _ _ _ c5 e3
 refine ⟨⟨name_of a1, by simp only []; omega, f2⟩, f3, by omega, f6, ?_⟩
 rw [a6, c6, f7]
 simp [putD, f1]
theorem schR_back {b : List UInt8} {d : List DefB} {o1 l1 : Nat} (h : schR b 0 0 = .ok d o1 l1) : GoodS d ∧ o1 ≤ b.length ∧ b = putSc d ++ b.drop o1 := by
 unfold schR at h
 obtain ⟨k, ob, lb, e2, h⟩ := then_ok h
 obtain ⟨c1, c2, rfl, c4, c5, c6⟩ := numK_ok (Nat.zero_le _) e2
 obtain ⟨f1, f2, f3, f5, f6, f7⟩ := many_back0 GoodD putD defR_back _ _ _ _ _ c5 h
 refine ⟨⟨by omega, f2⟩, f6, ?_⟩
 rw [List.drop_zero] at c6
 rw [putSc, f1, List.append_assoc, ← f7]; exact c6
theorem allR_put {b : List UInt8} {x : AlB} (hg : GoodA x) (o : Nat) (r : List UInt8) (h : b.drop o = putA x ++ r) : allR b o 0 = .ok x (o + (putA x).length) 0 := by
 unfold putA at h
 rw [List.append_assoc] at h
 have h2 : isName (bstr x.2) = true ∨ true = true ∧ x.2 = [] := by
  rcases hg.2 with h | h
  ·exact .inr ⟨rfl, h⟩
  ·exact .inl h
 have hl : x.2.length ≤ 64 := by
  rcases hg.2 with h | h
  ·rw [h]; exact Nat.zero_le _
  ·exact name_len h
 unfold allR
 rw [nameR_put (.inl hg.1) (name_len hg.1) h]
 simp only [Rs.then]
 rw [nameR_put h2 hl (drop_next h)]
 simp only [Rs.then, putA, List.length_append, Nat.add_assoc]
theorem memR_put {b : List UInt8} {x : MemB} (hg : GoodM x) (o : Nat) (r : List UInt8) (h : b.drop o = putM x ++ r) : memR b o 0 = .ok x (o + (putM x).length) 0 := by
 obtain ⟨n, k, ls, e⟩ := x
 obtain ⟨h1, hg⟩ := hg
 rcases hg with ⟨rfl, t1, t2, t3, rfl⟩ | ⟨rfl, rfl, he⟩
 ·have ep : putM (n, 1, ls, ex0) = putS (bstr n) ++ (put 1 ++ (put ls.length ++ (ls.map putA).flatten)) := by simp [putM]
  rw [ep] at h ⊢
  simp only [List.append_assoc] at h
  unfold memR
  rw [nameR_put (.inl h1) (name_len h1) h]
  simp only [Rs.then]
  rw [numK_put (x := 1) (by decide) (by decide) (by decide) (drop_next h)]
  simp only [Rs.then]
  rw [if_neg (by decide)]
  unfold relR
  rw [numK_put (x := ls.length) (by unfold lim64; simp only [] at t2; omega) t1 t2 (drop_next (drop_next h))]
  simp only [Rs.then]
  rw [many_put0 (pt := putA) ls _ r (fun y hy => allR_put (t3 y hy)) (drop_next (drop_next (drop_next h)))]
  simp only [Rs.then, List.length_append, Nat.add_assoc]
 ·have ep : putM (n, 2, [], e) = putS (bstr n) ++ (put 2 ++ putE e) := by simp [putM]
  rw [ep] at h ⊢
  simp only [List.append_assoc] at h
  obtain ⟨r1, r2, r3⟩ := right_all he.1
  unfold memR
  rw [nameR_put (.inl h1) (name_len h1) h]
  simp only [Rs.then]
  rw [numK_put (x := 2) (by decide) (by decide) (by decide) (drop_next h)]
  simp only [Rs.then]
  rw [if_pos trivial]
  unfold permR
  rw [readE_put 16 e r1 r2 _ 0 r (by simp only [] at r3; omega) (drop_next (drop_next h))]
  simp only [Rs.then, List.length_append, Nat.add_assoc]
theorem defR_put {b : List UInt8} {x : DefB} (hg : GoodD x) (o : Nat) (r : List UInt8) (h : b.drop o = putD x ++ r) : defR b o 0 = .ok x (o + (putD x).length) 0 := by
 obtain ⟨n, ms⟩ := x
 obtain ⟨h1, h2, h3⟩ := hg
 unfold putD at h ⊢
 simp only [List.append_assoc] at h
 unfold defR
 rw [nameR_put (.inl h1) (name_len h1) h]
 simp only [Rs.then]
 rw [numK_put (x := ms.length) (by unfold lim64; simp only [] at h2; omega) (Nat.zero_le _) h2 (drop_next h)]
 simp only [Rs.then]
 rw [many_put0 (pt := putM) ms _ r (fun y hy => memR_put (h3 y hy)) (drop_next (drop_next h))]
 simp only [Rs.then, List.length_append, Nat.add_assoc]
theorem parseSc_put {d : List DefB} (hg : GoodS d) : parseSc (putSc d) = (d, 0, 0) := by
 unfold parseSc schR
 have h : (putSc d).drop 0 = put d.length ++ ((d.map putD).flatten ++ []) := by simp [putSc]
 rw [numK_put (x := d.length) (by unfold lim64; have := hg.1; omega) (Nat.zero_le _) hg.1 h]
 simp only [Rs.then]
 rw [many_put0 (pt := putD) d _ [] (fun y hy => defR_put (hg.2 y hy)) (drop_next h)]
 simp only []
 rw [if_neg (by simp [putSc])]
theorem memR_ne {b : List UInt8} : ∀ o lv c a, memR b o lv = .bad c a → c ≠ 0 := by
 intro o lv c a e
 unfold memR at e
 refine ne_then nameR_ne (fun n o1 l1 => ne_then (numK_ne (by decide)) fun k o2 l2 c a e => ?_) c a e
 split at e
 ·exact ne_then (readE_ne 16 _ _) (fun e o l => ne_ok _ _ _) c a e
 ·exact ne_then (numK_ne (by decide)) (fun t o l => ne_then (many_ne (fun o l => ne_then nameR_ne fun x o1 l1 => ne_then nameR_ne fun y o2 l2 => ne_ok _ _ _) t o l) fun ls o l => ne_ok _ _ _) c a e
theorem schR_ne {b : List UInt8} : ∀ o lv c a, schR b o lv = .bad c a → c ≠ 0 := fun o lv =>
 ne_then (numK_ne (by decide)) fun k o l => many_ne (fun o l => ne_then nameR_ne fun n o1 l1 => ne_then (numK_ne (by decide)) fun k o2 l2 => ne_then (many_ne memR_ne k o2 l2) fun ms o3 l3 => ne_ok _ _ _) k o l
theorem parseSc_ok {b : List UInt8} (hc : (parseSc b).2.1 = 0) : GoodS (parseSc b).1 ∧ b = putSc (parseSc b).1 ∧ (parseSc b).2.2 = 0 := by
 unfold parseSc at hc ⊢
 cases hr : schR b 0 0 with
 | bad c o =>
  rw [hr] at hc
  exact absurd hc (schR_ne 0 0 c o hr)
 | ok x o l =>
  rw [hr] at hc
  simp only [] at hc ⊢
  obtain ⟨h1, h2, h3⟩ := schR_back hr
  by_cases ho : o < b.length
  ·rw [if_pos ho] at hc; cases hc
  ·rw [if_neg ho]
   refine ⟨h1, ?_, rfl⟩
   have : b.drop o = [] := List.drop_eq_nil_of_le (by omega)
   rwa [this, List.append_nil] at h3
theorem parseSc_fail {b : List UInt8} (hc : (parseSc b).2.1 ≠ 0) : (parseSc b).1 = [] := by
 unfold parseSc at hc ⊢
 cases hr : schR b 0 0 with
 | bad c o => rfl
 | ok x o l =>
  rw [hr] at hc
  simp only [] at hc ⊢
  by_cases ho : o < b.length
  ·rw [if_pos ho]
  ·rw [if_neg ho] at hc; exact absurd rfl hc
end Go.Proofs.YtdnmgemjhpkekaaGreatDoor
namespace Go.Proofs.YtdnmgemjhpkekaaGreatDoor
open Go.ChangeShapes Go.WideShapes Go.ChangeAt Go.RowKit
set_option linter.unusedVariables false

structure Kd (α : Type) where
  sty : TypeId
  ty : TypeId
  z : Value
  size : Nat
  bytes : Nat
  und : Tryz.prog.underlying sty = some (.slice ty)
  info : ∃ i, Tryz.prog.info? ty = some i ∧ i.zero = some z ∧ i.size = size ∧ i.bytes = bytes
  zs : z.cells.size = size
  pos : 0 < size
  small : bytes ≤ 1000
  rd : (Nat → Prop) → World → α → List Value → Prop
  len : ∀ {P w x cs}, rd P w x cs → cs.length = size
  ones : ∀ {P w x cs}, rd P w x cs → ∀ u ∈ cs, u.oneCell' = true
  keep : ∀ {P w w' x cs}, (∀ b, P b → ∀ n, w'.cell? ⟨b, n, none⟩ = w.cell? ⟨b, n, none⟩) → rd P w x cs → rd P w' x cs
  imp : ∀ {P Q w x cs}, (∀ b, P b → Q b) → rd P w x cs → rd Q w x cs
def CellsK {α : Type} (K : Kd α) (P : Nat → Prop) (w : World) : List α → List Value → Prop
  | [], cs => cs = []
  | x :: r, cs => ∃ a b, cs = a ++ b ∧ K.rd P w x a ∧ CellsK K P w r b
variable {α : Type} {K : Kd α}
theorem CellsK.keep {P : Nat → Prop} {w w' : World} (hk : ∀ b, P b → ∀ n, w'.cell? ⟨b, n, none⟩ = w.cell? ⟨b, n, none⟩) : ∀ {xs : List α} {cs : List Value}, CellsK K P w xs cs → CellsK K P w' xs cs
  | [], _, h => h
  | x :: r, _, ⟨a, b, e, h1, h2⟩ => ⟨a, b, e, K.keep hk h1, CellsK.keep hk h2⟩
theorem CellsK.imp {P Q : Nat → Prop} {w : World} (hPQ : ∀ b, P b → Q b) : ∀ {xs : List α} {cs : List Value}, CellsK K P w xs cs → CellsK K Q w xs cs
  | [], _, h => h
  | x :: r, _, ⟨a, b, e, h1, h2⟩ => ⟨a, b, e, K.imp hPQ h1, CellsK.imp hPQ h2⟩
theorem CellsK.snoc {P : Nat → Prop} {w : World} {x : α} {c : List Value} (hx : K.rd P w x c) : ∀ {xs : List α} {cs : List Value}, CellsK K P w xs cs → CellsK K P w (xs ++ [x]) (cs ++ c)
  | [], _, h => by
    obtain rfl : _ = [] := h
    exact ⟨c, [], by simp, hx, rfl⟩
  | y :: r, _, ⟨a, b, e, h1, h2⟩ => ⟨a, b ++ c, by rw [e, List.append_assoc], h1, CellsK.snoc hx h2⟩
def SubX (base : Nat) (X : Nat → Prop) (w : World) (v : Value) : Nat → Prop := fun b => base ≤ b ∧ b < w.heap.size ∧ some b ≠ v.ownBlock ∧ ¬ X b
def PRow (K : Kd α) (base : Nat) (X : Nat → Prop) (w : World) (v : Value) (xs : List α) : Prop := ∃ cs, w.ownsRow base K.ty K.size v xs.length cs ∧ CellsK K (SubX base X w v) w xs cs ∧ ∀ b, v.ownBlock = some b → ¬ X b
variable {base : Nat} {X : Nat → Prop} {w w' : World} {v : Value} {xs : List α}
theorem PRow.nil (K : Kd α) (base : Nat) (X : Nat → Prop) (w : World) : PRow K base X w (.slice none 0 0) [] := ⟨[], World.ownsRow_nil _ _ _ _, rfl, fun b h => by cases h⟩
theorem PRow.form (h : PRow K base X w v xs) : ∃ q c, v = .slice q xs.length c := by
  obtain ⟨cs, h1, _⟩ := h
  rcases h1.2 with ⟨h, hn⟩ | ⟨g, cap, cur, hv, _⟩
  · exact ⟨none, 0, by rw [hn]; exact h⟩
  · exact ⟨_, _, hv⟩
theorem PRow.turn (h : PRow K base X w v xs) (hs : w.heap.size ≤ w'.heap.size) (hk : ∀ b, base ≤ b → b < w.heap.size → ¬ X b → w'.heap[b]? = w.heap[b]?) : PRow K base X w' v xs := by
  obtain ⟨cs, h1, h2, h3⟩ := h
  refine ⟨cs, ⟨h1.1, ?_⟩, (h2.keep fun b hb n => World.cell?_of_block (hk b hb.1 hb.2.1 hb.2.2.2)).imp fun b hb => ⟨hb.1, Nat.lt_of_lt_of_le hb.2.1 hs, hb.2.2⟩, h3⟩
  rcases h1.2 with h | ⟨g, cap, cur, rfl, h0, hg, r⟩
  · exact .inl h
  · exact .inr ⟨g, cap, cur, rfl, h0, (hk g h0 (Array.getElem?_eq_some_iff.1 hg).1 (h3 g rfl)).trans hg, r⟩
theorem PRow.later (h : PRow K base X w v xs) (hb : Below w.heap.size w w') : PRow K base X w' v xs := h.turn hb.size fun b _ hl _ => hb.block b hl
theorem PRow.box (h : PRow K base X w v xs) {g : Nat} (hg : g < base ∨ X g) (i : Nat) (u : Value) : PRow K base X (w.setCell ⟨g, i, none⟩ u) v xs :=
  h.turn (by simp [World.setCell]) fun b h1 _ h2 => Below.heap_setCell w ⟨g, i, none⟩ u b (fun e => by have e' : b = g := e; subst e'; rcases hg with hg | hg; omega; exact h2 hg)
theorem PRow.wk (h : PRow K base X w v xs) {Y : Nat → Prop} (hY : ∀ b, base ≤ b → b < w.heap.size → Y b → X b) : PRow K base Y w v xs := by
  obtain ⟨cs, h1, h2, h3⟩ := h
  refine ⟨cs, h1, h2.imp fun b hb => ⟨hb.1, hb.2.1, hb.2.2.1, fun h => hb.2.2.2 (hY b hb.1 hb.2.1 h)⟩, fun b hb h => h3 b hb (hY b (h1.lt b hb).1 (h1.lt b hb).2 h)⟩
theorem PRow.low (h : PRow K base X w v xs) {b0 : Nat} (hb : b0 ≤ base) : PRow K b0 (fun b => X b ∨ b < base) w v xs := by
  obtain ⟨cs, h1, h2, h3⟩ := h
  refine ⟨cs, ⟨h1.1, ?_⟩, h2.imp fun b hb' => ⟨Nat.le_trans hb hb'.1, hb'.2.1, hb'.2.2.1, fun h => h.elim hb'.2.2.2 (fun h => absurd hb'.1 (by omega))⟩, fun b hb' h => h.elim (h3 b hb') (fun h => absurd (h1.lt b hb').1 (by omega))⟩
  rcases h1.2 with h | ⟨g, cap, cur, rfl, h0, r⟩
  · exact .inl h
  · exact .inr ⟨g, cap, cur, rfl, Nat.le_trans hb h0, r⟩
theorem PRow.lit {x : α} {cs : List Value} (hb : base ≤ w.heap.size) (hX : ∀ b, X b → b < w.heap.size) (hr : K.rd (fun b => base ≤ b ∧ b < w.heap.size ∧ ¬ X b) w x cs) : PRow K base X (w.alloc (.cells cs.toArray K.ty)) (.slice (some ⟨w.heap.size, 0, none⟩) 1 1) [x] := by
  have h1 := World.ownsRow_lit (base := base) (e := K.ty) (size := K.size) w cs.toArray 1 hb (by decide) (by simp [K.len hr])
  refine ⟨cs, h1, ⟨cs, [], by simp, ?_, rfl⟩, fun b hb' h => by cases hb'; exact absurd (hX _ h) (Nat.lt_irrefl _)⟩
  refine K.imp (fun b hb' => ⟨hb'.1, by simp; omega, fun e => by cases e; exact absurd hb'.2.1 (Nat.lt_irrefl _), hb'.2.2⟩) (K.keep (fun b hb' n => World.cell?_of_block (Below.heap_alloc w _ b hb'.2.1)) hr)
theorem PRow.app_run (h : PRow K base X w v xs) {n : Nat} {x : α} {cs : List Value} (hc : Arr w K.ty n cs) (hr : K.rd (SubX base X w v) w x cs) (hlen : xs.length + 1 ≤ 200000) (hbase : base ≤ w.heap.size) (hX : ∀ b, X b → b < w.heap.size) (ty : TypeId) :
    ∃ v' w', (Builtin.append_ #[K.sty, K.sty] ty #[v, .slice (some ⟨n, 0, none⟩) 1 1]).run Tryz.prog w = .ok v' w' ∧ PRow K base X w' v' (xs ++ [x]) ∧ w.grownBy w' v.ownBlock ∧ ∀ k, v.ownBlock = some k → base ≤ k ∧ ¬ X k := by
  obtain ⟨i0, hi, hz0, hz1, hz2⟩ := K.info
  obtain ⟨es, h1, h2, h3⟩ := h
  have hsm := K.small
  obtain ⟨v', w', hrun, r1, r2, _, r4⟩ := run_append_own_at (P := Tryz.prog) w base K.sty ty K.ty i0 K.z K.size K.bytes K.und hi hz0 hz1 hz2 K.zs K.pos v xs.length es h1 ⟨n, 0, none⟩ 1 1 cs (by rw [K.len hr, Nat.one_mul])
    (fun j u hu => by
      have := hc.cell j
      rw [hu] at this
      cases j <;> simpa [Addr.add] using this) (K.ones hr) (by unfold maxLen; omega) (Nat.le_trans (Nat.mul_le_mul hlen hsm) (by decide)) hbase
  refine ⟨v', w', hrun, ⟨es ++ cs, by rw [List.length_append]; exact r1, ?_, ?_⟩, r2, fun k hk => ⟨(h1.lt k hk).1, h3 k hk⟩⟩
  · have hk : ∀ b, SubX base X w v b → ∀ m, w'.cell? ⟨b, m, none⟩ = w.cell? ⟨b, m, none⟩ := fun b hb m => World.cell?_of_block (r2.block b hb.2.1 hb.2.2.1)
    have hS : ∀ b, SubX base X w v b → SubX base X w' v' b := fun b hb => ⟨hb.1, Nat.lt_of_lt_of_le hb.2.1 r2.size, by
      rcases r4 with r4 | r4
      · rw [r4]; exact hb.2.2.1
      · rw [r4]; intro e; have := Option.some.inj e; have := hb.2.1; omega, hb.2.2.2⟩
    exact CellsK.snoc (K.imp hS (K.keep hk hr)) ((h2.keep hk).imp hS)
  · intro b hb
    rcases r4 with r4 | r4
    · exact h3 b (r4 ▸ hb)
    · rw [r4] at hb; cases hb; exact fun h => absurd (hX _ h) (Nat.lt_irrefl _)
theorem app_row {ops : Array Oper} {rest : List Oper} {o : Oper} {a : Act} {Q : Exit → Act → World → Prop} (hgd : o.guard = none) (s y : Operand) (ho : o.op = .call { callee := .builtin .append, args := #[s, y], argTypes := #[K.sty, K.sty] })
    {n : Nat} {x : α} {cs : List Value} (hs : a.eval s = v) (h : PRow K base X w v xs) (hx : a.eval y = .slice (some ⟨n, 0, none⟩) 1 1) (hc : Arr w K.ty n cs) (hr : K.rd (SubX base X w v) w x cs) (hlen : xs.length + 1 ≤ 200000) (hbase : base ≤ w.heap.size) (hX : ∀ b, X b → b < w.heap.size)
    (hK : ∀ v' w', PRow K base X w' v' (xs ++ [x]) → w.grownBy w' v.ownBlock → (∀ k, v.ownBlock = some k → base ≤ k ∧ ¬ X k) → wpList Tryz.prog ops Q rest (a.put o.dst v') w') : wpList Tryz.prog ops Q (o :: rest) a w := by
  refine wpList_plain hgd fun K' hK' => ?_
  obtain ⟨v', w', hrun, r1, r2, r3⟩ := h.app_run hc hr hlen hbase hX o.type
  unfold Oper.wp execOp
  simp only [ho, resolve, invoke, builtin, Sem.run_bind, Sem.run_pure, Result.andThen_ok, List.map_toArray, List.map_cons, List.map_nil, hs, hx, hrun]
  exact hK' _ _ (hK v' w' r1 r2 r3)
theorem step_row {ops : Array Oper} {o : Oper} {a : Act} {K' : Act → World → Prop} {Q : Exit → Act → World → Prop} {E : Prop} (hgd : o.guard = none) (s y : Operand) (ho : o.op = .call { callee := .builtin .append, args := #[s, y], argTypes := #[K.sty, K.sty] })
    {n : Nat} {x : α} {cs : List Value} (hs : a.eval s = v) (h : PRow K base X w v xs) (hx : a.eval y = .slice (some ⟨n, 0, none⟩) 1 1) (hc : Arr w K.ty n cs) (hr : K.rd (SubX base X w v) w x cs) (hlen : xs.length + 1 ≤ 200000) (hbase : base ≤ w.heap.size) (hX : ∀ b, X b → b < w.heap.size)
    (hK : ∀ v' w', PRow K base X w' v' (xs ++ [x]) → w.grownBy w' v.ownBlock → (∀ k, v.ownBlock = some k → base ≤ k ∧ ¬ X k) → K' (a.put o.dst v') w') : if Region.wanted o (yielded ops a.tmps) = true then Oper.wp Tryz.prog o a w K' Q else E := by
  have hw : Region.wanted o (yielded ops a.tmps) = true := by simp [Region.wanted, hgd]
  rw [if_pos hw]
  obtain ⟨v', w', hrun, r1, r2, r3⟩ := h.app_run hc hr hlen hbase hX o.type
  unfold Oper.wp execOp
  simp only [ho, resolve, invoke, builtin, Sem.run_bind, Sem.run_pure, Result.andThen_ok, List.map_toArray, List.map_cons, List.map_nil, hs, hx, hrun, Oper.upon]
  exact hK v' w' r1 r2 r3
theorem PRow.cells {q : Option Addr} {n c : Nat} (h : PRow K base X w (.slice q n c) xs) : n = xs.length ∧ xs.length ≤ c ∧ (0 < xs.length → ∃ g, q = some ⟨g, 0, none⟩ ∧ base ≤ g ∧ g < w.heap.size ∧ ¬ X g ∧ ∃ cs, CellsK K (fun b => base ≤ b ∧ b < w.heap.size ∧ b ≠ g ∧ ¬ X b) w xs cs ∧ ∀ j u, cs[j]? = some u → w.cell? ⟨g, j, none⟩ = some u) := by
  obtain ⟨cs, h1, h2, h3⟩ := h
  rcases h1.2 with ⟨hv, hn⟩ | ⟨g, cap, cur, hv, h0, hg, hcap, _, hcz, htk⟩
  · simp only [Value.slice.injEq] at hv
    obtain ⟨rfl, rfl, rfl⟩ := hv
    exact ⟨hn.symm, by omega, fun h => by omega⟩
  · simp only [Value.slice.injEq] at hv
    obtain ⟨rfl, rfl, rfl⟩ := hv
    have hgl := (Array.getElem?_eq_some_iff.1 hg).1
    refine ⟨rfl, hcap, fun _ => ⟨g, rfl, h0, hgl, h3 g rfl, cs, h2.imp fun b hb => ⟨hb.1, hb.2.1, fun e => hb.2.2.1 (by rw [e]; rfl), hb.2.2.2⟩, fun j u hj => ?_⟩⟩
    have hjl : j < cs.length := (List.getElem?_eq_some_iff.1 hj).1
    rw [cell_of_row w g _ cur _ (0, 0) hg, ← Array.getElem?_toList]
    rw [← htk, List.getElem?_take, if_pos (by rw [h1.1] at hjl; exact hjl)] at hj
    exact hj

/-! ### expressions -/
def rdEx (P : Nat → Prop) (w : World) (e : Ex) (cs : List Value) : Prop := ∃ v0 v1 v2 v3, cs = [v0, v1, v2, v3] ∧ RdE P w e (.agg #[v0, v1, v2, v3])
def kdEx : Kd Ex where
  sty := 40
  ty := 42
  z := .agg #[.int .i64 0, .string ByteArray.empty, .string ByteArray.empty, .slice none 0 0]
  size := 4
  bytes := 64
  und := Tryz.underlying40
  info := info_parts Tryz.infoEx
  zs := rfl
  pos := by decide
  small := by decide
  rd := rdEx
  len := fun ⟨_, _, _, _, h, _⟩ => by rw [h]; rfl
  ones := fun {P w x cs} ⟨v0, v1, v2, v3, h, h1⟩ u hu => by
    obtain ⟨q, c, h2, _⟩ := h1.form
    unfold exv at h2
    simp only [Value.agg.injEq, Array.mk.injEq, List.cons.injEq, and_true] at h2
    obtain ⟨rfl, rfl, rfl, rfl⟩ := h2
    rw [h] at hu
    simp only [List.mem_cons, List.not_mem_nil, or_false] at hu
    rcases hu with rfl | rfl | rfl | rfl <;> rfl
  keep := fun hk ⟨v0, v1, v2, v3, h, h1⟩ => ⟨v0, v1, v2, v3, h, h1.keep hk⟩
  imp := fun hi ⟨v0, v1, v2, v3, h, h1⟩ => ⟨v0, v1, v2, v3, h, h1.imp hi⟩
theorem rdL_of {P : Nat → Prop} {w : World} {b : Nat} : ∀ {ks : List Ex} {cs : List Value} {o : Nat}, CellsK kdEx P w ks cs → (∀ j u, cs[j]? = some u → w.cell? ⟨b, o + j, none⟩ = some u) → RdL P w ks b o
  | [], _, _, _, _ => by unfold RdL; trivial
  | e :: r, _, o, ⟨a, d, rfl, ⟨v0, v1, v2, v3, h, h1⟩, h2⟩, hc => by
    subst h
    unfold RdL
    refine ⟨⟨v0, v1, v2, v3, hc 0 v0 rfl, hc 1 v1 rfl, hc 2 v2 rfl, hc 3 v3 rfl, h1⟩, rdL_of h2 fun j u hj => ?_⟩
    rw [show o + 4 + j = o + (j + 4) by omega]
    exact hc (j + 4) u hj
theorem PRow.rdE {q : Option Addr} {n c : Nat} {ks : List Ex} (h : PRow kdEx base X w (.slice q n c) ks) (k : Int) (via nm : List UInt8) : RdE (Bt base w.heap.size) w (.mk k via nm ks) (.agg #[.int .i64 k, .string (bstr via), .string (bstr nm), .slice q n c]) := by
  obtain ⟨rfl, hc, hk⟩ := h.cells
  unfold RdE
  refine ⟨q, c, rfl, hc, fun h0 => ?_⟩
  obtain ⟨g, rfl, h1, h2, _, cs, h3, h4⟩ := hk h0
  refine ⟨g, 0, rfl, ⟨h1, h2⟩, (rdL_of h3 fun j u hj => ?_).imp fun b hb => ⟨hb.1, hb.2.1⟩⟩
  rw [Nat.zero_add]
  exact h4 j u hj
def Kp (pb : Nat) (W W' : World) : Prop := W'.os = W.os ∧ W'.tape = W.tape ∧ W'.output = W.output ∧ W.heap.size ≤ W'.heap.size ∧ ∀ k, k < W.heap.size → k ≠ pb → W'.heap[k]? = W.heap[k]?
theorem Kp.of {pb : Nat} {W W' : World} (h : Below W.heap.size W W') : Kp pb W W' := ⟨h.os, h.tape, h.output, h.size, fun k hk _ => h.block k hk⟩
theorem Kp.trans {pb : Nat} {W W' W2 : World} (h : Kp pb W W') (g : Kp pb W' W2) : Kp pb W W2 := ⟨g.1.trans h.1, g.2.1.trans h.2.1, g.2.2.1.trans h.2.2.1, Nat.le_trans h.2.2.2.1 g.2.2.2.1, fun k hk hn => (g.2.2.2.2 k (Nat.lt_of_lt_of_le hk h.2.2.2.1) hn).trans (h.2.2.2.2 k hk hn)⟩
theorem Kp.set {pb : Nat} {W W' : World} (h : Kp pb W W') (i : Nat) (v : Value) : Kp pb W (W'.setCell ⟨pb, i, none⟩ v) := h.trans ⟨rfl, rfl, rfl, by simp [World.setCell], fun k hk hn => Below.heap_setCell W' ⟨pb, i, none⟩ v k hn⟩
theorem Kp.below {pb B : Nat} {W W' : World} (h : Kp pb W W') (h1 : B ≤ pb) (h2 : B ≤ W.heap.size) : Below B W W' := ⟨h.1, h.2.1, h.2.2.1, h.2.2.2.1, fun k hk => h.2.2.2.2 k (Nat.lt_of_lt_of_le hk h2) (by omega)⟩
theorem Kp.arr {pb : Nat} {W W' : World} (h : Kp pb W W') {t : TypeId} {g : Nat} {cs : List Value} (hA : Arr W t g cs) (hg : g ≠ pb) : Arr W' t g cs := (h.2.2.2.2 g hA.lt hg).trans hA

theorem Kp.box {pb : Nat} {W W' : World} (h : Kp pb W W') {g : Nat} (hg : W.heap.size ≤ g) (i : Nat) (v : Value) : Kp pb W (W'.setCell ⟨g, i, none⟩ v) :=
 ⟨h.1, h.2.1, h.2.2.1, by simpa [World.setCell] using h.2.2.2.1, fun k hk hn => (Below.heap_setCell W' ⟨g, i, none⟩ v k (by simp only [ne_eq]; omega)).trans (h.2.2.2.2 k hk hn)⟩

def alv (a : AlB) : List Value := [.string (bstr a.1), .string (bstr a.2)]
def als (l : List AlB) : List Value := l.flatMap alv
theorem als_snoc (l : List AlB) (a : AlB) : als (l ++ [a]) = als l ++ alv a := by unfold als; rw [List.flatMap_append]; simp
theorem als_length (l : List AlB) : (als l).length = l.length * 2 := by
 induction l with
 | nil => rfl
 | cons t r ih => unfold als at ih ⊢; rw [List.flatMap_cons, List.length_append, ih]; simp [alv]; omega
def AlRow (base : Nat) (w : World) (v : Value) (l : List AlB) : Prop := w.ownsRow base 70 2 v l.length (als l)
theorem AlRow.form {base : Nat} {w : World} {v : Value} {l : List AlB} (h : AlRow base w v l) : ∃ q c, v = .slice q l.length c := by
 rcases h.2 with ⟨rfl, hn⟩ | ⟨g, cap, cur, rfl, _⟩
 ·exact ⟨none, 0, by rw [hn]⟩
 ·exact ⟨_, _, rfl⟩
theorem AlRow.kp {base pb : Nat} {w w' : World} {v : Value} {l : List AlB} (h : AlRow base w v l) (hk : Kp pb w w') (hb : pb < base) : AlRow base w' v l := by
 refine ⟨h.1, ?_⟩
 rcases h.2 with h | ⟨g, cap, cur, rfl, h0, h1, r⟩
 ·exact .inl h
 ·exact .inr ⟨g, cap, cur, rfl, h0, (hk.2.2.2.2 g (Array.getElem?_eq_some_iff.1 h1).1 (by omega)).trans h1, r⟩
theorem Kp.grown {pb : Nat} {W w w' : World} {row : Option Nat} (h : Kp pb W w) (hg : w.grownBy w' row) (hr : ∀ k, row = some k → W.heap.size ≤ k) : Kp pb W w' :=
 ⟨hg.os.trans h.1, hg.tape.trans h.2.1, hg.output.trans h.2.2.1, Nat.le_trans h.2.2.2.1 hg.size, fun k hk hn => (hg.block k (Nat.lt_of_lt_of_le hk h.2.2.2.1) (fun e => by have := hr k e.symm; omega)).trans (h.2.2.2.2 k hk hn)⟩
theorem Tryz.infoAl : (Tryz.prog.info? 70).map (fun i => (i.zero, i.size, i.bytes)) = some (some (.agg #[.string ByteArray.empty, .string ByteArray.empty]), 2, 32) := by kernel_rfl
theorem app_al {ops : Array Oper} {rest : List Oper} {o : Oper} {a : Act} {Q : Exit → Act → World → Prop} {w : World} (hgd : o.guard = none) (s x : Operand) (ho : o.op = .call { callee := .builtin .append, args := #[s, x], argTypes := #[64, 64] })
  {base n : Nat} {v : Value} {l : List AlB} {e : AlB} (hs : a.eval s = v) (hown : AlRow base w v l) (hx : a.eval x = .slice (some ⟨n, 0, none⟩) 1 1) (hc : Arr w 70 n [.string (bstr e.1), .string (bstr e.2)])
  (hlen : l.length + 1 ≤ 1000000) (hbase : base ≤ w.heap.size)
  (h : ∀ v' w', AlRow base w' v' (l ++ [e]) → w.grownBy w' v.ownBlock → (∀ k, v.ownBlock = some k → base ≤ k) → wpList Tryz.prog ops Q rest (a.put o.dst v') w') : wpList Tryz.prog ops Q (o :: rest) a w := by
 obtain ⟨i0, hi, hz0, hz1, hz2⟩ := info_parts Tryz.infoAl
 refine wpList_append_own_at w hgd s x 64 ho base 70 i0 _ 2 32 Tryz.underlying64 hi hz0 hz1 hz2 rfl (by decide) v l.length (als l) hs hown ⟨n, 0, none⟩ 1 1 (alv e) hx rfl ?_ ?_ (by unfold maxLen; omega) (by omega) hbase ?_
 ·intro j u hu
  have := hc.cell j
  rw [show ([.string (bstr e.1), .string (bstr e.2)] : List Value) = alv e from rfl, hu] at this
  cases j <;> simpa [Addr.add] using this
 ·intro u hu
  simp only [alv, List.mem_cons, List.not_mem_nil, or_false] at hu
  rcases hu with rfl | rfl <;> rfl
 ·intro v' w' r1 r2 _ _
  refine h v' w' ?_ r2 fun k hk => (hown.lt k hk).1
  unfold AlRow
  rw [als_snoc, List.length_append]
  exact r1

def VE (B : Nat) (e : Ex) (w : World) (v : Value) : Prop := RdE (Bt B w.heap.size) w e v
theorem VE.kp {B g : Nat} {e : Ex} {w w' : World} {v : Value} (h : VE B e w v) (hk : Kp g w w') (hg : g < B) : VE B e w' v :=
 (RdE.keep (fun b hb n => World.cell?_of_block (hk.2.2.2.2 b hb.2 (by have := hb.1; omega))) h).imp fun b hb => ⟨hb.1, Nat.lt_of_lt_of_le hb.2 hk.2.2.2.1⟩
theorem VE.low {B B' : Nat} {e : Ex} {w : World} {v : Value} (h : VE B e w v) (hb : B' ≤ B) : VE B' e w v := RdE.imp (fun b hb' => ⟨Nat.le_trans hb hb'.1, hb'.2⟩) h
theorem VE.later {B : Nat} {e : Ex} {w w' : World} {v : Value} (h : VE B e w v) (hb : Below w.heap.size w w') : VE B e w' v := (RdE.below h hb fun b hb => hb.2).imp fun b hb' => ⟨hb'.1, Nat.lt_of_lt_of_le hb'.2 hb.size⟩
theorem VE.leaf (B : Nat) (w : World) (k : Int) (a b : List UInt8) : VE B (.mk k a b []) w (.agg #[.int .i64 k, .string (bstr a), .string (bstr b), .slice none 0 0]) := RdE.of (e := .mk k a b []) (q := none) (c := 0) (Nat.le_refl _) (fun h => absurd h (Nat.lt_irrefl _))
theorem kp_set4 (w : World) (g : Nat) (x0 x1 x2 x3 : Value) : Kp g w ((((w.setCell ⟨g, 0, none⟩ x0).setCell ⟨g, 1, none⟩ x1).setCell ⟨g, 2, none⟩ x2).setCell ⟨g, 3, none⟩ x3) := ((((Kp.of (pb := g) (Below.refl _ _)).set 0 x0).set 1 x1).set 2 x2).set 3 x3
theorem Kp.andThen {pb g : Nat} {W W' W2 : World} (h : Kp pb W W') (hk : Kp g W' W2) (hg : W.heap.size ≤ g) : Kp pb W W2 :=
 ⟨hk.1.trans h.1, hk.2.1.trans h.2.1, hk.2.2.1.trans h.2.2.1, Nat.le_trans h.2.2.2.1 hk.2.2.2.1, fun k hk' hn => (hk.2.2.2.2 k (Nat.lt_of_lt_of_le hk' h.2.2.2.1) (by omega)).trans (h.2.2.2.2 k hk' hn)⟩

def RdA (P : Nat → Prop) (w : World) (l : List AlB) (v : Value) : Prop := ∃ q c, v = .slice q l.length c ∧ l.length ≤ c ∧ (0 < l.length → ∃ b o, q = some ⟨b, o, none⟩ ∧ P b ∧ ∀ j u, (als l)[j]? = some u → w.cell? ⟨b, o + j, none⟩ = some u)
theorem RdA.keep {P : Nat → Prop} {w w' : World} {l : List AlB} {v : Value} (hk : ∀ b, P b → ∀ n, w'.cell? ⟨b, n, none⟩ = w.cell? ⟨b, n, none⟩) (h : RdA P w l v) : RdA P w' l v := by
 obtain ⟨q, c, h1, h2, h3⟩ := h
 refine ⟨q, c, h1, h2, fun h0 => ?_⟩
 obtain ⟨b, o, h4, h5, h6⟩ := h3 h0
 exact ⟨b, o, h4, h5, fun j u hj => (hk b h5 _).trans (h6 j u hj)⟩
theorem RdA.imp {P Q : Nat → Prop} {w : World} {l : List AlB} {v : Value} (hi : ∀ b, P b → Q b) (h : RdA P w l v) : RdA Q w l v := by
 obtain ⟨q, c, h1, h2, h3⟩ := h
 refine ⟨q, c, h1, h2, fun h0 => ?_⟩
 obtain ⟨b, o, h4, h5, h6⟩ := h3 h0
 exact ⟨b, o, h4, hi b h5, h6⟩
theorem RdA.nil (P : Nat → Prop) (w : World) : RdA P w [] (.slice none 0 0) := ⟨none, 0, rfl, Nat.le_refl _, fun h => absurd h (Nat.lt_irrefl _)⟩
theorem AlRow.rd {base : Nat} {w : World} {v : Value} {l : List AlB} (h : AlRow base w v l) : RdA (Bt base w.heap.size) w l v := by
 have h1 := h.1
 rcases h.2 with ⟨hv, hn⟩ | ⟨g, cap, cur, hv, h0, hg, hcap, _, hcz, htk⟩
 ·have : l = [] := by cases l; rfl; simp at hn
  subst this
  rw [hv]
  exact RdA.nil _ _
 ·refine ⟨_, _, hv, hcap, fun _ => ⟨g, 0, rfl, ⟨h0, (Array.getElem?_eq_some_iff.1 hg).1⟩, fun j u hj => ?_⟩⟩
  rw [Nat.zero_add]
  have hjl : j < (als l).length := (List.getElem?_eq_some_iff.1 hj).1
  rw [cell_of_row w g _ cur _ (0, 0) hg, ← Array.getElem?_toList]
  rw [← htk, List.getElem?_take, if_pos (by rw [h1] at hjl; exact hjl)] at hj
  exact hj
def rdMem (P : Nat → Prop) (w : World) (m : MemB) (cs : List Value) : Prop := ∃ vt v3 v4 v5 v6, cs = [.string (bstr m.1), .int .i64 m.2.1, vt, v3, v4, v5, v6] ∧ RdA P w m.2.2.1 vt ∧ RdE P w m.2.2.2 (.agg #[v3, v4, v5, v6])
theorem rdMem.keep {P : Nat → Prop} {w w' : World} {m : MemB} {cs : List Value} (hk : ∀ b, P b → ∀ n, w'.cell? ⟨b, n, none⟩ = w.cell? ⟨b, n, none⟩) (h : rdMem P w m cs) : rdMem P w' m cs := by
 obtain ⟨vt, v3, v4, v5, v6, h1, h2, h3⟩ := h
 exact ⟨vt, v3, v4, v5, v6, h1, h2.keep hk, h3.keep hk⟩
theorem rdMem.imp {P Q : Nat → Prop} {w : World} {m : MemB} {cs : List Value} (hi : ∀ b, P b → Q b) (h : rdMem P w m cs) : rdMem Q w m cs := by
 obtain ⟨vt, v3, v4, v5, v6, h1, h2, h3⟩ := h
 exact ⟨vt, v3, v4, v5, v6, h1, h2.imp hi, h3.imp hi⟩
theorem Tryz.infoMem : (Tryz.prog.info? 66).map (fun i => (i.zero, i.size, i.bytes)) = some (some (.agg #[.string ByteArray.empty, .int .i64 0, .slice none 0 0, .int .i64 0, .string ByteArray.empty, .string ByteArray.empty, .slice none 0 0]), 7, 112) := by kernel_rfl
def kdMem : Kd MemB where
 sty := 51
 ty := 66
 z := .agg #[.string ByteArray.empty, .int .i64 0, .slice none 0 0, .int .i64 0, .string ByteArray.empty, .string ByteArray.empty, .slice none 0 0]
 size := 7
 bytes := 112
 und := Tryz.underlying51
 info := info_parts Tryz.infoMem
 zs := rfl
 pos := by decide
 small := by decide
 rd := rdMem
 len := fun ⟨_, _, _, _, _, h, _⟩ => by rw [h]; rfl
 ones := fun {P w x cs} ⟨vt, v3, v4, v5, v6, h, h1, h2⟩ u hu => by
  obtain ⟨q, c, h3, _⟩ := h2.form
  unfold exv at h3
  simp only [Value.agg.injEq, Array.mk.injEq, List.cons.injEq, and_true] at h3
  obtain ⟨rfl, rfl, rfl, rfl⟩ := h3
  obtain ⟨q2, c2, rfl, _⟩ := h1
  rw [h] at hu
  simp only [List.mem_cons, List.not_mem_nil, or_false] at hu
  rcases hu with rfl | rfl | rfl | rfl | rfl | rfl | rfl <;> rfl
 keep := fun hk h => rdMem.keep hk h
 imp := fun hi h => rdMem.imp hi h
def VM (B : Nat) (m : MemB) (w : World) (v : Value) : Prop := ∃ cs, v = .agg cs.toArray ∧ rdMem (Bt B w.heap.size) w m cs
theorem VM.kp {B g : Nat} {m : MemB} {w w' : World} {v : Value} (h : VM B m w v) (hk : Kp g w w') (hg : g < B) : VM B m w' v := by
 obtain ⟨cs, h1, h2⟩ := h
 exact ⟨cs, h1, (h2.keep fun b hb n => World.cell?_of_block (hk.2.2.2.2 b hb.2 (by have := hb.1; omega))).imp fun b hb => ⟨hb.1, Nat.lt_of_lt_of_le hb.2 hk.2.2.2.1⟩⟩
theorem VM.low {B B' : Nat} {m : MemB} {w : World} {v : Value} (h : VM B m w v) (hb : B' ≤ B) : VM B' m w v := by
 obtain ⟨cs, h1, h2⟩ := h
 exact ⟨cs, h1, h2.imp fun b hb' => ⟨Nat.le_trans hb hb'.1, hb'.2⟩⟩
theorem RdA.kp {B g : Nat} {l : List AlB} {w w' : World} {v : Value} (h : RdA (Bt B w.heap.size) w l v) (hk : Kp g w w') (hg : g < B) : RdA (Bt B w'.heap.size) w' l v :=
 (h.keep fun b hb n => World.cell?_of_block (hk.2.2.2.2 b hb.2 (by have := hb.1; omega))).imp fun b hb => ⟨hb.1, Nat.lt_of_lt_of_le hb.2 hk.2.2.2.1⟩
theorem RdA.low {B B' N : Nat} {l : List AlB} {w : World} {v : Value} (h : RdA (Bt B N) w l v) (hb : B' ≤ B) : RdA (Bt B' N) w l v := h.imp fun b hb' => ⟨Nat.le_trans hb hb'.1, hb'.2⟩
theorem Arr.setM {w : World} {t : TypeId} {g : Nat} {y0 y1 y2 y3 y4 y5 y6 : Value} (h : Arr w t g [y0, y1, y2, y3, y4, y5, y6]) (x0 x1 x2 x3 x4 x5 x6 : Value) : Arr (((((((w.setCell ⟨g, 0, none⟩ x0).setCell ⟨g, 1, none⟩ x1).setCell ⟨g, 2, none⟩ x2).setCell ⟨g, 3, none⟩ x3).setCell ⟨g, 4, none⟩ x4).setCell ⟨g, 5, none⟩ x5).setCell ⟨g, 6, none⟩ x6) t g [x0, x1, x2, x3, x4, x5, x6] := (((((((h.set 0 x0).set 1 x1).set 2 x2).set 3 x3).set 4 x4).set 5 x5).set 6 x6)
theorem kp_setM (w : World) (g : Nat) (x0 x1 x2 x3 x4 x5 x6 : Value) : Kp g w (((((((w.setCell ⟨g, 0, none⟩ x0).setCell ⟨g, 1, none⟩ x1).setCell ⟨g, 2, none⟩ x2).setCell ⟨g, 3, none⟩ x3).setCell ⟨g, 4, none⟩ x4).setCell ⟨g, 5, none⟩ x5).setCell ⟨g, 6, none⟩ x6) := ((((((((Kp.of (pb := g) (Below.refl _ _)).set 0 x0).set 1 x1).set 2 x2).set 3 x3).set 4 x4).set 5 x5).set 6 x6)
theorem resM {fn : Func} {p : Tmp} (h : fn.results = #[.cell p 66]) {tmps : Array Value} {w : World} {g : Nat} {x0 x1 x2 x3 x4 x5 x6 : Value} (hA : Arr w 66 g [x0, x1, x2, x3, x4, x5, x6]) (hp : tmps.getD p undef = .pointer (some ⟨g, 0, none⟩)) :
  (results fn tmps).run Tryz.prog w = .ok (.agg #[x0, x1, x2, x3, x4, x5, x6]) w :=
 results_cell_row h tmps w g 66 #[x0, x1, x2, x3, x4, x5, x6] (0, 0) _ hp hA Tryz.underlying66 rfl (by kernel_rfl)
theorem kp_set43 (w : World) (g : Nat) (x0 x1 x2 x3 : Value) : Kp g w ((((w.setCell ⟨g, 3, none⟩ x0).setCell ⟨g, 4, none⟩ x1).setCell ⟨g, 5, none⟩ x2).setCell ⟨g, 6, none⟩ x3) := ((((Kp.of (pb := g) (Below.refl _ _)).set 3 x0).set 4 x1).set 5 x2).set 6 x3
def RdK {α : Type} (K : Kd α) (P : Nat → Prop) (w : World) (xs : List α) (v : Value) : Prop := ∃ q c, v = .slice q xs.length c ∧ xs.length ≤ c ∧ (0 < xs.length → ∃ b o, q = some ⟨b, o, none⟩ ∧ P b ∧ ∃ cs, CellsK K P w xs cs ∧ ∀ j u, cs[j]? = some u → w.cell? ⟨b, o + j, none⟩ = some u)
section
variable {α : Type} {K : Kd α}
theorem RdK.keep {P : Nat → Prop} {w w' : World} {xs : List α} {v : Value} (hk : ∀ b, P b → ∀ n, w'.cell? ⟨b, n, none⟩ = w.cell? ⟨b, n, none⟩) (h : RdK K P w xs v) : RdK K P w' xs v := by
 obtain ⟨q, c, h1, h2, h3⟩ := h
 refine ⟨q, c, h1, h2, fun h0 => ?_⟩
 obtain ⟨b, o, h4, h5, cs, h6, h7⟩ := h3 h0
 exact ⟨b, o, h4, h5, cs, h6.keep hk, fun j u hj => (hk b h5 _).trans (h7 j u hj)⟩
theorem RdK.imp {P Q : Nat → Prop} {w : World} {xs : List α} {v : Value} (hi : ∀ b, P b → Q b) (h : RdK K P w xs v) : RdK K Q w xs v := by
 obtain ⟨q, c, h1, h2, h3⟩ := h
 refine ⟨q, c, h1, h2, fun h0 => ?_⟩
 obtain ⟨b, o, h4, h5, cs, h6, h7⟩ := h3 h0
 exact ⟨b, o, h4, hi b h5, cs, h6.imp hi, h7⟩
theorem RdK.nil (K : Kd α) (P : Nat → Prop) (w : World) : RdK K P w [] (.slice none 0 0) := ⟨none, 0, rfl, Nat.le_refl _, fun h => absurd h (Nat.lt_irrefl _)⟩
theorem PRow.rdK {base : Nat} {X : Nat → Prop} {w : World} {v : Value} {xs : List α} (h : PRow K base X w v xs) : RdK K (Bt base w.heap.size) w xs v := by
 obtain ⟨q, c, rfl⟩ := h.form
 obtain ⟨_, hc, hk⟩ := h.cells
 refine ⟨q, c, rfl, hc, fun h0 => ?_⟩
 obtain ⟨g, rfl, h1, h2, _, cs, h3, h4⟩ := hk h0
 exact ⟨g, 0, rfl, ⟨h1, h2⟩, cs, h3.imp fun b hb => ⟨hb.1, hb.2.1⟩, fun j u hj => by rw [Nat.zero_add]; exact h4 j u hj⟩
theorem RdK.kp {B g : Nat} {xs : List α} {w w' : World} {v : Value} (h : RdK K (Bt B w.heap.size) w xs v) (hk : Kp g w w') (hg : g < B) : RdK K (Bt B w'.heap.size) w' xs v :=
 (h.keep fun b hb n => World.cell?_of_block (hk.2.2.2.2 b hb.2 (by have := hb.1; omega))).imp fun b hb => ⟨hb.1, Nat.lt_of_lt_of_le hb.2 hk.2.2.2.1⟩
end
def rdDef (P : Nat → Prop) (w : World) (d : DefB) (cs : List Value) : Prop := ∃ v, cs = [.string (bstr d.1), v] ∧ RdK kdMem P w d.2 v
theorem Tryz.infoDef : (Tryz.prog.info? 53).map (fun i => (i.zero, i.size, i.bytes)) = some (some (.agg #[.string ByteArray.empty, .slice none 0 0]), 2, 40) := by kernel_rfl
def kdDef : Kd DefB where
 sty := 24
 ty := 53
 z := .agg #[.string ByteArray.empty, .slice none 0 0]
 size := 2
 bytes := 40
 und := Tryz.underlying24
 info := info_parts Tryz.infoDef
 zs := rfl
 pos := by decide
 small := by decide
 rd := rdDef
 len := fun ⟨_, h, _⟩ => by rw [h]; rfl
 ones := fun {P w x cs} ⟨v, h, h1⟩ u hu => by
  obtain ⟨q, c, rfl, _⟩ := h1
  rw [h] at hu
  simp only [List.mem_cons, List.not_mem_nil, or_false] at hu
  rcases hu with rfl | rfl <;> rfl
 keep := fun hk ⟨v, h, h1⟩ => ⟨v, h, h1.keep hk⟩
 imp := fun hi ⟨v, h, h1⟩ => ⟨v, h, h1.imp hi⟩
def VD (B : Nat) (d : DefB) (w : World) (v : Value) : Prop := ∃ u, v = .agg #[.string (bstr d.1), u] ∧ RdK kdMem (Bt B w.heap.size) w d.2 u
theorem VD.kp {B g : Nat} {d : DefB} {w w' : World} {v : Value} (h : VD B d w v) (hk : Kp g w w') (hg : g < B) : VD B d w' v := by
 obtain ⟨u, h1, h2⟩ := h
 exact ⟨u, h1, h2.kp hk hg⟩
theorem VD.low {B B' : Nat} {d : DefB} {w : World} {v : Value} (h : VD B d w v) (hb : B' ≤ B) : VD B' d w v := by
 obtain ⟨u, h1, h2⟩ := h
 exact ⟨u, h1, h2.imp fun b hb' => ⟨Nat.le_trans hb hb'.1, hb'.2⟩⟩
theorem VD.form {B : Nat} {n : List UInt8} {l : List MemB} {w : World} {v : Value} (h : VD B (n, l) w v) : ∃ q c, v = .agg #[.string (bstr n), .slice q l.length c] ∧ rdDef (Bt B w.heap.size) w (n, l) [.string (bstr n), .slice q l.length c] := by
 obtain ⟨u, rfl, h2⟩ := h
 obtain ⟨q, c, rfl, h3⟩ := h2
 exact ⟨q, c, rfl, _, rfl, q, c, rfl, h3⟩
theorem VM.form {B : Nat} {n : List UInt8} {k : Int} {l : List AlB} {mk : Int} {mv mn : List UInt8} {ms : List Ex} {w : World} {v : Value} (h : VM B (n, k, l, .mk mk mv mn ms) w v) :
  ∃ q5 c5 q4 c4, v = .agg #[.string (bstr n), .int .i64 k, .slice q5 l.length c5, .int .i64 mk, .string (bstr mv), .string (bstr mn), .slice q4 ms.length c4] ∧ rdMem (Bt B w.heap.size) w (n, k, l, .mk mk mv mn ms) [.string (bstr n), .int .i64 k, .slice q5 l.length c5, .int .i64 mk, .string (bstr mv), .string (bstr mn), .slice q4 ms.length c4] := by
 obtain ⟨cs, rfl, vt, v3, v4, v5, v6, rfl, ra, re⟩ := h
 obtain ⟨q4, c4, h3, _, _⟩ := re.form
 unfold exv at h3
 dsimp only [Ex.kind, Ex.via, Ex.nm, Ex.kids] at h3
 simp only [Value.agg.injEq, Array.mk.injEq, List.cons.injEq, and_true] at h3
 obtain ⟨rfl, rfl, rfl, rfl⟩ := h3
 have ra2 := ra
 obtain ⟨q5, c5, rfl, _⟩ := ra
 exact ⟨q5, c5, q4, c4, rfl, _, _, _, _, _, rfl, ra2, re⟩
theorem Arr.setD {w : World} {t : TypeId} {g : Nat} {y0 y1 : Value} (h : Arr w t g [y0, y1]) (x0 x1 : Value) : Arr ((w.setCell ⟨g, 0, none⟩ x0).setCell ⟨g, 1, none⟩ x1) t g [x0, x1] := ((h.set 0 x0).set 1 x1)
theorem kp_setD (w : World) (g : Nat) (x0 x1 : Value) : Kp g w ((w.setCell ⟨g, 0, none⟩ x0).setCell ⟨g, 1, none⟩ x1) := (((Kp.of (pb := g) (Below.refl _ _)).set 0 x0).set 1 x1)
theorem resD {fn : Func} {p : Tmp} (h : fn.results = #[.cell p 53]) {tmps : Array Value} {w : World} {g : Nat} {x0 x1 : Value} (hA : Arr w 53 g [x0, x1]) (hp : tmps.getD p undef = .pointer (some ⟨g, 0, none⟩)) :
  (results fn tmps).run Tryz.prog w = .ok (.agg #[x0, x1]) w :=
 results_cell_row h tmps w g 53 #[x0, x1] (0, 0) _ hp hA Tryz.underlying53 rfl (by kernel_rfl)
def VS (B : Nat) (l : List DefB) (w : World) (v : Value) : Prop := ∃ u, v = .agg #[u] ∧ RdK kdDef (Bt B w.heap.size) w l u
theorem VS.kp {B g : Nat} {l : List DefB} {w w' : World} {v : Value} (h : VS B l w v) (hk : Kp g w w') (hg : g < B) : VS B l w' v := by
 obtain ⟨u, h1, h2⟩ := h
 exact ⟨u, h1, h2.kp hk hg⟩
theorem VS.low {B B' : Nat} {l : List DefB} {w : World} {v : Value} (h : VS B l w v) (hb : B' ≤ B) : VS B' l w v := by
 obtain ⟨u, h1, h2⟩ := h
 exact ⟨u, h1, h2.imp fun b hb' => ⟨Nat.le_trans hb hb'.1, hb'.2⟩⟩
theorem VS.form {B : Nat} {l : List DefB} {w : World} {v : Value} (h : VS B l w v) : ∃ q c, v = .agg #[.slice q l.length c] ∧ RdK kdDef (Bt B w.heap.size) w l (.slice q l.length c) := by
 obtain ⟨u, rfl, h2⟩ := h
 obtain ⟨q, c, rfl, h3⟩ := h2
 exact ⟨q, c, rfl, q, c, rfl, h3⟩
theorem Arr.setS {w : World} {t : TypeId} {g : Nat} {y0 : Value} (h : Arr w t g [y0]) (x0 : Value) : Arr (w.setCell ⟨g, 0, none⟩ x0) t g [x0] := (h.set 0 x0)
theorem kp_setS (w : World) (g : Nat) (x0 : Value) : Kp g w (w.setCell ⟨g, 0, none⟩ x0) := ((Kp.of (pb := g) (Below.refl _ _)).set 0 x0)
theorem resS {fn : Func} {p : Tmp} (h : fn.results = #[.cell p 26]) {tmps : Array Value} {w : World} {g : Nat} {x0 : Value} (hA : Arr w 26 g [x0]) (hp : tmps.getD p undef = .pointer (some ⟨g, 0, none⟩)) :
  (results fn tmps).run Tryz.prog w = .ok (.agg #[x0]) w :=
 results_cell_row h tmps w g 26 #[x0] (0, 0) _ hp hA Tryz.underlying26 rfl (by kernel_rfl)
end Go.Proofs.YtdnmgemjhpkekaaGreatDoor
namespace Go.Proofs.YtdnmgemjhpkekaaGreatDoor
open Go.ChangeShapes Go.WideShapes Go.ChangeAt Go.RowKit
open errAs (ErrT)
set_option linter.unusedVariables false

inductive St where
 | go (o : Nat)
 | er (c a : Nat)
def chkC (lo hi x : Nat) : Nat := if hi < x then 15 else if x < lo then 6 else 0
def chkM (x : Nat) : Nat := if x ≠ 1 ∧ x ≠ 2 then 6 else 0
def kindC (d lv x : Nat) : Nat := if x < 1 ∨ 5 < x then 6 else if d = 0 then 7 else if (x = 1 ∨ x = 2) ∧ 32 ≤ lv then 15 else 0
def numC (b : List UInt8) (chk : Nat → Nat) : St → Nat × St
 | .er c a => (0, .er c a)
 | .go o => if (num (b.drop o)).2.2 ≠ 0 then (0, .er (num (b.drop o)).2.2 o) else if chk (num (b.drop o)).1 ≠ 0 then (0, .er (chk (num (b.drop o)).1) o) else ((num (b.drop o)).1, .go (o + (num (b.drop o)).2.1))
def nameC (b : List UInt8) (emp : Bool) : St → List UInt8 × St
 | .er c a => ([], .er c a)
 | .go o => if (partP 64 (b.drop o)).2.2 ≠ 0 then ([], .er (partP 64 (b.drop o)).2.2 o)
  else if emp = true ∧ (partP 64 (b.drop o)).1 = [] then ([], .go (o + (partP 64 (b.drop o)).2.1))
  else if isName (bstr (partP 64 (b.drop o)).1) = false then ([], .er 5 o)
  else ((partP 64 (b.drop o)).1, .go (o + (partP 64 (b.drop o)).2.1))
def loopC {α : Type} (f : St → Nat → α × St × Nat) : Nat → List α → St → Nat → List α × St × Nat
 | 0, acc, s, lv => (acc, s, lv)
 | n + 1, acc, s, lv => loopC f n (acc ++ [(f s lv).1]) (f s lv).2.1 (f s lv).2.2
def leafC (b : List UInt8) (k : Nat) (s : St) (lv : Nat) : Ex × St × Nat :=
 if k = 2 then (.mk 2 (nameC b false s).1 (nameC b false (nameC b false s).2).1 [], (nameC b false (nameC b false s).2).2, lv + 1)
 else (.mk 1 [] (nameC b false s).1 [], (nameC b false s).2, lv + 1)
def kidsC (b : List UInt8) (k : Nat) (s : St) : Nat × St := if k = 3 ∨ k = 4 then numC b (chkC 2 32) s else (if k = 5 then 2 else 0, s)
def bodyC (b : List UInt8) (f : St → Nat → Ex × St × Nat) (k : Nat) (s : St) (lv : Nat) : Ex × St × Nat :=
 if k = 1 ∨ k = 2 then leafC b k s lv
 else (.mk (k : Nat) [] [] (loopC f (kidsC b k s).1 [] (kidsC b k s).2 lv).1, (loopC f (kidsC b k s).1 [] (kidsC b k s).2 lv).2)
def partC (b : List UInt8) : Nat → St → Nat → Ex × St × Nat
 | 0, s, lv => (ex0, (numC b (kindC 0 lv) s).2, lv)
 | d + 1, s, lv => bodyC b (partC b d) (numC b (kindC (d + 1) lv) s).1 (numC b (kindC (d + 1) lv) s).2 lv
def allC (b : List UInt8) (s : St) (lv : Nat) : AlB × St × Nat := (((nameC b false s).1, (nameC b true (nameC b false s).2).1), (nameC b true (nameC b false s).2).2, lv)
def typesC (b : List UInt8) (s : St) (lv : Nat) : List AlB × St × Nat := loopC (allC b) (numC b (chkC 1 32) s).1 [] (numC b (chkC 1 32) s).2 lv
def memK (b n : List UInt8) (k : Nat) (s : St) (lv : Nat) : MemB × St × Nat :=
 if k = 1 then ((n, 1, (typesC b s lv).1, ex0), (typesC b s lv).2)
 else if k = 2 then ((n, 2, [], (partC b 16 s 0).1), (partC b 16 s 0).2)
 else ((n, (k : Nat), [], ex0), s, lv)
def memC (b : List UInt8) (s : St) (lv : Nat) : MemB × St × Nat := memK b (nameC b false s).1 (numC b chkM (nameC b false s).2).1 (numC b chkM (nameC b false s).2).2 lv
def defC (b : List UInt8) (s : St) (lv : Nat) : DefB × St × Nat :=
 (((nameC b false s).1, (loopC (memC b) (numC b (chkC 0 64) (nameC b false s).2).1 [] (numC b (chkC 0 64) (nameC b false s).2).2 lv).1), (loopC (memC b) (numC b (chkC 0 64) (nameC b false s).2).1 [] (numC b (chkC 0 64) (nameC b false s).2).2 lv).2)
def schC (b : List UInt8) (s : St) (lv : Nat) : List DefB × St × Nat := loopC (defC b) (numC b (chkC 0 64) s).1 [] (numC b (chkC 0 64) s).2 lv
def finC (b : List UInt8) : St → Nat × Nat
 | .er c a => (c, a)
 | .go o => if o < b.length then (16, o) else (0, 0)

/-! ### the same as what is read -/
def asR {α : Type} (r : α × St × Nat) : Rs α := match r.2.1 with
 | .er c a => .bad c a
 | .go o => .ok r.1 o r.2.2
theorem numC_er {b : List UInt8} {chk : Nat → Nat} {c a : Nat} : numC b chk (.er c a) = (0, .er c a) := rfl
theorem nameC_er {b : List UInt8} {emp : Bool} {c a : Nat} : nameC b emp (.er c a) = ([], .er c a) := rfl
theorem numC_1 {b : List UInt8} {chk : Nat → Nat} {o : Nat} (h : (num (b.drop o)).2.2 ≠ 0) : numC b chk (.go o) = (0, .er (num (b.drop o)).2.2 o) := if_pos h
theorem numC_2 {b : List UInt8} {chk : Nat → Nat} {o : Nat} (h : ¬ (num (b.drop o)).2.2 ≠ 0) (h2 : chk (num (b.drop o)).1 ≠ 0) : numC b chk (.go o) = (0, .er (chk (num (b.drop o)).1) o) := (if_neg h).trans (if_pos h2)
theorem numC_3 {b : List UInt8} {chk : Nat → Nat} {o : Nat} (h : ¬ (num (b.drop o)).2.2 ≠ 0) (h2 : ¬ chk (num (b.drop o)).1 ≠ 0) : numC b chk (.go o) = ((num (b.drop o)).1, .go (o + (num (b.drop o)).2.1)) := (if_neg h).trans (if_neg h2)
theorem numC_bad {b : List UInt8} {chk : Nat → Nat} {s : St} {c a : Nat} (h : (numC b chk s).2 = .er c a) : (numC b chk s).1 = 0 := by
 cases s with
 | er c a => rfl
 | go o =>
  by_cases h1 : (num (b.drop o)).2.2 ≠ 0
  ·rw [numC_1 h1]
  ·by_cases h2 : chk (num (b.drop o)).1 ≠ 0
   ·rw [numC_2 h1 h2]
   ·rw [numC_3 h1 h2] at h; cases h
theorem numC_num {b : List UInt8} {lo hi o lv : Nat} : asR ((numC b (chkC lo hi) (.go o)).1, (numC b (chkC lo hi) (.go o)).2, lv) = numK b lo hi 15 o lv := by
 unfold numK
 by_cases h1 : (num (b.drop o)).2.2 ≠ 0
 ·rw [numC_1 h1, if_pos h1]; rfl
 ·rw [if_neg h1]
  by_cases h2 : hi < (num (b.drop o)).1
  ·have e : chkC lo hi (num (b.drop o)).1 = 15 := by unfold chkC; rw [if_pos h2]
   rw [numC_2 h1 (by rw [e]; decide), e, if_pos h2]; rfl
  ·rw [if_neg h2]
   by_cases h3 : (num (b.drop o)).1 < lo
   ·have e : chkC lo hi (num (b.drop o)).1 = 6 := by unfold chkC; rw [if_neg h2, if_pos h3]
    rw [numC_2 h1 (by rw [e]; decide), e, if_pos h3]; rfl
   ·have e : chkC lo hi (num (b.drop o)).1 = 0 := by unfold chkC; rw [if_neg h2, if_neg h3]
    rw [numC_3 h1 (by rw [e]; decide), if_neg h3]; rfl
theorem nameC_name {b : List UInt8} {emp : Bool} {o lv : Nat} : asR ((nameC b emp (.go o)).1, (nameC b emp (.go o)).2, lv) = nameR b emp o lv := by
 unfold nameC nameR
 by_cases h1 : (partP 64 (b.drop o)).2.2 ≠ 0
 ·simp only [if_pos h1]; rfl
 ·simp only [if_neg h1]
  by_cases h2 : emp = true ∧ (partP 64 (b.drop o)).1 = []
  ·simp only [if_pos h2, if_pos (Or.inr h2 : isName (bstr (partP 64 (b.drop o)).1) = true ∨ emp = true ∧ (partP 64 (b.drop o)).1 = [])]
   show Rs.ok _ _ _ = _
   rw [h2.2]
  ·simp only [if_neg h2]
   by_cases h3 : isName (bstr (partP 64 (b.drop o)).1) = false
   ·rw [if_pos h3, if_neg (by rintro (h | h); rw [h3] at h; cases h; exact h2 h)]; rfl
   ·rw [if_neg h3, if_pos (.inl (by simpa using h3))]; rfl
theorem asR_er {α : Type} {r : α × St × Nat} {c a : Nat} (h : r.2.1 = .er c a) : asR r = .bad c a := by unfold asR; rw [h]
theorem asR_go {α : Type} {r : α × St × Nat} {o : Nat} (h : r.2.1 = .go o) : asR r = .ok r.1 o r.2.2 := by unfold asR; rw [h]
def Stays {α : Type} (f : St → Nat → α × St × Nat) : Prop := ∀ c a lv, (f (.er c a) lv).2.1 = .er c a
theorem loop_er {α : Type} {f : St → Nat → α × St × Nat} (hf : Stays f) : ∀ (n : Nat) (acc : List α) (c a lv : Nat), (loopC f n acc (.er c a) lv).2.1 = .er c a
 | 0, _, _, _, _ => rfl
 | n + 1, acc, c, a, lv => by rw [loopC, hf]; exact loop_er hf n _ c a _
theorem asR_then {α β : Type} (r : α × St × Nat) (g : α → St → Nat → β × St × Nat) (hg : ∀ x c a lv, (g x (.er c a) lv).2.1 = .er c a) : asR (g r.1 r.2.1 r.2.2) = (asR r).then fun x o lv => asR (g x (.go o) lv) := by
 obtain ⟨x, s, lv⟩ := r
 cases s with
 | er c a => rw [asR_er (hg x c a lv)]; rfl
 | go o => rfl
theorem loop_many {α : Type} {f : St → Nat → α × St × Nat} {g : Nat → Nat → Rs α} (hf : Stays f) (hg : ∀ o lv, asR (f (.go o) lv) = g o lv) : ∀ (n : Nat) (acc : List α) (o lv : Nat), asR (loopC f n acc (.go o) lv) = (manyR g n o lv).then fun xs o1 l1 => .ok (acc ++ xs) o1 l1
 | 0, acc, o, lv => by show Rs.ok acc o lv = Rs.ok (acc ++ []) o lv; rw [List.append_nil]
 | n + 1, acc, o, lv => by
  rw [loopC, manyR, asR_then (f (.go o) lv) (fun x s l => loopC f n (acc ++ [x]) s l) (fun x c a l => loop_er hf n _ c a l), hg]
  cases g o lv with
  | bad c a => rfl
  | ok x o1 l1 =>
   show asR (loopC f n (acc ++ [x]) (.go o1) l1) = _
   rw [loop_many hf hg n (acc ++ [x]) o1 l1]
   show _ = Rs.then (Rs.then (manyR g n o1 l1) _) _
   cases manyR g n o1 l1 with
   | bad c a => rfl
   | ok xs o2 l2 => show Rs.ok _ _ _ = Rs.ok _ _ _; rw [List.append_assoc]; rfl
theorem leaf_er (b : List UInt8) (k : Nat) (c a lv : Nat) : (leafC b k (.er c a) lv).2.1 = .er c a := by unfold leafC; split <;> rfl
theorem numC_stay {b : List UInt8} {chk : Nat → Nat} (c a : Nat) : (numC b chk (.er c a)).2 = .er c a := rfl
theorem part_er (b : List UInt8) : ∀ d, Stays (partC b d)
 | 0, c, a, lv => rfl
 | d + 1, c, a, lv => rfl
theorem all_er (b : List UInt8) : Stays (allC b) := fun c a lv => rfl
theorem types_er (b : List UInt8) : Stays (typesC b) := fun c a lv => rfl
theorem mem_er (b : List UInt8) : Stays (memC b) := fun c a lv => rfl
theorem def_er (b : List UInt8) : Stays (defC b) := fun c a lv => rfl
theorem sch_er (b : List UInt8) : Stays (schC b) := fun c a lv => rfl
theorem leaf_as (b : List UInt8) (k : Nat) (o lv : Nat) : asR (leafC b k (.go o) lv) = leafR b k o lv := by
 unfold leafC leafR
 split
 ·rw [← nameC_name]
  generalize nameC b false (.go o) = r
  obtain ⟨v, s⟩ := r
  cases s with
  | er c a => rfl
  | go o1 =>
   show _ = Rs.then (nameR b false o1 lv) _
   rw [← nameC_name]
   generalize nameC b false (.go o1) = r2
   obtain ⟨n, s2⟩ := r2
   cases s2 <;> rfl
 ·rw [← nameC_name]
  generalize nameC b false (.go o) = r
  obtain ⟨v, s⟩ := r
  cases s <;> rfl
theorem kids_as (b : List UInt8) (k : Nat) (hk : 3 ≤ k) (o lv : Nat) (h5 : k ≤ 5) : asR ((kidsC b k (.go o)).1, (kidsC b k (.go o)).2, lv) = kidsR b k o lv := by
 unfold kidsC kidsR
 by_cases h : k < 5
 ·rw [if_pos (by omega), if_pos h]; exact numC_num
 ·rw [if_neg (by omega), if_neg h, if_pos (by omega)]; rfl
theorem part_as (b : List UInt8) : ∀ d o lv, asR (partC b d (.go o) lv) = readE b d o lv
 | 0, o, lv => by
  unfold partC readE numK
  by_cases h1 : (num (b.drop o)).2.2 ≠ 0
  ·rw [numC_1 h1, if_pos h1]; rfl
  ·rw [if_neg h1]
   by_cases h2 : 5 < (num (b.drop o)).1
   ·have e : kindC 0 lv (num (b.drop o)).1 = 6 := by unfold kindC; rw [if_pos (.inr h2)]
    rw [numC_2 h1 (by rw [e]; decide), e, if_pos h2]; rfl
   ·rw [if_neg h2]
    by_cases h3 : (num (b.drop o)).1 < 1
    ·have e : kindC 0 lv (num (b.drop o)).1 = 6 := by unfold kindC; rw [if_pos (.inl h3)]
     rw [numC_2 h1 (by rw [e]; decide), e, if_pos h3]; rfl
    ·have e : kindC 0 lv (num (b.drop o)).1 = 7 := by unfold kindC; rw [if_neg (by omega), if_pos rfl]
     rw [numC_2 h1 (by rw [e]; decide), e, if_neg h3]; rfl
 | d + 1, o, lv => by
  unfold partC readE numK
  by_cases h1 : (num (b.drop o)).2.2 ≠ 0
  ·rw [numC_1 h1, if_pos h1]; rfl
  ·rw [if_neg h1]
   by_cases h2 : 5 < (num (b.drop o)).1
   ·have e : kindC (d + 1) lv (num (b.drop o)).1 = 6 := by unfold kindC; rw [if_pos (.inr h2)]
    rw [numC_2 h1 (by rw [e]; decide), e, if_pos h2]; rfl
   ·rw [if_neg h2]
    by_cases h3 : (num (b.drop o)).1 < 1
    ·have e : kindC (d + 1) lv (num (b.drop o)).1 = 6 := by unfold kindC; rw [if_pos (.inl h3)]
     rw [numC_2 h1 (by rw [e]; decide), e, if_pos h3]; rfl
    ·rw [if_neg h3]
     show _ = (if (num (b.drop o)).1 < 3 then _ else _)
     by_cases h4 : (num (b.drop o)).1 < 3
     ·rw [if_pos h4]
      by_cases h5 : 32 ≤ lv
      ·have e : kindC (d + 1) lv (num (b.drop o)).1 = 15 := by unfold kindC; rw [if_neg (by omega), if_neg (by omega), if_pos (by omega)]
       rw [numC_2 h1 (by rw [e]; decide), e, if_pos h5]; rfl
      ·have e : kindC (d + 1) lv (num (b.drop o)).1 = 0 := by unfold kindC; rw [if_neg (by omega), if_neg (by omega), if_neg (by omega)]
       rw [numC_3 h1 (by rw [e]; decide), if_neg h5]
       show asR (bodyC b (partC b d) (num (b.drop o)).1 (.go (o + (num (b.drop o)).2.1)) lv) = _
       unfold bodyC
       rw [if_pos (by omega)]
       exact leaf_as _ _ _ _
     ·rw [if_neg h4]
      have e : kindC (d + 1) lv (num (b.drop o)).1 = 0 := by unfold kindC; rw [if_neg (by omega), if_neg (by omega), if_neg (by omega)]
      rw [numC_3 h1 (by rw [e]; decide)]
      show asR (bodyC b (partC b d) (num (b.drop o)).1 (.go (o + (num (b.drop o)).2.1)) lv) = _
      unfold bodyC
      rw [if_neg (by omega), ← kids_as b _ (by omega) _ _ (by omega)]
      generalize kidsC b (num (b.drop o)).1 (.go (o + (num (b.drop o)).2.1)) = r
      obtain ⟨n, s⟩ := r
      cases s with
      | er c a => exact asR_er (loop_er (part_er b d) n [] c a lv)
      | go o1 =>
       show asR (Ex.mk _ [] [] (loopC (partC b d) n [] (.go o1) lv).1, (loopC (partC b d) n [] (.go o1) lv).2) = Rs.then (manyR (readE b d) n o1 lv) _
       have h := loop_many (part_er b d) (part_as b d) n [] o1 lv
       generalize loopC (partC b d) n [] (.go o1) lv = L at h ⊢
       obtain ⟨xs, s, l⟩ := L
       cases hm : manyR (readE b d) n o1 lv with
       | bad c a =>
        rw [hm] at h
        cases s with
        | er c a => cases h; rfl
        | go o => cases h
       | ok ys o2 l2 =>
        rw [hm] at h
        cases s with
        | er c a => cases h
        | go o => cases h; rfl
end Go.Proofs.YtdnmgemjhpkekaaGreatDoor
namespace Go.Proofs.YtdnmgemjhpkekaaGreatDoor
open Go.ChangeShapes Go.WideShapes Go.ChangeAt Go.RowKit
set_option linter.unusedVariables false

theorem all_snoc {α : Type} {p : α → Prop} {l : List α} {x : α} (h : ∀ y ∈ l, p y) (hx : p x) : ∀ y ∈ l ++ [x], p y := by
 intro y hy
 rcases List.mem_append.1 hy with hy | hy
 ·exact h y hy
 ·rw [List.mem_singleton] at hy
  exact hy ▸ hx
theorem CellsK.at {α : Type} {K : Kd α} {P : Nat → Prop} {w : World} : ∀ {xs : List α} {cs : List Value} {i : Nat} {x : α}, CellsK K P w xs cs → xs[i]? = some x → ∃ a, K.rd P w x a ∧ ∀ j u, a[j]? = some u → cs[i * K.size + j]? = some u
 | [], _, i, x, _, hx => by simp at hx
 | y :: r, _, 0, x, ⟨a, b, rfl, h1, h2⟩, hx => by
  cases hx
  refine ⟨a, h1, fun j u hj => ?_⟩
  have hl : j < a.length := (List.getElem?_eq_some_iff.1 hj).1
  rw [Nat.zero_mul, Nat.zero_add, List.getElem?_append_left hl]
  exact hj
 | y :: r, _, i + 1, x, ⟨a, b, rfl, h1, h2⟩, hx => by
  obtain ⟨a2, h3, h4⟩ := CellsK.at h2 (by simpa using hx)
  refine ⟨a2, h3, fun j u hj => ?_⟩
  have hl := K.len h1
  rw [List.getElem?_append_right (by rw [hl, Nat.succ_mul]; omega), hl, show (i + 1) * K.size + j - K.size = i * K.size + j by rw [Nat.succ_mul]; omega]
  exact h4 j u hj
theorem RdK.at {α : Type} {K : Kd α} {P : Nat → Prop} {w : World} {xs : List α} {q : Option Addr} {n c i : Nat} {x : α} (h : RdK K P w xs (.slice q n c)) (hx : xs[i]? = some x) : ∃ b o a, q = some ⟨b, o, none⟩ ∧ P b ∧ K.rd P w x a ∧ ∀ j u, a[j]? = some u → w.cell? ⟨b, o + i * K.size + j, none⟩ = some u := by
 obtain ⟨q', c', e, _, h3⟩ := h
 simp only [Value.slice.injEq] at e
 obtain ⟨rfl, _, rfl⟩ := e
 have hl : i < xs.length := (List.getElem?_eq_some_iff.1 hx).1
 obtain ⟨b, o, rfl, hb, cs, h4, h5⟩ := h3 (by omega)
 obtain ⟨a, h6, h7⟩ := h4.at hx
 exact ⟨b, o, a, rfl, hb, h6, fun j u hj => by rw [Nat.add_assoc]; exact h5 _ _ (h7 j u hj)⟩
mutual
theorem okE_le {M N : Nat} (h : M ≤ N) : ∀ e : Ex, okE M e → okE N e
 | .mk k v n ks, he => by
  rw [okE] at he ⊢
  exact ⟨Nat.le_trans he.1 h, Nat.le_trans he.2.1 h, okL_le h ks he.2.2⟩
theorem okL_le {M N : Nat} (h : M ≤ N) : ∀ l : List Ex, okL M l → okL N l
 | [], he => by rw [okL]; trivial
 | e :: r, he => by
  rw [okL] at he ⊢
  exact ⟨okE_le h e he.1, okL_le h r he.2⟩
end
theorem als_at : ∀ (l : List AlB) (i : Nat), i < l.length → (als l)[i * 2]? = some (.string (bstr (l.getD i ([], [])).1)) ∧ (als l)[i * 2 + 1]? = some (.string (bstr (l.getD i ([], [])).2))
 | [], i, h => by simp at h
 | a :: r, 0, _ => ⟨rfl, rfl⟩
 | a :: r, i + 1, h => by
  have ih := als_at r i (by simpa using h)
  have e : als (a :: r) = alv a ++ als r := rfl
  rw [e, List.getElem?_append_right (by simp [alv]; omega), List.getElem?_append_right (by simp [alv]; omega)]
  simp only [alv, List.length_cons, List.length_nil, List.getD_cons_succ]
  rw [show (i + 1) * 2 - (0 + 1 + 1) = i * 2 by omega, show (i + 1) * 2 + 1 - (0 + 1 + 1) = i * 2 + 1 by omega]
  exact ih
theorem RdA.at {P : Nat → Prop} {w : World} {l : List AlB} {q : Option Addr} {n c : Nat} (h : RdA P w l (.slice q n c)) {i : Nat} (hi : i < l.length) : ∃ b o, q = some ⟨b, o, none⟩ ∧ P b ∧ w.cell? ⟨b, o + i * 2, none⟩ = some (.string (bstr (l.getD i ([], [])).1)) ∧ w.cell? ⟨b, o + i * 2 + 1, none⟩ = some (.string (bstr (l.getD i ([], [])).2)) := by
 obtain ⟨q', c', e, _, h3⟩ := h
 simp only [Value.slice.injEq] at e
 obtain ⟨rfl, _, rfl⟩ := e
 obtain ⟨b, o, rfl, hb, hx⟩ := h3 (by omega)
 have ha := als_at l i hi
 exact ⟨b, o, rfl, hb, hx _ _ ha.1, hx _ _ ha.2⟩
def cmpI (a b : Int) : Int := if a < b then -1 else if b < a then 1 else 0
set_option maxRecDepth 100000 in
theorem isNaN_any (x : Int) (w : World) : Calls Tryz.prog 127 #[.int .i64 x] w fun r w' => r = .returned (.bool false) ∧ w = w' := by
 go_enter Tryz.func127, Tryz.ntmps127
 go_wp2_with fail
 go_ret
 exact ⟨ret_b (by simp), rfl⟩
set_option maxRecDepth 100000 in
theorem cmpInt_any (a b : Int) (w : World) : Calls Tryz.prog 120 #[.int .i64 a, .int .i64 b] w fun r w' => r = .returned (.int .i64 (cmpI a b)) ∧ w = w' := by
 have HA := hiD (fun W => isNaN_any a W)
 have HB := hiD (fun W => isNaN_any b W)
 by_cases h1 : a < b
 ·have H : Hid (cmpI a b = -1) := if_pos h1
  go_enter Tryz.func120, Tryz.ntmps120
  go_wp2_with fail
  refine (HA.out _).mono ?_
  rintro r w2 ⟨rfl, hw⟩
  subst hw
  go_wp2_with fail
  refine (HB.out _).mono ?_
  rintro r w2 ⟨rfl, hw⟩
  subst hw
  go_wp2_with fail
  go_ret
  exact ⟨by rw [H.out]; rfl, rfl⟩
 ·by_cases h2 : b < a
  ·have H : Hid (cmpI a b = 1) := by show _ = _; unfold cmpI; rw [if_neg h1, if_pos h2]
   go_enter Tryz.func120, Tryz.ntmps120
   go_wp2_with fail
   refine (HA.out _).mono ?_
   rintro r w2 ⟨rfl, hw⟩
   subst hw
   go_wp2_with fail
   refine (HB.out _).mono ?_
   rintro r w2 ⟨rfl, hw⟩
   subst hw
   go_wp2_with fail
   go_ret
   exact ⟨by rw [H.out]; rfl, rfl⟩
  ·have H : Hid (cmpI a b = 0) := by show _ = _; unfold cmpI; rw [if_neg h1, if_neg h2]
   go_enter Tryz.func120, Tryz.ntmps120
   go_wp2_with fail
   refine (HA.out _).mono ?_
   rintro r w2 ⟨rfl, hw⟩
   subst hw
   go_wp2_with fail
   refine (HB.out _).mono ?_
   rintro r w2 ⟨rfl, hw⟩
   subst hw
   go_wp2_with fail
   go_ret
   exact ⟨by rw [H.out]; rfl, rfl⟩
def orL : List Int → Int
 | [] => 0
 | x :: r => if x = 0 then orL r else x
theorem orL_drop : ∀ {l : List Int} {i : Nat}, (∀ j, j < i → l.getD j 0 = 0) → orL l = orL (l.drop i)
 | l, 0, _ => rfl
 | [], i + 1, _ => rfl
 | x :: r, i + 1, h => by
  have h0 := h 0 (by omega)
  simp only [List.getD_cons_zero] at h0
  rw [List.drop_succ_cons, ← orL_drop (l := r) (i := i) (fun j hj => by have := h (j + 1) (by omega); simpa using this)]
  conv => lhs; unfold orL
  rw [if_pos h0]
theorem orL_at {l : List Int} {i : Nat} (hi : i < l.length) (h : ∀ j, j < i → l.getD j 0 = 0) (hx : ¬ l.getD i 0 = 0) : orL l = l.getD i 0 := by
 rw [orL_drop h, List.drop_eq_getElem_cons hi]
 have e : l.getD i 0 = l[i] := by rw [List.getD_eq_getElem?_getD, List.getElem?_eq_getElem hi]; rfl
 rw [e] at hx ⊢
 conv => lhs; unfold orL
 rw [if_neg hx]
set_option maxRecDepth 100000 in
set_option maxHeartbeats 1000000 in
theorem or_any (l : List Int) (hl : l.length ≤ 1000) (g : Nat) (w : World) (hA : Arr w 3 g (l.map fun x => .int .i64 x)) : Calls Tryz.prog 119 #[.slice (some ⟨g, 0, none⟩) l.length l.length] w fun r w' => r = .returned (.int .i64 (orL l)) ∧ w = w' := by
 have HA := hiD hA
 clear hA
 go_enter Tryz.func119, Tryz.ntmps119
 go_wp2_with fail
 go_loop [8] (fun iv => ∃ i : Nat, i ≤ l.length ∧ iv = .int .i64 i ∧ Hid (∀ j, j < i → l.getD j 0 = 0)) (fun iv => l.length - (intOf iv).toNat)
 case atStart => exact ⟨0, Nat.zero_le _, rfl, fun j hj => absurd hj (Nat.not_lt_zero _)⟩
 case round =>
  obtain ⟨i, hi, rfl, HG⟩ := hrel
  have hi0 : (0 : Int) ≤ i := by omega
  by_cases hlt : i < l.length
  ·have hi1 : (i : Int) < l.length := by omega
   have hx0 := HA.out.cell i
   rw [List.getElem?_map, List.getElem?_eq_getElem hlt] at hx0
   obtain ⟨x, hx⟩ : ∃ x, x = l.getD i 0 := ⟨_, rfl⟩
   have e : l.getD i 0 = l[i] := by rw [List.getD_eq_getElem?_getD, List.getElem?_eq_getElem hlt]; rfl
   have X0 : w.cell? ⟨g, i, none⟩ = some (.int .i64 x) := by rw [hx, e]; exact hx0
   have HX := hiD hx
   have HLT : Hid (i < l.length) := hlt
   clear hx0 e hx
   by_cases hz : x = 0
   ·have bz : (x != 0) = false := by rw [hz]; rfl
    have HZ := hiD hz
    clear hz
    go_wp2_with fail
    go_round
    case rel =>
     refine ⟨i + 1, by omega, by go_num, fun j hj => ?_⟩
     by_cases e : j = i
     ·subst e; rw [← HX.out]; exact HZ.out
     ·exact HG.out j (by omega)
    case measure => simp [intOf]; omega
   ·have bz : (x != 0) = true := by rw [bne_iff_ne]; exact hz
    have HR : Hid (orL l = x) := by show _ = _; rw [HX.out]; exact orL_at HLT.out HG.out (by rw [← HX.out]; exact hz)
    clear hz
    go_wp2_with fail
    go_ret
    exact ⟨by rw [HR.out]; rfl, rfl⟩
  ·have hi1 : ¬ (i : Int) < l.length := by omega
   have HR : Hid (orL l = 0) := by
    show _ = _
    rw [orL_drop HG.out, List.drop_of_length_le (by omega)]; rfl
   go_wp2_with fail
   go_ret
   exact ⟨by rw [HR.out]; rfl, rfl⟩
mutual
def cmpE : Ex → Ex → Int
 | .mk k v n ks, e2 => orL [Lib.compareInt k e2.kind, Lib.compareBytes v e2.via, Lib.compareBytes n e2.nm, cmpL ks e2.kids]
def cmpL : List Ex → List Ex → Int
 | [], [] => 0
 | [], _ :: _ => -1
 | _ :: _, [] => 1
 | a :: r, b :: s => orL [cmpE a b, cmpL r s]
end
theorem cmpL_step {ks ls : List Ex} {i : Nat} (h1 : i < ks.length) (h2 : i < ls.length) : cmpL (ks.drop i) (ls.drop i) = orL [cmpE (ks.getD i ex0) (ls.getD i ex0), cmpL (ks.drop (i + 1)) (ls.drop (i + 1))] := by
 rw [List.drop_eq_getElem_cons h1, List.drop_eq_getElem_cons h2, List.getD_eq_getElem?_getD, List.getElem?_eq_getElem h1, List.getD_eq_getElem?_getD, List.getElem?_eq_getElem h2]
 conv => lhs; unfold cmpL
 rfl
theorem orL2 (a b : Int) : orL [a, b] = if a = 0 then b else a := by
 unfold orL
 split
 ·unfold orL
  split
  ·rename_i h; rw [h]; rfl
  ·rfl
 ·rfl
set_option maxRecDepth 100000 in
set_option maxHeartbeats 4000000 in
theorem cmpf_any (n : Nat) (HC : Hid (∀ (x y : Ex) (vx vy : Value) (P Q : Nat → Prop) (W : World), sizeE x ≤ n → sizeE y ≤ 900000 → RdE P W x vx → RdE Q W y vy → (∀ b, P b → b < W.heap.size) → (∀ b, Q b → b < W.heap.size) → Calls Tryz.prog 113 #[vx, vy] W fun r w' => r = .returned (.int .i64 (cmpE x y)) ∧ Below W.heap.size W w'))
  (ks ls : List Ex) (q ql : Option Addr) (c cl : Nat) (P Q : Nat → Prop) (w : World) (hks : sizeL ks ≤ n) (hkm : sizeL ks ≤ 900000) (hlm : sizeL ls ≤ 900000)
  (hk : 0 < ks.length → ∃ b o, q = some ⟨b, o, none⟩ ∧ P b ∧ RdL P w ks b o) (hl' : 0 < ls.length → ∃ b o, ql = some ⟨b, o, none⟩ ∧ Q b ∧ RdL Q w ls b o) (hP : ∀ b, P b → b < w.heap.size) (hQ : ∀ b, Q b → b < w.heap.size) :
  Calls Tryz.prog 122 #[.slice q ks.length c, .slice ql ls.length cl, .func (.func 113) #[] #[]] w fun r w' => r = .returned (.int .i64 (cmpL ks ls)) ∧ Below w.heap.size w w' := by
 have HK : Hid (0 < ks.length → ∃ b o, q = some ⟨b, o, none⟩ ∧ P b ∧ RdL P w ks b o) := hk
 have HL : Hid (0 < ls.length → ∃ b o, ql = some ⟨b, o, none⟩ ∧ Q b ∧ RdL Q w ls b o) := hl'
 have hlen := sizeL_len ks
 have hlen2 := sizeL_len ls
 clear hk hl'
 go_enter Tryz.func122, Tryz.ntmps122
 go_wp2_with fail
 go_loopw [13] (fun iv wr => ∃ i : Nat, i ≤ ks.length ∧ i ≤ ls.length ∧ iv = .int .i64 i ∧ Hid (cmpL (ks.drop i) (ls.drop i) = cmpL ks ls) ∧ Hid (Below w.heap.size w wr)) (fun iv _ => ks.length - (intOf iv).toNat)
 case atStart => exact ⟨0, Nat.zero_le _, Nat.zero_le _, rfl, rfl, Below.refl _ _⟩
 case round =>
  obtain ⟨i, hi, hil, rfl, HD, HI⟩ := hrel
  have hi0 : (0 : Int) ≤ i := by omega
  by_cases hlt : i < ks.length
  ·have hi1 : (i : Int) < ks.length := by omega
   by_cases hlt2 : i < ls.length
   ·have hi2 : (i : Int) < ls.length := by omega
    obtain ⟨ba, oa, rfl, hba, hl⟩ := HK.out (by omega)
    obtain ⟨x, hx⟩ : ∃ x, x = ks.getD i ex0 := ⟨_, rfl⟩
    obtain ⟨q2, c2, x0, x1, x2, x3, hr⟩ := hl.at hlt
    have hxs := sizeL_get ks i hlt
    have hxd := depthL_get ks i hlt
    rw [← hx] at x0 x1 x2 x3 hr hxs hxd
    have HX := hiD hx
    obtain ⟨xk, xv2, xn2, xs⟩ := x
    have cc : ∀ n, wr.cell? ⟨ba, n, none⟩ = w.cell? ⟨ba, n, none⟩ := fun n => (HI.out).cell (p := ⟨ba, n, none⟩) (hP _ hba)
    have X0 : wr.cell? ⟨ba, oa + i * 4, none⟩ = some (.int .i64 xk) := (cc _).trans x0
    have X1 : wr.cell? ⟨ba, oa + i * 4 + 1, none⟩ = some (.string (bstr xv2)) := (cc _).trans x1
    have X2 : wr.cell? ⟨ba, oa + i * 4 + 2, none⟩ = some (.string (bstr xn2)) := (cc _).trans x2
    have X3 : wr.cell? ⟨ba, oa + i * 4 + 3, none⟩ = some (.slice q2 xs.length c2) := (cc _).trans x3
    clear x0 x1 x2 x3 cc hx
    have HBA : Hid (Below wr.heap.size wr (wr.alloc (.cells #[.int .i64 xk, .string (bstr xv2), .string (bstr xn2), .slice q2 xs.length c2] 42))) := (Below.refl _ _).alloc (Nat.le_refl _) _
    obtain ⟨bab, oab, rfl, hbab, hlb⟩ := HL.out (by omega)
    obtain ⟨x, hx⟩ : ∃ x, x = ls.getD i ex0 := ⟨_, rfl⟩
    obtain ⟨q2b, c2b, x0, x1, x2, x3, hrb⟩ := hlb.at hlt2
    have hxsb := sizeL_get ls i hlt2
    have hxdb := depthL_get ls i hlt2
    rw [← hx] at x0 x1 x2 x3 hrb hxsb hxdb
    have HXb := hiD hx
    obtain ⟨xkb, xv2b, xn2b, xsb⟩ := x
    have cc : ∀ n, (wr.alloc (.cells #[.int .i64 xk, .string (bstr xv2), .string (bstr xn2), .slice q2 xs.length c2] 42)).cell? ⟨bab, n, none⟩ = w.cell? ⟨bab, n, none⟩ := fun n => (HI.out.trans (HBA.out.mono HI.out.size)).cell (p := ⟨bab, n, none⟩) (hQ _ hbab)
    have X0b : (wr.alloc (.cells #[.int .i64 xk, .string (bstr xv2), .string (bstr xn2), .slice q2 xs.length c2] 42)).cell? ⟨bab, oab + i * 4, none⟩ = some (.int .i64 xkb) := (cc _).trans x0
    have X1b : (wr.alloc (.cells #[.int .i64 xk, .string (bstr xv2), .string (bstr xn2), .slice q2 xs.length c2] 42)).cell? ⟨bab, oab + i * 4 + 1, none⟩ = some (.string (bstr xv2b)) := (cc _).trans x1
    have X2b : (wr.alloc (.cells #[.int .i64 xk, .string (bstr xv2), .string (bstr xn2), .slice q2 xs.length c2] 42)).cell? ⟨bab, oab + i * 4 + 2, none⟩ = some (.string (bstr xn2b)) := (cc _).trans x2
    have X3b : (wr.alloc (.cells #[.int .i64 xk, .string (bstr xv2), .string (bstr xn2), .slice q2 xs.length c2] 42)).cell? ⟨bab, oab + i * 4 + 3, none⟩ = some (.slice q2b xsb.length c2b) := (cc _).trans x3
    clear x0 x1 x2 x3 cc hx
    have HST := hiD (cmpL_step hlt hlt2)
    have HBB : Hid (Below wr.heap.size wr ((wr.alloc (.cells #[.int .i64 xk, .string (bstr xv2), .string (bstr xn2), .slice q2 xs.length c2] 42)).alloc (.cells #[.int .i64 xkb, .string (bstr xv2b), .string (bstr xn2b), .slice q2b xsb.length c2b] 42))) := HBA.out.alloc HBA.out.size _
    have HRA : Hid (RdE P ((wr.alloc (.cells #[.int .i64 xk, .string (bstr xv2), .string (bstr xn2), .slice q2 xs.length c2] 42)).alloc (.cells #[.int .i64 xkb, .string (bstr xv2b), .string (bstr xn2b), .slice q2b xsb.length c2b] 42)) (.mk xk xv2 xn2 xs) (.agg #[.int .i64 xk, .string (bstr xv2), .string (bstr xn2), .slice q2 xs.length c2])) := (hr.below HI.out hP).below HBB.out (fun b hb => Nat.lt_of_lt_of_le (hP b hb) HI.out.size)
    have HRB : Hid (RdE Q ((wr.alloc (.cells #[.int .i64 xk, .string (bstr xv2), .string (bstr xn2), .slice q2 xs.length c2] 42)).alloc (.cells #[.int .i64 xkb, .string (bstr xv2b), .string (bstr xn2b), .slice q2b xsb.length c2b] 42)) (.mk xkb xv2b xn2b xsb) (.agg #[.int .i64 xkb, .string (bstr xv2b), .string (bstr xn2b), .slice q2b xsb.length c2b])) := (hrb.below HI.out hQ).below HBB.out (fun b hb => Nat.lt_of_lt_of_le (hQ b hb) HI.out.size)
    have HCC := HC.out (.mk xk xv2 xn2 xs) (.mk xkb xv2b xn2b xsb) _ _ P Q ((wr.alloc (.cells #[.int .i64 xk, .string (bstr xv2), .string (bstr xn2), .slice q2 xs.length c2] 42)).alloc (.cells #[.int .i64 xkb, .string (bstr xv2b), .string (bstr xn2b), .slice q2b xsb.length c2b] 42)) (by omega) (by omega) HRA.out HRB.out (fun b hb => Nat.lt_of_lt_of_le (hP b hb) (Nat.le_trans HI.out.size HBB.out.size)) (fun b hb => Nat.lt_of_lt_of_le (hQ b hb) (Nat.le_trans HI.out.size HBB.out.size))
    obtain ⟨E, hE⟩ : ∃ E, E = cmpE (.mk xk xv2 xn2 xs) (.mk xkb xv2b xn2b xsb) := ⟨_, rfl⟩
    rw [← hE] at HCC
    have HED := hiD hE
    have HCC := hiD HCC
    clear hl hlb hr hrb hxs hxd hxsb hxdb hE
    go_wp2_with fail
    refine HCC.out.mono ?_
    rintro r w5 ⟨rfl, b5⟩
    have HB5 := hiD (HI.out.trans ((HBB.out.trans (b5.mono HBB.out.size)).mono HI.out.size))
    clear b5
    by_cases hz : E = 0
    ·have bz : (E != 0) = false := by rw [hz]; rfl
     have HNX : Hid (cmpL (ks.drop (i + 1)) (ls.drop (i + 1)) = cmpL ks ls) := by show _ = _; rw [← HD.out, HST.out, ← HX.out, ← HXb.out, ← HED.out, orL2, if_pos hz]
     clear hz
     go_wp2_with fail
     go_roundw
     case rel => exact ⟨i + 1, by omega, by omega, by go_num, HNX.out, HB5.out⟩
     case measure => simp [intOf]; omega
    ·have bz : (E != 0) = true := by rw [bne_iff_ne]; exact hz
     have HNX : Hid (cmpL ks ls = E) := by show _ = _; rw [← HD.out, HST.out, ← HX.out, ← HXb.out, ← HED.out, orL2, if_neg hz]
     clear hz
     go_wp2_with fail
     go_ret
     exact ⟨by rw [HNX.out]; rfl, HB5.out⟩
   ·have hi2 : ¬ (i : Int) < ls.length := by omega
    have HNX : Hid (cmpL ks ls = 1) := by
     show _ = _
     rw [← HD.out, List.drop_eq_getElem_cons hlt, List.drop_of_length_le (show ls.length ≤ i by omega)]
     unfold cmpL; rfl
    have HK1 := HK.out (by omega)
    obtain ⟨ba, oa, rfl, hba, hl⟩ := HK1
    obtain ⟨q2, c2, x0, x1, x2, x3, hr⟩ := hl.at hlt
    have cc : ∀ n, wr.cell? ⟨ba, n, none⟩ = w.cell? ⟨ba, n, none⟩ := fun n => (HI.out).cell (p := ⟨ba, n, none⟩) (hP _ hba)
    have X0 := (cc _).trans x0
    have X1 := (cc _).trans x1
    have X2 := (cc _).trans x2
    have X3 := (cc _).trans x3
    clear x0 x1 x2 x3 cc hr hl
    go_wp2_with fail
    go_ret
    exact ⟨by rw [HNX.out]; rfl, HI.out.alloc HI.out.size _⟩
  ·have hi1 : ¬ (i : Int) < ks.length := by omega
   by_cases hlt2 : ks.length < ls.length
   ·have hi2 : (ks.length : Int) < ls.length := by omega
    have HNX : Hid (cmpL ks ls = -1) := by
     show _ = _
     rw [← HD.out, List.drop_of_length_le (show ks.length ≤ i by omega), List.drop_eq_getElem_cons (show i < ls.length by omega)]
     unfold cmpL; rfl
    go_wp2_with fail
    go_ret
    exact ⟨by rw [HNX.out]; rfl, HI.out⟩
   ·have hi2 : ¬ (ks.length : Int) < ls.length := by omega
    have HNX : Hid (cmpL ks ls = 0) := by
     show _ = _
     rw [← HD.out, List.drop_of_length_le (show ks.length ≤ i by omega), List.drop_of_length_le (show ls.length ≤ i by omega)]
     unfold cmpL; rfl
    go_wp2_with fail
    go_ret
    exact ⟨by rw [HNX.out]; rfl, HI.out⟩
theorem orL4 (a b c d : Int) : orL [a, b, c, d] = if orL [a, b, c] = 0 then d else orL [a, b, c] := by
  by_cases ha : a = 0
  · by_cases hb : b = 0
    · by_cases hc : c = 0
      · by_cases hd : d = 0 <;> simp [orL, ha, hb, hc, hd]
      · simp [orL, ha, hb, hc]
    · simp [orL, ha, hb]
  · simp [orL, ha]
set_option maxRecDepth 100000 in
set_option maxHeartbeats 4000000 in
theorem ecompare_any : ∀ (n : Nat), n ≤ 900000 → ∀ (x y : Ex) (vx vy : Value) (P Q : Nat → Prop) (w : World), sizeE x ≤ n → sizeE y ≤ 900000 → RdE P w x vx → RdE Q w y vy → (∀ b, P b → b < w.heap.size) → (∀ b, Q b → b < w.heap.size) → Calls Tryz.prog 113 #[vx, vy] w fun r w' => r = .returned (.int .i64 (cmpE x y)) ∧ Below w.heap.size w w' := by
  intro n
  induction n with
  | zero => intro _ x y vx vy P Q w h; have := sizeE_pos x; omega
  | succ n ih =>
    intro hn x y vx vy P Q w hx hy h1 h2 hP hQ
    obtain ⟨q, c, rfl, _, hk⟩ := h1.form
    obtain ⟨q2, c2, rfl, _, hl⟩ := h2.form
    obtain ⟨k, xv, xn, ks⟩ := x
    obtain ⟨k2, yv, yn, ls⟩ := y
    unfold exv
    show Calls _ _ #[.agg #[.int .i64 k, .string (bstr xv), .string (bstr xn), .slice q ks.length c], .agg #[.int .i64 k2, .string (bstr yv), .string (bstr yn), .slice q2 ls.length c2]] _ _
    have hks : sizeL ks ≤ n := by unfold sizeE at hx; omega
    have hls : sizeL ls ≤ 900000 := by unfold sizeE at hy; omega
    have hb : Below w.heap.size w ((w.alloc (.cells #[.int .i64 k, .string (bstr xv), .string (bstr xn), .slice q ks.length c] 42)).alloc (.cells #[.int .i64 k2, .string (bstr yv), .string (bstr yn), .slice q2 ls.length c2] 42)) := ((Below.refl _ _).alloc (Nat.le_refl _) _).alloc (by simp) _
    have ha1 : Arr ((w.alloc (.cells #[.int .i64 k, .string (bstr xv), .string (bstr xn), .slice q ks.length c] 42)).alloc (.cells #[.int .i64 k2, .string (bstr yv), .string (bstr yn), .slice q2 ls.length c2] 42)) 42 w.heap.size [.int .i64 k, .string (bstr xv), .string (bstr xn), .slice q ks.length c] := (Arr.new' w _ _ _ rfl).alloc _
    have ha2 : Arr ((w.alloc (.cells #[.int .i64 k, .string (bstr xv), .string (bstr xn), .slice q ks.length c] 42)).alloc (.cells #[.int .i64 k2, .string (bstr yv), .string (bstr yn), .slice q2 ls.length c2] 42)) 42 (w.heap.size + 1) [.int .i64 k2, .string (bstr yv), .string (bstr yn), .slice q2 ls.length c2] := Arr.new2 w _ _ _ _ rfl
    obtain ⟨w0, hw0⟩ : ∃ w0, w0 = ((w.alloc (.cells #[.int .i64 k, .string (bstr xv), .string (bstr xn), .slice q ks.length c] 42)).alloc (.cells #[.int .i64 k2, .string (bstr yv), .string (bstr yn), .slice q2 ls.length c2] 42)) := ⟨_, rfl⟩
    rw [← hw0] at hb ha1 ha2
    have HW := hiD hw0
    have HB := hiD hb
    have HA1 := hiD ha1
    have HA2 := hiD ha2
    have HIH : Hid (∀ (x y : Ex) (vx vy : Value) (P Q : Nat → Prop) (W : World), sizeE x ≤ n → sizeE y ≤ 900000 → RdE P W x vx → RdE Q W y vy → (∀ b, P b → b < W.heap.size) → (∀ b, Q b → b < W.heap.size) → Calls Tryz.prog 113 #[vx, vy] W fun r w' => r = .returned (.int .i64 (cmpE x y)) ∧ Below W.heap.size W w') := ih (by omega)
    have HK : Hid (0 < ks.length → ∃ b o, q = some ⟨b, o, none⟩ ∧ P b ∧ RdL P w ks b o) := hk
    have HL : Hid (0 < ls.length → ∃ b o, q2 = some ⟨b, o, none⟩ ∧ Q b ∧ RdL Q w ls b o) := hl
    have H1 := hiD (Tryz.cmp_Compare_int k k2)
    have H2 := hiD (Tryz.strings_Compare (bstr xv) (bstr yv))
    have H3 := hiD (Tryz.strings_Compare (bstr xn) (bstr yn))
    have HN := hiD hn
    clear h1 h2 hk hl hx hy hb ha1 ha2 hw0 ih hn
    go_enter Tryz.func113, Tryz.ntmps113
    go_wp2_with fail
    rw [← HW.out]
    have a0 := HA1.out.cell 0
    have a1 := HA1.out.cell 1
    have a2 := HA1.out.cell 2
    have e0 := HA2.out.cell 0
    have e1 := HA2.out.cell 1
    have e2 := HA2.out.cell 2
    simp only [List.getElem?_cons_zero, List.getElem?_cons_succ] at a0 a1 a2 e0 e1 e2
    refine wp_region_still_tail 15 (by kernel_rfl) (by kernel_rfl) ?_
    simp only [List.take_succ_cons, List.take_zero, List.drop_succ_cons, List.drop_zero]
    repeat first | still_step | still_call (H1.out _) | still_call (H2.out _) | still_call (H3.out _)
    refine wpStill_nil ?_
    change wpList _ _ _ _ _ w0.drew
    have HBd : Hid (Below w0.heap.size w0 w0.drew) := (Below.refl _ _).drew
    have HB2 := hiD (HB.out.trans (HBd.out.mono HB.out.size))
    have HA12 := hiD (HA1.out.later HBd.out)
    have HA22 := hiD (HA2.out.later HBd.out)
    rw [bstr_data, bstr_data, bstr_data, bstr_data]
    obtain ⟨A, hA⟩ : ∃ A, A = Lib.compareInt k k2 := ⟨_, rfl⟩
    obtain ⟨B, hB⟩ : ∃ B, B = Lib.compareBytes xv yv := ⟨_, rfl⟩
    obtain ⟨C, hC⟩ : ∃ C, C = Lib.compareBytes xn yn := ⟨_, rfl⟩
    rw [← hA, ← hB, ← hC]
    have HE : Hid (cmpE (.mk k xv xn ks) (.mk k2 yv yn ls) = if orL [A, B, C] = 0 then cmpL ks ls else orL [A, B, C]) := by show _ = _; rw [← orL4, hA, hB, hC]; unfold cmpE; rfl
    clear hA hB hC a0 a1 a2 e0 e1 e2 HA1 HA2 HW H1 H2 H3
    generalize w0.drew = w2 at HB2 HA12 HA22 ⊢
    clear HBd HB
    have HOR : Hid (Calls Tryz.prog 119 #[.slice (some ⟨w2.heap.size, 0, none⟩) 3 3] (w2.alloc (.cells #[.int .i64 A, .int .i64 B, .int .i64 C] 3)) fun r w' => r = .returned (.int .i64 (orL [A, B, C])) ∧ w2.alloc (.cells #[.int .i64 A, .int .i64 B, .int .i64 C] 3) = w') := or_any [A, B, C] (by simp) w2.heap.size _ (Arr.new' _ _ _ _ rfl)
    have HB3 : Hid (Below w2.heap.size w2 (w2.alloc (.cells #[.int .i64 A, .int .i64 B, .int .i64 C] 3))) := (Below.refl _ _).alloc (Nat.le_refl _) _
    obtain ⟨O, hO⟩ : ∃ O, O = orL [A, B, C] := ⟨_, rfl⟩
    rw [← hO] at HE HOR
    clear hO
    go_wp2_with fail
    refine HOR.out.mono ?_
    rintro r w3 ⟨rfl, hw3⟩
    have HA13 := hiD (HA12.out.later HB3.out)
    have HA23 := hiD (HA22.out.later HB3.out)
    have HB4 := hiD (HB2.out.trans (HB3.out.mono HB2.out.size))
    rw [hw3] at HA13 HA23 HB4
    clear hw3 HB3 HOR HA12 HA22 HB2
    have a3 := HA13.out.cell 3
    have e3 := HA23.out.cell 3
    simp only [List.getElem?_cons_zero, List.getElem?_cons_succ] at a3 e3
    by_cases hz : O = 0
    · have bz : (O != 0) = false := by rw [hz]; rfl
      have HE2 : Hid (cmpE (.mk k xv xn ks) (.mk k2 yv yn ls) = cmpL ks ls) := by show _ = _; rw [HE.out, if_pos hz]
      have HCF := hiD (cmpf_any n HIH ks ls q q2 c c2 P Q w3 hks (by have := HN.out; omega) hls
        (fun h => by
          obtain ⟨b, o, g1, g2, g3⟩ := HK.out h
          exact ⟨b, o, g1, g2, g3.keep (cells_below HB4.out hP) g2⟩)
        (fun h => by
          obtain ⟨b, o, g1, g2, g3⟩ := HL.out h
          exact ⟨b, o, g1, g2, g3.keep (cells_below HB4.out hQ) g2⟩)
        (fun b hb => Nat.lt_of_lt_of_le (hP b hb) HB4.out.size) (fun b hb => Nat.lt_of_lt_of_le (hQ b hb) HB4.out.size))
      clear hz
      go_wp2_with fail
      refine HCF.out.mono ?_
      rintro r w5 ⟨rfl, b5⟩
      have HB5 := hiD (HB4.out.trans (b5.mono HB4.out.size))
      clear b5
      go_wp2_with fail
      go_ret
      exact ⟨by rw [HE2.out]; rfl, HB5.out⟩
    · have bz : (O != 0) = true := by rw [bne_iff_ne]; exact hz
      have HE2 : Hid (cmpE (.mk k xv xn ks) (.mk k2 yv yn ls) = O) := by show _ = _; rw [HE.out, if_neg hz]
      clear hz
      go_wp2_with fail
      go_ret
      exact ⟨by rw [HE2.out]; rfl, HB4.out⟩
set_option maxRecDepth 100000 in
set_option maxHeartbeats 1000000 in
theorem esame_any (x y : Ex) (vx vy : Value) (P Q : Nat → Prop) (w : World) (hx : sizeE x ≤ 900000) (hy : sizeE y ≤ 900000) (h1 : RdE P w x vx) (h2 : RdE Q w y vy) (hP : ∀ b, P b → b < w.heap.size) (hQ : ∀ b, Q b → b < w.heap.size) :
    Calls Tryz.prog 103 #[vx, vy] w fun r w' => r = .returned (.bool (cmpE x y == 0)) ∧ Below w.heap.size w w' := by
  have G1 := hiD h1
  have G2 := hiD h2
  obtain ⟨q, c, rfl, _, _⟩ := h1.form
  obtain ⟨q2, c2, rfl, _, _⟩ := h2.form
  obtain ⟨k, xv, xn, ks⟩ := x
  obtain ⟨k2, yv, yn, ls⟩ := y
  unfold exv
  show Calls _ _ #[.agg #[.int .i64 k, .string (bstr xv), .string (bstr xn), .slice q ks.length c], .agg #[.int .i64 k2, .string (bstr yv), .string (bstr yn), .slice q2 ls.length c2]] _ _
  have HB : Hid (Below w.heap.size w ((w.alloc (.cells #[.int .i64 k, .string (bstr xv), .string (bstr xn), .slice q ks.length c] 42)).alloc (.cells #[.int .i64 k2, .string (bstr yv), .string (bstr yn), .slice q2 ls.length c2] 42))) := ((Below.refl _ _).alloc (Nat.le_refl _) _).alloc (by simp) _
  have HC := ecompare_any 900000 (Nat.le_refl _) (.mk k xv xn ks) (.mk k2 yv yn ls) _ _ P Q ((w.alloc (.cells #[.int .i64 k, .string (bstr xv), .string (bstr xn), .slice q ks.length c] 42)).alloc (.cells #[.int .i64 k2, .string (bstr yv), .string (bstr yn), .slice q2 ls.length c2] 42)) hx hy (G1.out.below HB.out hP) (G2.out.below HB.out hQ) (fun b hb => Nat.lt_of_lt_of_le (hP b hb) HB.out.size) (fun b hb => Nat.lt_of_lt_of_le (hQ b hb) HB.out.size)
  obtain ⟨E, hE⟩ : ∃ E, E = cmpE (.mk k xv xn ks) (.mk k2 yv yn ls) := ⟨_, rfl⟩
  rw [← hE] at HC ⊢
  have HC := hiD HC
  clear h1 h2 hx hy hE G1 G2
  go_enter Tryz.func103, Tryz.ntmps103
  go_wp2_with fail
  refine HC.out.mono ?_
  rintro r w5 ⟨rfl, b5⟩
  have HB5 := hiD (HB.out.trans (b5.mono HB.out.size))
  clear b5
  go_wp2_with fail
  go_ret
  exact ⟨rfl, HB5.out⟩
end Go.Proofs.YtdnmgemjhpkekaaGreatDoor
