/-
  Expressions as plain data: depth, number of parts, leaves, rightness, text, order.
-/
import Derived.Test.YtdnmgemjhpkekaaGreatDoorBstr
import Derived.WalkKit
import Derived.ProofKit
import Derived.OpenShut
import Derived.Below
import Derived.Lib.Hide
import Derived.Test.YtdnmgemjhpkekaaGreatDoorArr
import Derived.Maps.AppendAt
import Derived.Test.YtdnmgemjhpkekaaGreatDoorNameR
import Derived.Test.YtdnmgemjhpkekaaGreatDoorTurnG
import Derived.RangeFuncNested
import Derived.RangeFuncBound
import Derived.RangeFuncCalls
import Derived.RangeFuncLeaves
import Derived.Shelf.Abstract
import Derived.Shelf.RegionOpen
import Derived.WalkMore
import Derived.OwnWalkIn
import Derived.TacticsInMore
import Derived.LoopNIn
import Derived.LoopIn
import Derived.Deep.Cut
import Derived.Deep.CutBlock
import Derived.Test.YtdnmgemjhpkekaaGreatDoorTuA
namespace Go.Proofs.YtdnmgemjhpkekaaGreatDoor
open Go.ChangeShapes Go.WideShapes Go.ChangeAt Go.RowKit
set_option linter.unusedVariables false

/-- An expression: kind, via, name, kids. -/
inductive Ex where
  | mk (k : Int) (via nm : List UInt8) (ks : List Ex)
def Ex.kind : Ex → Int | .mk k _ _ _ => k
def Ex.via : Ex → List UInt8 | .mk _ v _ _ => v
def Ex.nm : Ex → List UInt8 | .mk _ _ n _ => n
def Ex.kids : Ex → List Ex | .mk _ _ _ ks => ks
def ex0 : Ex := .mk 0 [] [] []
mutual
def depthE : Ex → Nat
  | .mk _ _ _ ks => depthL ks + 1
def depthL : List Ex → Nat
  | [] => 0
  | e :: r => max (depthE e) (depthL r)
end
theorem depthE_pos : ∀ e : Ex, 1 ≤ depthE e
  | .mk _ _ _ ks => by unfold depthE; omega
theorem depthL_get : ∀ (ks : List Ex) (i : Nat), i < ks.length → depthE (ks.getD i ex0) ≤ depthL ks
  | [], i, h => by simp at h
  | e :: r, 0, _ => by unfold depthL; exact Nat.le_max_left _ _
  | e :: r, i + 1, h => by
    unfold depthL
    exact Nat.le_trans (depthL_get r i (by simpa using h)) (Nat.le_max_right _ _)
theorem depthL_snoc : ∀ (ks : List Ex) (e : Ex), depthL (ks ++ [e]) = max (depthL ks) (depthE e)
  | [], e => by simp [depthL]
  | a :: r, e => by rw [List.cons_append]; unfold depthL; rw [depthL_snoc r e]; omega
theorem take_snocE {ks : List Ex} {k : Nat} (hk : k < ks.length) : ks.take (k + 1) = ks.take k ++ [ks.getD k ex0] := by
  rw [List.take_succ_eq_append_getElem hk, List.getD_eq_getElem?_getD, List.getElem?_eq_getElem hk]; rfl
theorem depthL_take : ∀ (ks : List Ex) (k : Nat), depthL (ks.take k) ≤ depthL ks
  | [], k => by simp
  | a :: r, 0 => by simp [depthL]
  | a :: r, k + 1 => by
    rw [List.take_succ_cons]; unfold depthL
    have := depthL_take r k
    omega
/-- Kinds without kids. -/
def leafK (k : Int) : Bool := k != 3 && k != 4 && k != 5
mutual
def leavesE : Ex → List Ex
  | .mk k v n ks => if leafK k = true then [.mk k v n ks] else leavesL ks
def leavesL : List Ex → List Ex
  | [] => []
  | e :: r => leavesE e ++ leavesL r
end
theorem leavesL_snoc : ∀ (ks : List Ex) (e : Ex), leavesL (ks ++ [e]) = leavesL ks ++ leavesE e
  | [], e => by simp [leavesL]
  | a :: r, e => by rw [List.cons_append]; unfold leavesL; rw [leavesL_snoc r e, List.append_assoc]
mutual
def sizeE : Ex → Nat
  | .mk _ _ _ ks => sizeL ks + 1
def sizeL : List Ex → Nat
  | [] => 0
  | e :: r => sizeE e + sizeL r
end
theorem sizeE_pos : ∀ e : Ex, 1 ≤ sizeE e
  | .mk _ _ _ ks => by unfold sizeE; omega
theorem sizeL_len : ∀ ks : List Ex, ks.length ≤ sizeL ks
  | [] => Nat.zero_le _
  | e :: r => by unfold sizeL; have := sizeE_pos e; have := sizeL_len r; simp only [List.length_cons]; omega
theorem sizeL_get : ∀ (ks : List Ex) (i : Nat), i < ks.length → sizeE (ks.getD i ex0) ≤ sizeL ks
  | [], i, h => by simp at h
  | e :: r, 0, _ => by unfold sizeL; exact Nat.le_add_right _ _
  | e :: r, i + 1, h => by
    unfold sizeL
    exact Nat.le_trans (sizeL_get r i (by simpa using h)) (Nat.le_add_left _ _)
mutual
theorem depth_size : ∀ e : Ex, depthE e ≤ sizeE e
  | .mk _ _ _ ks => by unfold depthE sizeE; have := depthL_size ks; omega
theorem depthL_size : ∀ ks : List Ex, depthL ks ≤ sizeL ks
  | [] => Nat.le_refl _
  | e :: r => by unfold depthL sizeL; have := depth_size e; have := depthL_size r; omega
end
end Go.Proofs.YtdnmgemjhpkekaaGreatDoor
/-
  Expressions in memory.
-/
namespace Go.Proofs.YtdnmgemjhpkekaaGreatDoor
open Go.ChangeShapes Go.WideShapes Go.ChangeAt Go.RowKit
set_option linter.unusedVariables false

/-- The value of an expression whose kids lie at q. -/
def exv (e : Ex) (q : Option Addr) (c : Nat) : Value := .agg #[.int .i64 e.kind, .string (bstr e.via), .string (bstr e.nm), .slice q e.kids.length c]
mutual
/-- v reads as the expression; all that it leads to lies in blocks of P. -/
def RdE (P : Nat → Prop) (w : World) : Ex → Value → Prop
  | .mk k via nm ks, v => ∃ q c, v = .agg #[.int .i64 k, .string (bstr via), .string (bstr nm), .slice q ks.length c] ∧ ks.length ≤ c ∧ (0 < ks.length → ∃ b o, q = some ⟨b, o, none⟩ ∧ P b ∧ RdL P w ks b o)
/-- From the cell o of the block b on lie the expressions. -/
def RdL (P : Nat → Prop) (w : World) : List Ex → Nat → Nat → Prop
  | [], _, _ => True
  | e :: r, b, o => (∃ v0 v1 v2 v3, w.cell? ⟨b, o, none⟩ = some v0 ∧ w.cell? ⟨b, o + 1, none⟩ = some v1 ∧ w.cell? ⟨b, o + 2, none⟩ = some v2 ∧ w.cell? ⟨b, o + 3, none⟩ = some v3 ∧ RdE P w e (.agg #[v0, v1, v2, v3])) ∧ RdL P w r b (o + 4)
end
mutual
theorem RdE.keep {P : Nat → Prop} {w w' : World} (hk : ∀ b, P b → ∀ n, w'.cell? ⟨b, n, none⟩ = w.cell? ⟨b, n, none⟩) : ∀ {e : Ex} {v : Value}, RdE P w e v → RdE P w' e v
  | .mk k via nm ks, v, h => by
    unfold RdE at h ⊢
    obtain ⟨q, c, h1, h2, h3⟩ := h
    refine ⟨q, c, h1, h2, fun h0 => ?_⟩
    obtain ⟨b, o, h4, h5, h6⟩ := h3 h0
    exact ⟨b, o, h4, h5, RdL.keep hk h5 h6⟩
theorem RdL.keep {P : Nat → Prop} {w w' : World} (hk : ∀ b, P b → ∀ n, w'.cell? ⟨b, n, none⟩ = w.cell? ⟨b, n, none⟩) {b : Nat} (hb : P b) : ∀ {ks : List Ex} {o : Nat}, RdL P w ks b o → RdL P w' ks b o
  | [], _, _ => by unfold RdL; trivial
  | e :: r, o, h => by
    unfold RdL at h ⊢
    obtain ⟨⟨v0, v1, v2, v3, c0, c1, c2, c3, h1⟩, h2⟩ := h
    exact ⟨⟨v0, v1, v2, v3, (hk b hb _).trans c0, (hk b hb _).trans c1, (hk b hb _).trans c2, (hk b hb _).trans c3, RdE.keep hk h1⟩, RdL.keep hk hb h2⟩
end
mutual
theorem RdE.imp {P Q : Nat → Prop} {w : World} (hPQ : ∀ b, P b → Q b) : ∀ {e : Ex} {v : Value}, RdE P w e v → RdE Q w e v
  | .mk k via nm ks, v, h => by
    unfold RdE at h ⊢
    obtain ⟨q, c, h1, h2, h3⟩ := h
    refine ⟨q, c, h1, h2, fun h0 => ?_⟩
    obtain ⟨b, o, h4, h5, h6⟩ := h3 h0
    exact ⟨b, o, h4, hPQ b h5, RdL.imp hPQ h6⟩
theorem RdL.imp {P Q : Nat → Prop} {w : World} (hPQ : ∀ b, P b → Q b) {b : Nat} : ∀ {ks : List Ex} {o : Nat}, RdL P w ks b o → RdL Q w ks b o
  | [], _, _ => by unfold RdL; trivial
  | e :: r, o, h => by
    unfold RdL at h ⊢
    obtain ⟨⟨v0, v1, v2, v3, c0, c1, c2, c3, h1⟩, h2⟩ := h
    exact ⟨⟨v0, v1, v2, v3, c0, c1, c2, c3, RdE.imp hPQ h1⟩, RdL.imp hPQ h2⟩
end
theorem cells_below {C : Nat} {w w' : World} (hb : Below C w w') {P : Nat → Prop} (hP : ∀ b, P b → b < C) : ∀ b, P b → ∀ n, w'.cell? ⟨b, n, none⟩ = w.cell? ⟨b, n, none⟩ :=
  fun b h n => hb.cell (p := ⟨b, n, none⟩) (hP b h)
theorem RdE.below {P : Nat → Prop} {C : Nat} {w w' : World} {e : Ex} {v : Value} (h : RdE P w e v) (hb : Below C w w') (hP : ∀ b, P b → b < C) : RdE P w' e v := h.keep (cells_below hb hP)
/-- Blocks between two sizes of the heap. -/
def Bt (A B : Nat) : Nat → Prop := fun b => A ≤ b ∧ b < B
theorem RdE.form {P : Nat → Prop} {w : World} {e : Ex} {v : Value} (h : RdE P w e v) : ∃ q c, v = exv e q c ∧ e.kids.length ≤ c ∧ (0 < e.kids.length → ∃ b o, q = some ⟨b, o, none⟩ ∧ P b ∧ RdL P w e.kids b o) := by
  cases e with
  | mk k via nm ks => unfold RdE at h; exact h
theorem RdE.of {P : Nat → Prop} {w : World} {e : Ex} {q : Option Addr} {c : Nat} (h1 : e.kids.length ≤ c) (h2 : 0 < e.kids.length → ∃ b o, q = some ⟨b, o, none⟩ ∧ P b ∧ RdL P w e.kids b o) : RdE P w e (exv e q c) := by
  cases e with
  | mk k via nm ks => unfold RdE; exact ⟨q, c, rfl, h1, h2⟩
/-- One of them. -/
theorem RdL.at {P : Nat → Prop} {w : World} {b : Nat} : ∀ {ks : List Ex} {o i : Nat}, RdL P w ks b o → i < ks.length → ∃ q c, w.cell? ⟨b, o + i * 4, none⟩ = some (.int .i64 (ks.getD i ex0).kind) ∧ w.cell? ⟨b, o + i * 4 + 1, none⟩ = some (.string (bstr (ks.getD i ex0).via)) ∧
    w.cell? ⟨b, o + i * 4 + 2, none⟩ = some (.string (bstr (ks.getD i ex0).nm)) ∧ w.cell? ⟨b, o + i * 4 + 3, none⟩ = some (.slice q (ks.getD i ex0).kids.length c) ∧ RdE P w (ks.getD i ex0) (exv (ks.getD i ex0) q c)
  | [], _, _, _, h => by simp at h
  | e :: r, o, 0, h, _ => by
    unfold RdL at h
    obtain ⟨⟨v0, v1, v2, v3, c0, c1, c2, c3, h1⟩, _⟩ := h
    obtain ⟨q, c, h2, h3, h4⟩ := h1.form
    unfold exv at h2
    simp only [Value.agg.injEq, Array.mk.injEq, List.cons.injEq, and_true] at h2
    obtain ⟨rfl, rfl, rfl, rfl⟩ := h2
    simp only [Nat.zero_mul, Nat.add_zero]
    exact ⟨q, c, c0, c1, c2, c3, h1⟩
  | e :: r, o, i + 1, h, hi => by
    unfold RdL at h
    have := RdL.at (i := i) h.2 (by simpa using hi)
    rw [show o + 4 + i * 4 = o + (i + 1) * 4 by omega] at this
    exact this
end Go.Proofs.YtdnmgemjhpkekaaGreatDoor
/-
  expr.isLeaf, Depth; the reference's Leaf, Depth.
-/
namespace Go.Proofs.YtdnmgemjhpkekaaGreatDoor
open Go.ChangeShapes Go.WideShapes Go.ChangeAt Go.RowKit
set_option linter.unusedVariables false

set_option maxRecDepth 100000 in
theorem isLeaf_any {P : Nat → Prop} {w : World} {e : Ex} {v : Value} (h : RdE P w e v) : Calls Tryz.prog 129 #[v] w fun r w' => r = .returned (.bool (leafK e.kind)) ∧ Below w.heap.size w w' := by
  obtain ⟨q, c, rfl, _⟩ := h.form
  obtain ⟨k, xv, xn, ks⟩ := e
  unfold exv
  show Calls _ _ #[.agg #[.int .i64 k, .string (bstr xv), .string (bstr xn), .slice q ks.length c]] _ _
  clear h
  go_enter Tryz.func129, Tryz.ntmps129
  go_wp2_with fail
  all_goals
    go_ret
    refine ⟨ret_b ?_, (Below.refl _ _).alloc (Nat.le_refl _) _⟩
    unfold leafK Ex.kind
    first | rfl | (rw [Bool.eq_iff_iff]; simp only [Bool.and_eq_true, bne_iff_ne]; first | done | omega | (simp; omega)) | (rw [Bool.eq_iff_iff]; simp; omega)
set_option maxRecDepth 100000 in
theorem rleaf_any {P : Nat → Prop} {w : World} {e : Ex} {v : Value} (h : RdE P w e v) : Calls Tryz.prog 66 #[v] w fun r w' => r = .returned (.bool (leafK e.kind)) ∧ Below w.heap.size w w' := by
  obtain ⟨q, c, rfl, _⟩ := h.form
  obtain ⟨k, xv, xn, ks⟩ := e
  unfold exv
  show Calls _ _ #[.agg #[.int .i64 k, .string (bstr xv), .string (bstr xn), .slice q ks.length c]] _ _
  clear h
  go_enter Tryz.func66, Tryz.ntmps66
  go_wp2_with fail
  all_goals
    go_ret
    refine ⟨ret_b ?_, (Below.refl _ _).alloc (Nat.le_refl _) _⟩
    unfold leafK Ex.kind
    first | rfl | (rw [Bool.eq_iff_iff]; simp only [Bool.and_eq_true, bne_iff_ne]; first | done | omega | (simp; omega)) | (rw [Bool.eq_iff_iff]; simp; omega)
set_option maxRecDepth 100000 in
set_option maxHeartbeats 2000000 in
theorem depth_any : ∀ (n : Nat) (e : Ex) (v : Value) (P : Nat → Prop) (w : World), sizeE e ≤ n → sizeE e ≤ 1000000 → RdE P w e v → (∀ b, P b → b < w.heap.size) → Calls Tryz.prog 115 #[v] w fun r w' => r = .returned (.int .i64 (depthE e : Nat)) ∧ Below w.heap.size w w' := by
  intro n
  induction n with
  | zero => intro e v P w h; have := sizeE_pos e; omega
  | succ n ih =>
    intro e v P w hn hm h hP
    obtain ⟨q, c, rfl, hc, hk⟩ := h.form
    obtain ⟨k, xv, xn, ks⟩ := e
    unfold exv
    show Calls _ _ #[.agg #[.int .i64 k, .string (bstr xv), .string (bstr xn), .slice q ks.length c]] _ _
    have HK : Hid (0 < ks.length → ∃ b o, q = some ⟨b, o, none⟩ ∧ P b ∧ RdL P w ks b o) := hk
    have hks : sizeL ks ≤ n := by unfold sizeE at hn; omega
    have hkm : sizeL ks ≤ 1000000 := by unfold sizeE at hm; omega
    have hlen := sizeL_len ks
    have HIH := Lib.hid ih
    have HB0 : Hid (Below w.heap.size w (w.alloc (.cells #[.int .i64 k, .string (bstr xv), .string (bstr xn), .slice q ks.length c] 42))) := (Below.refl _ _).alloc (Nat.le_refl _) _
    clear h ih hc hk hn hm
    go_enter Tryz.func115, Tryz.ntmps115
    go_wp2_with fail
    go_loopw [3, 9] (fun dv iv wr => ∃ i : Nat, i ≤ ks.length ∧ iv = .int .i64 i ∧ dv = .int .i64 (depthL (ks.take i) : Nat) ∧ Hid (Below w.heap.size w wr)) (fun _ iv _ => ks.length - (intOf iv).toNat)
    case atStart => exact ⟨0, Nat.zero_le _, rfl, by simp [depthL], HB0.out⟩
    case round =>
      obtain ⟨i, hi, rfl, rfl, HI⟩ := hrel
      have hi0 : (0 : Int) ≤ i := by omega
      have HTK := depthL_take ks i
      have hds := depthL_size ks
      obtain ⟨D, hD⟩ : ∃ D, D = depthL (ks.take i) := ⟨_, rfl⟩
      rw [← hD] at HTK ⊢
      have HD := Lib.hid hD
      have hD1 : (D : Int) ≤ 1000000 := by omega
      clear hD HTK hds
      by_cases hlt : i < ks.length
      · have hi1 : (i : Int) < ks.length := by omega
        obtain ⟨ba, oa, rfl, hba, hl⟩ := HK.out (by omega)
        obtain ⟨x, hx⟩ : ∃ x, x = ks.getD i ex0 := ⟨_, rfl⟩
        obtain ⟨q2, c2, x0, x1, x2, x3, hr⟩ := hl.at hlt
        have hxs := sizeL_get ks i hlt
        have hxd := depthL_get ks i hlt
        rw [← hx] at x0 x1 x2 x3 hr hxs hxd
        have HX := Lib.hid hx
        obtain ⟨xk, xv2, xn2, xs⟩ := x
        have cc : ∀ n, wr.cell? ⟨ba, n, none⟩ = w.cell? ⟨ba, n, none⟩ := fun n => (HI.out).cell (p := ⟨ba, n, none⟩) (hP _ hba)
        have X0 : wr.cell? ⟨ba, oa + i * 4, none⟩ = some (.int .i64 xk) := (cc _).trans x0
        have X1 : wr.cell? ⟨ba, oa + i * 4 + 1, none⟩ = some (.string (bstr xv2)) := (cc _).trans x1
        have X2 : wr.cell? ⟨ba, oa + i * 4 + 2, none⟩ = some (.string (bstr xn2)) := (cc _).trans x2
        have X3 : wr.cell? ⟨ba, oa + i * 4 + 3, none⟩ = some (.slice q2 xs.length c2) := (cc _).trans x3
        clear x0 x1 x2 x3 cc hx
        have HBA : Hid (Below wr.heap.size wr (wr.alloc (.cells #[.int .i64 xk, .string (bstr xv2), .string (bstr xn2), .slice q2 xs.length c2] 42))) := (Below.refl _ _).alloc (Nat.le_refl _) _
        have HR : Hid (RdE P (wr.alloc (.cells #[.int .i64 xk, .string (bstr xv2), .string (bstr xn2), .slice q2 xs.length c2] 42)) (.mk xk xv2 xn2 xs) (.agg #[.int .i64 xk, .string (bstr xv2), .string (bstr xn2), .slice q2 xs.length c2])) := (hr.below (HI.out) hP).below HBA.out (fun b hb => Nat.lt_of_lt_of_le (hP b hb) (HI.out).size)
        have HC := Lib.hid (HIH.out (.mk xk xv2 xn2 xs) _ P _ (by omega) (by omega) HR.out (fun b hb => Nat.lt_of_lt_of_le (hP b hb) (Nat.le_trans HI.out.size HBA.out.size)))
        have HTD : Hid (depthL (ks.take (i + 1)) = max D (depthE (.mk xk xv2 xn2 xs))) := by show _ = _; rw [take_snocE hlt, depthL_snoc, ← HX.out, HD.out]
        obtain ⟨E, hE⟩ : ∃ E, E = depthE (.mk xk xv2 xn2 xs) := ⟨_, rfl⟩
        have hE1 : (E : Int) ≤ 1000000 := by have := depthL_size ks; omega
        rw [← hE] at HC HTD
        clear hl hr hxs hxd hE
        go_wp2_with fail
        refine HC.out.mono ?_
        rintro r w5 ⟨rfl, b5⟩
        have HB5 := Lib.hid (HI.out.trans ((HBA.out.trans (b5.mono HBA.out.size)).mono HI.out.size))
        clear b5
        go_wp2_with fail
        go_roundw
        case rel => exact ⟨i + 1, by omega, by go_num, by rw [HTD.out]; congr 1; omega, HB5.out⟩
        case measure => simp [intOf]; omega
      · have hi1 : ¬ (i : Int) < ks.length := by omega
        have HK2 : Hid (ks.take i = ks) := List.take_of_length_le (by omega)
        go_wp2_with fail
        go_ret
        exact ⟨by rw [HD.out, HK2.out]; unfold depthE; rfl, HI.out⟩
end Go.Proofs.YtdnmgemjhpkekaaGreatDoor
/-
  vestryref10.Count, Few: what few parts means.
-/
namespace Go.Proofs.YtdnmgemjhpkekaaGreatDoor
open Go.ChangeShapes Go.WideShapes Go.ChangeAt Go.RowKit
set_option linter.unusedVariables false

mutual
/-- No text is longer than M. -/
def okE (M : Nat) : Ex → Prop
  | .mk _ v n ks => v.length ≤ M ∧ n.length ≤ M ∧ okL M ks
def okL (M : Nat) : List Ex → Prop
  | [] => True
  | e :: r => okE M e ∧ okL M r
end
theorem okL_get {M : Nat} : ∀ {ks : List Ex} {i : Nat}, okL M ks → i < ks.length → okE M (ks.getD i ex0)
  | [], _, _, h => by simp at h
  | e :: r, 0, h, _ => by unfold okL at h; exact h.1
  | e :: r, i + 1, h, hi => by unfold okL at h; exact okL_get (i := i) h.2 (by simpa using hi)
mutual
/-- How many parts, with at most d levels more. -/
def cntE : Nat → Ex → Nat
  | 0, _ => 500
  | d + 1, .mk _ v n ks => cntL d (1 + v.length / 200 + n.length / 200) ks
def cntL : Nat → Nat → List Ex → Nat
  | _, n, [] => n
  | d, n, e :: r => if n < 500 then cntL d (n + cntE d e) r else n
end
def bigM : Nat := 140737488355328
theorem cntL_le (d B : Nat) (h : ∀ e, okE bigM e → cntE d e + 499 ≤ B) : ∀ (ks : List Ex) (n : Nat), okL bigM ks → n ≤ B → cntL d n ks ≤ B
  | [], n, _, hn => by unfold cntL; exact hn
  | e :: r, n, ho, hn => by
    unfold okL at ho
    unfold cntL
    split
    · exact cntL_le d B h r _ ho.2 (by have := h e ho.1; omega)
    · exact hn
theorem cntE_le : ∀ (d : Nat) (e : Ex), okE bigM e → cntE d e ≤ (d + 1) * 1500000000000
  | 0, e, _ => by unfold cntE; omega
  | d + 1, .mk k v n ks, h => by
    unfold okE bigM at h
    unfold cntE
    refine cntL_le d _ (fun e he => ?_) ks _ h.2.2 ?_
    · have := cntE_le d e he
      have e2 : (d + 1 + 1) * 1500000000000 = (d + 1) * 1500000000000 + 1500000000000 := by rw [Nat.add_mul]
      omega
    · have e2 : (d + 1 + 1) * 1500000000000 = (d + 1) * 1500000000000 + 1500000000000 := by rw [Nat.add_mul]
      omega
mutual
theorem cntE_few : ∀ (d : Nat) (e : Ex), cntE d e < 500 → sizeE e ≤ cntE d e ∧ okE 100000 e ∧ depthE e ≤ d
  | 0, e, h => by unfold cntE at h; omega
  | d + 1, .mk k v n ks, h => by
    unfold cntE at h ⊢
    obtain ⟨h1, h2, h3, h4⟩ := cntL_few d ks _ h
    unfold sizeE okE depthE
    exact ⟨by omega, ⟨by omega, by omega, h2⟩, by omega⟩
theorem cntL_few : ∀ (d : Nat) (ks : List Ex) (n : Nat), cntL d n ks < 500 → n + sizeL ks ≤ cntL d n ks ∧ okL 100000 ks ∧ depthL ks ≤ d ∧ n ≤ cntL d n ks
  | d, [], n, h => by unfold cntL at h ⊢; unfold sizeL okL depthL; exact ⟨by omega, trivial, by omega, by omega⟩
  | d, e :: r, n, h => by
    unfold cntL at h ⊢
    split at h
    · rename_i hn
      rw [if_pos hn]
      obtain ⟨h1, h2, h3, h4⟩ := cntL_few d r _ h
      obtain ⟨g1, g2, g3⟩ := cntE_few d e (by omega)
      unfold sizeL okL depthL
      exact ⟨by omega, ⟨g2, h2⟩, by omega, by omega⟩
    · omega
end
theorem cntL_step {d n i : Nat} {ks : List Ex} (h : n < 500) (hi : i < ks.length) : cntL d n (ks.drop i) = cntL d (n + cntE d (ks.getD i ex0)) (ks.drop (i + 1)) := by
  rw [List.drop_eq_getElem_cons hi]
  conv => lhs; unfold cntL
  rw [if_pos h, List.getD_eq_getElem?_getD, List.getElem?_eq_getElem hi]; rfl
theorem cntL_ge : ∀ (d : Nat) (ks : List Ex) (n : Nat), n ≤ cntL d n ks
  | d, [], n => by unfold cntL; exact Nat.le_refl _
  | d, e :: r, n => by
    unfold cntL
    split
    · exact Nat.le_trans (Nat.le_add_right _ _) (cntL_ge d r _)
    · exact Nat.le_refl _
theorem cntE_pos : ∀ (d : Nat) (e : Ex), 1 ≤ cntE d e
  | 0, e => by unfold cntE; omega
  | d + 1, .mk k v n ks => by unfold cntE; have := cntL_ge d ks (1 + v.length / 200 + n.length / 200); omega
theorem cntL_stop {d n : Nat} {ks : List Ex} (h : ¬ n < 500) : cntL d n ks = n := by
  cases ks with
  | nil => unfold cntL; rfl
  | cons e r => unfold cntL; rw [if_neg h]
theorem quo200 (n : Nat) : Int.tdiv (n : Int) 200 = ((n / 200 : Nat) : Int) := by
  rw [Int.tdiv_eq_ediv_of_nonneg (by omega)]; rfl
set_option maxRecDepth 100000 in
set_option maxHeartbeats 2000000 in
theorem count_any : ∀ (d : Nat) (e : Ex) (v : Value) (P : Nat → Prop) (w : World), d ≤ 31 → okE bigM e → RdE P w e v → (∀ b, P b → b < w.heap.size) → Calls Tryz.prog 38 #[v, .int .i64 (31 - (d : Int))] w fun r w' => r = .returned (.int .i64 (cntE d e : Nat)) ∧ Below w.heap.size w w' := by
  intro d
  induction d with
  | zero =>
    intro e v P w _ hok h hP
    obtain ⟨q, c, rfl, hc, hk⟩ := h.form
    obtain ⟨k, xv, xn, ks⟩ := e
    unfold exv
    show Calls _ _ #[.agg #[.int .i64 k, .string (bstr xv), .string (bstr xn), .slice q ks.length c], .int .i64 31] _ _
    have HK : Hid (0 < ks.length → ∃ b o, q = some ⟨b, o, none⟩ ∧ P b ∧ RdL P w ks b o) := hk
    have HB0 : Hid (Below w.heap.size w (w.alloc (.cells #[.int .i64 k, .string (bstr xv), .string (bstr xn), .slice q ks.length c] 42))) := (Below.refl _ _).alloc (Nat.le_refl _) _
    unfold okE bigM at hok
    obtain ⟨sv, hsv⟩ : ∃ s, s = bstr xv := ⟨_, rfl⟩
    obtain ⟨sn, hsn⟩ : ∃ s, s = bstr xn := ⟨_, rfl⟩
    have zv : (sv.size : Int) ≤ 140737488355328 := by rw [hsv, bstr_size]; omega
    have zn : (sn.size : Int) ≤ 140737488355328 := by rw [hsn, bstr_size]; omega
    rw [← hsv, ← hsn] at HB0 ⊢
    clear h hc hk hok hsv hsn
    go_enter Tryz.func38, Tryz.ntmps38
    go_wp2_with fail
    go_ret
    exact ⟨by unfold cntE; rfl, HB0.out⟩
  | succ d ih =>
    intro e v P w hd hok h hP
    obtain ⟨q, c, rfl, hc, hk⟩ := h.form
    obtain ⟨k, xv, xn, ks⟩ := e
    unfold exv
    show Calls _ _ #[.agg #[.int .i64 k, .string (bstr xv), .string (bstr xn), .slice q ks.length c], .int .i64 (31 - ((d + 1 : Nat) : Int))] _ _
    have HK : Hid (0 < ks.length → ∃ b o, q = some ⟨b, o, none⟩ ∧ P b ∧ RdL P w ks b o) := hk
    rw [show (31 - ((d + 1 : Nat) : Int)) = 30 - (d : Int) by omega]
    unfold okE at hok
    have HOK := Lib.hid hok.2.2
    have HIH := Lib.hid ih
    have zl1 : xv.length ≤ 140737488355328 := hok.1
    have zl2 : xn.length ≤ 140737488355328 := hok.2.1
    have HB0 : Hid (Below w.heap.size w (w.alloc (.cells #[.int .i64 k, .string (bstr xv), .string (bstr xn), .slice q ks.length c] 42))) := (Below.refl _ _).alloc (Nat.le_refl _) _
    have HA0 : Hid (Arr (w.alloc (.cells #[.int .i64 k, .string (bstr xv), .string (bstr xn), .slice q ks.length c] 42)) 42 w.heap.size [.int .i64 k, .string (bstr xv), .string (bstr xn), .slice q ks.length c]) := Arr.new' _ _ _ _ rfl
    obtain ⟨sv, hsv⟩ : ∃ s, s = bstr xv := ⟨_, rfl⟩
    obtain ⟨sn, hsn⟩ : ∃ s, s = bstr xn := ⟨_, rfl⟩
    have zv : sv.size = xv.length := by rw [hsv, bstr_size]
    have zn : sn.size = xn.length := by rw [hsn, bstr_size]
    obtain ⟨N0, hN0⟩ : ∃ N, N = 1 + sv.size / 200 + sn.size / 200 := ⟨_, rfl⟩
    have HT : Hid (cntE (d + 1) (.mk k xv xn ks) = cntL d N0 ks) := by show _ = _; unfold cntE; rw [hN0, zv, zn]
    have HNI : Hid ((N0 : Int) = 1 + (sv.size : Int) / 200 + (sn.size : Int) / 200) := by show _ = _; rw [hN0]; omega
    have HN : Hid (N0 ≤ 1500000000000) := by show _ ≤ _; omega
    have q1 := quo200 sv.size
    have q2 := quo200 sn.size
    have zv2 : (sv.size : Int) ≤ 140737488355328 := by omega
    have zn2 : (sn.size : Int) ≤ 140737488355328 := by omega
    have hdd : (d : Int) ≤ 30 := by omega
    have hgd : ¬ (30 : Int) < 30 - (d : Int) := by omega
    have HCL : Hid (ks.length ≤ c) := hc
    rw [← hsv, ← hsn] at HB0 HA0 ⊢
    clear h ih hc hk hok hsv hsn zv zn zl1 zl2
    go_enter Tryz.func38, Tryz.ntmps38
    go_wp2_with fail
    go_loopw [5, 6] (fun nv iv wr => ∃ i N : Nat, i ≤ ks.length ∧ i ≤ N ∧ iv = .int .i64 i ∧ nv = .int .i64 N ∧ N ≤ 50000000000000 ∧ Hid (cntL d N (ks.drop i) = cntL d N0 ks) ∧ Hid (Below w.heap.size w wr ∧ Arr wr 42 w.heap.size [.int .i64 k, .string sv, .string sn, .slice q ks.length c])) (fun _ iv _ => ks.length - (intOf iv).toNat)
    case atStart => exact ⟨0, N0, Nat.zero_le _, Nat.zero_le _, rfl, by rw [HNI.out], by have := HN.out; omega, rfl, HB0.out, HA0.out⟩
    case round =>
      obtain ⟨i, N, hi, hiN, rfl, rfl, hN, HNT, HI2⟩ := hrel
      have HI := Lib.hid HI2.out.1
      have HAI := Lib.hid HI2.out.2
      have hq3 := HAI.out.cell 3
      simp only [List.getElem?_cons_zero, List.getElem?_cons_succ] at hq3
      have hi0 : (0 : Int) ≤ i := by omega
      have hN1 : (N : Int) ≤ 50000000000000 := by omega
      clear HI2 hN q1 q2 zv2 zn2
      by_cases hlt : i < ks.length
      · have hi1 : (i : Int) < ks.length := by omega
        by_cases h5 : N < 500
        · have h51 : (N : Int) < 500 := by omega
          obtain ⟨ba, oa, rfl, hba, hl⟩ := HK.out (by omega)
          obtain ⟨x, hx⟩ : ∃ x, x = ks.getD i ex0 := ⟨_, rfl⟩
          obtain ⟨q2, c2, x0, x1, x2, x3, hr⟩ := hl.at hlt
          have hxs := sizeL_get ks i hlt
          have hxd := depthL_get ks i hlt
          rw [← hx] at x0 x1 x2 x3 hr hxs hxd
          have HX := Lib.hid hx
          obtain ⟨xk, xv2, xn2, xs⟩ := x
          have cc : ∀ n, wr.cell? ⟨ba, n, none⟩ = w.cell? ⟨ba, n, none⟩ := fun n => (HI.out).cell (p := ⟨ba, n, none⟩) (hP _ hba)
          have X0 : wr.cell? ⟨ba, oa + i * 4, none⟩ = some (.int .i64 xk) := (cc _).trans x0
          have X1 : wr.cell? ⟨ba, oa + i * 4 + 1, none⟩ = some (.string (bstr xv2)) := (cc _).trans x1
          have X2 : wr.cell? ⟨ba, oa + i * 4 + 2, none⟩ = some (.string (bstr xn2)) := (cc _).trans x2
          have X3 : wr.cell? ⟨ba, oa + i * 4 + 3, none⟩ = some (.slice q2 xs.length c2) := (cc _).trans x3
          clear x0 x1 x2 x3 cc hx
          have HR : Hid (RdE P wr (.mk xk xv2 xn2 xs) (.agg #[.int .i64 xk, .string (bstr xv2), .string (bstr xn2), .slice q2 xs.length c2])) := hr.below (HI.out) hP
          have HC := HIH.out (.mk xk xv2 xn2 xs) _ P _ (by omega) (HX.out ▸ okL_get HOK.out hlt) HR.out (fun b hb => Nat.lt_of_lt_of_le (hP b hb) HI.out.size)
          rw [show (31 - (d : Int)) = 30 - (d : Int) + 1 by omega] at HC
          have HST := Lib.hid (cntL_step (d := d) h5 hlt)
          obtain ⟨E, hE⟩ : ∃ E, E = cntE d (.mk xk xv2 xn2 xs) := ⟨_, rfl⟩
          have hE1 : (E : Int) ≤ 46500000000000 := by
            have := cntE_le d (.mk xk xv2 xn2 xs) (HX.out ▸ okL_get HOK.out hlt)
            have h2 : (d + 1) * 1500000000000 ≤ 31 * 1500000000000 := Nat.mul_le_mul_right _ (by omega)
            omega
          have hE0 : 1 ≤ E := by rw [hE]; exact cntE_pos _ _
          have HED := Lib.hid hE
          rw [← hE] at HC
          have HC := Lib.hid HC
          clear hl hr hxs hxd hE
          go_wp2_with fail
          refine HC.out.mono ?_
          rintro r w5 ⟨rfl, b5⟩
          have HB5 := Lib.hid (HI.out.trans (b5.mono HI.out.size))
          have HA5 := Lib.hid (HAI.out.later b5)
          clear b5
          go_wp2_with fail
          go_roundw
          case rel => exact ⟨i + 1, N + E, by omega, by omega, by go_num, by go_num, by omega, by show _ = _; rw [← HNT.out, HST.out, ← HX.out, ← HED.out], HB5.out, HA5.out⟩
          case measure => simp [intOf]; omega
        · have h51 : ¬ (N : Int) < 500 := by omega
          have HR2 : Hid (cntE (d + 1) (.mk k xv xn ks) = N) := by show _ = _; rw [HT.out, ← HNT.out, cntL_stop h5]
          go_wp2_with fail
          go_ret
          exact ⟨by rw [HR2.out]; rfl, HI.out⟩
      · have hi1 : ¬ (i : Int) < ks.length := by omega
        have HR2 : Hid (cntE (d + 1) (.mk k xv xn ks) = N) := by show _ = _; rw [HT.out, ← HNT.out, List.drop_of_length_le (by omega)]; unfold cntL; rfl
        go_wp2_with fail
        go_ret
        exact ⟨by rw [HR2.out]; rfl, HI.out⟩
set_option maxRecDepth 100000 in
theorem few_any (e : Ex) (v : Value) (P : Nat → Prop) (w : World) (hok : okE bigM e) (h : RdE P w e v) (hP : ∀ b, P b → b < w.heap.size) : Calls Tryz.prog 15 #[v] w fun r w' => r = .returned (.bool (decide (cntE 31 e ≤ 150))) ∧ Below w.heap.size w w' := by
  have HOK := Lib.hid hok
  have H := Lib.hid h
  obtain ⟨q, c, rfl, hc, hk⟩ := h.form
  obtain ⟨k, xv, xn, ks⟩ := e
  unfold exv
  show Calls _ _ #[.agg #[.int .i64 k, .string (bstr xv), .string (bstr xn), .slice q ks.length c]] _ _
  have HK : Hid (0 < ks.length → ∃ b o, q = some ⟨b, o, none⟩ ∧ P b ∧ RdL P w ks b o) := hk
  have HB0 : Hid (Below w.heap.size w (w.alloc (.cells #[.int .i64 k, .string (bstr xv), .string (bstr xn), .slice q ks.length c] 42))) := (Below.refl _ _).alloc (Nat.le_refl _) _
  have HC := count_any 31 (.mk k xv xn ks) _ P (w.alloc (.cells #[.int .i64 k, .string (bstr xv), .string (bstr xn), .slice q ks.length c] 42)) (Nat.le_refl _) HOK.out (H.out.below HB0.out hP) (fun b hb => Nat.lt_of_lt_of_le (hP b hb) HB0.out.size)
  rw [show (31 - ((31 : Nat) : Int)) = 0 by rfl] at HC
  have HC := Lib.hid HC
  clear h hc hk hok
  go_enter Tryz.func15, Tryz.ntmps15
  go_wp2_with fail
  refine HC.out.mono ?_
  rintro r w5 ⟨rfl, b5⟩
  have HB5 := Lib.hid (HB0.out.trans (b5.mono HB0.out.size))
  clear b5
  go_wp2_with fail
  go_ret
  exact ⟨ret_b (by rw [decide_eq_decide]; omega), HB5.out⟩
end Go.Proofs.YtdnmgemjhpkekaaGreatDoor
/-
  Rows of expressions of the call's own: appended to.
-/
namespace Go.Proofs.YtdnmgemjhpkekaaGreatDoor
open Go.ChangeShapes Go.WideShapes Go.ChangeAt Go.RowKit
set_option linter.unusedVariables false

def CellsL (P : Nat → Prop) (w : World) : List Ex → List Value → Prop
  | [], [] => True
  | e :: r, v0 :: v1 :: v2 :: v3 :: cs => RdE P w e (.agg #[v0, v1, v2, v3]) ∧ CellsL P w r cs
  | _, _ => False
theorem CellsL.keep {P : Nat → Prop} {w w' : World} (hk : ∀ b, P b → ∀ n, w'.cell? ⟨b, n, none⟩ = w.cell? ⟨b, n, none⟩) : ∀ {ks : List Ex} {cs : List Value}, CellsL P w ks cs → CellsL P w' ks cs
  | [], [], _ => trivial
  | e :: r, v0 :: v1 :: v2 :: v3 :: cs, h => ⟨RdE.keep hk h.1, CellsL.keep hk h.2⟩
  | [], _ :: _, h => h.elim
  | _ :: _, [], h => h.elim
  | _ :: _, [_], h => h.elim
  | _ :: _, [_, _], h => h.elim
  | _ :: _, [_, _, _], h => h.elim
theorem CellsL.imp {P Q : Nat → Prop} {w : World} (hPQ : ∀ b, P b → Q b) : ∀ {ks : List Ex} {cs : List Value}, CellsL P w ks cs → CellsL Q w ks cs
  | [], [], _ => trivial
  | e :: r, v0 :: v1 :: v2 :: v3 :: cs, h => ⟨RdE.imp hPQ h.1, CellsL.imp hPQ h.2⟩
  | [], _ :: _, h => h.elim
  | _ :: _, [], h => h.elim
  | _ :: _, [_], h => h.elim
  | _ :: _, [_, _], h => h.elim
  | _ :: _, [_, _, _], h => h.elim
theorem CellsL.snoc {P : Nat → Prop} {w : World} {e : Ex} {v0 v1 v2 v3 : Value} (he : RdE P w e (.agg #[v0, v1, v2, v3])) : ∀ {ks : List Ex} {cs : List Value}, CellsL P w ks cs → CellsL P w (ks ++ [e]) (cs ++ [v0, v1, v2, v3])
  | [], [], _ => ⟨he, trivial⟩
  | e :: r, v0 :: v1 :: v2 :: v3 :: cs, h => ⟨h.1, CellsL.snoc he h.2⟩
  | [], _ :: _, h => h.elim
  | _ :: _, [], h => h.elim
  | _ :: _, [_], h => h.elim
  | _ :: _, [_, _], h => h.elim
  | _ :: _, [_, _, _], h => h.elim
theorem CellsL.rdL {P : Nat → Prop} {w : World} {b : Nat} : ∀ {ks : List Ex} {cs : List Value} {o : Nat}, CellsL P w ks cs → (∀ j u, cs[j]? = some u → w.cell? ⟨b, o + j, none⟩ = some u) → RdL P w ks b o
  | [], _, _, _, _ => by unfold RdL; trivial
  | e :: r, v0 :: v1 :: v2 :: v3 :: cs, o, h, hc => by
    unfold RdL
    refine ⟨⟨v0, v1, v2, v3, hc 0 v0 rfl, hc 1 v1 rfl, hc 2 v2 rfl, hc 3 v3 rfl, h.1⟩, CellsL.rdL h.2 fun j u hj => ?_⟩
    rw [show o + 4 + j = o + (j + 4) by omega]
    exact hc (j + 4) u hj
  | _ :: _, [], _, h, _ => h.elim
  | _ :: _, [_], _, h, _ => h.elim
  | _ :: _, [_, _], _, h, _ => h.elim
  | _ :: _, [_, _, _], _, h, _ => h.elim
theorem CellsL.ones {P : Nat → Prop} {w : World} : ∀ {ks : List Ex} {cs : List Value}, CellsL P w ks cs → ∀ u ∈ cs, u.oneCell' = true
  | [], [], _, u, hu => by cases hu
  | e :: r, v0 :: v1 :: v2 :: v3 :: cs, h, u, hu => by
    obtain ⟨q, c, h2, _⟩ := h.1.form
    unfold exv at h2
    simp only [Value.agg.injEq, Array.mk.injEq, List.cons.injEq, and_true] at h2
    obtain ⟨rfl, rfl, rfl, rfl⟩ := h2
    rcases List.mem_cons.1 hu with rfl | hu
    · rfl
    rcases List.mem_cons.1 hu with rfl | hu
    · rfl
    rcases List.mem_cons.1 hu with rfl | hu
    · rfl
    rcases List.mem_cons.1 hu with rfl | hu
    · rfl
    exact CellsL.ones h.2 u hu
  | [], _ :: _, h, _, _ => h.elim
  | _ :: _, [], h, _, _ => h.elim
  | _ :: _, [_], h, _, _ => h.elim
  | _ :: _, [_, _], h, _, _ => h.elim
  | _ :: _, [_, _, _], h, _, _ => h.elim
/-- The blocks of what lies in a row, the row's own apart. -/
def Sub (base : Nat) (w : World) (v : Value) : Nat → Prop := fun b => base ≤ b ∧ b < w.heap.size ∧ some b ≠ v.ownBlock
/-- v is a slice of the call's own, from base on, of the expressions ks. -/
def ExRow (base : Nat) (w : World) (v : Value) (ks : List Ex) : Prop := ∃ cs, w.ownsRow base 42 4 v ks.length cs ∧ CellsL (Sub base w v) w ks cs
theorem ExRow.nil (base : Nat) (w : World) : ExRow base w (.slice none 0 0) [] := ⟨[], World.ownsRow_nil _ _ _ _, trivial⟩
theorem ExRow.form {base : Nat} {w : World} {v : Value} {ks : List Ex} (h : ExRow base w v ks) : ∃ q c, v = .slice q ks.length c := by
  obtain ⟨cs, h1, _⟩ := h
  rcases h1.2 with ⟨h, hn⟩ | ⟨g, cap, cur, hv, _⟩
  · exact ⟨none, 0, by rw [hn]; exact h⟩
  · exact ⟨_, _, hv⟩
theorem ExRow.blk {base : Nat} {w : World} {v : Value} {ks : List Ex} (h : ExRow base w v ks) {b : Nat} (hb : v.ownBlock = some b) : b < w.heap.size := by
  obtain ⟨cs, h1, _⟩ := h
  rcases h1.2 with ⟨h, _⟩ | ⟨g, cap, cur, hv, h0, hg, _⟩
  · rw [h] at hb; cases hb
  · rw [hv] at hb; cases hb; exact (Array.getElem?_eq_some_iff.1 hg).1
theorem ExRow.later {base : Nat} {w w' : World} {v : Value} {ks : List Ex} (h : ExRow base w v ks) (hb : Below w.heap.size w w') : ExRow base w' v ks := by
  obtain ⟨cs, h1, h2⟩ := h
  refine ⟨cs, ⟨h1.1, ?_⟩, (h2.keep (cells_below hb fun b hb => hb.2.1)).imp fun b h => ⟨h.1, Nat.lt_of_lt_of_le h.2.1 hb.size, h.2.2⟩⟩
  rcases h1.2 with h | ⟨g, cap, cur, rfl, h0, hg, r⟩
  · exact .inl h
  · exact .inr ⟨g, cap, cur, rfl, h0, (hb.block g (Array.getElem?_eq_some_iff.1 hg).1).trans hg, r⟩
/-- A store into a block under the row's base. -/
theorem ExRow.set {base : Nat} {w : World} {v : Value} {ks : List Ex} (h : ExRow base w v ks) {a : Addr} (ha : a.block < base) (x : Value) : ExRow base (w.setCell a x) v ks := by
  obtain ⟨cs, h1, h2⟩ := h
  have hs : (w.setCell a x).heap.size = w.heap.size := by simp [World.setCell]
  refine ⟨cs, ⟨h1.1, ?_⟩, ?_⟩
  · rcases h1.2 with h | ⟨g, cap, cur, rfl, h0, hg, r⟩
    · exact .inl h
    · exact .inr ⟨g, cap, cur, rfl, h0, (Below.heap_setCell w a x g (by omega)).trans hg, r⟩
  · refine (h2.keep fun b hb n => ?_).imp fun b h => ⟨h.1, by rw [hs]; exact h.2.1, h.2.2⟩
    exact World.cell?_of_block (Below.heap_setCell w a x b (by have := hb.1; omega))
/-- The expression whose kids are the row. -/
theorem ExRow.rd {base : Nat} {w : World} {q : Option Addr} {n c : Nat} {ks : List Ex} (h : ExRow base w (.slice q n c) ks) (k : Int) (via nm : List UInt8) : RdE (Bt base w.heap.size) w (.mk k via nm ks) (.agg #[.int .i64 k, .string (bstr via), .string (bstr nm), .slice q n c]) := by
  obtain ⟨cs, h1, h2⟩ := h
  unfold RdE
  rcases h1.2 with ⟨hv, hn⟩ | ⟨g, cap, cur, hv, h0, hg, hcap, _, hcz, htk⟩
  · simp only [Value.slice.injEq] at hv
    obtain ⟨rfl, rfl, rfl⟩ := hv
    exact ⟨none, 0, by rw [hn], by omega, fun h => by omega⟩
  · simp only [Value.slice.injEq] at hv
    obtain ⟨rfl, rfl, rfl⟩ := hv
    refine ⟨_, _, rfl, hcap, fun _ => ⟨g, 0, rfl, ⟨h0, (Array.getElem?_eq_some_iff.1 hg).1⟩, ?_⟩⟩
    refine (h2.rdL fun j u hj => ?_).imp fun b h => ⟨h.1, h.2.1⟩
    rw [Nat.zero_add]
    have hjl : j < cs.length := (List.getElem?_eq_some_iff.1 hj).1
    rw [cell_of_row w g _ cur _ (0, 0) hg, ← Array.getElem?_toList]
    rw [← htk, List.getElem?_take, if_pos (by rw [h1.1] at hjl; exact hjl)] at hj
    exact hj
theorem Tryz.infoEx : (Tryz.prog.info? 42).map (fun i => (i.zero, i.size, i.bytes)) = some (some (.agg #[.int .i64 0, .string ByteArray.empty, .string ByteArray.empty, .slice none 0 0]), 4, 64) := by kernel_rfl
theorem app_ex {ops : Array Oper} {rest : List Oper} {o : Oper} {a : Act} {Q : Exit → Act → World → Prop} {w : World} (hgd : o.guard = none) (s x : Operand) (ho : o.op = .call { callee := .builtin .append, args := #[s, x], argTypes := #[40, 40] })
    {base n : Nat} {v : Value} {ks : List Ex} {e : Ex} {v0 v1 v2 v3 : Value} (hs : a.eval s = v) (hown : ExRow base w v ks) (hx : a.eval x = .slice (some ⟨n, 0, none⟩) 1 1) (hc : Arr w 42 n [v0, v1, v2, v3])
    (he : RdE (Sub base w v) w e (.agg #[v0, v1, v2, v3])) (hlen : ks.length + 1 ≤ 1000000) (hbase : base ≤ w.heap.size)
    (h : ∀ v' w', ExRow base w' v' (ks ++ [e]) → Below base w w' → w.grownBy w' v.ownBlock → wpList Tryz.prog ops Q rest (a.put o.dst v') w') : wpList Tryz.prog ops Q (o :: rest) a w := by
  obtain ⟨i0, hi, hz0, hz1, hz2⟩ := info_parts Tryz.infoEx
  obtain ⟨cs, h1, h2⟩ := hown
  have hone : CellsL (Sub base w v) w [e] [v0, v1, v2, v3] := ⟨he, trivial⟩
  refine wpList_append_own_at w hgd s x 40 ho base 42 i0 _ 4 64 Tryz.underlying40 hi hz0 hz1 hz2 rfl (by decide) v ks.length cs hs h1 ⟨n, 0, none⟩ 1 1 [v0, v1, v2, v3] hx rfl ?_ hone.ones (by unfold maxLen; omega) (by omega) hbase ?_
  · intro j u hu
    have := hc.cell j
    rw [hu] at this
    cases j <;> simpa [Addr.add] using this
  · intro v' w' r1 r2 _ r4
    have hb : Below base w w' := (Below.refl _ _).grown r2 hbase (fun k hk => (h1.lt k hk).1)
    refine h v' w' ⟨cs ++ [v0, v1, v2, v3], by rw [List.length_append]; exact r1, ?_⟩ hb r2
    have hk : ∀ b, Sub base w v b → ∀ m, w'.cell? ⟨b, m, none⟩ = w.cell? ⟨b, m, none⟩ := fun b hb m => World.cell?_of_block (r2.block b hb.2.1 hb.2.2)
    have hS : ∀ b, Sub base w v b → Sub base w' v' b := fun b hb => ⟨hb.1, Nat.lt_of_lt_of_le hb.2.1 r2.size, by
      rcases r4 with r4 | r4
      · rw [r4]; exact hb.2.2
      · rw [r4]; intro e; have := Option.some.inj e; have := hb.2.1; omega⟩
    exact CellsL.snoc ((he.keep hk).imp hS) ((h2.keep hk).imp hS)
end Go.Proofs.YtdnmgemjhpkekaaGreatDoor
/-
  expr.Clone, the reference's Clone.
-/
namespace Go.Proofs.YtdnmgemjhpkekaaGreatDoor
open Go.ChangeShapes Go.WideShapes Go.ChangeAt Go.RowKit
set_option linter.unusedVariables false

theorem Arr.set4 {w : World} {t : TypeId} {g : Nat} {a b c d : Value} (h : Arr w t g [a, b, c, d]) (x0 x1 x2 x3 : Value) : Arr ((((w.setCell ⟨g, 0, none⟩ x0).setCell ⟨g, 1, none⟩ x1).setCell ⟨g, 2, none⟩ x2).setCell ⟨g, 3, none⟩ x3) t g [x0, x1, x2, x3] := (((h.set 0 x0).set 1 x1).set 2 x2).set 3 x3
theorem below_set4 {B : Nat} {w0 w : World} {g : Nat} (h : Below B w0 w) (hg : B ≤ g) (x0 x1 x2 x3 : Value) : Below B w0 ((((w.setCell ⟨g, 0, none⟩ x0).setCell ⟨g, 1, none⟩ x1).setCell ⟨g, 2, none⟩ x2).setCell ⟨g, 3, none⟩ x3) :=
  (((h.setCell (p := ⟨g, 0, none⟩) hg _).setCell (p := ⟨g, 1, none⟩) hg _).setCell (p := ⟨g, 2, none⟩) hg _).setCell (p := ⟨g, 3, none⟩) hg _
theorem ExRow.set4 {base : Nat} {w : World} {v : Value} {ks : List Ex} (h : ExRow base w v ks) {g : Nat} (hg : g < base) (x0 x1 x2 x3 : Value) : ExRow base ((((w.setCell ⟨g, 0, none⟩ x0).setCell ⟨g, 1, none⟩ x1).setCell ⟨g, 2, none⟩ x2).setCell ⟨g, 3, none⟩ x3) v ks :=
  (((h.set (a := ⟨g, 0, none⟩) hg x0).set (a := ⟨g, 1, none⟩) hg x1).set (a := ⟨g, 2, none⟩) hg x2).set (a := ⟨g, 3, none⟩) hg x3
theorem resE {fn : Func} {p : Tmp} (h : fn.results = #[.cell p 42]) {tmps : Array Value} {w : World} {g : Nat} {a b c d : Value} (hA : Arr w 42 g [a, b, c, d]) (hp : tmps.getD p undef = .pointer (some ⟨g, 0, none⟩)) :
    (results fn tmps).run Tryz.prog w = .ok (.agg #[a, b, c, d]) w :=
  results_cell_row h tmps w g 42 #[a, b, c, d] (0, 0) _ hp hA Tryz.underlying42 rfl (by kernel_rfl)
def ClPost (e : Ex) (w : World) (r : Ending) (w' : World) : Prop := ∃ v', r = .returned v' ∧ RdE (Bt w.heap.size w'.heap.size) w' e v' ∧ Below w.heap.size w w'
/-- What Clone's walk keeps: the parameter in its cell, the result's cell, the row of the kids. -/
def CX (w : World) (A : List Value) (v : Value) (ks : List Ex) (W : World) : Prop :=
  Arr W 42 w.heap.size A ∧ Arr W 42 (w.heap.size + 1) [.int .i64 0, .string ByteArray.empty, .string ByteArray.empty, .slice none 0 0] ∧ ExRow (w.heap.size + 2) W v ks ∧ Below w.heap.size w W ∧ w.heap.size + 2 ≤ W.heap.size
theorem CX.later {w W W' : World} {A : List Value} {v : Value} {ks : List Ex} (h : CX w A v ks W) (hb : Below W.heap.size W W') : CX w A v ks W' :=
  ⟨h.1.later hb, h.2.1.later hb, h.2.2.1.later hb, h.2.2.2.1.trans (hb.mono h.2.2.2.1.size), Nat.le_trans h.2.2.2.2 hb.size⟩
theorem CX.row {w W W' : World} {A : List Value} {v v' : Value} {ks ks' : List Ex} (h : CX w A v ks W) (hT : ExRow (w.heap.size + 2) W' v' ks') (hb : Below (w.heap.size + 2) W W') : CX w A v' ks' W' :=
  ⟨h.1.below hb (by omega), h.2.1.below hb (by omega), hT, h.2.2.2.1.trans (hb.mono (by omega)), Nat.le_trans h.2.2.2.2 hb.size⟩
theorem step_ex {ops : Array Oper} {o : Oper} {a : Act} {w : World} {K : Act → World → Prop} {Q : Exit → Act → World → Prop} {E : Prop} (hgd : o.guard = none) (s x : Operand) (ho : o.op = .call { callee := .builtin .append, args := #[s, x], argTypes := #[40, 40] })
    {base n : Nat} {v : Value} {ks : List Ex} {e : Ex} {v0 v1 v2 v3 : Value} (hs : a.eval s = v) (hown : ExRow base w v ks) (hx : a.eval x = .slice (some ⟨n, 0, none⟩) 1 1) (hc : Arr w 42 n [v0, v1, v2, v3])
    (he : RdE (Sub base w v) w e (.agg #[v0, v1, v2, v3])) (hlen : ks.length + 1 ≤ 1000000) (hbase : base ≤ w.heap.size)
    (hK : ∀ v' w', ExRow base w' v' (ks ++ [e]) → Below base w w' → K (a.put o.dst v') w') : if Region.wanted o (yielded ops a.tmps) = true then Oper.wp Tryz.prog o a w K Q else E := by
  have hw : Region.wanted o (yielded ops a.tmps) = true := by simp [Region.wanted, hgd]
  rw [if_pos hw]
  obtain ⟨i0, hi, hz0, hz1, hz2⟩ := info_parts Tryz.infoEx
  obtain ⟨cs, h1, h2⟩ := hown
  have hone : CellsL (Sub base w v) w [e] [v0, v1, v2, v3] := ⟨he, trivial⟩
  obtain ⟨v', w', hrun, r1, r2, _, r4⟩ := run_append_own_at (P := Tryz.prog) w base 40 o.type 42 i0 _ 4 64 Tryz.underlying40 hi hz0 hz1 hz2 rfl (by decide) v ks.length cs h1 ⟨n, 0, none⟩ 1 1 [v0, v1, v2, v3] rfl
    (fun j u hu => by
      have := hc.cell j
      rw [hu] at this
      cases j <;> simpa [Addr.add] using this) hone.ones (by unfold maxLen; omega) (by omega) hbase
  unfold Oper.wp
  simp [execOp, ho, resolve, invoke, builtin, hs, hx, hrun, Result.andThen]
  have hb : Below base w w' := (Below.refl _ _).grown r2 hbase (fun k hk => (h1.lt k hk).1)
  refine hK v' w' ⟨cs ++ [v0, v1, v2, v3], by rw [List.length_append]; exact r1, ?_⟩ hb
  have hk : ∀ b, Sub base w v b → ∀ m, w'.cell? ⟨b, m, none⟩ = w.cell? ⟨b, m, none⟩ := fun b hb m => World.cell?_of_block (r2.block b hb.2.1 hb.2.2)
  have hS : ∀ b, Sub base w v b → Sub base w' v' b := fun b hb => ⟨hb.1, Nat.lt_of_lt_of_le hb.2.1 r2.size, by
    rcases r4 with r4 | r4
    · rw [r4]; exact hb.2.2
    · rw [r4]; intro e; have := Option.some.inj e; have := hb.2.1; omega⟩
  exact CellsL.snoc ((he.keep hk).imp hS) ((h2.keep hk).imp hS)
/-- What the reference's Clone keeps: the parameter, the result's cell, the clone's cell with the row of its kids. -/
def CR (w : World) (A : List Value) (a b c : Value) (v : Value) (ks : List Ex) (W : World) : Prop :=
  Arr W 42 w.heap.size A ∧ Arr W 42 (w.heap.size + 1) [.int .i64 0, .string ByteArray.empty, .string ByteArray.empty, .slice none 0 0] ∧ Arr W 42 (w.heap.size + 2) [a, b, c, v] ∧ ExRow (w.heap.size + 3) W v ks ∧ Below w.heap.size w W ∧ w.heap.size + 3 ≤ W.heap.size
theorem CR.later {w W W' : World} {A : List Value} {a b c v : Value} {ks : List Ex} (h : CR w A a b c v ks W) (hb : Below W.heap.size W W') : CR w A a b c v ks W' :=
  ⟨h.1.later hb, h.2.1.later hb, h.2.2.1.later hb, h.2.2.2.1.later hb, h.2.2.2.2.1.trans (hb.mono h.2.2.2.2.1.size), Nat.le_trans h.2.2.2.2.2 hb.size⟩
theorem CR.row {w W W' : World} {A : List Value} {a b c v v' : Value} {ks ks' : List Ex} (h : CR w A a b c v ks W) (hT : ExRow (w.heap.size + 3) W' v' ks') (hb : Below (w.heap.size + 3) W W') : CR w A a b c v' ks' (W'.setCell ⟨w.heap.size + 2, 3, none⟩ v') :=
  ⟨(h.1.below hb (by omega)).setCell (by simp) _, (h.2.1.below hb (by omega)).setCell (by simp) _, (h.2.2.1.below hb (by omega)).set 3 v', hT.set (by simp) _, (h.2.2.2.2.1.trans (hb.mono (by omega))).setCell (p := ⟨w.heap.size + 2, 3, none⟩) (by simp) _, by simpa [World.setCell] using Nat.le_trans h.2.2.2.2.2 hb.size⟩
end Go.Proofs.YtdnmgemjhpkekaaGreatDoor
/-
  expr.sign, leaves, Leaves: the iterator is made.
-/
namespace Go.Proofs.YtdnmgemjhpkekaaGreatDoor
open Go.ChangeShapes Go.WideShapes Go.ChangeAt Go.RowKit
set_option linter.unusedVariables false

def sgK (k : Int) : List UInt8 := if k = 3 then [32, 43, 32] else if k = 4 then [32, 38, 32] else [32, 45, 32]
set_option maxRecDepth 100000 in
theorem mkLeaves_any (k : Int) (xv xn : List UInt8) (q : Option Addr) (m c : Nat) (w : World) : Calls Tryz.prog 114 #[.agg #[.int .i64 k, .string (bstr xv), .string (bstr xn), .slice q m c]] w fun r w' => r = .returned (.func (.func 123) #[] #[.pointer (some ⟨w.heap.size, 0, none⟩)]) ∧ w' = w.alloc (.cells #[.int .i64 k, .string (bstr xv), .string (bstr xn), .slice q m c] 42) := by
  go_enter Tryz.func114, Tryz.ntmps114
  go_wp2_with fail
  go_ret
  exact ⟨rfl, rfl⟩
end Go.Proofs.YtdnmgemjhpkekaaGreatDoor
/-
  Which expressions are right; vestryref10.right.
-/
namespace Go.Proofs.YtdnmgemjhpkekaaGreatDoor
open Go.ChangeShapes Go.WideShapes Go.ChangeAt Go.RowKit
set_option linter.unusedVariables false

/-- A part is right, its kids apart: m, how many they are. -/
def partB (k : Int) (v n : List UInt8) (m : Nat) : Bool :=
  if k = 1 then decide (m = 0) && decide (v = []) && isName (bstr n)
  else if k = 2 then decide (m = 0) && isName (bstr v) && isName (bstr n)
  else if k = 3 ∨ k = 4 then decide (2 ≤ m) && decide (v = []) && decide (n = [])
  else if k = 5 then decide (m = 2) && decide (v = []) && decide (n = [])
  else false
mutual
def formE : Ex → Bool
  | .mk k v n ks => partB k v n ks.length && formL ks
def formL : List Ex → Bool
  | [] => true
  | e :: r => formE e && formL r
end
theorem good_all : ∀ {ks : List Ex} {d : Nat}, (∀ j, j < ks.length → (decide (depthE (ks.getD j ex0) ≤ d) && formE (ks.getD j ex0)) = true) → depthL ks ≤ d ∧ formL ks = true
  | [], d, _ => ⟨by unfold depthL; omega, rfl⟩
  | e :: r, d, h => by
    have h0 := h 0 (by simp)
    simp only [List.getD_cons_zero, Bool.and_eq_true, decide_eq_true_eq] at h0
    obtain ⟨g1, g2⟩ := good_all (ks := r) (d := d) (fun j hj => by have := h (j + 1) (by simpa using hj); simpa using this)
    unfold depthL formL
    exact ⟨by omega, by rw [h0.2, g2]; rfl⟩
theorem formL_get : ∀ {ks : List Ex} {j : Nat}, j < ks.length → formL ks = true → formE (ks.getD j ex0) = true
  | [], _, h, _ => by simp at h
  | e :: r, 0, _, h => by unfold formL at h; simp only [Bool.and_eq_true] at h; exact h.1
  | e :: r, j + 1, hj, h => by unfold formL at h; simp only [Bool.and_eq_true] at h; exact formL_get (j := j) (by simpa using hj) h.2
theorem bad_one {k : Int} {v n : List UInt8} {ks : List Ex} {d j : Nat} (hj : j < ks.length) (h : (decide (depthE (ks.getD j ex0) ≤ d) && formE (ks.getD j ex0)) = false) : (decide (depthE (.mk k v n ks) ≤ d + 1) && formE (.mk k v n ks)) = false := by
  rw [Bool.eq_false_iff] at h ⊢
  intro e
  simp only [Bool.and_eq_true, decide_eq_true_eq] at e
  refine h ?_
  simp only [Bool.and_eq_true, decide_eq_true_eq]
  obtain ⟨e1, e2⟩ := e
  unfold depthE at e1
  unfold formE at e2
  simp only [Bool.and_eq_true] at e2
  have := depthL_get ks j hj
  exact ⟨by omega, formL_get hj e2.2⟩
theorem all_good {k : Int} {v n : List UInt8} {ks : List Ex} {d : Nat} (h : ∀ j, j < ks.length → (decide (depthE (ks.getD j ex0) ≤ d) && formE (ks.getD j ex0)) = true) : (decide (depthE (.mk k v n ks) ≤ d + 1) && formE (.mk k v n ks)) = partB k v n ks.length := by
  obtain ⟨h1, h2⟩ := good_all h
  unfold depthE formE
  rw [h2, decide_eq_true (by omega)]; simp
theorem bstr_nil {l : List UInt8} (h : l = []) : ((bstr l).toList == []) = true := by rw [toList_data, bstr_data, h]; rfl
theorem bstr_nnil {l : List UInt8} (h : ¬ l = []) : ((bstr l).toList == []) = false := by rw [toList_data, bstr_data, beq_eq_false_iff_ne]; exact h
set_option maxRecDepth 100000 in
set_option maxHeartbeats 8000000 in
theorem rright_any : ∀ (d : Nat) (e : Ex) (v : Value) (P : Nat → Prop) (w : World), d ≤ 31 → okE 100000 e → sizeE e ≤ 900000 → RdE P w e v → (∀ b, P b → b < w.heap.size) → Calls Tryz.prog 40 #[v, .int .i64 (d : Nat)] w fun r w' => r = .returned (.bool (decide (depthE e ≤ d) && formE e)) ∧ Below w.heap.size w w' := by
  intro d
  induction d with
  | zero =>
    intro e v P w _ hok hm h hP
    have HD : Hid ((decide (depthE e ≤ 0) && formE e) = false) := by show _ = _; have := depthE_pos e; rw [decide_eq_false (by omega)]; rfl
    rw [HD.out]
    obtain ⟨q, c, rfl, hc, hk⟩ := h.form
    obtain ⟨k, xv, xn, ks⟩ := e
    unfold exv
    show Calls _ _ #[.agg #[.int .i64 k, .string (bstr xv), .string (bstr xn), .slice q ks.length c], .int .i64 0] _ _
    have HK : Hid (0 < ks.length → ∃ b o, q = some ⟨b, o, none⟩ ∧ P b ∧ RdL P w ks b o) := hk
    have HB0 : Hid (Below w.heap.size w (w.alloc (.cells #[.int .i64 k, .string (bstr xv), .string (bstr xn), .slice q ks.length c] 42))) := (Below.refl _ _).alloc (Nat.le_refl _) _
    clear h hc hk hok hm
    go_enter Tryz.func40, Tryz.ntmps40
    go_wp2_with fail
    go_ret
    exact ⟨rfl, HB0.out⟩
  | succ d ih =>
    intro e v P w hd hok hm h hP
    obtain ⟨q, c, rfl, hc, hk⟩ := h.form
    obtain ⟨k, xv, xn, ks⟩ := e
    unfold exv
    show Calls _ _ #[.agg #[.int .i64 k, .string (bstr xv), .string (bstr xn), .slice q ks.length c], .int .i64 ((d + 1 : Nat) : Int)] _ _
    have HK : Hid (0 < ks.length → ∃ b o, q = some ⟨b, o, none⟩ ∧ P b ∧ RdL P w ks b o) := hk
    unfold okE at hok
    have HOK := Lib.hid hok.2.2
    have HIH := Lib.hid ih
    have hv1 : (bstr xv).size ≤ 1000000 := by rw [bstr_size]; omega
    have hn1 : (bstr xn).size ≤ 1000000 := by rw [bstr_size]; omega
    have HV := Lib.hid (fun W => risName_any (bstr xv) hv1 W)
    have HN := Lib.hid (fun W => risName_any (bstr xn) hn1 W)
    have hkm : sizeL ks ≤ 900000 := by unfold sizeE at hm; omega
    have hlen := sizeL_len ks
    have bd0 : ((d : Int) + 1 == 0) = false := by rw [beq_eq_false_iff_ne]; omega
    have hd1 : (d : Int) ≤ 30 := by omega
    rw [show ((d + 1 : Nat) : Int) = (d : Int) + 1 by omega]
    have HB0 : Hid (Below w.heap.size w (w.alloc (.cells #[.int .i64 k, .string (bstr xv), .string (bstr xn), .slice q ks.length c] 42))) := (Below.refl _ _).alloc (Nat.le_refl _) _
    have HA0 : Hid (Arr (w.alloc (.cells #[.int .i64 k, .string (bstr xv), .string (bstr xn), .slice q ks.length c] 42)) 42 w.heap.size [.int .i64 k, .string (bstr xv), .string (bstr xn), .slice q ks.length c]) := Arr.new' _ _ _ _ rfl
    clear h ih hc hk hok hm hv1 hn1
    go_enter Tryz.func40, Tryz.ntmps40
    go_wp2_with fail
    go_loopw [6] (fun iv wr => ∃ i : Nat, i ≤ ks.length ∧ iv = .int .i64 i ∧ Hid (∀ j, j < i → (decide (depthE (ks.getD j ex0) ≤ d) && formE (ks.getD j ex0)) = true) ∧ Hid (Below w.heap.size w wr ∧ Arr wr 42 w.heap.size [.int .i64 k, .string (bstr xv), .string (bstr xn), .slice q ks.length c])) (fun iv _ => ks.length - (intOf iv).toNat)
    case atStart => exact ⟨0, Nat.zero_le _, rfl, fun j hj => absurd hj (Nat.not_lt_zero _), HB0.out, HA0.out⟩
    case round =>
      obtain ⟨i, hi, rfl, HG, HI2⟩ := hrel
      have HI := Lib.hid HI2.out.1
      have HAI := Lib.hid HI2.out.2
      have hq0 := HAI.out.cell 0
      have hq1 := HAI.out.cell 1
      have hq2 := HAI.out.cell 2
      have hq3 := HAI.out.cell 3
      simp only [List.getElem?_cons_zero, List.getElem?_cons_succ] at hq0 hq1 hq2 hq3
      have hi0 : (0 : Int) ≤ i := by omega
      clear HI2
      by_cases hlt : i < ks.length
      · have hi1 : (i : Int) < ks.length := by omega
        obtain ⟨ba, oa, rfl, hba, hl⟩ := HK.out (by omega)
        obtain ⟨x, hx⟩ : ∃ x, x = ks.getD i ex0 := ⟨_, rfl⟩
        obtain ⟨q2, c2, x0, x1, x2, x3, hr⟩ := hl.at hlt
        have hxs := sizeL_get ks i hlt
        have hxd := depthL_get ks i hlt
        rw [← hx] at x0 x1 x2 x3 hr hxs hxd
        have HX := Lib.hid hx
        obtain ⟨xk, xv2, xn2, xs⟩ := x
        have cc : ∀ n, wr.cell? ⟨ba, n, none⟩ = w.cell? ⟨ba, n, none⟩ := fun n => (HI.out).cell (p := ⟨ba, n, none⟩) (hP _ hba)
        have X0 : wr.cell? ⟨ba, oa + i * 4, none⟩ = some (.int .i64 xk) := (cc _).trans x0
        have X1 : wr.cell? ⟨ba, oa + i * 4 + 1, none⟩ = some (.string (bstr xv2)) := (cc _).trans x1
        have X2 : wr.cell? ⟨ba, oa + i * 4 + 2, none⟩ = some (.string (bstr xn2)) := (cc _).trans x2
        have X3 : wr.cell? ⟨ba, oa + i * 4 + 3, none⟩ = some (.slice q2 xs.length c2) := (cc _).trans x3
        clear x0 x1 x2 x3 cc hx
        have HR : Hid (RdE P wr (.mk xk xv2 xn2 xs) (.agg #[.int .i64 xk, .string (bstr xv2), .string (bstr xn2), .slice q2 xs.length c2])) := hr.below (HI.out) hP
        have HC := Lib.hid (HIH.out (.mk xk xv2 xn2 xs) _ P _ (by omega) (HX.out ▸ okL_get HOK.out hlt) (by omega) HR.out (fun b hb => Nat.lt_of_lt_of_le (hP b hb) HI.out.size))
        obtain ⟨E, hE⟩ : ∃ E, E = (decide (depthE (.mk xk xv2 xn2 xs) ≤ d) && formE (.mk xk xv2 xn2 xs)) := ⟨_, rfl⟩
        rw [← hE] at HC
        have HED := Lib.hid hE
        have HLT : Hid (i < ks.length) := hlt
        clear hl hr hxs hxd hE
        go_wp2_with fail
        refine HC.out.mono ?_
        rintro r w5 ⟨rfl, b5⟩
        have HB5 := Lib.hid (HI.out.trans (b5.mono HI.out.size))
        have HA5 := Lib.hid (HAI.out.later b5)
        clear b5
        cases hEb : E with
        | false =>
          have HBD : Hid ((decide (depthE (.mk k xv xn ks) ≤ d + 1) && formE (.mk k xv xn ks)) = false) := bad_one HLT.out (by rw [← HX.out, ← HED.out, hEb])
          clear hEb
          go_wp2_with fail
          go_ret
          exact ⟨by rw [HBD.out]; rfl, HB5.out⟩
        | true =>
          have HEB := Lib.hid hEb
          clear hEb
          go_wp2_with fail
          go_roundw
          case rel =>
            refine ⟨i + 1, by omega, by go_num, fun j hj => ?_, HB5.out, HA5.out⟩
            by_cases e : j = i
            · subst e; rw [← HX.out, ← HED.out, HEB.out]
            · exact HG.out j (by omega)
          case measure => simp [intOf]; omega
      · have hi1 : ¬ (i : Int) < ks.length := by omega
        have HF : Hid ((decide (depthE (.mk k xv xn ks) ≤ d + 1) && formE (.mk k xv xn ks)) = partB k xv xn ks.length) := all_good fun j hj => HG.out j (by omega)
        by_cases h1 : k = 1
        · by_cases hz : ks.length = 0
          · by_cases hv : xv = []
            · have HP : Hid (partB k xv xn ks.length = isName (bstr xn)) := by show _ = _; unfold partB; simp [*]
              have b1 : (k == 1) = true := by rw [h1]; rfl
              have bz : ((ks.length : Int) == 0) = true := by rw [hz]; rfl
              have ev := bstr_nil hv
              clear h1 hv hz
              go_wp2_with fail
              refine (HN.out _).mono ?_
              rintro r w6 ⟨rfl, hw⟩
              subst hw
              go_wp2_with fail
              go_ret
              exact ⟨by rw [HF.out, HP.out]; rfl, HI.out⟩
            · have HP : Hid (partB k xv xn ks.length = false) := by show _ = _; unfold partB; simp [*]
              have b1 : (k == 1) = true := by rw [h1]; rfl
              have bz : ((ks.length : Int) == 0) = true := by rw [hz]; rfl
              have ev := bstr_nnil hv
              clear h1 hv hz
              go_wp2_with fail
              go_ret
              exact ⟨by rw [HF.out, HP.out]; rfl, HI.out⟩
          · have HP : Hid (partB k xv xn ks.length = false) := by show _ = _; unfold partB; simp [*]
            have b1 : (k == 1) = true := by rw [h1]; rfl
            have bz : ((ks.length : Int) == 0) = false := by rw [beq_eq_false_iff_ne]; omega
            clear h1 hz
            go_wp2_with fail
            go_ret
            exact ⟨by rw [HF.out, HP.out]; rfl, HI.out⟩
        · by_cases h2 : k = 2
          · by_cases hz : ks.length = 0
            · cases hB : isName (bstr xv) with
              | false =>
                have HP : Hid (partB k xv xn ks.length = false) := by show _ = _; unfold partB; simp [*]
                have HVb := HV.out
                rw [hB] at HVb
                have HVb := Lib.hid HVb
                have b1 : (k == 1) = false := by rw [beq_eq_false_iff_ne]; exact h1
                have b2 : (k == 2) = true := by rw [h2]; rfl
                have bz : ((ks.length : Int) == 0) = true := by rw [hz]; rfl
                clear h1 h2 hz
                clear hB
                go_wp2_with fail
                refine (HVb.out _).mono ?_
                rintro r w6 ⟨rfl, hw⟩
                subst hw
                go_wp2_with fail
                go_ret
                exact ⟨by rw [HF.out, HP.out]; rfl, HI.out⟩
              | true =>
                have HP : Hid (partB k xv xn ks.length = isName (bstr xn)) := by show _ = _; unfold partB; simp [*]
                have HVb := HV.out
                rw [hB] at HVb
                have HVb := Lib.hid HVb
                have b1 : (k == 1) = false := by rw [beq_eq_false_iff_ne]; exact h1
                have b2 : (k == 2) = true := by rw [h2]; rfl
                have bz : ((ks.length : Int) == 0) = true := by rw [hz]; rfl
                clear h1 h2 hz
                clear hB
                go_wp2_with fail
                refine (HVb.out _).mono ?_
                rintro r w6 ⟨rfl, hw⟩
                subst hw
                go_wp2_with fail
                refine (HN.out _).mono ?_
                rintro r w7 ⟨rfl, hw⟩
                subst hw
                go_wp2_with fail
                go_ret
                exact ⟨by rw [HF.out, HP.out]; rfl, HI.out⟩
            · have HP : Hid (partB k xv xn ks.length = false) := by show _ = _; unfold partB; simp [*]
              have b1 : (k == 1) = false := by rw [beq_eq_false_iff_ne]; exact h1
              have b2 : (k == 2) = true := by rw [h2]; rfl
              have bz : ((ks.length : Int) == 0) = false := by rw [beq_eq_false_iff_ne]; omega
              clear h1 h2 hz
              go_wp2_with fail
              go_ret
              exact ⟨by rw [HF.out, HP.out]; rfl, HI.out⟩
          · by_cases h3 : k = 3
            · by_cases hg : 2 ≤ ks.length
              · by_cases hv : xv = []
                · by_cases hn : xn = []
                  · have HP : Hid (partB k xv xn ks.length = true) := by show _ = _; unfold partB; simp [*]
                    have b1 : (k == 1) = false := by rw [beq_eq_false_iff_ne]; exact h1
                    have b2 : (k == 2) = false := by rw [beq_eq_false_iff_ne]; exact h2
                    have b3 : (k == 3) = true := by rw [h3]; rfl
                    have bg : (2 : Int) ≤ ks.length := by omega
                    have ev := bstr_nil hv
                    have en := bstr_nil hn
                    clear h1 h2 h3 hg hn hv
                    go_wp2_with fail
                    go_ret
                    exact ⟨by rw [HF.out, HP.out]; rfl, HI.out⟩
                  · have HP : Hid (partB k xv xn ks.length = false) := by show _ = _; unfold partB; simp [*]
                    have b1 : (k == 1) = false := by rw [beq_eq_false_iff_ne]; exact h1
                    have b2 : (k == 2) = false := by rw [beq_eq_false_iff_ne]; exact h2
                    have b3 : (k == 3) = true := by rw [h3]; rfl
                    have bg : (2 : Int) ≤ ks.length := by omega
                    have ev := bstr_nil hv
                    have en := bstr_nnil hn
                    clear h1 h2 h3 hg hn hv
                    go_wp2_with fail
                    go_ret
                    exact ⟨by rw [HF.out, HP.out]; rfl, HI.out⟩
                · have HP : Hid (partB k xv xn ks.length = false) := by show _ = _; unfold partB; simp [*]
                  have b1 : (k == 1) = false := by rw [beq_eq_false_iff_ne]; exact h1
                  have b2 : (k == 2) = false := by rw [beq_eq_false_iff_ne]; exact h2
                  have b3 : (k == 3) = true := by rw [h3]; rfl
                  have bg : (2 : Int) ≤ ks.length := by omega
                  have ev := bstr_nnil hv
                  clear h1 h2 h3 hg hv
                  go_wp2_with fail
                  go_ret
                  exact ⟨by rw [HF.out, HP.out]; rfl, HI.out⟩
              · have HP : Hid (partB k xv xn ks.length = false) := by show _ = _; unfold partB; simp [*]
                have b1 : (k == 1) = false := by rw [beq_eq_false_iff_ne]; exact h1
                have b2 : (k == 2) = false := by rw [beq_eq_false_iff_ne]; exact h2
                have b3 : (k == 3) = true := by rw [h3]; rfl
                have bg : ¬ (2 : Int) ≤ ks.length := by omega
                clear h1 h2 h3 hg
                go_wp2_with fail
                go_ret
                exact ⟨by rw [HF.out, HP.out]; rfl, HI.out⟩
            · by_cases h4 : k = 4
              · by_cases hg : 2 ≤ ks.length
                · by_cases hv : xv = []
                  · by_cases hn : xn = []
                    · have HP : Hid (partB k xv xn ks.length = true) := by show _ = _; unfold partB; simp [*]
                      have b1 : (k == 1) = false := by rw [beq_eq_false_iff_ne]; exact h1
                      have b2 : (k == 2) = false := by rw [beq_eq_false_iff_ne]; exact h2
                      have b3 : (k == 3) = false := by rw [beq_eq_false_iff_ne]; exact h3
                      have b4 : (k == 4) = true := by rw [h4]; rfl
                      have bg : (2 : Int) ≤ ks.length := by omega
                      have ev := bstr_nil hv
                      have en := bstr_nil hn
                      clear h1 h2 h3 h4 hg hn hv
                      go_wp2_with fail
                      go_ret
                      exact ⟨by rw [HF.out, HP.out]; rfl, HI.out⟩
                    · have HP : Hid (partB k xv xn ks.length = false) := by show _ = _; unfold partB; simp [*]
                      have b1 : (k == 1) = false := by rw [beq_eq_false_iff_ne]; exact h1
                      have b2 : (k == 2) = false := by rw [beq_eq_false_iff_ne]; exact h2
                      have b3 : (k == 3) = false := by rw [beq_eq_false_iff_ne]; exact h3
                      have b4 : (k == 4) = true := by rw [h4]; rfl
                      have bg : (2 : Int) ≤ ks.length := by omega
                      have ev := bstr_nil hv
                      have en := bstr_nnil hn
                      clear h1 h2 h3 h4 hg hn hv
                      go_wp2_with fail
                      go_ret
                      exact ⟨by rw [HF.out, HP.out]; rfl, HI.out⟩
                  · have HP : Hid (partB k xv xn ks.length = false) := by show _ = _; unfold partB; simp [*]
                    have b1 : (k == 1) = false := by rw [beq_eq_false_iff_ne]; exact h1
                    have b2 : (k == 2) = false := by rw [beq_eq_false_iff_ne]; exact h2
                    have b3 : (k == 3) = false := by rw [beq_eq_false_iff_ne]; exact h3
                    have b4 : (k == 4) = true := by rw [h4]; rfl
                    have bg : (2 : Int) ≤ ks.length := by omega
                    have ev := bstr_nnil hv
                    clear h1 h2 h3 h4 hg hv
                    go_wp2_with fail
                    go_ret
                    exact ⟨by rw [HF.out, HP.out]; rfl, HI.out⟩
                · have HP : Hid (partB k xv xn ks.length = false) := by show _ = _; unfold partB; simp [*]
                  have b1 : (k == 1) = false := by rw [beq_eq_false_iff_ne]; exact h1
                  have b2 : (k == 2) = false := by rw [beq_eq_false_iff_ne]; exact h2
                  have b3 : (k == 3) = false := by rw [beq_eq_false_iff_ne]; exact h3
                  have b4 : (k == 4) = true := by rw [h4]; rfl
                  have bg : ¬ (2 : Int) ≤ ks.length := by omega
                  clear h1 h2 h3 h4 hg
                  go_wp2_with fail
                  go_ret
                  exact ⟨by rw [HF.out, HP.out]; rfl, HI.out⟩
              · by_cases h5 : k = 5
                · by_cases ht : ks.length = 2
                  · by_cases hv : xv = []
                    · by_cases hn : xn = []
                      · have HP : Hid (partB k xv xn ks.length = true) := by show _ = _; unfold partB; simp [*]
                        have b1 : (k == 1) = false := by rw [beq_eq_false_iff_ne]; exact h1
                        have b2 : (k == 2) = false := by rw [beq_eq_false_iff_ne]; exact h2
                        have b3 : (k == 3) = false := by rw [beq_eq_false_iff_ne]; exact h3
                        have b4 : (k == 4) = false := by rw [beq_eq_false_iff_ne]; exact h4
                        have b5 : (k == 5) = true := by rw [h5]; rfl
                        have bt : ((ks.length : Int) == 2) = true := by rw [ht]; rfl
                        have ev := bstr_nil hv
                        have en := bstr_nil hn
                        clear h1 h2 h3 h4 h5 hn ht hv
                        go_wp2_with fail
                        go_ret
                        exact ⟨by rw [HF.out, HP.out]; rfl, HI.out⟩
                      · have HP : Hid (partB k xv xn ks.length = false) := by show _ = _; unfold partB; simp [*]
                        have b1 : (k == 1) = false := by rw [beq_eq_false_iff_ne]; exact h1
                        have b2 : (k == 2) = false := by rw [beq_eq_false_iff_ne]; exact h2
                        have b3 : (k == 3) = false := by rw [beq_eq_false_iff_ne]; exact h3
                        have b4 : (k == 4) = false := by rw [beq_eq_false_iff_ne]; exact h4
                        have b5 : (k == 5) = true := by rw [h5]; rfl
                        have bt : ((ks.length : Int) == 2) = true := by rw [ht]; rfl
                        have ev := bstr_nil hv
                        have en := bstr_nnil hn
                        clear h1 h2 h3 h4 h5 hn ht hv
                        go_wp2_with fail
                        go_ret
                        exact ⟨by rw [HF.out, HP.out]; rfl, HI.out⟩
                    · have HP : Hid (partB k xv xn ks.length = false) := by show _ = _; unfold partB; simp [*]
                      have b1 : (k == 1) = false := by rw [beq_eq_false_iff_ne]; exact h1
                      have b2 : (k == 2) = false := by rw [beq_eq_false_iff_ne]; exact h2
                      have b3 : (k == 3) = false := by rw [beq_eq_false_iff_ne]; exact h3
                      have b4 : (k == 4) = false := by rw [beq_eq_false_iff_ne]; exact h4
                      have b5 : (k == 5) = true := by rw [h5]; rfl
                      have bt : ((ks.length : Int) == 2) = true := by rw [ht]; rfl
                      have ev := bstr_nnil hv
                      clear h1 h2 h3 h4 h5 ht hv
                      go_wp2_with fail
                      go_ret
                      exact ⟨by rw [HF.out, HP.out]; rfl, HI.out⟩
                  · have HP : Hid (partB k xv xn ks.length = false) := by show _ = _; unfold partB; simp [*]
                    have b1 : (k == 1) = false := by rw [beq_eq_false_iff_ne]; exact h1
                    have b2 : (k == 2) = false := by rw [beq_eq_false_iff_ne]; exact h2
                    have b3 : (k == 3) = false := by rw [beq_eq_false_iff_ne]; exact h3
                    have b4 : (k == 4) = false := by rw [beq_eq_false_iff_ne]; exact h4
                    have b5 : (k == 5) = true := by rw [h5]; rfl
                    have bt : ((ks.length : Int) == 2) = false := by rw [beq_eq_false_iff_ne]; omega
                    clear h1 h2 h3 h4 h5 ht
                    go_wp2_with fail
                    go_ret
                    exact ⟨by rw [HF.out, HP.out]; rfl, HI.out⟩
                · have HP : Hid (partB k xv xn ks.length = false) := by show _ = _; unfold partB; simp [*]
                  have b1 : (k == 1) = false := by rw [beq_eq_false_iff_ne]; exact h1
                  have b2 : (k == 2) = false := by rw [beq_eq_false_iff_ne]; exact h2
                  have b3 : (k == 3) = false := by rw [beq_eq_false_iff_ne]; exact h3
                  have b4 : (k == 4) = false := by rw [beq_eq_false_iff_ne]; exact h4
                  have b5 : (k == 5) = false := by rw [beq_eq_false_iff_ne]; exact h5
                  clear h1 h2 h3 h4 h5
                  go_wp2_with fail
                  go_ret
                  exact ⟨by rw [HF.out, HP.out]; rfl, HI.out⟩
end Go.Proofs.YtdnmgemjhpkekaaGreatDoor
/-
  expr.part's methods; expr.checkOf.
-/
namespace Go.Proofs.YtdnmgemjhpkekaaGreatDoor
open Go.ChangeShapes Go.WideShapes Go.ChangeAt Go.RowKit
set_option linter.unusedVariables false

set_option maxRecDepth 100000 in
set_option maxHeartbeats 1000000 in
theorem nameless_any (k : Int) (xv xn : List UInt8) (q : Option Addr) (m c : Nat) (w : World) : Calls Tryz.prog 136 #[.agg #[.int .i64 k, .string (bstr xv), .string (bstr xn), .slice q m c]] w fun r w' => r = .returned (.bool (decide (xn = []) && decide (xv = []))) ∧ Below w.heap.size w w' := by
  have HB0 : Hid (Below w.heap.size w (w.alloc (.cells #[.int .i64 k, .string (bstr xv), .string (bstr xn), .slice q m c] 183))) := (Below.refl _ _).alloc (Nat.le_refl _) _
  by_cases hn : xn = []
  · by_cases hv : xv = []
    · have HP : Hid ((decide (xn = []) && decide (xv = [])) = true) := by show _ = _; simp [*]
      have en := bstr_nil hn
      have ev := bstr_nil hv
      clear hn hv
      go_enter Tryz.func136, Tryz.ntmps136
      go_wp2_with fail
      go_ret
      exact ⟨by rw [HP.out]; rfl, HB0.out⟩
    · have HP : Hid ((decide (xn = []) && decide (xv = [])) = false) := by show _ = _; simp [*]
      have en := bstr_nil hn
      have ev := bstr_nnil hv
      clear hn hv
      go_enter Tryz.func136, Tryz.ntmps136
      go_wp2_with fail
      go_ret
      exact ⟨by rw [HP.out]; rfl, HB0.out⟩
  · have HP : Hid ((decide (xn = []) && decide (xv = [])) = false) := by show _ = _; simp [*]
    have en := bstr_nnil hn
    clear hn
    go_enter Tryz.func136, Tryz.ntmps136
    go_wp2_with fail
    go_ret
    exact ⟨by rw [HP.out]; rfl, HB0.out⟩
set_option maxRecDepth 100000 in
set_option maxHeartbeats 1000000 in
theorem isNothing_any (k : Int) (xv xn : List UInt8) (q : Option Addr) (m c : Nat) (w : World) : Calls Tryz.prog 134 #[.agg #[.int .i64 k, .string (bstr xv), .string (bstr xn), .slice q m c]] w fun r w' => r = .returned (.bool (false)) ∧ Below w.heap.size w w' := by
  have HB0 : Hid (Below w.heap.size w (w.alloc (.cells #[.int .i64 k, .string (bstr xv), .string (bstr xn), .slice q m c] 183))) := (Below.refl _ _).alloc (Nat.le_refl _) _
  go_enter Tryz.func134, Tryz.ntmps134
  go_wp2_with fail
  go_ret
  exact ⟨rfl, HB0.out⟩
set_option maxRecDepth 100000 in
set_option maxHeartbeats 1000000 in
theorem isMany_any (k : Int) (xv xn : List UInt8) (q : Option Addr) (m c : Nat) (w : World) : Calls Tryz.prog 132 #[.agg #[.int .i64 k, .string (bstr xv), .string (bstr xn), .slice q m c]] w fun r w' => r = .returned (.bool ((decide (xn = []) && decide (xv = [])) && decide (2 ≤ m))) ∧ Below w.heap.size w w' := by
  have HB0 : Hid (Below w.heap.size w (w.alloc (.cells #[.int .i64 k, .string (bstr xv), .string (bstr xn), .slice q m c] 183))) := (Below.refl _ _).alloc (Nat.le_refl _) _
  have HA0 : Hid (Arr (w.alloc (.cells #[.int .i64 k, .string (bstr xv), .string (bstr xn), .slice q m c] 183)) 183 w.heap.size [.int .i64 k, .string (bstr xv), .string (bstr xn), .slice q m c]) := Arr.new' _ _ _ _ rfl
  have HC := Lib.hid (nameless_any k xv xn q m c (w.alloc (.cells #[.int .i64 k, .string (bstr xv), .string (bstr xn), .slice q m c] 183)))
  obtain ⟨E, hE⟩ : ∃ E, E = (decide (xn = []) && decide (xv = [])) := ⟨_, rfl⟩
  rw [← hE] at HC ⊢
  clear hE
  cases E with
  | false =>
    have HP : Hid ((false && decide (2 ≤ m)) = false) := by show _ = _; simp [*]
    go_enter Tryz.func132, Tryz.ntmps132
    go_wp2_with fail
    refine HC.out.mono ?_
    rintro r w2 ⟨rfl, b2⟩
    have HB2 := Lib.hid (HB0.out.trans (b2.mono HB0.out.size))
    have hq3 := (HA0.out.later b2).cell 3
    simp only [List.getElem?_cons_zero, List.getElem?_cons_succ] at hq3
    clear b2
    go_wp2_with fail
    go_ret
    exact ⟨by rw [HP.out]; first | rfl | exact congrArg (fun b => Ending.returned (.bool b)) (decide_eq_false (by omega)), HB2.out⟩
  | true =>
    by_cases hg : 2 ≤ m
    · have HP : Hid ((true && decide (2 ≤ m)) = true) := by show _ = _; simp [*]
      have bg : (2 : Int) ≤ m := by omega
      clear hg
      go_enter Tryz.func132, Tryz.ntmps132
      go_wp2_with fail
      refine HC.out.mono ?_
      rintro r w2 ⟨rfl, b2⟩
      have HB2 := Lib.hid (HB0.out.trans (b2.mono HB0.out.size))
      have hq3 := (HA0.out.later b2).cell 3
      simp only [List.getElem?_cons_zero, List.getElem?_cons_succ] at hq3
      clear b2
      go_wp2_with fail
      go_ret
      exact ⟨by rw [HP.out]; first | rfl | exact congrArg (fun b => Ending.returned (.bool b)) (decide_eq_false (by omega)), HB2.out⟩
    · have HP : Hid ((true && decide (2 ≤ m)) = false) := by show _ = _; simp [*]
      have bg : ¬ (2 : Int) ≤ m := by omega
      clear hg
      go_enter Tryz.func132, Tryz.ntmps132
      go_wp2_with fail
      refine HC.out.mono ?_
      rintro r w2 ⟨rfl, b2⟩
      have HB2 := Lib.hid (HB0.out.trans (b2.mono HB0.out.size))
      have hq3 := (HA0.out.later b2).cell 3
      simp only [List.getElem?_cons_zero, List.getElem?_cons_succ] at hq3
      clear b2
      go_wp2_with fail
      go_ret
      exact ⟨by rw [HP.out]; first | rfl | exact congrArg (fun b => Ending.returned (.bool b)) (decide_eq_false (by omega)), HB2.out⟩
set_option maxRecDepth 100000 in
set_option maxHeartbeats 1000000 in
theorem isPair_any (k : Int) (xv xn : List UInt8) (q : Option Addr) (m c : Nat) (w : World) : Calls Tryz.prog 133 #[.agg #[.int .i64 k, .string (bstr xv), .string (bstr xn), .slice q m c]] w fun r w' => r = .returned (.bool ((decide (xn = []) && decide (xv = [])) && decide (m = 2))) ∧ Below w.heap.size w w' := by
  have HB0 : Hid (Below w.heap.size w (w.alloc (.cells #[.int .i64 k, .string (bstr xv), .string (bstr xn), .slice q m c] 183))) := (Below.refl _ _).alloc (Nat.le_refl _) _
  have HA0 : Hid (Arr (w.alloc (.cells #[.int .i64 k, .string (bstr xv), .string (bstr xn), .slice q m c] 183)) 183 w.heap.size [.int .i64 k, .string (bstr xv), .string (bstr xn), .slice q m c]) := Arr.new' _ _ _ _ rfl
  have HC := Lib.hid (nameless_any k xv xn q m c (w.alloc (.cells #[.int .i64 k, .string (bstr xv), .string (bstr xn), .slice q m c] 183)))
  obtain ⟨E, hE⟩ : ∃ E, E = (decide (xn = []) && decide (xv = [])) := ⟨_, rfl⟩
  rw [← hE] at HC ⊢
  clear hE
  cases E with
  | false =>
    have HP : Hid ((false && decide (m = 2)) = false) := by show _ = _; simp [*]
    go_enter Tryz.func133, Tryz.ntmps133
    go_wp2_with fail
    refine HC.out.mono ?_
    rintro r w2 ⟨rfl, b2⟩
    have HB2 := Lib.hid (HB0.out.trans (b2.mono HB0.out.size))
    have hq3 := (HA0.out.later b2).cell 3
    simp only [List.getElem?_cons_zero, List.getElem?_cons_succ] at hq3
    clear b2
    go_wp2_with fail
    go_ret
    exact ⟨by rw [HP.out]; first | rfl | exact congrArg (fun b => Ending.returned (.bool b)) (decide_eq_false (by omega)), HB2.out⟩
  | true =>
    by_cases ht : m = 2
    · have HP : Hid ((true && decide (m = 2)) = true) := by show _ = _; simp [*]
      have bt : ((m : Int) == 2) = true := by rw [ht]; rfl
      clear ht
      go_enter Tryz.func133, Tryz.ntmps133
      go_wp2_with fail
      refine HC.out.mono ?_
      rintro r w2 ⟨rfl, b2⟩
      have HB2 := Lib.hid (HB0.out.trans (b2.mono HB0.out.size))
      have hq3 := (HA0.out.later b2).cell 3
      simp only [List.getElem?_cons_zero, List.getElem?_cons_succ] at hq3
      clear b2
      go_wp2_with fail
      go_ret
      exact ⟨by rw [HP.out]; first | rfl | exact congrArg (fun b => Ending.returned (.bool b)) (decide_eq_false (by omega)), HB2.out⟩
    · have HP : Hid ((true && decide (m = 2)) = false) := by show _ = _; simp [*]
      have bt : ((m : Int) == 2) = false := by rw [beq_eq_false_iff_ne]; omega
      clear ht
      go_enter Tryz.func133, Tryz.ntmps133
      go_wp2_with fail
      refine HC.out.mono ?_
      rintro r w2 ⟨rfl, b2⟩
      have HB2 := Lib.hid (HB0.out.trans (b2.mono HB0.out.size))
      have hq3 := (HA0.out.later b2).cell 3
      simp only [List.getElem?_cons_zero, List.getElem?_cons_succ] at hq3
      clear b2
      go_wp2_with fail
      go_ret
      exact ⟨by rw [HP.out]; first | rfl | exact congrArg (fun b => Ending.returned (.bool b)) (decide_eq_false (by omega)), HB2.out⟩
set_option maxRecDepth 100000 in
set_option maxHeartbeats 1000000 in
theorem isRef_any (k : Int) (xv xn : List UInt8) (q : Option Addr) (m c : Nat) (w : World) (hr : ResT w) : Calls Tryz.prog 130 #[.agg #[.int .i64 k, .string (bstr xv), .string (bstr xn), .slice q m c]] w fun r w' => r = .returned (.bool (isName (bstr xn) && decide (xv = []) && decide (m = 0))) ∧ Below w.heap.size w w' := by
  have HA0 : Hid (Arr (w.alloc (.cells #[.int .i64 k, .string (bstr xv), .string (bstr xn), .slice q m c] 183)) 183 w.heap.size [.int .i64 k, .string (bstr xv), .string (bstr xn), .slice q m c]) := Arr.new' _ _ _ _ rfl
  have HB0 : Hid (Below w.heap.size w (w.alloc (.cells #[.int .i64 k, .string (bstr xv), .string (bstr xn), .slice q m c] 183))) := (Below.refl _ _).alloc (Nat.le_refl _) _
  have HRS : Hid (ResT (w.alloc (.cells #[.int .i64 k, .string (bstr xv), .string (bstr xn), .slice q m c] 183))) := hr.below HB0.out hr.lt
  clear hr
  have HC := Lib.hid (isName_any (bstr xn) (w.alloc (.cells #[.int .i64 k, .string (bstr xv), .string (bstr xn), .slice q m c] 183)) HRS.out)
  obtain ⟨E, hE⟩ : ∃ E, E = isName (bstr xn) := ⟨_, rfl⟩
  rw [← hE] at HC ⊢
  clear hE
  cases E with
  | false =>
    have HP : Hid ((false && decide (xv = []) && decide (m = 0)) = false) := by show _ = _; simp [*]
    go_enter Tryz.func130, Tryz.ntmps130
    go_wp2_with fail
    refine HC.out.mono ?_
    rintro r w2 ⟨rfl, b2⟩
    have HB2 := Lib.hid (HB0.out.trans (b2.mono HB0.out.size))
    have HA2 := (HA0.out.later b2)
    have hq1 := HA2.cell 1
    have hq3 := HA2.cell 3
    simp only [List.getElem?_cons_zero, List.getElem?_cons_succ] at hq1 hq3
    clear b2 HA2
    go_wp2_with fail
    go_ret
    exact ⟨by rw [HP.out]; rfl, HB2.out⟩
  | true =>
    by_cases hv : xv = []
    · by_cases hz : m = 0
      · have HP : Hid ((true && decide (xv = []) && decide (m = 0)) = true) := by show _ = _; simp [*]
        have ev := bstr_nil hv
        have bz : ((m : Int) == 0) = true := by rw [hz]; rfl
        clear hv hz
        go_enter Tryz.func130, Tryz.ntmps130
        go_wp2_with fail
        refine HC.out.mono ?_
        rintro r w2 ⟨rfl, b2⟩
        have HB2 := Lib.hid (HB0.out.trans (b2.mono HB0.out.size))
        have HA2 := (HA0.out.later b2)
        have hq1 := HA2.cell 1
        have hq3 := HA2.cell 3
        simp only [List.getElem?_cons_zero, List.getElem?_cons_succ] at hq1 hq3
        clear b2 HA2
        go_wp2_with fail
        go_ret
        exact ⟨by rw [HP.out]; rfl, HB2.out⟩
      · have HP : Hid ((true && decide (xv = []) && decide (m = 0)) = false) := by show _ = _; simp [*]
        have ev := bstr_nil hv
        have bz : ((m : Int) == 0) = false := by rw [beq_eq_false_iff_ne]; omega
        clear hv hz
        go_enter Tryz.func130, Tryz.ntmps130
        go_wp2_with fail
        refine HC.out.mono ?_
        rintro r w2 ⟨rfl, b2⟩
        have HB2 := Lib.hid (HB0.out.trans (b2.mono HB0.out.size))
        have HA2 := (HA0.out.later b2)
        have hq1 := HA2.cell 1
        have hq3 := HA2.cell 3
        simp only [List.getElem?_cons_zero, List.getElem?_cons_succ] at hq1 hq3
        clear b2 HA2
        go_wp2_with fail
        go_ret
        exact ⟨by rw [HP.out]; rfl, HB2.out⟩
    · have HP : Hid ((true && decide (xv = []) && decide (m = 0)) = false) := by show _ = _; simp [*]
      have ev := bstr_nnil hv
      clear hv
      go_enter Tryz.func130, Tryz.ntmps130
      go_wp2_with fail
      refine HC.out.mono ?_
      rintro r w2 ⟨rfl, b2⟩
      have HB2 := Lib.hid (HB0.out.trans (b2.mono HB0.out.size))
      have HA2 := (HA0.out.later b2)
      have hq1 := HA2.cell 1
      have hq3 := HA2.cell 3
      simp only [List.getElem?_cons_zero, List.getElem?_cons_succ] at hq1 hq3
      clear b2 HA2
      go_wp2_with fail
      go_ret
      exact ⟨by rw [HP.out]; rfl, HB2.out⟩
set_option maxRecDepth 100000 in
set_option maxHeartbeats 1000000 in
theorem isArrow_any (k : Int) (xv xn : List UInt8) (q : Option Addr) (m c : Nat) (w : World) (hr : ResT w) : Calls Tryz.prog 131 #[.agg #[.int .i64 k, .string (bstr xv), .string (bstr xn), .slice q m c]] w fun r w' => r = .returned (.bool (isName (bstr xn) && isName (bstr xv) && decide (m = 0))) ∧ Below w.heap.size w w' := by
  have HA0 : Hid (Arr (w.alloc (.cells #[.int .i64 k, .string (bstr xv), .string (bstr xn), .slice q m c] 183)) 183 w.heap.size [.int .i64 k, .string (bstr xv), .string (bstr xn), .slice q m c]) := Arr.new' _ _ _ _ rfl
  have HB0 : Hid (Below w.heap.size w (w.alloc (.cells #[.int .i64 k, .string (bstr xv), .string (bstr xn), .slice q m c] 183))) := (Below.refl _ _).alloc (Nat.le_refl _) _
  have HRS : Hid (ResT (w.alloc (.cells #[.int .i64 k, .string (bstr xv), .string (bstr xn), .slice q m c] 183))) := hr.below HB0.out hr.lt
  clear hr
  have HC := Lib.hid (isName_any (bstr xn) (w.alloc (.cells #[.int .i64 k, .string (bstr xv), .string (bstr xn), .slice q m c] 183)) HRS.out)
  have HV := Lib.hid (fun W h => isName_any (bstr xv) W h)
  obtain ⟨E, hE⟩ : ∃ E, E = isName (bstr xn) := ⟨_, rfl⟩
  rw [← hE] at HC ⊢
  clear hE
  obtain ⟨F, hF⟩ : ∃ F, F = isName (bstr xv) := ⟨_, rfl⟩
  rw [← hF] at HV ⊢
  clear hF
  cases E with
  | false =>
    have HP : Hid ((false && F && decide (m = 0)) = false) := by show _ = _; simp [*]
    go_enter Tryz.func131, Tryz.ntmps131
    go_wp2_with fail
    refine HC.out.mono ?_
    rintro r w2 ⟨rfl, b2⟩
    have HB2 := Lib.hid (HB0.out.trans (b2.mono HB0.out.size))
    have HA2 := Lib.hid (HA0.out.later b2)
    have HR2 := Lib.hid (HRS.out.below b2 HRS.out.lt)
    have hq1 := HA2.out.cell 1
    simp only [List.getElem?_cons_zero, List.getElem?_cons_succ] at hq1
    clear b2
    go_wp2_with fail
    go_ret
    exact ⟨by rw [HP.out]; rfl, HB2.out⟩
  | true =>
    cases F with
    | false =>
      have HP : Hid ((true && false && decide (m = 0)) = false) := by show _ = _; simp [*]
      go_enter Tryz.func131, Tryz.ntmps131
      go_wp2_with fail
      refine HC.out.mono ?_
      rintro r w2 ⟨rfl, b2⟩
      have HB2 := Lib.hid (HB0.out.trans (b2.mono HB0.out.size))
      have HA2 := Lib.hid (HA0.out.later b2)
      have HR2 := Lib.hid (HRS.out.below b2 HRS.out.lt)
      have hq1 := HA2.out.cell 1
      simp only [List.getElem?_cons_zero, List.getElem?_cons_succ] at hq1
      clear b2
      go_wp2_with fail
      refine (HV.out _ HR2.out).mono ?_
      rintro r w3 ⟨rfl, b3⟩
      have HB3 := Lib.hid (HB2.out.trans (b3.mono HB2.out.size))
      have hq3 := (HA2.out.later b3).cell 3
      simp only [List.getElem?_cons_zero, List.getElem?_cons_succ] at hq3
      clear b3
      go_wp2_with fail
      go_ret
      exact ⟨by rw [HP.out]; rfl, HB3.out⟩
    | true =>
      by_cases hz : m = 0
      · have HP : Hid ((true && true && decide (m = 0)) = true) := by show _ = _; simp [*]
        have bz : ((m : Int) == 0) = true := by rw [hz]; rfl
        clear hz
        go_enter Tryz.func131, Tryz.ntmps131
        go_wp2_with fail
        refine HC.out.mono ?_
        rintro r w2 ⟨rfl, b2⟩
        have HB2 := Lib.hid (HB0.out.trans (b2.mono HB0.out.size))
        have HA2 := Lib.hid (HA0.out.later b2)
        have HR2 := Lib.hid (HRS.out.below b2 HRS.out.lt)
        have hq1 := HA2.out.cell 1
        simp only [List.getElem?_cons_zero, List.getElem?_cons_succ] at hq1
        clear b2
        go_wp2_with fail
        refine (HV.out _ HR2.out).mono ?_
        rintro r w3 ⟨rfl, b3⟩
        have HB3 := Lib.hid (HB2.out.trans (b3.mono HB2.out.size))
        have hq3 := (HA2.out.later b3).cell 3
        simp only [List.getElem?_cons_zero, List.getElem?_cons_succ] at hq3
        clear b3
        go_wp2_with fail
        go_ret
        exact ⟨by rw [HP.out]; rfl, HB3.out⟩
      · have HP : Hid ((true && true && decide (m = 0)) = false) := by show _ = _; simp [*]
        have bz : ((m : Int) == 0) = false := by rw [beq_eq_false_iff_ne]; omega
        clear hz
        go_enter Tryz.func131, Tryz.ntmps131
        go_wp2_with fail
        refine HC.out.mono ?_
        rintro r w2 ⟨rfl, b2⟩
        have HB2 := Lib.hid (HB0.out.trans (b2.mono HB0.out.size))
        have HA2 := Lib.hid (HA0.out.later b2)
        have HR2 := Lib.hid (HRS.out.below b2 HRS.out.lt)
        have hq1 := HA2.out.cell 1
        simp only [List.getElem?_cons_zero, List.getElem?_cons_succ] at hq1
        clear b2
        go_wp2_with fail
        refine (HV.out _ HR2.out).mono ?_
        rintro r w3 ⟨rfl, b3⟩
        have HB3 := Lib.hid (HB2.out.trans (b3.mono HB2.out.size))
        have hq3 := (HA2.out.later b3).cell 3
        simp only [List.getElem?_cons_zero, List.getElem?_cons_succ] at hq3
        clear b3
        go_wp2_with fail
        go_ret
        exact ⟨by rw [HP.out]; rfl, HB3.out⟩
/-- The function that checks parts of a kind. -/
def chk (k : Int) : FuncId := if k = 1 then 130 else if k = 2 then 131 else if k = 3 ∨ k = 4 then 132 else if k = 5 then 133 else 134
theorem part_any (k : Int) (xv xn : List UInt8) (q : Option Addr) (m c : Nat) (w : World) (hr : ResT w) : Calls Tryz.prog (chk k) #[.agg #[.int .i64 k, .string (bstr xv), .string (bstr xn), .slice q m c]] w fun r w' => r = .returned (.bool (partB k xv xn m)) ∧ Below w.heap.size w w' := by
  unfold chk partB
  split
  · exact (isRef_any k xv xn q m c w hr).mono fun r w' ⟨h1, h2⟩ => ⟨by rw [h1]; congr 2; ac_rfl, h2⟩
  split
  · exact (isArrow_any k xv xn q m c w hr).mono fun r w' ⟨h1, h2⟩ => ⟨by rw [h1]; congr 2; ac_rfl, h2⟩
  split
  · exact (isMany_any k xv xn q m c w).mono fun r w' ⟨h1, h2⟩ => ⟨by rw [h1]; congr 2; ac_rfl, h2⟩
  split
  · exact (isPair_any k xv xn q m c w).mono fun r w' ⟨h1, h2⟩ => ⟨by rw [h1]; congr 2; ac_rfl, h2⟩
  · exact isNothing_any k xv xn q m c w
set_option maxRecDepth 100000 in
set_option maxHeartbeats 1000000 in
theorem checkOf_any (k : Int) (w : World) : Calls Tryz.prog 125 #[.int .i64 k] w fun r w' => r = .returned (.func (.func (chk k)) #[] #[]) ∧ w = w' := by
  by_cases h1 : k = 1
  · have HP : Hid (chk k = 130) := by show _ = _; unfold chk; simp [*]
    have b1 : (k == 1) = true := by rw [h1]; rfl
    clear h1
    go_enter Tryz.func125, Tryz.ntmps125
    go_wp2_with fail
    go_ret
    exact ⟨by rw [HP.out]; rfl, rfl⟩
  · by_cases h2 : k = 2
    · have HP : Hid (chk k = 131) := by show _ = _; unfold chk; simp [*]
      have b1 : (k == 1) = false := by rw [beq_eq_false_iff_ne]; exact h1
      have b2 : (k == 2) = true := by rw [h2]; rfl
      clear h1 h2
      go_enter Tryz.func125, Tryz.ntmps125
      go_wp2_with fail
      go_ret
      exact ⟨by rw [HP.out]; rfl, rfl⟩
    · by_cases h3 : k = 3
      · have HP : Hid (chk k = 132) := by show _ = _; unfold chk; simp [*]
        have b1 : (k == 1) = false := by rw [beq_eq_false_iff_ne]; exact h1
        have b2 : (k == 2) = false := by rw [beq_eq_false_iff_ne]; exact h2
        have b3 : (k == 3) = true := by rw [h3]; rfl
        clear h1 h2 h3
        go_enter Tryz.func125, Tryz.ntmps125
        go_wp2_with fail
        go_ret
        exact ⟨by rw [HP.out]; rfl, rfl⟩
      · by_cases h4 : k = 4
        · have HP : Hid (chk k = 132) := by show _ = _; unfold chk; simp [*]
          have b1 : (k == 1) = false := by rw [beq_eq_false_iff_ne]; exact h1
          have b2 : (k == 2) = false := by rw [beq_eq_false_iff_ne]; exact h2
          have b3 : (k == 3) = false := by rw [beq_eq_false_iff_ne]; exact h3
          have b4 : (k == 4) = true := by rw [h4]; rfl
          clear h1 h2 h3 h4
          go_enter Tryz.func125, Tryz.ntmps125
          go_wp2_with fail
          go_ret
          exact ⟨by rw [HP.out]; rfl, rfl⟩
        · by_cases h5 : k = 5
          · have HP : Hid (chk k = 133) := by show _ = _; unfold chk; simp [*]
            have b1 : (k == 1) = false := by rw [beq_eq_false_iff_ne]; exact h1
            have b2 : (k == 2) = false := by rw [beq_eq_false_iff_ne]; exact h2
            have b3 : (k == 3) = false := by rw [beq_eq_false_iff_ne]; exact h3
            have b4 : (k == 4) = false := by rw [beq_eq_false_iff_ne]; exact h4
            have b5 : (k == 5) = true := by rw [h5]; rfl
            clear h1 h2 h3 h4 h5
            go_enter Tryz.func125, Tryz.ntmps125
            go_wp2_with fail
            go_ret
            exact ⟨by rw [HP.out]; rfl, rfl⟩
          · have HP : Hid (chk k = 134) := by show _ = _; unfold chk; simp [*]
            have b1 : (k == 1) = false := by rw [beq_eq_false_iff_ne]; exact h1
            have b2 : (k == 2) = false := by rw [beq_eq_false_iff_ne]; exact h2
            have b3 : (k == 3) = false := by rw [beq_eq_false_iff_ne]; exact h3
            have b4 : (k == 4) = false := by rw [beq_eq_false_iff_ne]; exact h4
            have b5 : (k == 5) = false := by rw [beq_eq_false_iff_ne]; exact h5
            clear h1 h2 h3 h4 h5
            go_enter Tryz.func125, Tryz.ntmps125
            go_wp2_with fail
            go_ret
            exact ⟨by rw [HP.out]; rfl, rfl⟩
end Go.Proofs.YtdnmgemjhpkekaaGreatDoor
/-
  expr.hasRightParts.
-/
namespace Go.Proofs.YtdnmgemjhpkekaaGreatDoor
open Go.ChangeShapes Go.WideShapes Go.ChangeAt Go.RowKit
set_option linter.unusedVariables false

theorem formL_all : ∀ {ks : List Ex}, (∀ j, j < ks.length → formE (ks.getD j ex0) = true) → formL ks = true
  | [], _ => rfl
  | e :: r, h => by
    have h0 := h 0 (by simp)
    simp only [List.getD_cons_zero] at h0
    unfold formL
    rw [h0, formL_all (ks := r) (fun j hj => by have := h (j + 1) (by simpa using hj); simpa using this)]; rfl
theorem formE_bad {k : Int} {v n : List UInt8} {ks : List Ex} {j : Nat} (hj : j < ks.length) (h : formE (ks.getD j ex0) = false) : formE (.mk k v n ks) = false := by
  rw [Bool.eq_false_iff]
  intro e
  unfold formE at e
  simp only [Bool.and_eq_true] at e
  rw [formL_get hj e.2] at h
  cases h
theorem chk_cases (k : Int) : chk k = 130 ∨ chk k = 131 ∨ chk k = 132 ∨ chk k = 133 ∨ chk k = 134 := by
  unfold chk
  split
  · exact .inl rfl
  split
  · exact .inr (.inl rfl)
  split
  · exact .inr (.inr (.inl rfl))
  split
  · exact .inr (.inr (.inr (.inl rfl)))
  · exact .inr (.inr (.inr (.inr rfl)))
set_option maxRecDepth 100000 in
set_option maxHeartbeats 16000000 in
theorem parts_any : ∀ (n : Nat) (e : Ex) (v : Value) (P : Nat → Prop) (w : World), sizeE e ≤ n → sizeE e ≤ 900000 → RdE P w e v → (∀ b, P b → b < w.heap.size) → ResT w → Calls Tryz.prog 116 #[v] w fun r w' => r = .returned (.bool (formE e)) ∧ Below w.heap.size w w' := by
  intro n
  induction n with
  | zero => intro e v P w h; have := sizeE_pos e; omega
  | succ n ih =>
    intro e v P w hn hm h hP hr
    obtain ⟨q, c, rfl, hc, hk⟩ := h.form
    obtain ⟨k, xv, xn, ks⟩ := e
    unfold exv
    show Calls _ _ #[.agg #[.int .i64 k, .string (bstr xv), .string (bstr xn), .slice q ks.length c]] _ _
    have HK : Hid (0 < ks.length → ∃ b o, q = some ⟨b, o, none⟩ ∧ P b ∧ RdL P w ks b o) := hk
    have hks : sizeL ks ≤ n := by unfold sizeE at hn; omega
    have hkm : sizeL ks ≤ 900000 := by unfold sizeE at hm; omega
    have hlen := sizeL_len ks
    have HIH := Lib.hid ih
    have HRS := Lib.hid hr
    have HB0 : Hid (Below w.heap.size w (w.alloc (.cells #[.int .i64 k, .string (bstr xv), .string (bstr xn), .slice q ks.length c] 42))) := (Below.refl _ _).alloc (Nat.le_refl _) _
    have HA0 : Hid (Arr (w.alloc (.cells #[.int .i64 k, .string (bstr xv), .string (bstr xn), .slice q ks.length c] 42)) 42 w.heap.size [.int .i64 k, .string (bstr xv), .string (bstr xn), .slice q ks.length c]) := Arr.new' _ _ _ _ rfl
    have HCK := Lib.hid (fun W => checkOf_any k W)
    have HPT := Lib.hid (fun W h => part_any k xv xn q ks.length c W h)
    have HR0 : Hid (ResT (w.alloc (.cells #[.int .i64 k, .string (bstr xv), .string (bstr xn), .slice q ks.length c] 42))) := hr.below HB0.out hr.lt
    obtain ⟨fid, hfid⟩ : ∃ f, f = chk k := ⟨_, rfl⟩
    obtain ⟨E, hE⟩ : ∃ E, E = partB k xv xn ks.length := ⟨_, rfl⟩
    rw [← hfid] at HCK HPT
    rw [← hE] at HPT
    have HE := Lib.hid hE
    have HFX : Hid (partB k xv xn ks.length = E) := hE.symm
    have hcs := chk_cases k
    rw [← hfid] at hcs
    clear h ih hc hk hn hm hr hfid hE
    rcases hcs with hf | hf | hf | hf | hf
    all_goals
      rw [hf] at HCK HPT
      clear hf
      go_enter Tryz.func116, Tryz.ntmps116
      go_wp2_with fail
      refine (HCK.out _).mono ?_
      rintro r w1 ⟨rfl, hw⟩
      subst hw
      go_wp2_with fail
      refine (HPT.out _ HR0.out).mono ?_
      rintro r w2 ⟨rfl, b2⟩
      have HB2 := Lib.hid (HB0.out.trans (b2.mono HB0.out.size))
      have hq3 := (HA0.out.later b2).cell 3
      simp only [List.getElem?_cons_zero, List.getElem?_cons_succ] at hq3
      clear b2
      cases hEb : E with
      | false =>
        have HBD : Hid (formE (.mk k xv xn ks) = false) := by show _ = _; unfold formE; rw [HFX.out, hEb]; rfl
        clear hEb
        go_wp2_with fail
        go_ret
        exact ⟨by rw [HBD.out]; rfl, HB2.out⟩
      | true =>
        have HEB : Hid (partB k xv xn ks.length = true) := by show _ = _; rw [HFX.out, hEb]
        clear hEb
        go_wp2_with fail
        go_loopw [16] (fun iv wr => ∃ i : Nat, i ≤ ks.length ∧ iv = .int .i64 i ∧ Hid (∀ j, j < i → formE (ks.getD j ex0) = true) ∧ Hid (Below w.heap.size w wr)) (fun iv _ => ks.length - (intOf iv).toNat)
        case atStart => exact ⟨0, Nat.zero_le _, rfl, fun j hj => absurd hj (Nat.not_lt_zero _), HB2.out⟩
        case round =>
          obtain ⟨i, hi, rfl, HG, HI⟩ := hrel
          have hi0 : (0 : Int) ≤ i := by omega
          by_cases hlt : i < ks.length
          · have hi1 : (i : Int) < ks.length := by omega
            obtain ⟨ba, oa, rfl, hba, hl⟩ := HK.out (by omega)
            obtain ⟨x, hx⟩ : ∃ x, x = ks.getD i ex0 := ⟨_, rfl⟩
            obtain ⟨q2, c2, x0, x1, x2, x3, hr⟩ := hl.at hlt
            have hxs := sizeL_get ks i hlt
            have hxd := depthL_get ks i hlt
            rw [← hx] at x0 x1 x2 x3 hr hxs hxd
            have HX := Lib.hid hx
            obtain ⟨xk, xv2, xn2, xs⟩ := x
            have cc : ∀ n, wr.cell? ⟨ba, n, none⟩ = w.cell? ⟨ba, n, none⟩ := fun n => (HI.out).cell (p := ⟨ba, n, none⟩) (hP _ hba)
            have X0 : wr.cell? ⟨ba, oa + i * 4, none⟩ = some (.int .i64 xk) := (cc _).trans x0
            have X1 : wr.cell? ⟨ba, oa + i * 4 + 1, none⟩ = some (.string (bstr xv2)) := (cc _).trans x1
            have X2 : wr.cell? ⟨ba, oa + i * 4 + 2, none⟩ = some (.string (bstr xn2)) := (cc _).trans x2
            have X3 : wr.cell? ⟨ba, oa + i * 4 + 3, none⟩ = some (.slice q2 xs.length c2) := (cc _).trans x3
            clear x0 x1 x2 x3 cc hx
            have HBA : Hid (Below wr.heap.size wr (wr.alloc (.cells #[.int .i64 xk, .string (bstr xv2), .string (bstr xn2), .slice q2 xs.length c2] 42))) := (Below.refl _ _).alloc (Nat.le_refl _) _
            have HR : Hid (RdE P (wr.alloc (.cells #[.int .i64 xk, .string (bstr xv2), .string (bstr xn2), .slice q2 xs.length c2] 42)) (.mk xk xv2 xn2 xs) (.agg #[.int .i64 xk, .string (bstr xv2), .string (bstr xn2), .slice q2 xs.length c2])) := (hr.below (HI.out) hP).below HBA.out (fun b hb => Nat.lt_of_lt_of_le (hP b hb) (HI.out).size)
            have HRW : Hid (ResT (wr.alloc (.cells #[.int .i64 xk, .string (bstr xv2), .string (bstr xn2), .slice q2 xs.length c2] 42))) := (HRS.out.below (HI.out.trans (HBA.out.mono HI.out.size)) HRS.out.lt)
            have HC := Lib.hid (HIH.out (.mk xk xv2 xn2 xs) _ P _ (by omega) (by omega) HR.out (fun b hb => Nat.lt_of_lt_of_le (hP b hb) (Nat.le_trans HI.out.size HBA.out.size)) HRW.out)
            obtain ⟨G, hG⟩ : ∃ G, G = formE (.mk xk xv2 xn2 xs) := ⟨_, rfl⟩
            rw [← hG] at HC
            have HGD := Lib.hid hG
            have HLT : Hid (i < ks.length) := hlt
            clear hl hr hxs hxd hG
            go_wp2_with fail
            refine HC.out.mono ?_
            rintro r w5 ⟨rfl, b5⟩
            have HB5 := Lib.hid (HI.out.trans ((HBA.out.trans (b5.mono HBA.out.size)).mono HI.out.size))
            clear b5
            cases hGb : G with
            | false =>
              have HBD : Hid (formE (.mk k xv xn ks) = false) := formE_bad HLT.out (by rw [← HX.out, ← HGD.out, hGb])
              clear hGb
              go_wp2_with fail
              go_ret
              exact ⟨by rw [HBD.out]; rfl, HB5.out⟩
            | true =>
              have HGB := Lib.hid hGb
              clear hGb
              go_wp2_with fail
              go_roundw
              case rel =>
                refine ⟨i + 1, by omega, by go_num, fun j hj => ?_, HB5.out⟩
                by_cases e : j = i
                · subst e; rw [← HX.out, ← HGD.out, HGB.out]
                · exact HG.out j (by omega)
              case measure => simp [intOf]; omega
          · have hi1 : ¬ (i : Int) < ks.length := by omega
            have HBD : Hid (formE (.mk k xv xn ks) = true) := by
              show _ = _
              unfold formE
              rw [HEB.out, formL_all fun j hj => HG.out j (by omega)]; rfl
            go_wp2_with fail
            go_ret
            exact ⟨by rw [HBD.out]; rfl, HI.out⟩
end Go.Proofs.YtdnmgemjhpkekaaGreatDoor
/-
  expr.yieldLeaves and the iterator that leaves makes: what it yields.
-/
namespace Go.Proofs.YtdnmgemjhpkekaaGreatDoor
open Go.ChangeShapes Go.WideShapes Go.ChangeAt Go.RowKit
set_option linter.unusedVariables false
attribute [local go_sem] Oper.semAt_some

/-- What is handed out: a leaf, and the value that reads as it. -/
abbrev OutE := Ex × Value
def outE (x : OutE) : Array Value := #[x.2]
def fsts (l : List OutE) : List Ex := l.map Prod.fst
theorem fsts_app (a b : List OutE) : fsts (a ++ b) = fsts a ++ fsts b := List.map_append
theorem fsts_len (a : List OutE) : (fsts a).length = a.length := List.length_map _
def GoodE (P : Nat → Prop) (LV : List Ex) (pre : List OutE) (x : OutE) (W : World) : Prop := RdE P W x.1 x.2 ∧ (fsts pre ++ [x.1]) <+: LV
def YlPost (n₀ : Nat) (J Jx : List OutE → World → Prop) (ls : List Ex) (pre : List OutE) (w : World) (r : Ending) (w' : World) : Prop :=
  (r = .returned (.bool true) ∧ ∃ out, fsts out = ls ∧ J (pre ++ out) w' ∧ Below n₀ w w') ∨ (r = .returned (.bool false) ∧ ∃ out, fsts out <+: ls ∧ Jx (pre ++ out) w')
theorem prefix_app {a b c L : List Ex} (h : a ++ (b ++ c) <+: L) : a ++ b <+: L := by
  rw [← List.append_assoc] at h
  exact (List.prefix_append _ _).trans h
theorem leavesL_take : ∀ (ks : List Ex) (i : Nat), i < ks.length → leavesL (ks.take i) ++ leavesE (ks.getD i ex0) <+: leavesL ks
  | [], i, h => by simp at h
  | e :: r, 0, _ => by simp only [List.take_zero, leavesL, List.getD_cons_zero, List.nil_append]; exact List.prefix_append _ _
  | e :: r, i + 1, h => by
    have := leavesL_take r i (by simpa using h)
    simp only [List.take_succ_cons, leavesL, List.getD_cons_succ, List.append_assoc]
    exact (List.prefix_append_right_inj _).2 this
theorem prefix_mono {a b c L : List Ex} (h : a ++ b <+: L) (hc : c <+: b) : a ++ c <+: L := ((List.prefix_append_right_inj a).2 hc).trans h
theorem leaves_leaf {k : Int} {v n : List UInt8} {ks : List Ex} (h : leafK k = true) : leavesE (.mk k v n ks) = [.mk k v n ks] := by unfold leavesE; rw [if_pos h]
theorem leaves_kids {k : Int} {v n : List UInt8} {ks : List Ex} (h : ¬ leafK k = true) : leavesE (.mk k v n ks) = leavesL ks := by unfold leavesE; rw [if_neg h]
theorem drew_size (w : World) : w.drew.heap.size = w.heap.size := rfl

set_option maxRecDepth 100000 in
set_option maxHeartbeats 4000000 in
theorem yl_any (l n₀ : Nat) (P : Nat → Prop) (hP : ∀ b, P b → b < n₀) (LV : List Ex) (J Jx : List OutE → World → Prop) (HJ : Hid (∀ s A B, J s A → Below A.heap.size A B → J s B))
    (HY : Hid (∀ pre x W1, J pre W1 → GoodE P LV pre x W1 → pre.length < LV.length → YieldAt Fence.wide 4 Tryz.prog l (outE x) W1 fun e W' => (e = .returned (.bool true) ∧ J (pre ++ [x]) W' ∧ Below n₀ W1 W') ∨ (e = .returned (.bool false) ∧ Jx (pre ++ [x]) W'))) :
    ∀ (n : Nat) (e : Ex) (v : Value) (pre : List OutE) (w : World), sizeE e ≤ n → sizeE e ≤ 900000 → RdE P w e v → n₀ ≤ w.heap.size → J pre w → fsts pre ++ leavesE e <+: LV →
      Calls Tryz.prog 124 #[v, .func (.yield l) #[] #[]] w (YlPost n₀ J Jx (leavesE e) pre w) := by
  intro n
  induction n with
  | zero => intro e v pre w h; have := sizeE_pos e; omega
  | succ n ih =>
    intro e v pre w hn hm h hs hj hp
    have H := Lib.hid h
    obtain ⟨q, c, rfl, hc, hk⟩ := h.form
    obtain ⟨k, xv, xn, ks⟩ := e
    unfold exv
    show Calls _ _ #[.agg #[.int .i64 k, .string (bstr xv), .string (bstr xn), .slice q ks.length c], .func (.yield l) #[] #[]] _ _
    have HK : Hid (0 < ks.length → ∃ b o, q = some ⟨b, o, none⟩ ∧ P b ∧ RdL P w ks b o) := hk
    have hks : sizeL ks ≤ n := by unfold sizeE at hn; omega
    have hkm : sizeL ks ≤ 900000 := by unfold sizeE at hm; omega
    have hlen := sizeL_len ks
    have HIH := Lib.hid ih
    have HP := Lib.hid hP
    have HS := Lib.hid hs
    have HB0 : Hid (Below w.heap.size w (w.alloc (.cells #[.int .i64 k, .string (bstr xv), .string (bstr xn), .slice q ks.length c] 42))) := (Below.refl _ _).alloc (Nat.le_refl _) _
    have HA0 : Hid (Arr (w.alloc (.cells #[.int .i64 k, .string (bstr xv), .string (bstr xn), .slice q ks.length c] 42)) 42 w.heap.size [.int .i64 k, .string (bstr xv), .string (bstr xn), .slice q ks.length c]) := Arr.new' _ _ _ _ rfl
    have HJ0 := Lib.hid (HJ.out _ _ _ hj HB0.out)
    have HLF := Lib.hid ((isLeaf_any (H.out.below HB0.out (fun b hb => Nat.lt_of_lt_of_le (hP b hb) hs))))
    have HPR := Lib.hid hp
    obtain ⟨lf, hlf⟩ : ∃ lf, lf = leafK k := ⟨_, rfl⟩
    have HLK := Lib.hid hlf
    have HLF2 : Hid (Calls Tryz.prog 129 #[.agg #[.int .i64 k, .string (bstr xv), .string (bstr xn), .slice q ks.length c]] (w.alloc (.cells #[.int .i64 k, .string (bstr xv), .string (bstr xn), .slice q ks.length c] 42)) fun r w' => r = .returned (.bool lf) ∧ Below (w.alloc (.cells #[.int .i64 k, .string (bstr xv), .string (bstr xn), .slice q ks.length c] 42)).heap.size (w.alloc (.cells #[.int .i64 k, .string (bstr xv), .string (bstr xn), .slice q ks.length c] 42)) w') := by
      have := HLF.out
      unfold exv at this
      simp only [Ex.kind, Ex.via, Ex.nm, Ex.kids] at this
      rw [← hlf] at this
      exact this
    clear h ih hc hk hn hm hs hj hp hlf hP HLF
    go_enter Tryz.func124, Tryz.ntmps124
    go_wp2_with fail
    refine HLF2.out.mono ?_
    rintro r w2 ⟨rfl, b2⟩
    have HJ2 := Lib.hid (HJ.out _ _ _ HJ0.out b2)
    have HA2 := Lib.hid (HA0.out.later b2)
    have HB2 := Lib.hid (HB0.out.trans (b2.mono HB0.out.size))
    clear b2 HJ0 HA0 HB0 HLF2
    have a0 := HA2.out.cell 0
    have a1 := HA2.out.cell 1
    have a2 := HA2.out.cell 2
    have a3 := HA2.out.cell 3
    simp only [List.getElem?_cons_zero, List.getElem?_cons_succ] at a0 a1 a2 a3
    cases lf with
    | true =>
      have HL : Hid (leavesE (.mk k xv xn ks) = [.mk k xv xn ks]) := leaves_leaf HLK.out.symm
      have HR2 := Lib.hid (H.out.below HB2.out (fun b hb => Nat.lt_of_lt_of_le (HP.out b hb) HS.out))
      have HG : Hid (GoodE P LV pre (.mk k xv xn ks, .agg #[.int .i64 k, .string (bstr xv), .string (bstr xn), .slice q ks.length c]) w2) := ⟨HR2.out, by have := HPR.out; rw [HL.out] at this; exact this⟩
      have HYY := Lib.hid (HY.out pre _ w2 HJ2.out HG.out (by have := HG.out.2.length_le; rw [List.length_append, fsts_len, List.length_singleton] at this; omega))
      go_upto_region 2 with (fail)
      obtain ⟨fn, tmps, assign, body, hy, hR⟩ := HYY.out
      dsimp only [outE] at hy
      refine (wpIn_wide (n := 5)).1 ?_
      gi_wp2
      refine hR.mono ?_
      rintro e W3 (⟨rfl, hJ3, hk3⟩ | ⟨rfl, hJx3⟩)
      · have HJ3 := Lib.hid (And.intro hJ3 ((HB2.out.mono HS.out).trans hk3))
        clear hJ3 hk3 hy hR
        gi_wp2
        go_wp2_with fail
        go_ret
        exact .inl ⟨rfl, _, by rw [HL.out]; rfl, HJ3.out.1, HJ3.out.2⟩
      · have HJ3 := Lib.hid hJx3
        clear hJx3 hy hR
        gi_wp2
        go_wp2_with fail
        go_ret
        exact .inr ⟨rfl, _, by rw [HL.out]; exact List.prefix_refl _, HJ3.out⟩
    | false =>
      have HL : Hid (leavesE (.mk k xv xn ks) = leavesL ks) := leaves_kids (by rw [← HLK.out]; exact Bool.false_ne_true)
      have HM0 : Hid (∃ out, fsts out = leavesL (ks.take 0) ∧ J (pre ++ out) w2 ∧ Below n₀ w w2) := ⟨[], by simp [fsts, leavesL], by rw [List.append_nil]; exact HJ2.out, HB2.out.mono HS.out⟩
      clear HJ2 HA2 HB2 HLK H
      go_wp2_with fail
      go_loopw [15] (fun iv wr => ∃ i : Nat, iv = .int .i64 i ∧ i ≤ ks.length ∧ Hid (∃ out, fsts out = leavesL (ks.take i) ∧ J (pre ++ out) wr ∧ Below n₀ w wr)) (fun iv _ => ks.length - (intOf iv).toNat)
      case atStart => exact ⟨0, rfl, Nat.zero_le _, HM0.out⟩
      case round =>
        obtain ⟨i, rfl, hi, HM⟩ := hrel
        clear HM0 a0 a1 a2 a3
        have hi0 : (0 : Int) ≤ i := by omega
        obtain ⟨out, ho, hjw, hbw⟩ := HM.out
        have HO := Lib.hid ho
        have HJW := Lib.hid hjw
        have HI := Lib.hid hbw
        clear ho hjw hbw HM
        by_cases hlt : i < ks.length
        · have hi1 : (i : Int) < ks.length := by omega
          have hP := HP.out
          obtain ⟨ba, oa, rfl, hba, hl⟩ := HK.out (by omega)
          obtain ⟨x, hx⟩ : ∃ x, x = ks.getD i ex0 := ⟨_, rfl⟩
          obtain ⟨q2, c2, x0, x1, x2, x3, hr⟩ := hl.at hlt
          have hxs := sizeL_get ks i hlt
          have hxd := depthL_get ks i hlt
          rw [← hx] at x0 x1 x2 x3 hr hxs hxd
          have HX := Lib.hid hx
          obtain ⟨xk, xv2, xn2, xs⟩ := x
          have cc : ∀ n, wr.cell? ⟨ba, n, none⟩ = w.cell? ⟨ba, n, none⟩ := fun n => (HI.out).cell (p := ⟨ba, n, none⟩) (hP _ hba)
          have X0 : wr.cell? ⟨ba, oa + i * 4, none⟩ = some (.int .i64 xk) := (cc _).trans x0
          have X1 : wr.cell? ⟨ba, oa + i * 4 + 1, none⟩ = some (.string (bstr xv2)) := (cc _).trans x1
          have X2 : wr.cell? ⟨ba, oa + i * 4 + 2, none⟩ = some (.string (bstr xn2)) := (cc _).trans x2
          have X3 : wr.cell? ⟨ba, oa + i * 4 + 3, none⟩ = some (.slice q2 xs.length c2) := (cc _).trans x3
          clear x0 x1 x2 x3 cc hx
          have HBA : Hid (Below wr.heap.size wr (wr.alloc (.cells #[.int .i64 xk, .string (bstr xv2), .string (bstr xn2), .slice q2 xs.length c2] 42))) := (Below.refl _ _).alloc (Nat.le_refl _) _
          have HR : Hid (RdE P (wr.alloc (.cells #[.int .i64 xk, .string (bstr xv2), .string (bstr xn2), .slice q2 xs.length c2] 42)) (.mk xk xv2 xn2 xs) (.agg #[.int .i64 xk, .string (bstr xv2), .string (bstr xn2), .slice q2 xs.length c2])) := (hr.below HI.out hP).below HBA.out (fun b hb => Nat.lt_of_lt_of_le (hP b hb) (Nat.le_trans HS.out HI.out.size))
          have HTK : Hid (ks.take (i + 1) = ks.take i ++ [.mk xk xv2 xn2 xs]) := by show _ = _; rw [take_snocE hlt, ← HX.out]
          have HPX : Hid (fsts (pre ++ out) ++ leavesE (.mk xk xv2 xn2 xs) <+: LV) := by
            show _ <+: _
            have h1 := HPR.out
            rw [HL.out] at h1
            have h2 := prefix_mono h1 (leavesL_take ks i hlt)
            rw [← HX.out, ← HO.out, ← List.append_assoc, ← fsts_app] at h2
            exact h2
          have HC := Lib.hid (HIH.out (.mk xk xv2 xn2 xs) _ (pre ++ out) _ (by omega) (by omega) HR.out (Nat.le_trans (Nat.le_trans HS.out HI.out.size) HBA.out.size) (HJ.out _ _ _ HJW.out HBA.out) HPX.out)
          clear hl hr hxs hxd hba hP
          go_wp2_with fail
          refine HC.out.mono ?_
          rintro r w5 (⟨rfl, o2, ho2, hj2, hb2⟩ | ⟨rfl, o2, ho2, hj2⟩)
          · have HJ5 : Hid (∃ out, fsts out = leavesL (ks.take (i + 1)) ∧ J (pre ++ out) w5 ∧ Below n₀ w w5) :=
              ⟨out ++ o2, by rw [fsts_app, HO.out, ho2, HTK.out, leavesL_snoc], by rw [← List.append_assoc]; exact hj2, (HI.out.trans (HBA.out.mono (Nat.le_trans HS.out HI.out.size))).trans hb2⟩
            clear ho2 hj2 hb2
            go_wp2_with fail
            go_roundw
            case rel => exact ⟨i + 1, by go_num, by omega, HJ5.out⟩
            case measure => simp [intOf]; omega
          · have HJ5 : Hid (∃ out, fsts out <+: leavesL ks ∧ Jx (pre ++ out) w5) :=
              ⟨out ++ o2, by
                rw [fsts_app, HO.out]
                have h2 := leavesL_take ks i hlt
                rw [← HX.out] at h2
                exact prefix_mono h2 ho2, by rw [← List.append_assoc]; exact hj2⟩
            clear ho2 hj2
            go_wp2_with fail
            go_ret
            exact .inr ⟨rfl, by rw [HL.out]; exact HJ5.out⟩
        · have hi1 : ¬ (i : Int) < ks.length := by omega
          have HK2 : Hid (ks.take i = ks) := List.take_of_length_le (by omega)
          go_wp2_with fail
          go_ret
          exact .inl ⟨rfl, out, by rw [HL.out, HO.out, HK2.out], HJW.out, HI.out⟩
theorem leaves1_reads (P : Nat → Prop) (n₀ : Nat) (w : World) (g : Nat) (q : Option Addr) (c : Nat) (e : Ex) (hm : sizeE e ≤ 900000) (hA : Arr w 42 g [.int .i64 e.kind, .string (bstr e.via), .string (bstr e.nm), .slice q e.kids.length c]) (h : RdE P w e (exv e q c)) (hP : ∀ b, P b → b < n₀) (hn : n₀ ≤ w.heap.size) :
    SeqReads Fence.wide 5 Tryz.prog 123 #[.pointer (some ⟨g, 0, none⟩)] outE n₀ (GoodE P (leavesE e)) (fun xs => fsts xs = leavesE e) (fun xs => fsts xs <+: leavesE e) (leavesE e).length w := by
  intro l J Jx W hW hJ hJx hY h0
  refine callsIn_wide.2 ?_
  have hy := yl_any l n₀ P hP (leavesE e) J Jx hJ hY _ e _ [] W (Nat.le_refl _) hm (h.below hW fun b hb => Nat.lt_of_lt_of_le (hP b hb) hn) (Nat.le_trans hn hW.size) h0 (by simp [fsts])
  obtain ⟨k, xv, xn, ks⟩ := e
  unfold exv at hy
  simp only [Ex.kind, Ex.via, Ex.nm, Ex.kids] at hy hA
  have HY := Lib.hid hy
  have a0 := (hA.later hW).cell 0
  have a1 := (hA.later hW).cell 1
  have a2 := (hA.later hW).cell 2
  have a3 := (hA.later hW).cell 3
  simp only [List.getElem?_cons_zero, List.getElem?_cons_succ] at a0 a1 a2 a3
  clear hy hA h hP hn hW hJ hJx hY h0
  go_enter Tryz.func123, Tryz.ntmps123
  go_wp2_with fail
  refine HY.out.mono ?_
  rintro r w5 (⟨rfl, o2, ho2, hj2, hb2⟩ | ⟨rfl, o2, ho2, hj2⟩)
  · have HO := Lib.hid (And.intro ho2 hj2)
    clear ho2 hj2 hb2
    go_wp2_with fail
    go_end0
    exact ⟨⟨_, rfl⟩, .inl ⟨o2, HO.out.1, HO.out.2⟩⟩
  · have HO := Lib.hid (And.intro ho2 hj2)
    clear ho2 hj2
    go_wp2_with fail
    go_end0
    exact ⟨⟨_, rfl⟩, .inr ⟨o2, HO.out.1, HO.out.2⟩⟩
theorem turns_good (P : Nat → Prop) (LV : List Ex) (B : Nat) (hP : ∀ b, P b → b < B) (pre : List OutE) (x : OutE) : Turns B (GoodE P LV pre x) := fun W l o o' hl h ho hx =>
  ⟨hx.1.keep fun b hb n => World.cell?_of_block (World.putObj_heap_other (by have := hP b hb; show b ≠ l; omega)), hx.2⟩
end Go.Proofs.YtdnmgemjhpkekaaGreatDoor
/-
  expr.Right.
-/
namespace Go.Proofs.YtdnmgemjhpkekaaGreatDoor
open Go.ChangeShapes Go.WideShapes Go.ChangeAt Go.RowKit
set_option linter.unusedVariables false
attribute [local go_sem] Oper.semAt_some

mutual
theorem leaves_size : ∀ e : Ex, (leavesE e).length ≤ sizeE e
  | .mk k v n ks => by
    unfold leavesE sizeE
    split
    · simp
    · have := leavesL_size ks; omega
theorem leavesL_size : ∀ ks : List Ex, (leavesL ks).length ≤ sizeL ks
  | [] => by simp [leavesL]
  | e :: r => by
    unfold leavesL sizeL
    have := leaves_size e
    have := leavesL_size r
    simp only [List.length_append]; omega
end
def rightE (e : Ex) : Bool := decide ((leavesE e).length ≤ 32) && (decide (depthE e ≤ 16) && formE e)
def RI (w : World) (A : List Value) (pre : List OutE) (W : World) : Prop := Arr W 3 (w.heap.size + 1) [.int .i64 (pre.length : Nat)] ∧ Arr W 42 w.heap.size A ∧ Below w.heap.size w W
theorem RI.later {w : World} {A : List Value} {pre : List OutE} {W W' : World} (h : RI w A pre W) (hb : Below W.heap.size W W') : RI w A pre W' := ⟨h.1.later hb, h.2.1.later hb, h.2.2.trans (hb.mono h.2.2.size)⟩
theorem RI.turns {w : World} {A : List Value} {B : Nat} (hB : w.heap.size + 1 < B) (pre : List OutE) : Turns B (RI w A pre) := fun W l o o' hl h ho hx =>
  ⟨arr_turn (by omega) hx.1, arr_turn (by omega) hx.2.1, hx.2.2.trans (below_put W l o' (by omega))⟩
set_option maxRecDepth 100000 in
set_option maxHeartbeats 4000000 in
theorem eright_any (e : Ex) (v : Value) (P : Nat → Prop) (w : World) (hm : sizeE e ≤ 900000) (h : RdE P w e v) (hP : ∀ b, P b → b < w.heap.size) (hr : ResT w) : Calls Tryz.prog 104 #[v] w fun r w' => r = .returned (.bool (rightE e)) ∧ Below w.heap.size w w' := by
  have H := Lib.hid h
  have HP := Lib.hid hP
  have HRT := Lib.hid hr
  have HM := Lib.hid hm
  obtain ⟨q, c, rfl, hc, hk⟩ := h.form
  obtain ⟨k, xv, xn, ks⟩ := e
  unfold exv
  show Calls _ _ #[.agg #[.int .i64 k, .string (bstr xv), .string (bstr xn), .slice q ks.length c]] _ _
  have hsz := leaves_size (.mk k xv xn ks)
  obtain ⟨E, hE⟩ : ∃ E, E = Ex.mk k xv xn ks := ⟨_, rfl⟩
  rw [← hE] at hsz HM H ⊢
  have HEE := Lib.hid hE
  obtain ⟨N, hN⟩ : ∃ N, N = (leavesE E).length := ⟨_, rfl⟩
  have HN := Lib.hid hN
  have hn1 : N ≤ 900000 := by have := HM.out; omega
  clear h hk hc hm hP hr hsz hE hN
  refine calls_marks Tryz.func104 rfl ?_
  simp only [Tryz.ntmps104, List.size_toArray, List.length_cons, List.length_nil, Nat.reduceAdd, Nat.reduceSub, Array.replicate_succ, Array.replicate_zero, List.push_toArray, List.append_toArray, List.nil_append, List.cons_append]
  go_wp2_with fail
  refine (mkLeaves_any k xv xn q ks.length c _).mono ?_
  rintro r w3 ⟨rfl, rfl⟩
  have HR0 : Hid (RI w [.int .i64 k, .string (bstr xv), .string (bstr xn), .slice q ks.length c] [] (((w.alloc (.cells #[.int .i64 k, .string (bstr xv), .string (bstr xn), .slice q ks.length c] 42)).alloc (.cells #[.int .i64 0] 3)).alloc (.cells #[.int .i64 k, .string (bstr xv), .string (bstr xn), .slice q ks.length c] 42))) :=
    ⟨(Arr.new2 w _ 3 #[.int .i64 0] _ rfl).alloc _, ((Arr.new' w _ _ _ rfl).alloc _).alloc _, (((Below.refl _ _).alloc (Nat.le_refl _) _).alloc (by simp) _).alloc (by simp; omega) _⟩
  have HA3 : Hid (Arr (((w.alloc (.cells #[.int .i64 k, .string (bstr xv), .string (bstr xn), .slice q ks.length c] 42)).alloc (.cells #[.int .i64 0] 3)).alloc (.cells #[.int .i64 k, .string (bstr xv), .string (bstr xn), .slice q ks.length c] 42)) 42 (w.heap.size + 2) [.int .i64 k, .string (bstr xv), .string (bstr xn), .slice q ks.length c]) := Arr.new3 w _ _ _ _ _ rfl
  have HSZ : Hid (w.heap.size + 2 < (((w.alloc (.cells #[.int .i64 k, .string (bstr xv), .string (bstr xn), .slice q ks.length c] 42)).alloc (.cells #[.int .i64 0] 3)).alloc (.cells #[.int .i64 k, .string (bstr xv), .string (bstr xn), .slice q ks.length c] 42)).heap.size) := by show _ < _; simp
  simp only [World.size_alloc]
  rw [show w.heap.size + 1 + 1 = w.heap.size + 2 from rfl]
  generalize (((w.alloc (.cells #[.int .i64 k, .string (bstr xv), .string (bstr xn), .slice q ks.length c] 42)).alloc (.cells #[.int .i64 0] 3)).alloc (.cells #[.int .i64 k, .string (bstr xv), .string (bstr xn), .slice q ks.length c] 42)) = w0 at HR0 HA3 HSZ ⊢
  have HSEQ : Hid (SeqReads Fence.wide 5 Tryz.prog 123 #[.pointer (some ⟨w.heap.size + 2, 0, none⟩)] outE w.heap.size (GoodE P (leavesE E)) (fun xs => fsts xs = leavesE E) (fun xs => fsts xs <+: leavesE E) N w0) := by
    show SeqReads _ _ _ _ _ _ _ _ _ _ _ _
    rw [HN.out]
    refine leaves1_reads P w.heap.size w0 (w.heap.size + 2) q c E HM.out ?_ ?_ HP.out HR0.out.2.2.size
    · rw [HEE.out]; exact HA3.out
    · rw [HEE.out]; have := H.out.below HR0.out.2.2 HP.out; rw [HEE.out] at this; exact this
  go_upto_block 0 with fail
  refine wp_block_range (gf := 123) (lb := #[.pointer (some ⟨w.heap.size + 2, 0, none⟩)]) rfl (enters_of Tryz.func123 (by kernel_rfl) rfl) HSEQ.out HR0.out.2.2.size (fun pre x => turns_good P (leavesE E) _ (fun b hb => Nat.lt_of_lt_of_le (HP.out b hb) HR0.out.2.2.size) pre x) (fun _ => rfl)
    (RI w [.int .i64 k, .string (bstr xv), .string (bstr xn), .slice q ks.length c]) (fun _ _ => False) (fun _ _ _ h hb => h.later hb) (fun _ _ _ h _ => h.elim) (fun pre => RI.turns (by have := HSZ.out; omega) pre) (fun _ _ _ _ _ _ _ _ h => h.elim)
    HR0.out (fun x t => t.setIfInBounds 6 x.2) ?assign0 ?body0 ?done0
  case assign0 =>
    intro lq x W K hK
    dsimp only [outE] at hK ⊢
    simp only [List.setIfInBounds_toArray, List.set_cons_zero, List.set_cons_succ] at hK
    gi_wp2
    simpa using hK
  case body0 =>
    rintro lq pre x W HI HG hlen
    have HII := Lib.hid HI
    obtain ⟨m, hm⟩ : ∃ m, m = pre.length := ⟨_, rfl⟩
    have ht := HI.1.cell 0
    have hf := HI.1.free 0
    rw [← hm] at ht
    simp only [List.getElem?_cons_zero] at ht
    have hm4 : (m : Int) ≤ 900000 := by omega
    have hm0 : (0 : Int) ≤ m := by omega
    have HMM := Lib.hid hm
    clear HI HG hlen hm
    simp only [List.setIfInBounds_toArray, List.set_cons_zero, List.set_cons_succ]
    gi_wp2
    refine ⟨KeepsOthers.setCell _ _ _, (Below.refl w.heap.size W).setCell (p := ⟨w.heap.size + 1, 0, none⟩) (by simp) _, ?_, HII.out.2.1.setCell (by simp) _, HII.out.2.2.setCell (p := ⟨w.heap.size + 1, 0, none⟩) (by simp) _⟩
    have := HII.out.1.set 0 (.int .i64 ((m : Int) + 1))
    rw [List.length_append, List.length_singleton, Int.natCast_add, ← HMM.out]
    exact this
  case done0 =>
    rintro D0 xs W hDD hxs hK
    obtain ⟨h1, h2⟩ : fsts xs = leavesE E ∧ RI w [.int .i64 k, .string (bstr xv), .string (bstr xn), .slice q ks.length c] xs W := by
      rcases hxs with h | h
      · exact h
      · exact h.elim
    have hlen : xs.length = N := by rw [HN.out, ← h1, fsts_len]
    have ht := h2.1.cell 0
    have a0 := h2.2.1.cell 0
    have a1 := h2.2.1.cell 1
    have a2 := h2.2.1.cell 2
    have a3 := h2.2.1.cell 3
    simp only [List.getElem?_cons_zero, List.getElem?_cons_succ] at ht a0 a1 a2 a3
    rw [hlen] at ht
    have HW := Lib.hid h2
    have HKD := Lib.hid hK
    have HDD := Lib.hid hDD
    have hEW : RdE P W E (.agg #[.int .i64 k, .string (bstr xv), .string (bstr xn), .slice q ks.length c]) := by
      have := H.out.below HW.out.2.2 HP.out
      rw [HEE.out] at this ⊢
      exact this
    have HEW := Lib.hid hEW
    have HPW : Hid (∀ b, P b → b < W.heap.size) := fun b hb => Nat.lt_of_lt_of_le (HP.out b hb) HW.out.2.2.size
    have HDP := Lib.hid (depth_any _ E _ P W (Nat.le_refl _) (by have := HM.out; omega) hEW HPW.out)
    obtain ⟨d, hd⟩ : ∃ d, d = depthE E := ⟨_, rfl⟩
    obtain ⟨f, hf⟩ : ∃ f, f = formE E := ⟨_, rfl⟩
    have HRE : Hid (rightE E = (decide (N ≤ 32) && (decide (d ≤ 16) && f))) := by show _ = _; unfold rightE; rw [hd, hf, HN.out]
    rw [← hd] at HDP
    have HF := Lib.hid hf
    have HD0 : Hid (D0 < W.heap.size) := (Array.getElem?_eq_some_iff.1 hK).1
    have HWD : Hid (w.heap.size ≤ D0) := Nat.le_trans HR0.out.2.2.size hDD
    clear h1 h2 hlen hxs hK hDD hEW hd hf
    by_cases hN : N ≤ 32
    · have hN1 : (N : Int) ≤ 32 := by omega
      go_wp2_with fail
      refine HDP.out.mono ?_
      rintro r w5 ⟨rfl, b5⟩
      have HB5 := Lib.hid b5
      have HK5 : Hid (w5.heap[D0]? = some (.deferred (some []))) := (b5.block D0 HD0.out).trans HKD.out
      have z0 := (HW.out.2.1.later b5).cell 0
      have z1 := (HW.out.2.1.later b5).cell 1
      have z2 := (HW.out.2.1.later b5).cell 2
      have z3 := (HW.out.2.1.later b5).cell 3
      simp only [List.getElem?_cons_zero, List.getElem?_cons_succ] at z0 z1 z2 z3
      have HW5 := Lib.hid (HW.out.2.2.trans (b5.mono HW.out.2.2.size))
      have HPT := Lib.hid (parts_any _ E _ P w5 (Nat.le_refl _) HM.out (HEW.out.below b5 HPW.out) (fun b hb => Nat.lt_of_lt_of_le (HPW.out b hb) b5.size) (HRT.out.below HW5.out HRT.out.lt))
      rw [← HF.out] at HPT
      clear b5
      by_cases hd : d ≤ 16
      · have hd1 : (d : Int) ≤ 16 := by omega
        have HFIN : Hid (rightE E = f) := by show _ = _; rw [HRE.out, decide_eq_true hN, decide_eq_true hd]; rfl
        go_wp2_with fail
        refine HPT.out.mono ?_
        rintro r w6 ⟨rfl, b6⟩
        have HK6 : Hid (w6.heap[D0]? = some (.deferred (some []))) := (b6.block D0 (Array.getElem?_eq_some_iff.1 HK5.out).1).trans HK5.out
        have HW6 := Lib.hid (HW5.out.trans (b6.mono HW5.out.size))
        clear b6
        go_wp2_with fail
        refine ⟨by simp, .inl ⟨D0, _, rfl, run_takeDeferred HK6.out, ?_⟩⟩
        exact ⟨_, results_tmp rfl _ _ _, by rw [HFIN.out]; rfl, HW6.out.trans (below_put w6 _ _ HWD.out)⟩
      · have hd1 : ¬ (d : Int) ≤ 16 := by omega
        have HFIN : Hid (rightE E = false) := by show _ = _; rw [HRE.out, decide_eq_true hN, decide_eq_false hd]; rfl
        go_wp2_with fail
        refine ⟨by simp, .inl ⟨D0, _, rfl, run_takeDeferred HK5.out, ?_⟩⟩
        exact ⟨_, results_tmp rfl _ _ _, by rw [HFIN.out]; rfl, HW5.out.trans (below_put w5 _ _ HWD.out)⟩
    · have hN1 : ¬ (N : Int) ≤ 32 := by omega
      have HFIN : Hid (rightE E = false) := by show _ = _; rw [HRE.out, decide_eq_false hN]; rfl
      go_wp2_with fail
      refine ⟨by simp, .inl ⟨D0, _, rfl, run_takeDeferred HKD.out, ?_⟩⟩
      exact ⟨_, results_tmp rfl _ _ _, by rw [HFIN.out]; rfl, HW.out.2.2.trans (below_put W _ _ HWD.out)⟩
end Go.Proofs.YtdnmgemjhpkekaaGreatDoor
/-
  Gathers what CoA and CoB lean on.
-/

/-
  Expressions as bytes: what is read from bytes, and what is written; no program is spoken of.
-/
namespace Go.Proofs.YtdnmgemjhpkekaaGreatDoor
open Go.ChangeShapes Go.WideShapes Go.ChangeAt Go.RowKit
set_option linter.unusedVariables false

/-- What reading gives: a code and its offset, or what was read, the next offset and the number of leaves. -/
inductive Rs (α : Type) where
  | bad (c o : Nat)
  | ok (x : α) (o lv : Nat)
def Rs.then {α β : Type} : Rs α → (α → Nat → Nat → Rs β) → Rs β
  | .bad c o, _ => .bad c o
  | .ok x o lv, f => f x o lv
theorem then_ok {α β : Type} {r : Rs α} {f : α → Nat → Nat → Rs β} {y : β} {o lv : Nat} (h : r.then f = .ok y o lv) : ∃ x o1 l1, r = .ok x o1 l1 ∧ f x o1 l1 = .ok y o lv := by
  cases r with
  | bad c o => cases h
  | ok x o1 l1 => exact ⟨x, o1, l1, rfl, h⟩
def nameR (b : List UInt8) (emp : Bool) (o lv : Nat) : Rs (List UInt8) :=
  if (partP 64 (b.drop o)).2.2 ≠ 0 then .bad (partP 64 (b.drop o)).2.2 o
  else if isName (bstr (partP 64 (b.drop o)).1) = true ∨ emp = true ∧ (partP 64 (b.drop o)).1 = [] then .ok (partP 64 (b.drop o)).1 (o + (partP 64 (b.drop o)).2.1) lv
  else .bad 5 o
def numK (b : List UInt8) (lo hi high : Nat) (o lv : Nat) : Rs Nat :=
  if (num (b.drop o)).2.2 ≠ 0 then .bad (num (b.drop o)).2.2 o
  else if hi < (num (b.drop o)).1 then .bad high o
  else if (num (b.drop o)).1 < lo then .bad 6 o
  else .ok (num (b.drop o)).1 (o + (num (b.drop o)).2.1) lv
def manyR {α : Type} (f : Nat → Nat → Rs α) : Nat → Nat → Nat → Rs (List α)
  | 0, o, lv => .ok [] o lv
  | n + 1, o, lv => (f o lv).then fun x o1 l1 => (manyR f n o1 l1).then fun xs o2 l2 => .ok (x :: xs) o2 l2
def leafR (b : List UInt8) (k o lv : Nat) : Rs Ex :=
  if k = 2 then (nameR b false o lv).then fun v o1 l1 => (nameR b false o1 l1).then fun n o2 l2 => .ok (.mk 2 v n []) o2 (l2 + 1)
  else (nameR b false o lv).then fun n o2 l2 => .ok (.mk 1 [] n []) o2 (l2 + 1)
def kidsR (b : List UInt8) (k o lv : Nat) : Rs Nat := if k < 5 then numK b 2 32 15 o lv else .ok 2 o lv
/-- An expression with d levels left. -/
def readE (b : List UInt8) : Nat → Nat → Nat → Rs Ex
  | 0, o, lv => (numK b 1 5 6 o lv).then fun _ _ _ => .bad 7 o
  | d + 1, o, lv => (numK b 1 5 6 o lv).then fun k o1 l1 =>
    if k < 3 then (if 32 ≤ lv then .bad 15 o else leafR b k o1 l1)
    else (kidsR b k o1 l1).then fun n o2 l2 => (manyR (readE b d) n o2 l2).then fun ks o3 l3 => .ok (.mk (k : Nat) [] [] ks) o3 l3
/-- A whole string of bytes as an expression. -/
def parseEx (b : List UInt8) : Ex × Nat × Nat :=
  match readE b 16 0 0 with
  | .bad c o => (ex0, c, o)
  | .ok e o _ => if o < b.length then (ex0, 16, o) else (e, 0, 0)
/-! ### what is written -/
mutual
def putE : Ex → List UInt8
  | .mk k v n ks => put k.toNat ++ ((if k = 2 then putS (bstr v) else []) ++ ((if k < 3 then putS (bstr n) else []) ++ ((if k = 3 ∨ k = 4 then put ks.length else []) ++ putEs ks)))
def putEs : List Ex → List UInt8
  | [] => []
  | e :: r => putE e ++ putEs r
end
theorem putEs_snoc : ∀ (l : List Ex) (e : Ex), putEs (l ++ [e]) = putEs l ++ putE e
  | [], e => by simp [putEs]
  | a :: r, e => by rw [List.cons_append, putEs, putEs_snoc r e, putEs, List.append_assoc]
/-! ### reading in order -/
theorem numK_ok {b : List UInt8} {lo hi high o lv x o1 l1 : Nat} (ho : o ≤ b.length) (h : numK b lo hi high o lv = .ok x o1 l1) : lo ≤ x ∧ x ≤ hi ∧ l1 = lv ∧ o < o1 ∧ o1 ≤ b.length ∧ b.drop o = put x ++ b.drop o1 := by
  unfold numK at h
  split at h
  · cases h
  split at h
  · cases h
  split at h
  · cases h
  rename_i h1 h2 h3
  have h1' := Classical.not_not.1 h1
  cases h
  obtain ⟨b1, b2⟩ := num_back h1'
  obtain ⟨c1, c2, c3⟩ := num_at h1'
  rw [List.length_drop] at c2
  refine ⟨by omega, by omega, rfl, by omega, by omega, ?_⟩
  rw [← b1, ← List.drop_drop, List.take_append_drop]
theorem nameR_ok {b : List UInt8} {emp : Bool} {o lv : Nat} {s : List UInt8} {o1 l1 : Nat} (ho : o ≤ b.length) (h : nameR b emp o lv = .ok s o1 l1) : (isName (bstr s) = true ∨ emp = true ∧ s = []) ∧ s.length ≤ 64 ∧ l1 = lv ∧ o ≤ o1 ∧ o1 ≤ b.length ∧ b.drop o = putS (bstr s) ++ b.drop o1 := by
  unfold nameR at h
  split at h
  · cases h
  split at h
  · rename_i h1 h2
    have h1' := Classical.not_not.1 h1
    cases h
    obtain ⟨b1, b2, b3, b4⟩ := part_back h1'
    rw [List.length_drop] at b3
    refine ⟨h2, b1, rfl, by omega, by omega, ?_⟩
    rw [show putS (bstr (partP 64 (b.drop o)).1) = _ from b2, ← List.drop_drop, List.take_append_drop]
  · cases h
theorem numK_put {b : List UInt8} {lo hi high o lv x : Nat} {r : List UInt8} (hx : x < lim64) (h1 : lo ≤ x) (h2 : x ≤ hi) (h : b.drop o = put x ++ r) : numK b lo hi high o lv = .ok x (o + (put x).length) lv := by
  unfold numK
  rw [h, num_put hx r]
  simp only []
  rw [if_neg (by simp), if_neg (by omega), if_neg (by omega)]
theorem nameR_put {b : List UInt8} {emp : Bool} {o lv : Nat} {s r : List UInt8} (hs : isName (bstr s) = true ∨ emp = true ∧ s = []) (hl : s.length ≤ 64) (h : b.drop o = putS (bstr s) ++ r) : nameR b emp o lv = .ok s (o + (putS (bstr s)).length) lv := by
  have hp := part_put (most := 64) r (by rw [bstr_size]; exact hl) (by omega)
  rw [← h] at hp
  unfold nameR
  simp only [hp, bstr_data]
  rw [if_neg (by simp)]
  exact if_pos hs
theorem drop_next {b : List UInt8} {o : Nat} {p r : List UInt8} (h : b.drop o = p ++ r) : b.drop (o + p.length) = r := by
  rw [← List.drop_drop, h, List.drop_left' rfl]
theorem name_len {s : List UInt8} (h : isName (bstr s) = true) : s.length ≤ 64 := by
  have := name_size h
  rwa [bstr_size] at this
/-! ### what was read is what was written -/
theorem many_back {α : Type} {f : Nat → Nat → Rs α} {B : Nat} {b : List UInt8} (R : α → Prop) (L : α → Nat) (pt : α → List UInt8)
    (hf : ∀ o lv x o1 l1, o ≤ b.length → lv ≤ 32 → f o lv = .ok x o1 l1 → R x ∧ l1 = lv + L x ∧ l1 ≤ 32 ∧ o ≤ o1 ∧ o1 ≤ b.length ∧ b.drop o = pt x ++ b.drop o1) :
    ∀ (n o lv : Nat) (xs : List α) (o1 l1 : Nat), o ≤ b.length → lv ≤ 32 → manyR f n o lv = .ok xs o1 l1 → xs.length = n ∧ (∀ x ∈ xs, R x) ∧ l1 = lv + (xs.map L).sum ∧ l1 ≤ 32 ∧ o ≤ o1 ∧ o1 ≤ b.length ∧ b.drop o = (xs.map pt).flatten ++ b.drop o1
  | 0, o, lv, xs, o1, l1, ho, hl, h => by
    cases h
    exact ⟨rfl, by simp, by simp, hl, Nat.le_refl _, ho, by simp⟩
  | n + 1, o, lv, xs, o1, l1, ho, hl, h => by
    unfold manyR at h
    obtain ⟨x, oa, la, e1, h⟩ := then_ok h
    obtain ⟨ys, ob, lb, e2, h⟩ := then_ok h
    cases h
    obtain ⟨a1, a2, a3, a4, a5, a6⟩ := hf _ _ _ _ _ ho hl e1
    obtain ⟨c1, c2, c3, c4, c5, c6, c7⟩ := many_back (B := B) R L pt hf n _ _ _ _ _ a5 a3 e2
    refine ⟨by rw [List.length_cons, c1], ?_, ?_, c4, by omega, c6, ?_⟩
    · intro y hy
      rcases List.mem_cons.1 hy with rfl | hy
      · exact a1
      · exact c2 y hy
    · rw [List.map_cons, List.sum_cons]; omega
    · rw [a6, c7, List.map_cons, List.flatten_cons, List.append_assoc]
theorem putEs_flat : ∀ l : List Ex, (l.map putE).flatten = putEs l
  | [] => rfl
  | e :: r => by rw [List.map_cons, List.flatten_cons, putEs_flat r, putEs]
theorem leaves_sum : ∀ l : List Ex, (l.map fun e => (leavesE e).length).sum = (leavesL l).length
  | [] => rfl
  | e :: r => by rw [List.map_cons, List.sum_cons, leaves_sum r, leavesL, List.length_append]
theorem formL_ofall : ∀ {l : List Ex}, (∀ e ∈ l, formE e = true) → formL l = true
  | [], _ => by unfold formL; rfl
  | e :: r, h => by unfold formL; rw [h e (by simp), formL_ofall fun x hx => h x (by simp [hx])]; rfl
theorem depthL_all : ∀ {l : List Ex} {d : Nat}, (∀ e ∈ l, depthE e ≤ d) → depthL l ≤ d
  | [], _, _ => by unfold depthL; exact Nat.zero_le _
  | e :: r, d, h => by
    unfold depthL
    have := h e (by simp)
    have := depthL_all (l := r) (d := d) fun x hx => h x (by simp [hx])
    omega
theorem leaf_back {b : List UInt8} {k o lv : Nat} {e : Ex} {o1 l1 : Nat} (hk : k = 1 ∨ k = 2) (ho : o ≤ b.length) (h : leafR b k o lv = .ok e o1 l1) : formE e = true ∧ depthE e = 1 ∧ (leavesE e).length = 1 ∧ l1 = lv + 1 ∧ o ≤ o1 ∧ o1 ≤ b.length ∧ put k ++ b.drop o = putE e ++ b.drop o1 := by
  unfold leafR at h
  rcases hk with rfl | rfl
  · rw [if_neg (by decide)] at h
    obtain ⟨n, oa, la, e1, h⟩ := then_ok h
    cases h
    obtain ⟨a1, a2, rfl, a4, a5, a6⟩ := nameR_ok ho e1
    have hn : isName (bstr n) = true := by rcases a1 with a | ⟨a, _⟩ <;> first | exact a | cases a
    refine ⟨by simp [formE, formL, partB, hn], by simp [depthE, depthL], by simp [leavesE, leafK], rfl, a4, a5, ?_⟩
    rw [a6]
    simp [putE, putEs]
  · rw [if_pos rfl] at h
    obtain ⟨v, oa, la, e1, h⟩ := then_ok h
    obtain ⟨n, ob, lb, e2, h⟩ := then_ok h
    cases h
    obtain ⟨a1, a2, rfl, a4, a5, a6⟩ := nameR_ok ho e1
    obtain ⟨c1, c2, rfl, c4, c5, c6⟩ := nameR_ok a5 e2
    have hv : isName (bstr v) = true := by rcases a1 with a | ⟨a, _⟩ <;> first | exact a | cases a
    have hn : isName (bstr n) = true := by rcases c1 with a | ⟨a, _⟩ <;> first | exact a | cases a
    refine ⟨by simp [formE, formL, partB, hn, hv], by simp [depthE, depthL], by simp [leavesE, leafK], rfl, by omega, c5, ?_⟩
    rw [a6, c6]
    simp [putE, putEs]
theorem readE_back {b : List UInt8} : ∀ (d o lv : Nat) (e : Ex) (o1 l1 : Nat), o ≤ b.length → lv ≤ 32 → readE b d o lv = .ok e o1 l1 → (formE e = true ∧ depthE e ≤ d) ∧ l1 = lv + (leavesE e).length ∧ l1 ≤ 32 ∧ o ≤ o1 ∧ o1 ≤ b.length ∧ b.drop o = putE e ++ b.drop o1
  | 0, o, lv, e, o1, l1, ho, hl, h => by
    unfold readE at h
    obtain ⟨_, _, _, _, h⟩ := then_ok h
    cases h
  | d + 1, o, lv, e, o1, l1, ho, hl, h => by
    unfold readE at h
    obtain ⟨k, oa, la, e1, h⟩ := then_ok h
    obtain ⟨a1, a2, rfl, a4, a5, a6⟩ := numK_ok ho e1
    split at h
    · rename_i hk
      split at h
      · cases h
      · rename_i hv
        obtain ⟨c1, c2, c3, c4, c5, c6, c7⟩ := leaf_back (by omega) a5 h
        exact ⟨⟨c1, by omega⟩, by omega, by omega, by omega, c6, by rw [a6, c7]⟩
    · rename_i hk
      obtain ⟨n, ob, lb, e2, h⟩ := then_ok h
      obtain ⟨ks, oc, lc, e3, h⟩ := then_ok h
      cases h
      have hn : lb = la ∧ oa ≤ ob ∧ ob ≤ b.length ∧ (if k < 5 then 2 ≤ n else n = 2) ∧ b.drop oa = (if k < 5 then put n else []) ++ b.drop ob := by
        unfold kidsR at e2
        by_cases hk5 : k < 5
        · rw [if_pos hk5] at e2
          obtain ⟨x1, x2, x3, x4, x5, x6⟩ := numK_ok a5 e2
          exact ⟨x3, by omega, x5, by rw [if_pos hk5]; exact x1, by rw [if_pos hk5]; exact x6⟩
        · rw [if_neg hk5] at e2
          cases e2; exact ⟨rfl, Nat.le_refl _, a5, by rw [if_neg hk5], by rw [if_neg hk5]; rfl⟩
      obtain ⟨rfl, n1, n2, n3, n4⟩ := hn
      obtain ⟨m1, m2, m3, m4, m5, m6, m7⟩ := many_back (B := 0) (fun e => formE e = true ∧ depthE e ≤ d) (fun e => (leavesE e).length) putE (fun o lv x o1 l1 => readE_back d o lv x o1 l1) n _ _ _ _ _ n2 hl e3
      have hL : ¬ leafK (k : Nat) = true := by
        have : k = 3 ∨ k = 4 ∨ k = 5 := by omega
        rcases this with rfl | rfl | rfl <;> decide
      rw [leaves_sum] at m3
      rw [putEs_flat] at m7
      refine ⟨⟨?_, ?_⟩, ?_, m4, by omega, m6, ?_⟩
      · unfold formE
        rw [formL_ofall fun x hx => (m2 x hx).1, Bool.and_true]
        have : k = 3 ∨ k = 4 ∨ k = 5 := by omega
        rcases this with rfl | rfl | rfl <;> simp at n3 <;> simp [partB, m1, n3]
      · unfold depthE
        have := depthL_all fun x hx => (m2 x hx).2
        omega
      · unfold leavesE; rw [if_neg hL]; exact m3
      · rw [a6, n4, m7]
        have : k = 3 ∨ k = 4 ∨ k = 5 := by omega
        rcases this with rfl | rfl | rfl <;> simp [putE, m1]
/-! ### what was written is read -/
theorem many_put {f : Nat → Nat → Rs Ex} {b : List UInt8} : ∀ (ks : List Ex) (o lv : Nat) (r : List UInt8), (∀ e ∈ ks, ∀ o lv r, lv + (leavesE e).length ≤ 32 → b.drop o = putE e ++ r → f o lv = .ok e (o + (putE e).length) (lv + (leavesE e).length)) → lv + (leavesL ks).length ≤ 32 → b.drop o = putEs ks ++ r → manyR f ks.length o lv = .ok ks (o + (putEs ks).length) (lv + (leavesL ks).length)
  | [], o, lv, r, _, _, _ => by simp [manyR, putEs, leavesL]
  | e :: ks, o, lv, r, hf, hl, h => by
    rw [leavesL, List.length_append] at hl
    rw [putEs, List.append_assoc] at h
    rw [List.length_cons, manyR, hf e (by simp) o lv _ (by omega) h]
    show Rs.then (manyR f ks.length _ _) _ = _
    rw [many_put ks _ _ r (fun x hx => hf x (by simp [hx])) (by omega) (drop_next h)]
    show Rs.ok (e :: ks) _ _ = _
    rw [putEs, leavesL, List.length_append, List.length_append, Nat.add_assoc, Nat.add_assoc]
theorem formL_mem : ∀ {l : List Ex}, formL l = true → ∀ e ∈ l, formE e = true
  | [], _, e, he => by simp at he
  | a :: r, h, e, he => by
    unfold formL at h
    simp only [Bool.and_eq_true] at h
    rcases List.mem_cons.1 he with rfl | he
    · exact h.1
    · exact formL_mem h.2 e he
theorem depthL_mem : ∀ {l : List Ex} {d : Nat}, depthL l ≤ d → ∀ e ∈ l, depthE e ≤ d
  | [], d, _, e, he => by simp at he
  | a :: r, d, h, e, he => by
    unfold depthL at h
    rcases List.mem_cons.1 he with rfl | he
    · omega
    · exact depthL_mem (l := r) (by omega) e he
mutual
theorem leavesE_pos : ∀ e : Ex, formE e = true → 1 ≤ (leavesE e).length
  | .mk k v n ks, he => by
    unfold leavesE
    split
    · simp
    · rename_i hk
      unfold formE at he
      simp only [Bool.and_eq_true] at he
      have h2 := leavesL_le ks he.2
      have h3 : 2 ≤ ks.length := by
        have h4 := he.1
        unfold partB at h4
        split at h4
        · rename_i h5; subst h5; exact absurd rfl hk
        split at h4
        · rename_i h5; subst h5; exact absurd rfl hk
        split at h4
        · simp only [Bool.and_eq_true, decide_eq_true_eq] at h4; exact h4.1.1
        split at h4
        · simp only [Bool.and_eq_true, decide_eq_true_eq] at h4; omega
        · cases h4
      omega
theorem leavesL_le : ∀ l : List Ex, formL l = true → l.length ≤ (leavesL l).length
  | [], _ => Nat.zero_le _
  | e :: r, h => by
    unfold formL at h
    simp only [Bool.and_eq_true] at h
    have a1 := leavesL_le r h.2
    have a2 := leavesE_pos e h.1
    rw [leavesL, List.length_append, List.length_cons]; omega
end
theorem readE_put {b : List UInt8} : ∀ (d : Nat) (e : Ex), formE e = true → depthE e ≤ d → ∀ o lv r, lv + (leavesE e).length ≤ 32 → b.drop o = putE e ++ r → readE b d o lv = .ok e (o + (putE e).length) (lv + (leavesE e).length)
  | 0, e, _, hd => by have := depthE_pos e; omega
  | d + 1, .mk k v n ks, hf, hd => by
    intro o lv r hl h
    unfold formE at hf
    simp only [Bool.and_eq_true] at hf
    obtain ⟨hp, hks⟩ := hf
    unfold depthE at hd
    unfold partB at hp
    split at hp
    · rename_i hk; subst hk
      simp only [Bool.and_eq_true, decide_eq_true_eq] at hp
      obtain ⟨⟨h1, rfl⟩, h3⟩ := hp
      obtain rfl := List.length_eq_zero_iff.1 h1
      have e1 : putE (.mk 1 [] n []) = put 1 ++ putS (bstr n) := by simp [putE, putEs]
      have e2 : (leavesE (.mk 1 [] n [])).length = 1 := by simp [leavesE, leafK]
      rw [e2] at hl
      rw [e1, List.append_assoc] at h
      rw [e1, e2]
      unfold readE
      rw [numK_put (by decide) (by decide) (by decide) h]
      simp only [Rs.then]
      rw [if_pos (by decide), if_neg (by omega)]
      unfold leafR
      rw [if_neg (by decide), nameR_put (.inl h3) (name_len h3) (drop_next h)]
      show Rs.ok _ _ _ = _
      rw [List.length_append, Nat.add_assoc]
    split at hp
    · rename_i hk; subst hk
      simp only [Bool.and_eq_true, decide_eq_true_eq] at hp
      obtain ⟨⟨h1, h2⟩, h3⟩ := hp
      obtain rfl := List.length_eq_zero_iff.1 h1
      have e1 : putE (.mk 2 v n []) = put 2 ++ (putS (bstr v) ++ putS (bstr n)) := by simp [putE, putEs]
      have e2 : (leavesE (.mk 2 v n [])).length = 1 := by simp [leavesE, leafK]
      rw [e2] at hl
      rw [e1, List.append_assoc, List.append_assoc] at h
      rw [e1, e2]
      unfold readE
      rw [numK_put (by decide) (by decide) (by decide) h]
      simp only [Rs.then]
      rw [if_pos (by decide), if_neg (by omega)]
      unfold leafR
      rw [if_pos rfl, nameR_put (.inl h2) (name_len h2) (drop_next h)]
      show Rs.then (nameR b false _ _) _ = _
      rw [nameR_put (.inl h3) (name_len h3) (drop_next (drop_next h))]
      show Rs.ok _ _ _ = _
      simp only [List.length_append, Nat.add_assoc]
    have hmore : ∀ (K : Nat), (K = 3 ∨ K = 4 ∨ K = 5) → k = (K : Nat) → v = [] → n = [] → 2 ≤ ks.length → (K = 5 → ks.length = 2) → readE b (d + 1) o lv = .ok (.mk k v n ks) (o + (putE (.mk k v n ks)).length) (lv + (leavesE (.mk k v n ks)).length) := by
      rintro K hK rfl rfl rfl h2 h5
      have hL : ¬ leafK (K : Nat) = true := by rcases hK with rfl | rfl | rfl <;> decide
      have e2 : leavesE (.mk (K : Nat) [] [] ks) = leavesL ks := by unfold leavesE; rw [if_neg hL]
      have e1 : putE (.mk (K : Nat) [] [] ks) = put K ++ ((if K < 5 then put ks.length else []) ++ putEs ks) := by
        rcases hK with rfl | rfl | rfl <;> simp [putE]
      rw [e2] at hl
      rw [e1, List.append_assoc, List.append_assoc] at h
      rw [e1, e2]
      have h32 := leavesL_le ks hks
      unfold readE
      rw [numK_put (by unfold lim64; omega) (by omega) (by omega) h]
      simp only [Rs.then]
      rw [if_neg (by omega)]
      have hn : kidsR b K (o + (put K).length) lv = .ok ks.length (o + (put K).length + (if K < 5 then put ks.length else []).length) lv := by
        unfold kidsR
        have h' := drop_next h
        by_cases hK5 : K < 5
        · rw [if_pos hK5] at h' ⊢
          rw [if_pos hK5, numK_put (by unfold lim64; omega) h2 (by omega) h']
        · rw [if_neg hK5, if_neg hK5, h5 (by omega)]; rfl
      rw [hn]
      show Rs.then (manyR (readE b d) ks.length _ _) _ = _
      rw [many_put ks _ _ r (fun e he => readE_put d e (formL_mem hks e he) (depthL_mem (by omega) e he)) (by omega) (drop_next (drop_next h))]
      show Rs.ok _ _ _ = _
      simp only [List.length_append, Nat.add_assoc]
    split at hp
    · rename_i hk
      simp only [Bool.and_eq_true, decide_eq_true_eq] at hp
      obtain ⟨⟨h1, h2⟩, h3⟩ := hp
      rcases hk with rfl | rfl
      · exact hmore 3 (by decide) rfl h2 h3 h1 (by omega)
      · exact hmore 4 (by decide) rfl h2 h3 h1 (by omega)
    split at hp
    · rename_i hk
      simp only [Bool.and_eq_true, decide_eq_true_eq] at hp
      obtain ⟨⟨h1, h2⟩, h3⟩ := hp
      exact hmore 5 (by decide) (by subst hk; rfl) h2 h3 (by omega) (fun _ => h1)
    · cases hp
end Go.Proofs.YtdnmgemjhpkekaaGreatDoor
