/-
  expr.isLeaf, Depth; the reference's Leaf, Depth.
-/
import Derived.Test.YtkildckeikedhaaGreatDoorMr0
import Derived.Maps.AppendAt
import Derived.RangeFuncFrom
import Derived.OrdersHeld
import Derived.OrdersIn
import Derived.OwnWalkIn
import Derived.RangeFuncCalls
import Derived.WalkKit
import Derived.RangeFuncNested
import Derived.RangeFuncBound
import Derived.RangeFuncLeaves
import Derived.Shelf.Abstract
import Derived.Shelf.RegionOpen
import Derived.WalkMore
import Derived.TacticsInMore
import Derived.LoopNIn
import Derived.LoopIn
import Derived.Deep.Cut
import Derived.Deep.CutBlock
namespace Go.Proofs.YtkildckeikedhaaGreatDoor
open Go.ChangeShapes Go.WideShapes Go.ChangeAt Go.RowKit
set_option linter.unusedVariables false

set_option maxRecDepth 100000 in
theorem isLeaf_any {P : Nat → Prop} {w : World} {e : Ex} {v : Value} (h : RdE P w e v) : Calls Tryz.prog 95 #[v] w fun r w' => r = .returned (.bool (leafK e.kind)) ∧ Below w.heap.size w w' := by
 obtain ⟨q, c, rfl, _⟩ := h.form
 obtain ⟨k, xv, xn, ks⟩ := e
 unfold exv
 show Calls _ _ #[.agg #[.int .i64 k, .string (bstr xv), .string (bstr xn), .slice q ks.length c]] _ _
 clear h
 go_enter Tryz.func95, Tryz.ntmps95
 go_wp2_with fail
 all_goals
  go_ret
  refine ⟨ret_b ?_, (Below.refl _ _).alloc (Nat.le_refl _) _⟩
  unfold leafK Ex.kind
  first | rfl | (rw [Bool.eq_iff_iff]; simp only [Bool.and_eq_true, bne_iff_ne]; first | done | omega | (simp; omega)) | (rw [Bool.eq_iff_iff]; simp; omega)
set_option maxRecDepth 100000 in
theorem rleaf_any {P : Nat → Prop} {w : World} {e : Ex} {v : Value} (h : RdE P w e v) : Calls Tryz.prog 58 #[v] w fun r w' => r = .returned (.bool (leafK e.kind)) ∧ Below w.heap.size w w' := by
 obtain ⟨q, c, rfl, _⟩ := h.form
 obtain ⟨k, xv, xn, ks⟩ := e
 unfold exv
 show Calls _ _ #[.agg #[.int .i64 k, .string (bstr xv), .string (bstr xn), .slice q ks.length c]] _ _
 clear h
 go_enter Tryz.func58, Tryz.ntmps58
 go_wp2_with fail
 all_goals
  go_ret
  refine ⟨ret_b ?_, (Below.refl _ _).alloc (Nat.le_refl _) _⟩
  unfold leafK Ex.kind
  first | rfl | (rw [Bool.eq_iff_iff]; simp only [Bool.and_eq_true, bne_iff_ne]; first | done | omega | (simp; omega)) | (rw [Bool.eq_iff_iff]; simp; omega)
set_option maxRecDepth 100000 in
set_option maxHeartbeats 2000000 in
theorem depth_any : ∀ (n : Nat) (e : Ex) (v : Value) (P : Nat → Prop) (w : World), sizeE e ≤ n → sizeE e ≤ 1000000 → RdE P w e v → (∀ b, P b → b < w.heap.size) → Calls Tryz.prog 93 #[v] w fun r w' => r = .returned (.int .i64 (depthE e : Nat)) ∧ Below w.heap.size w w' := by
 intro n
 induction n with
 | zero => intro e v P w h; have := sizeE_pos e; omega
 | succ n ih =>
  intro e v P w hn hm h hP
  obtain ⟨q, c, rfl, hc, hk⟩ := h.form
  obtain ⟨k, xv, xn, ks⟩ := e
  unfold exv
  show Calls _ _ #[.agg #[.int .i64 k, .string (bstr xv), .string (bstr xn), .slice q ks.length c]] _ _
  have HK : Hid (0 < ks.length → ∃ b o, q = some ⟨b, o, none⟩ ∧ P b ∧ RdL P w ks b o) := hk
  have hks : sizeL ks ≤ n := by unfold sizeE at hn; omega
  have hkm : sizeL ks ≤ 1000000 := by unfold sizeE at hm; omega
  have hlen := sizeL_len ks
  have HIH := hiD ih
  have HB0 : Hid (Below w.heap.size w (w.alloc (.cells #[.int .i64 k, .string (bstr xv), .string (bstr xn), .slice q ks.length c] 46))) := (Below.refl _ _).alloc (Nat.le_refl _) _
  clear h ih hc hk hn hm
  go_enter Tryz.func93, Tryz.ntmps93
  go_wp2_with fail
  go_loopw [3, 9] (fun dv iv wr => ∃ i : Nat, i ≤ ks.length ∧ iv = .int .i64 i ∧ dv = .int .i64 (depthL (ks.take i) : Nat) ∧ Hid (Below w.heap.size w wr)) (fun _ iv _ => ks.length - (intOf iv).toNat)
  case atStart => exact ⟨0, Nat.zero_le _, rfl, by simp [depthL], HB0.out⟩
  case round =>
   obtain ⟨i, hi, rfl, rfl, HI⟩ := hrel
   have hi0 : (0 : Int) ≤ i := by omega
   have HTK := depthL_take ks i
   have hds := depthL_size ks
   obtain ⟨D, hD⟩ : ∃ D, D = depthL (ks.take i) := ⟨_, rfl⟩
   rw [← hD] at HTK ⊢
   have HD := hiD hD
   have hD1 : (D : Int) ≤ 1000000 := by omega
   clear hD HTK hds
   by_cases hlt : i < ks.length
   ·have hi1 : (i : Int) < ks.length := by omega
    obtain ⟨ba, oa, rfl, hba, hl⟩ := HK.out (by omega)
    obtain ⟨x, hx⟩ : ∃ x, x = ks.getD i ex0 := ⟨_, rfl⟩
    obtain ⟨q2, c2, x0, x1, x2, x3, hr⟩ := hl.at hlt
    have hxs := sizeL_get ks i hlt
    have hxd := depthL_get ks i hlt
    rw [← hx] at x0 x1 x2 x3 hr hxs hxd
    have HX := hiD hx
    obtain ⟨xk, xv2, xn2, xs⟩ := x
    have cc : ∀ n, wr.cell? ⟨ba, n, none⟩ = w.cell? ⟨ba, n, none⟩ := fun n => (HI.out).cell (p := ⟨ba, n, none⟩) (hP _ hba)
    have X0 : wr.cell? ⟨ba, oa + i * 4, none⟩ = some (.int .i64 xk) := (cc _).trans x0
    have X1 : wr.cell? ⟨ba, oa + i * 4 + 1, none⟩ = some (.string (bstr xv2)) := (cc _).trans x1
    have X2 : wr.cell? ⟨ba, oa + i * 4 + 2, none⟩ = some (.string (bstr xn2)) := (cc _).trans x2
    have X3 : wr.cell? ⟨ba, oa + i * 4 + 3, none⟩ = some (.slice q2 xs.length c2) := (cc _).trans x3
    clear x0 x1 x2 x3 cc hx
    have HBA : Hid (Below wr.heap.size wr (wr.alloc (.cells #[.int .i64 xk, .string (bstr xv2), .string (bstr xn2), .slice q2 xs.length c2] 46))) := (Below.refl _ _).alloc (Nat.le_refl _) _
    have HR : Hid (RdE P (wr.alloc (.cells #[.int .i64 xk, .string (bstr xv2), .string (bstr xn2), .slice q2 xs.length c2] 46)) (.mk xk xv2 xn2 xs) (.agg #[.int .i64 xk, .string (bstr xv2), .string (bstr xn2), .slice q2 xs.length c2])) := (hr.below (HI.out) hP).below HBA.out (fun b hb => Nat.lt_of_lt_of_le (hP b hb) (HI.out).size)
    have HC := hiD (HIH.out (.mk xk xv2 xn2 xs) _ P _ (by omega) (by omega) HR.out (fun b hb => Nat.lt_of_lt_of_le (hP b hb) (Nat.le_trans HI.out.size HBA.out.size)))
    have HTD : Hid (depthL (ks.take (i + 1)) = max D (depthE (.mk xk xv2 xn2 xs))) := by show _ = _; rw [take_snocE hlt, depthL_snoc, ← HX.out, HD.out]
    obtain ⟨E, hE⟩ : ∃ E, E = depthE (.mk xk xv2 xn2 xs) := ⟨_, rfl⟩
    have hE1 : (E : Int) ≤ 1000000 := by have := depthL_size ks; omega
    rw [← hE] at HC HTD
    clear hl hr hxs hxd hE
    go_wp2_with fail
    refine HC.out.mono ?_
    rintro r w5 ⟨rfl, b5⟩
    have HB5 := hiD (HI.out.trans ((HBA.out.trans (b5.mono HBA.out.size)).mono HI.out.size))
    clear b5
    go_wp2_with fail
    go_roundw
    case rel => exact ⟨i + 1, by omega, by go_num, by rw [HTD.out]; congr 1; omega, HB5.out⟩
    case measure => simp [intOf]; omega
   ·have hi1 : ¬ (i : Int) < ks.length := by omega
    have HK2 : Hid (ks.take i = ks) := List.take_of_length_le (by omega)
    go_wp2_with fail
    go_ret
    exact ⟨by rw [HD.out, HK2.out]; unfold depthE; rfl, HI.out⟩
mutual
def okE (M : Nat) : Ex → Prop
 | .mk _ v n ks => v.length ≤ M ∧ n.length ≤ M ∧ okL M ks
def okL (M : Nat) : List Ex → Prop
 | [] => True
 | e :: r => okE M e ∧ okL M r
end
theorem okL_get {M : Nat} : ∀ {ks : List Ex} {i : Nat}, okL M ks → i < ks.length → okE M (ks.getD i ex0)
 | [], _, _, h => by simp at h
 | e :: r, 0, h, _ => by unfold okL at h; exact h.1
 | e :: r, i + 1, h, hi => by unfold okL at h; exact okL_get (i := i) h.2 (by simpa using hi)
mutual
def cntE : Nat → Ex → Nat
 | 0, _ => 500
 | d + 1, .mk _ v n ks => cntL d (1 + v.length / 200 + n.length / 200) ks
def cntL : Nat → Nat → List Ex → Nat
 | _, n, [] => n
 | d, n, e :: r => if n < 500 then cntL d (n + cntE d e) r else n
end
def bigM : Nat := 140737488355328
theorem cntL_le (d B : Nat) (h : ∀ e, okE bigM e → cntE d e + 499 ≤ B) : ∀ (ks : List Ex) (n : Nat), okL bigM ks → n ≤ B → cntL d n ks ≤ B
 | [], n, _, hn => by unfold cntL; exact hn
 | e :: r, n, ho, hn => by
  unfold okL at ho
  unfold cntL
  split
  ·exact cntL_le d B h r _ ho.2 (by have := h e ho.1; omega)
  ·exact hn
theorem cntE_le : ∀ (d : Nat) (e : Ex), okE bigM e → cntE d e ≤ (d + 1) * 1500000000000
 | 0, e, _ => by unfold cntE; omega
 | d + 1, .mk k v n ks, h => by
  unfold okE bigM at h
  unfold cntE
  refine cntL_le d _ (fun e he => ?_) ks _ h.2.2 ?_
  ·have := cntE_le d e he
   have e2 : (d + 1 + 1) * 1500000000000 = (d + 1) * 1500000000000 + 1500000000000 := by rw [Nat.add_mul]
   omega
  ·have e2 : (d + 1 + 1) * 1500000000000 = (d + 1) * 1500000000000 + 1500000000000 := by rw [Nat.add_mul]
   omega
mutual
theorem cntE_few : ∀ (d : Nat) (e : Ex), cntE d e < 500 → sizeE e ≤ cntE d e ∧ okE 100000 e ∧ depthE e ≤ d
 | 0, e, h => by unfold cntE at h; omega
 | d + 1, .mk k v n ks, h => by
  unfold cntE at h ⊢
  obtain ⟨h1, h2, h3, h4⟩ := cntL_few d ks _ h
  unfold sizeE okE depthE
  exact ⟨by omega, ⟨by omega, by omega, h2⟩, by omega⟩
theorem cntL_few : ∀ (d : Nat) (ks : List Ex) (n : Nat), cntL d n ks < 500 → n + sizeL ks ≤ cntL d n ks ∧ okL 100000 ks ∧ depthL ks ≤ d ∧ n ≤ cntL d n ks
 | d, [], n, h => by unfold cntL at h ⊢; unfold sizeL okL depthL; exact ⟨by omega, trivial, by omega, by omega⟩
 | d, e :: r, n, h => by
  unfold cntL at h ⊢
  split at h
  ·rename_i hn
   rw [if_pos hn]
   obtain ⟨h1, h2, h3, h4⟩ := cntL_few d r _ h
   obtain ⟨g1, g2, g3⟩ := cntE_few d e (by omega)
   unfold sizeL okL depthL
   exact ⟨by omega, ⟨g2, h2⟩, by omega, by omega⟩
  ·omega
end
theorem cntL_step {d n i : Nat} {ks : List Ex} (h : n < 500) (hi : i < ks.length) : cntL d n (ks.drop i) = cntL d (n + cntE d (ks.getD i ex0)) (ks.drop (i + 1)) := by
 rw [List.drop_eq_getElem_cons hi]
 conv => lhs; unfold cntL
 rw [if_pos h, List.getD_eq_getElem?_getD, List.getElem?_eq_getElem hi]; rfl
theorem cntL_ge : ∀ (d : Nat) (ks : List Ex) (n : Nat), n ≤ cntL d n ks
 | d, [], n => by unfold cntL; exact Nat.le_refl _
 | d, e :: r, n => by
  unfold cntL
  split
  ·exact Nat.le_trans (Nat.le_add_right _ _) (cntL_ge d r _)
  ·exact Nat.le_refl _
theorem cntE_pos : ∀ (d : Nat) (e : Ex), 1 ≤ cntE d e
 | 0, e => by unfold cntE; omega
 | d + 1, .mk k v n ks => by unfold cntE; have := cntL_ge d ks (1 + v.length / 200 + n.length / 200); omega
theorem cntL_stop {d n : Nat} {ks : List Ex} (h : ¬ n < 500) : cntL d n ks = n := by
 cases ks with
 | nil => unfold cntL; rfl
 | cons e r => unfold cntL; rw [if_neg h]
theorem quo200 (n : Nat) : Int.tdiv (n : Int) 200 = ((n / 200 : Nat) : Int) := by
 rw [Int.tdiv_eq_ediv_of_nonneg (by omega)]; rfl
def CellsL (P : Nat → Prop) (w : World) : List Ex → List Value → Prop
 | [], [] => True
 | e :: r, v0 :: v1 :: v2 :: v3 :: cs => RdE P w e (.agg #[v0, v1, v2, v3]) ∧ CellsL P w r cs
 | _, _ => False
theorem CellsL.keep {P : Nat → Prop} {w w' : World} (hk : ∀ b, P b → ∀ n, w'.cell? ⟨b, n, none⟩ = w.cell? ⟨b, n, none⟩) : ∀ {ks : List Ex} {cs : List Value}, CellsL P w ks cs → CellsL P w' ks cs
 | [], [], _ => trivial
 | e :: r, v0 :: v1 :: v2 :: v3 :: cs, h => ⟨RdE.keep hk h.1, CellsL.keep hk h.2⟩
 | [], _ :: _, h => h.elim
 | _ :: _, [], h => h.elim
 | _ :: _, [_], h => h.elim
 | _ :: _, [_, _], h => h.elim
 | _ :: _, [_, _, _], h => h.elim
theorem CellsL.imp {P Q : Nat → Prop} {w : World} (hPQ : ∀ b, P b → Q b) : ∀ {ks : List Ex} {cs : List Value}, CellsL P w ks cs → CellsL Q w ks cs
 | [], [], _ => trivial
 | e :: r, v0 :: v1 :: v2 :: v3 :: cs, h => ⟨RdE.imp hPQ h.1, CellsL.imp hPQ h.2⟩
 | [], _ :: _, h => h.elim
 | _ :: _, [], h => h.elim
 | _ :: _, [_], h => h.elim
 | _ :: _, [_, _], h => h.elim
 | _ :: _, [_, _, _], h => h.elim
theorem CellsL.snoc {P : Nat → Prop} {w : World} {e : Ex} {v0 v1 v2 v3 : Value} (he : RdE P w e (.agg #[v0, v1, v2, v3])) : ∀ {ks : List Ex} {cs : List Value}, CellsL P w ks cs → CellsL P w (ks ++ [e]) (cs ++ [v0, v1, v2, v3])
 | [], [], _ => ⟨he, trivial⟩
 | e :: r, v0 :: v1 :: v2 :: v3 :: cs, h => ⟨h.1, CellsL.snoc he h.2⟩
 | [], _ :: _, h => h.elim
 | _ :: _, [], h => h.elim
 | _ :: _, [_], h => h.elim
 | _ :: _, [_, _], h => h.elim
 | _ :: _, [_, _, _], h => h.elim
theorem CellsL.rdL {P : Nat → Prop} {w : World} {b : Nat} : ∀ {ks : List Ex} {cs : List Value} {o : Nat}, CellsL P w ks cs → (∀ j u, cs[j]? = some u → w.cell? ⟨b, o + j, none⟩ = some u) → RdL P w ks b o
 | [], _, _, _, _ => by unfold RdL; trivial
 | e :: r, v0 :: v1 :: v2 :: v3 :: cs, o, h, hc => by
  unfold RdL
  refine ⟨⟨v0, v1, v2, v3, hc 0 v0 rfl, hc 1 v1 rfl, hc 2 v2 rfl, hc 3 v3 rfl, h.1⟩, CellsL.rdL h.2 fun j u hj => ?_⟩
  rw [show o + 4 + j = o + (j + 4) by omega]
  exact hc (j + 4) u hj
 | _ :: _, [], _, h, _ => h.elim
 | _ :: _, [_], _, h, _ => h.elim
 | _ :: _, [_, _], _, h, _ => h.elim
 | _ :: _, [_, _, _], _, h, _ => h.elim
theorem CellsL.ones {P : Nat → Prop} {w : World} : ∀ {ks : List Ex} {cs : List Value}, CellsL P w ks cs → ∀ u ∈ cs, u.oneCell' = true
 | [], [], _, u, hu => by cases hu
 | e :: r, v0 :: v1 :: v2 :: v3 :: cs, h, u, hu => by
  obtain ⟨q, c, h2, _⟩ := h.1.form
  unfold exv at h2
  simp only [Value.agg.injEq, Array.mk.injEq, List.cons.injEq, and_true] at h2
  obtain ⟨rfl, rfl, rfl, rfl⟩ := h2
  rcases List.mem_cons.1 hu with rfl | hu
  ·rfl
  rcases List.mem_cons.1 hu with rfl | hu
  ·rfl
  rcases List.mem_cons.1 hu with rfl | hu
  ·rfl
  rcases List.mem_cons.1 hu with rfl | hu
  ·rfl
  exact CellsL.ones h.2 u hu
 | [], _ :: _, h, _, _ => h.elim
 | _ :: _, [], h, _, _ => h.elim
 | _ :: _, [_], h, _, _ => h.elim
 | _ :: _, [_, _], h, _, _ => h.elim
 | _ :: _, [_, _, _], h, _, _ => h.elim
def Sub (base : Nat) (w : World) (v : Value) : Nat → Prop := fun b => base ≤ b ∧ b < w.heap.size ∧ some b ≠ v.ownBlock
def ExRow (base : Nat) (w : World) (v : Value) (ks : List Ex) : Prop := ∃ cs, w.ownsRow base 46 4 v ks.length cs ∧ CellsL (Sub base w v) w ks cs
theorem ExRow.nil (base : Nat) (w : World) : ExRow base w (.slice none 0 0) [] := ⟨[], World.ownsRow_nil _ _ _ _, trivial⟩
theorem ExRow.form {base : Nat} {w : World} {v : Value} {ks : List Ex} (h : ExRow base w v ks) : ∃ q c, v = .slice q ks.length c := by
 obtain ⟨cs, h1, _⟩ := h
 rcases h1.2 with ⟨h, hn⟩ | ⟨g, cap, cur, hv, _⟩
 ·exact ⟨none, 0, by rw [hn]; exact h⟩
 ·exact ⟨_, _, hv⟩
theorem ExRow.blk {base : Nat} {w : World} {v : Value} {ks : List Ex} (h : ExRow base w v ks) {b : Nat} (hb : v.ownBlock = some b) : b < w.heap.size := by
 obtain ⟨cs, h1, _⟩ := h
 rcases h1.2 with ⟨h, _⟩ | ⟨g, cap, cur, hv, h0, hg, _⟩
 ·rw [h] at hb; cases hb
 ·rw [hv] at hb; cases hb; exact (Array.getElem?_eq_some_iff.1 hg).1
theorem ExRow.later {base : Nat} {w w' : World} {v : Value} {ks : List Ex} (h : ExRow base w v ks) (hb : Below w.heap.size w w') : ExRow base w' v ks := by
 obtain ⟨cs, h1, h2⟩ := h
 refine ⟨cs, ⟨h1.1, ?_⟩, (h2.keep (cells_below hb fun b hb => hb.2.1)).imp fun b h => ⟨h.1, Nat.lt_of_lt_of_le h.2.1 hb.size, h.2.2⟩⟩
 rcases h1.2 with h | ⟨g, cap, cur, rfl, h0, hg, r⟩
 ·exact .inl h
 ·exact .inr ⟨g, cap, cur, rfl, h0, (hb.block g (Array.getElem?_eq_some_iff.1 hg).1).trans hg, r⟩
theorem ExRow.set {base : Nat} {w : World} {v : Value} {ks : List Ex} (h : ExRow base w v ks) {a : Addr} (ha : a.block < base) (x : Value) : ExRow base (w.setCell a x) v ks := by
 obtain ⟨cs, h1, h2⟩ := h
 have hs : (w.setCell a x).heap.size = w.heap.size := by simp [World.setCell]
 refine ⟨cs, ⟨h1.1, ?_⟩, ?_⟩
 ·rcases h1.2 with h | ⟨g, cap, cur, rfl, h0, hg, r⟩
  ·exact .inl h
  ·exact .inr ⟨g, cap, cur, rfl, h0, (Below.heap_setCell w a x g (by omega)).trans hg, r⟩
 ·refine (h2.keep fun b hb n => ?_).imp fun b h => ⟨h.1, by rw [hs]; exact h.2.1, h.2.2⟩
  exact World.cell?_of_block (Below.heap_setCell w a x b (by have := hb.1; omega))
theorem ExRow.rd {base : Nat} {w : World} {q : Option Addr} {n c : Nat} {ks : List Ex} (h : ExRow base w (.slice q n c) ks) (k : Int) (via nm : List UInt8) : RdE (Bt base w.heap.size) w (.mk k via nm ks) (.agg #[.int .i64 k, .string (bstr via), .string (bstr nm), .slice q n c]) := by
 obtain ⟨cs, h1, h2⟩ := h
 unfold RdE
 rcases h1.2 with ⟨hv, hn⟩ | ⟨g, cap, cur, hv, h0, hg, hcap, _, hcz, htk⟩
 ·simp only [Value.slice.injEq] at hv
  obtain ⟨rfl, rfl, rfl⟩ := hv
  exact ⟨none, 0, by rw [hn], by omega, fun h => by omega⟩
 ·simp only [Value.slice.injEq] at hv
  obtain ⟨rfl, rfl, rfl⟩ := hv
  refine ⟨_, _, rfl, hcap, fun _ => ⟨g, 0, rfl, ⟨h0, (Array.getElem?_eq_some_iff.1 hg).1⟩, ?_⟩⟩
  refine (h2.rdL fun j u hj => ?_).imp fun b h => ⟨h.1, h.2.1⟩
  rw [Nat.zero_add]
  have hjl : j < cs.length := (List.getElem?_eq_some_iff.1 hj).1
  rw [cell_of_row w g _ cur _ (0, 0) hg, ← Array.getElem?_toList]
  rw [← htk, List.getElem?_take, if_pos (by rw [h1.1] at hjl; exact hjl)] at hj
  exact hj
theorem Tryz.infoEx : (Tryz.prog.info? 46).map (fun i => (i.zero, i.size, i.bytes)) = some (some (.agg #[.int .i64 0, .string ByteArray.empty, .string ByteArray.empty, .slice none 0 0]), 4, 64) := by kernel_rfl
theorem app_ex {ops : Array Oper} {rest : List Oper} {o : Oper} {a : Act} {Q : Exit → Act → World → Prop} {w : World} (hgd : o.guard = none) (s x : Operand) (ho : o.op = .call { callee := .builtin .append, args := #[s, x], argTypes := #[44, 44] })
  {base n : Nat} {v : Value} {ks : List Ex} {e : Ex} {v0 v1 v2 v3 : Value} (hs : a.eval s = v) (hown : ExRow base w v ks) (hx : a.eval x = .slice (some ⟨n, 0, none⟩) 1 1) (hc : Arr w 46 n [v0, v1, v2, v3])
  (he : RdE (Sub base w v) w e (.agg #[v0, v1, v2, v3])) (hlen : ks.length + 1 ≤ 1000000) (hbase : base ≤ w.heap.size)
  (h : ∀ v' w', ExRow base w' v' (ks ++ [e]) → Below base w w' → w.grownBy w' v.ownBlock → wpList Tryz.prog ops Q rest (a.put o.dst v') w') : wpList Tryz.prog ops Q (o :: rest) a w := by
 obtain ⟨i0, hi, hz0, hz1, hz2⟩ := info_parts Tryz.infoEx
 obtain ⟨cs, h1, h2⟩ := hown
 have hone : CellsL (Sub base w v) w [e] [v0, v1, v2, v3] := ⟨he, trivial⟩
 refine wpList_append_own_at w hgd s x 44 ho base 46 i0 _ 4 64 Tryz.underlying44 hi hz0 hz1 hz2 rfl (by decide) v ks.length cs hs h1 ⟨n, 0, none⟩ 1 1 [v0, v1, v2, v3] hx rfl ?_ hone.ones (by unfold maxLen; omega) (by omega) hbase ?_
 ·intro j u hu
  have := hc.cell j
  rw [hu] at this
  cases j <;> simpa [Addr.add] using this
 ·intro v' w' r1 r2 _ r4
  have hb : Below base w w' := (Below.refl _ _).grown r2 hbase (fun k hk => (h1.lt k hk).1)
  refine h v' w' ⟨cs ++ [v0, v1, v2, v3], by rw [List.length_append]; exact r1, ?_⟩ hb r2
  have hk : ∀ b, Sub base w v b → ∀ m, w'.cell? ⟨b, m, none⟩ = w.cell? ⟨b, m, none⟩ := fun b hb m => World.cell?_of_block (r2.block b hb.2.1 hb.2.2)
  have hS : ∀ b, Sub base w v b → Sub base w' v' b := fun b hb => ⟨hb.1, Nat.lt_of_lt_of_le hb.2.1 r2.size, by
   rcases r4 with r4 | r4
   ·rw [r4]; exact hb.2.2
   ·rw [r4]; intro e; have := Option.some.inj e; have := hb.2.1; omega⟩
  exact CellsL.snoc ((he.keep hk).imp hS) ((h2.keep hk).imp hS)
theorem Arr.set4 {w : World} {t : TypeId} {g : Nat} {a b c d : Value} (h : Arr w t g [a, b, c, d]) (x0 x1 x2 x3 : Value) : Arr ((((w.setCell ⟨g, 0, none⟩ x0).setCell ⟨g, 1, none⟩ x1).setCell ⟨g, 2, none⟩ x2).setCell ⟨g, 3, none⟩ x3) t g [x0, x1, x2, x3] := (((h.set 0 x0).set 1 x1).set 2 x2).set 3 x3
theorem below_set4 {B : Nat} {w0 w : World} {g : Nat} (h : Below B w0 w) (hg : B ≤ g) (x0 x1 x2 x3 : Value) : Below B w0 ((((w.setCell ⟨g, 0, none⟩ x0).setCell ⟨g, 1, none⟩ x1).setCell ⟨g, 2, none⟩ x2).setCell ⟨g, 3, none⟩ x3) :=
  (((h.setCell (p := ⟨g, 0, none⟩) hg _).setCell (p := ⟨g, 1, none⟩) hg _).setCell (p := ⟨g, 2, none⟩) hg _).setCell (p := ⟨g, 3, none⟩) hg _
theorem ExRow.set4 {base : Nat} {w : World} {v : Value} {ks : List Ex} (h : ExRow base w v ks) {g : Nat} (hg : g < base) (x0 x1 x2 x3 : Value) : ExRow base ((((w.setCell ⟨g, 0, none⟩ x0).setCell ⟨g, 1, none⟩ x1).setCell ⟨g, 2, none⟩ x2).setCell ⟨g, 3, none⟩ x3) v ks :=
  (((h.set (a := ⟨g, 0, none⟩) hg x0).set (a := ⟨g, 1, none⟩) hg x1).set (a := ⟨g, 2, none⟩) hg x2).set (a := ⟨g, 3, none⟩) hg x3
theorem resE {fn : Func} {p : Tmp} (h : fn.results = #[.cell p 46]) {tmps : Array Value} {w : World} {g : Nat} {a b c d : Value} (hA : Arr w 46 g [a, b, c, d]) (hp : tmps.getD p undef = .pointer (some ⟨g, 0, none⟩)) :
    (results fn tmps).run Tryz.prog w = .ok (.agg #[a, b, c, d]) w :=
  results_cell_row h tmps w g 46 #[a, b, c, d] (0, 0) _ hp hA Tryz.underlying46 rfl (by kernel_rfl)
def ClPost (e : Ex) (w : World) (r : Ending) (w' : World) : Prop := ∃ v', r = .returned v' ∧ RdE (Bt w.heap.size w'.heap.size) w' e v' ∧ Below w.heap.size w w'
def CX (w : World) (A : List Value) (v : Value) (ks : List Ex) (W : World) : Prop :=
  Arr W 46 w.heap.size A ∧ Arr W 46 (w.heap.size + 1) [.int .i64 0, .string ByteArray.empty, .string ByteArray.empty, .slice none 0 0] ∧ ExRow (w.heap.size + 2) W v ks ∧ Below w.heap.size w W ∧ w.heap.size + 2 ≤ W.heap.size
theorem CX.later {w W W' : World} {A : List Value} {v : Value} {ks : List Ex} (h : CX w A v ks W) (hb : Below W.heap.size W W') : CX w A v ks W' :=
  ⟨h.1.later hb, h.2.1.later hb, h.2.2.1.later hb, h.2.2.2.1.trans (hb.mono h.2.2.2.1.size), Nat.le_trans h.2.2.2.2 hb.size⟩
theorem CX.row {w W W' : World} {A : List Value} {v v' : Value} {ks ks' : List Ex} (h : CX w A v ks W) (hT : ExRow (w.heap.size + 2) W' v' ks') (hb : Below (w.heap.size + 2) W W') : CX w A v' ks' W' :=
  ⟨h.1.below hb (by omega), h.2.1.below hb (by omega), hT, h.2.2.2.1.trans (hb.mono (by omega)), Nat.le_trans h.2.2.2.2 hb.size⟩
theorem step_ex {ops : Array Oper} {o : Oper} {a : Act} {w : World} {K : Act → World → Prop} {Q : Exit → Act → World → Prop} {E : Prop} (hgd : o.guard = none) (s x : Operand) (ho : o.op = .call { callee := .builtin .append, args := #[s, x], argTypes := #[44, 44] })
    {base n : Nat} {v : Value} {ks : List Ex} {e : Ex} {v0 v1 v2 v3 : Value} (hs : a.eval s = v) (hown : ExRow base w v ks) (hx : a.eval x = .slice (some ⟨n, 0, none⟩) 1 1) (hc : Arr w 46 n [v0, v1, v2, v3])
    (he : RdE (Sub base w v) w e (.agg #[v0, v1, v2, v3])) (hlen : ks.length + 1 ≤ 1000000) (hbase : base ≤ w.heap.size)
    (hK : ∀ v' w', ExRow base w' v' (ks ++ [e]) → Below base w w' → K (a.put o.dst v') w') : if Region.wanted o (yielded ops a.tmps) = true then Oper.wp Tryz.prog o a w K Q else E := by
  have hw : Region.wanted o (yielded ops a.tmps) = true := by simp [Region.wanted, hgd]
  rw [if_pos hw]
  obtain ⟨i0, hi, hz0, hz1, hz2⟩ := info_parts Tryz.infoEx
  obtain ⟨cs, h1, h2⟩ := hown
  have hone : CellsL (Sub base w v) w [e] [v0, v1, v2, v3] := ⟨he, trivial⟩
  obtain ⟨v', w', hrun, r1, r2, _, r4⟩ := run_append_own_at (P := Tryz.prog) w base 44 o.type 46 i0 _ 4 64 Tryz.underlying44 hi hz0 hz1 hz2 rfl (by decide) v ks.length cs h1 ⟨n, 0, none⟩ 1 1 [v0, v1, v2, v3] rfl
    (fun j u hu => by
      have := hc.cell j
      rw [hu] at this
      cases j <;> simpa [Addr.add] using this) hone.ones (by unfold maxLen; omega) (by omega) hbase
  unfold Oper.wp
  simp [execOp, ho, resolve, invoke, builtin, hs, hx, hrun, Result.andThen]
  have hb : Below base w w' := (Below.refl _ _).grown r2 hbase (fun k hk => (h1.lt k hk).1)
  refine hK v' w' ⟨cs ++ [v0, v1, v2, v3], by rw [List.length_append]; exact r1, ?_⟩ hb
  have hk : ∀ b, Sub base w v b → ∀ m, w'.cell? ⟨b, m, none⟩ = w.cell? ⟨b, m, none⟩ := fun b hb m => World.cell?_of_block (r2.block b hb.2.1 hb.2.2)
  have hS : ∀ b, Sub base w v b → Sub base w' v' b := fun b hb => ⟨hb.1, Nat.lt_of_lt_of_le hb.2.1 r2.size, by
    rcases r4 with r4 | r4
    · rw [r4]; exact hb.2.2
    · rw [r4]; intro e; have := Option.some.inj e; have := hb.2.1; omega⟩
  exact CellsL.snoc ((he.keep hk).imp hS) ((h2.keep hk).imp hS)
def CR (w : World) (A : List Value) (a b c : Value) (v : Value) (ks : List Ex) (W : World) : Prop :=
  Arr W 46 w.heap.size A ∧ Arr W 46 (w.heap.size + 1) [.int .i64 0, .string ByteArray.empty, .string ByteArray.empty, .slice none 0 0] ∧ Arr W 46 (w.heap.size + 2) [a, b, c, v] ∧ ExRow (w.heap.size + 3) W v ks ∧ Below w.heap.size w W ∧ w.heap.size + 3 ≤ W.heap.size
theorem CR.later {w W W' : World} {A : List Value} {a b c v : Value} {ks : List Ex} (h : CR w A a b c v ks W) (hb : Below W.heap.size W W') : CR w A a b c v ks W' :=
  ⟨h.1.later hb, h.2.1.later hb, h.2.2.1.later hb, h.2.2.2.1.later hb, h.2.2.2.2.1.trans (hb.mono h.2.2.2.2.1.size), Nat.le_trans h.2.2.2.2.2 hb.size⟩
theorem CR.row {w W W' : World} {A : List Value} {a b c v v' : Value} {ks ks' : List Ex} (h : CR w A a b c v ks W) (hT : ExRow (w.heap.size + 3) W' v' ks') (hb : Below (w.heap.size + 3) W W') : CR w A a b c v' ks' (W'.setCell ⟨w.heap.size + 2, 3, none⟩ v') :=
  ⟨(h.1.below hb (by omega)).setCell (by simp) _, (h.2.1.below hb (by omega)).setCell (by simp) _, (h.2.2.1.below hb (by omega)).set 3 v', hT.set (by simp) _, (h.2.2.2.2.1.trans (hb.mono (by omega))).setCell (p := ⟨w.heap.size + 2, 3, none⟩) (by simp) _, by simpa [World.setCell] using Nat.le_trans h.2.2.2.2.2 hb.size⟩
def sgK (k : Int) : List UInt8 := if k = 3 then [32, 43, 32] else if k = 4 then [32, 38, 32] else [32, 45, 32]
set_option maxRecDepth 100000 in
theorem esign_any (k : Int) (w : World) : Calls Tryz.prog 96 #[.int .i64 k] w fun r w' => r = .returned (.string (bstr (sgK k))) ∧ w = w' := by
 by_cases h3 : k = 3
 ·have H : Hid (sgK k = [32, 43, 32]) := if_pos h3
  have b3 : (k == 3) = true := by rw [h3]; rfl
  clear h3
  go_enter Tryz.func96, Tryz.ntmps96
  go_wp2_with fail
  go_ret
  exact ⟨by rw [H.out]; rfl, rfl⟩
 ·have b3 : (k == 3) = false := by rw [beq_eq_false_iff_ne]; exact h3
  by_cases h4 : k = 4
  ·have H : Hid (sgK k = [32, 38, 32]) := by show _ = _; unfold sgK; rw [if_neg h3, if_pos h4]
   have b4 : (k == 4) = true := by rw [h4]; rfl
   clear h3 h4
   go_enter Tryz.func96, Tryz.ntmps96
   go_wp2_with fail
   go_ret
   exact ⟨by rw [H.out]; rfl, rfl⟩
  ·have H : Hid (sgK k = [32, 45, 32]) := by show _ = _; unfold sgK; rw [if_neg h3, if_neg h4]
   have b4 : (k == 4) = false := by rw [beq_eq_false_iff_ne]; exact h4
   clear h3 h4
   go_enter Tryz.func96, Tryz.ntmps96
   go_wp2_with fail
   go_ret
   exact ⟨by rw [H.out]; rfl, rfl⟩
set_option maxRecDepth 100000 in
theorem mkLeaves_any (k : Int) (xv xn : List UInt8) (q : Option Addr) (m c : Nat) (w : World) : Calls Tryz.prog 92 #[.agg #[.int .i64 k, .string (bstr xv), .string (bstr xn), .slice q m c]] w fun r w' => r = .returned (.func (.func 111) #[] #[.pointer (some ⟨w.heap.size, 0, none⟩)]) ∧ w' = w.alloc (.cells #[.int .i64 k, .string (bstr xv), .string (bstr xn), .slice q m c] 46) := by
 go_enter Tryz.func92, Tryz.ntmps92
 go_wp2_with fail
 go_ret
 exact ⟨rfl, rfl⟩
def partB (k : Int) (v n : List UInt8) (m : Nat) : Bool :=
 if k = 1 then decide (m = 0) && decide (v = []) && isName (bstr n)
 else if k = 2 then decide (m = 0) && isName (bstr v) && isName (bstr n)
 else if k = 3 ∨ k = 4 then decide (2 ≤ m) && decide (v = []) && decide (n = [])
 else if k = 5 then decide (m = 2) && decide (v = []) && decide (n = [])
 else false
mutual
def formE : Ex → Bool
 | .mk k v n ks => partB k v n ks.length && formL ks
def formL : List Ex → Bool
 | [] => true
 | e :: r => formE e && formL r
end
theorem good_all : ∀ {ks : List Ex} {d : Nat}, (∀ j, j < ks.length → (decide (depthE (ks.getD j ex0) ≤ d) && formE (ks.getD j ex0)) = true) → depthL ks ≤ d ∧ formL ks = true
 | [], d, _ => ⟨by unfold depthL; omega, rfl⟩
 | e :: r, d, h => by
  have h0 := h 0 (by simp)
  simp only [List.getD_cons_zero, Bool.and_eq_true, decide_eq_true_eq] at h0
  obtain ⟨g1, g2⟩ := good_all (ks := r) (d := d) (fun j hj => by have := h (j + 1) (by simpa using hj); simpa using this)
  unfold depthL formL
  exact ⟨by omega, by rw [h0.2, g2]; rfl⟩
theorem formL_get : ∀ {ks : List Ex} {j : Nat}, j < ks.length → formL ks = true → formE (ks.getD j ex0) = true
 | [], _, h, _ => by simp at h
 | e :: r, 0, _, h => by unfold formL at h; simp only [Bool.and_eq_true] at h; exact h.1
 | e :: r, j + 1, hj, h => by unfold formL at h; simp only [Bool.and_eq_true] at h; exact formL_get (j := j) (by simpa using hj) h.2
theorem bad_one {k : Int} {v n : List UInt8} {ks : List Ex} {d j : Nat} (hj : j < ks.length) (h : (decide (depthE (ks.getD j ex0) ≤ d) && formE (ks.getD j ex0)) = false) : (decide (depthE (.mk k v n ks) ≤ d + 1) && formE (.mk k v n ks)) = false := by
 rw [Bool.eq_false_iff] at h ⊢
 intro e
 simp only [Bool.and_eq_true, decide_eq_true_eq] at e
 refine h ?_
 simp only [Bool.and_eq_true, decide_eq_true_eq]
 obtain ⟨e1, e2⟩ := e
 unfold depthE at e1
 unfold formE at e2
 simp only [Bool.and_eq_true] at e2
 have := depthL_get ks j hj
 exact ⟨by omega, formL_get hj e2.2⟩
theorem all_good {k : Int} {v n : List UInt8} {ks : List Ex} {d : Nat} (h : ∀ j, j < ks.length → (decide (depthE (ks.getD j ex0) ≤ d) && formE (ks.getD j ex0)) = true) : (decide (depthE (.mk k v n ks) ≤ d + 1) && formE (.mk k v n ks)) = partB k v n ks.length := by
 obtain ⟨h1, h2⟩ := good_all h
 unfold depthE formE
 rw [h2, decide_eq_true (by omega)]; simp
theorem bstr_nil {l : List UInt8} (h : l = []) : ((bstr l).toList == []) = true := by rw [toList_data, bstr_data, h]; rfl
theorem bstr_nnil {l : List UInt8} (h : ¬ l = []) : ((bstr l).toList == []) = false := by rw [toList_data, bstr_data, beq_eq_false_iff_ne]; exact h
set_option maxRecDepth 100000 in
set_option maxHeartbeats 1000000 in
theorem nameless_any (k : Int) (xv xn : List UInt8) (q : Option Addr) (m c : Nat) (w : World) : Calls Tryz.prog 133 #[.agg #[.int .i64 k, .string (bstr xv), .string (bstr xn), .slice q m c]] w fun r w' => r = .returned (.bool (decide (xn = []) && decide (xv = []))) ∧ Below w.heap.size w w' := by
 have HB0 : Hid (Below w.heap.size w (w.alloc (.cells #[.int .i64 k, .string (bstr xv), .string (bstr xn), .slice q m c] 175))) := (Below.refl _ _).alloc (Nat.le_refl _) _
 by_cases hn : xn = []
 ·by_cases hv : xv = []
  ·have HP : Hid ((decide (xn = []) && decide (xv = [])) = true) := by show _ = _; simp [*]
   have en := bstr_nil hn
   have ev := bstr_nil hv
   clear hn hv
   go_enter Tryz.func133, Tryz.ntmps133
   go_wp2_with fail
   go_ret
   exact ⟨by rw [HP.out]; rfl, HB0.out⟩
  ·have HP : Hid ((decide (xn = []) && decide (xv = [])) = false) := by show _ = _; simp [*]
   have en := bstr_nil hn
   have ev := bstr_nnil hv
   clear hn hv
   go_enter Tryz.func133, Tryz.ntmps133
   go_wp2_with fail
   go_ret
   exact ⟨by rw [HP.out]; rfl, HB0.out⟩
 ·have HP : Hid ((decide (xn = []) && decide (xv = [])) = false) := by show _ = _; simp [*]
  have en := bstr_nnil hn
  clear hn
  go_enter Tryz.func133, Tryz.ntmps133
  go_wp2_with fail
  go_ret
  exact ⟨by rw [HP.out]; rfl, HB0.out⟩
set_option maxRecDepth 100000 in
set_option maxHeartbeats 1000000 in
theorem isNothing_any (k : Int) (xv xn : List UInt8) (q : Option Addr) (m c : Nat) (w : World) : Calls Tryz.prog 127 #[.agg #[.int .i64 k, .string (bstr xv), .string (bstr xn), .slice q m c]] w fun r w' => r = .returned (.bool (false)) ∧ Below w.heap.size w w' := by
 have HB0 : Hid (Below w.heap.size w (w.alloc (.cells #[.int .i64 k, .string (bstr xv), .string (bstr xn), .slice q m c] 175))) := (Below.refl _ _).alloc (Nat.le_refl _) _
 go_enter Tryz.func127, Tryz.ntmps127
 go_wp2_with fail
 go_ret
 exact ⟨rfl, HB0.out⟩
set_option maxRecDepth 100000 in
set_option maxHeartbeats 1000000 in
theorem isMany_any (k : Int) (xv xn : List UInt8) (q : Option Addr) (m c : Nat) (w : World) : Calls Tryz.prog 125 #[.agg #[.int .i64 k, .string (bstr xv), .string (bstr xn), .slice q m c]] w fun r w' => r = .returned (.bool ((decide (xn = []) && decide (xv = [])) && decide (2 ≤ m))) ∧ Below w.heap.size w w' := by
 have HB0 : Hid (Below w.heap.size w (w.alloc (.cells #[.int .i64 k, .string (bstr xv), .string (bstr xn), .slice q m c] 175))) := (Below.refl _ _).alloc (Nat.le_refl _) _
 have HA0 : Hid (Arr (w.alloc (.cells #[.int .i64 k, .string (bstr xv), .string (bstr xn), .slice q m c] 175)) 175 w.heap.size [.int .i64 k, .string (bstr xv), .string (bstr xn), .slice q m c]) := Arr.new' _ _ _ _ rfl
 have HC := hiD (nameless_any k xv xn q m c (w.alloc (.cells #[.int .i64 k, .string (bstr xv), .string (bstr xn), .slice q m c] 175)))
 obtain ⟨E, hE⟩ : ∃ E, E = (decide (xn = []) && decide (xv = [])) := ⟨_, rfl⟩
 rw [← hE] at HC ⊢
 clear hE
 cases E with
 | false =>
  have HP : Hid ((false && decide (2 ≤ m)) = false) := by show _ = _; simp [*]
  go_enter Tryz.func125, Tryz.ntmps125
  go_wp2_with fail
  refine HC.out.mono ?_
  rintro r w2 ⟨rfl, b2⟩
  have HB2 := hiD (HB0.out.trans (b2.mono HB0.out.size))
  have hq3 := (HA0.out.later b2).cell 3
  simp only [List.getElem?_cons_zero, List.getElem?_cons_succ] at hq3
  clear b2
  go_wp2_with fail
  go_ret
  exact ⟨by rw [HP.out]; first | rfl | exact congrArg (fun b => Ending.returned (.bool b)) (decide_eq_false (by omega)), HB2.out⟩
 | true =>
  by_cases hg : 2 ≤ m
  ·have HP : Hid ((true && decide (2 ≤ m)) = true) := by show _ = _; simp [*]
   have bg : (2 : Int) ≤ m := by omega
   clear hg
   go_enter Tryz.func125, Tryz.ntmps125
   go_wp2_with fail
   refine HC.out.mono ?_
   rintro r w2 ⟨rfl, b2⟩
   have HB2 := hiD (HB0.out.trans (b2.mono HB0.out.size))
   have hq3 := (HA0.out.later b2).cell 3
   simp only [List.getElem?_cons_zero, List.getElem?_cons_succ] at hq3
   clear b2
   go_wp2_with fail
   go_ret
   exact ⟨by rw [HP.out]; first | rfl | exact congrArg (fun b => Ending.returned (.bool b)) (decide_eq_false (by omega)), HB2.out⟩
  ·have HP : Hid ((true && decide (2 ≤ m)) = false) := by show _ = _; simp [*]
   have bg : ¬ (2 : Int) ≤ m := by omega
   clear hg
   go_enter Tryz.func125, Tryz.ntmps125
   go_wp2_with fail
   refine HC.out.mono ?_
   rintro r w2 ⟨rfl, b2⟩
   have HB2 := hiD (HB0.out.trans (b2.mono HB0.out.size))
   have hq3 := (HA0.out.later b2).cell 3
   simp only [List.getElem?_cons_zero, List.getElem?_cons_succ] at hq3
   clear b2
   go_wp2_with fail
   go_ret
   exact ⟨by rw [HP.out]; first | rfl | exact congrArg (fun b => Ending.returned (.bool b)) (decide_eq_false (by omega)), HB2.out⟩
set_option maxRecDepth 100000 in
set_option maxHeartbeats 1000000 in
theorem isPair_any (k : Int) (xv xn : List UInt8) (q : Option Addr) (m c : Nat) (w : World) : Calls Tryz.prog 126 #[.agg #[.int .i64 k, .string (bstr xv), .string (bstr xn), .slice q m c]] w fun r w' => r = .returned (.bool ((decide (xn = []) && decide (xv = [])) && decide (m = 2))) ∧ Below w.heap.size w w' := by
 have HB0 : Hid (Below w.heap.size w (w.alloc (.cells #[.int .i64 k, .string (bstr xv), .string (bstr xn), .slice q m c] 175))) := (Below.refl _ _).alloc (Nat.le_refl _) _
 have HA0 : Hid (Arr (w.alloc (.cells #[.int .i64 k, .string (bstr xv), .string (bstr xn), .slice q m c] 175)) 175 w.heap.size [.int .i64 k, .string (bstr xv), .string (bstr xn), .slice q m c]) := Arr.new' _ _ _ _ rfl
 have HC := hiD (nameless_any k xv xn q m c (w.alloc (.cells #[.int .i64 k, .string (bstr xv), .string (bstr xn), .slice q m c] 175)))
 obtain ⟨E, hE⟩ : ∃ E, E = (decide (xn = []) && decide (xv = [])) := ⟨_, rfl⟩
 rw [← hE] at HC ⊢
 clear hE
 cases E with
 | false =>
  have HP : Hid ((false && decide (m = 2)) = false) := by show _ = _; simp [*]
  go_enter Tryz.func126, Tryz.ntmps126
  go_wp2_with fail
  refine HC.out.mono ?_
  rintro r w2 ⟨rfl, b2⟩
  have HB2 := hiD (HB0.out.trans (b2.mono HB0.out.size))
  have hq3 := (HA0.out.later b2).cell 3
  simp only [List.getElem?_cons_zero, List.getElem?_cons_succ] at hq3
  clear b2
  go_wp2_with fail
  go_ret
  exact ⟨by rw [HP.out]; first | rfl | exact congrArg (fun b => Ending.returned (.bool b)) (decide_eq_false (by omega)), HB2.out⟩
 | true =>
  by_cases ht : m = 2
  ·have HP : Hid ((true && decide (m = 2)) = true) := by show _ = _; simp [*]
   have bt : ((m : Int) == 2) = true := by rw [ht]; rfl
   clear ht
   go_enter Tryz.func126, Tryz.ntmps126
   go_wp2_with fail
   refine HC.out.mono ?_
   rintro r w2 ⟨rfl, b2⟩
   have HB2 := hiD (HB0.out.trans (b2.mono HB0.out.size))
   have hq3 := (HA0.out.later b2).cell 3
   simp only [List.getElem?_cons_zero, List.getElem?_cons_succ] at hq3
   clear b2
   go_wp2_with fail
   go_ret
   exact ⟨by rw [HP.out]; first | rfl | exact congrArg (fun b => Ending.returned (.bool b)) (decide_eq_false (by omega)), HB2.out⟩
  ·have HP : Hid ((true && decide (m = 2)) = false) := by show _ = _; simp [*]
   have bt : ((m : Int) == 2) = false := by rw [beq_eq_false_iff_ne]; omega
   clear ht
   go_enter Tryz.func126, Tryz.ntmps126
   go_wp2_with fail
   refine HC.out.mono ?_
   rintro r w2 ⟨rfl, b2⟩
   have HB2 := hiD (HB0.out.trans (b2.mono HB0.out.size))
   have hq3 := (HA0.out.later b2).cell 3
   simp only [List.getElem?_cons_zero, List.getElem?_cons_succ] at hq3
   clear b2
   go_wp2_with fail
   go_ret
   exact ⟨by rw [HP.out]; first | rfl | exact congrArg (fun b => Ending.returned (.bool b)) (decide_eq_false (by omega)), HB2.out⟩
set_option maxRecDepth 100000 in
set_option maxHeartbeats 1000000 in
theorem isRef_any (k : Int) (xv xn : List UInt8) (q : Option Addr) (m c : Nat) (w : World) (hr : ResT w) : Calls Tryz.prog 123 #[.agg #[.int .i64 k, .string (bstr xv), .string (bstr xn), .slice q m c]] w fun r w' => r = .returned (.bool (isName (bstr xn) && decide (xv = []) && decide (m = 0))) ∧ Below w.heap.size w w' := by
 have HA0 : Hid (Arr (w.alloc (.cells #[.int .i64 k, .string (bstr xv), .string (bstr xn), .slice q m c] 175)) 175 w.heap.size [.int .i64 k, .string (bstr xv), .string (bstr xn), .slice q m c]) := Arr.new' _ _ _ _ rfl
 have HB0 : Hid (Below w.heap.size w (w.alloc (.cells #[.int .i64 k, .string (bstr xv), .string (bstr xn), .slice q m c] 175))) := (Below.refl _ _).alloc (Nat.le_refl _) _
 have HRS : Hid (ResT (w.alloc (.cells #[.int .i64 k, .string (bstr xv), .string (bstr xn), .slice q m c] 175))) := hr.below HB0.out hr.lt
 clear hr
 have HC := hiD (isName_any (bstr xn) (w.alloc (.cells #[.int .i64 k, .string (bstr xv), .string (bstr xn), .slice q m c] 175)) HRS.out)
 obtain ⟨E, hE⟩ : ∃ E, E = isName (bstr xn) := ⟨_, rfl⟩
 rw [← hE] at HC ⊢
 clear hE
 cases E with
 | false =>
  have HP : Hid ((false && decide (xv = []) && decide (m = 0)) = false) := by show _ = _; simp [*]
  go_enter Tryz.func123, Tryz.ntmps123
  go_wp2_with fail
  refine HC.out.mono ?_
  rintro r w2 ⟨rfl, b2⟩
  have HB2 := hiD (HB0.out.trans (b2.mono HB0.out.size))
  have HA2 := (HA0.out.later b2)
  have hq1 := HA2.cell 1
  have hq3 := HA2.cell 3
  simp only [List.getElem?_cons_zero, List.getElem?_cons_succ] at hq1 hq3
  clear b2 HA2
  go_wp2_with fail
  go_ret
  exact ⟨by rw [HP.out]; rfl, HB2.out⟩
 | true =>
  by_cases hv : xv = []
  ·by_cases hz : m = 0
   ·have HP : Hid ((true && decide (xv = []) && decide (m = 0)) = true) := by show _ = _; simp [*]
    have ev := bstr_nil hv
    have bz : ((m : Int) == 0) = true := by rw [hz]; rfl
    clear hv hz
    go_enter Tryz.func123, Tryz.ntmps123
    go_wp2_with fail
    refine HC.out.mono ?_
    rintro r w2 ⟨rfl, b2⟩
    have HB2 := hiD (HB0.out.trans (b2.mono HB0.out.size))
    have HA2 := (HA0.out.later b2)
    have hq1 := HA2.cell 1
    have hq3 := HA2.cell 3
    simp only [List.getElem?_cons_zero, List.getElem?_cons_succ] at hq1 hq3
    clear b2 HA2
    go_wp2_with fail
    go_ret
    exact ⟨by rw [HP.out]; rfl, HB2.out⟩
   ·have HP : Hid ((true && decide (xv = []) && decide (m = 0)) = false) := by show _ = _; simp [*]
    have ev := bstr_nil hv
    have bz : ((m : Int) == 0) = false := by rw [beq_eq_false_iff_ne]; omega
    clear hv hz
    go_enter Tryz.func123, Tryz.ntmps123
    go_wp2_with fail
    refine HC.out.mono ?_
    rintro r w2 ⟨rfl, b2⟩
    have HB2 := hiD (HB0.out.trans (b2.mono HB0.out.size))
    have HA2 := (HA0.out.later b2)
    have hq1 := HA2.cell 1
    have hq3 := HA2.cell 3
    simp only [List.getElem?_cons_zero, List.getElem?_cons_succ] at hq1 hq3
    clear b2 HA2
    go_wp2_with fail
    go_ret
    exact ⟨by rw [HP.out]; rfl, HB2.out⟩
  ·have HP : Hid ((true && decide (xv = []) && decide (m = 0)) = false) := by show _ = _; simp [*]
   have ev := bstr_nnil hv
   clear hv
   go_enter Tryz.func123, Tryz.ntmps123
   go_wp2_with fail
   refine HC.out.mono ?_
   rintro r w2 ⟨rfl, b2⟩
   have HB2 := hiD (HB0.out.trans (b2.mono HB0.out.size))
   have HA2 := (HA0.out.later b2)
   have hq1 := HA2.cell 1
   have hq3 := HA2.cell 3
   simp only [List.getElem?_cons_zero, List.getElem?_cons_succ] at hq1 hq3
   clear b2 HA2
   go_wp2_with fail
   go_ret
   exact ⟨by rw [HP.out]; rfl, HB2.out⟩
set_option maxRecDepth 100000 in
set_option maxHeartbeats 1000000 in
theorem isArrow_any (k : Int) (xv xn : List UInt8) (q : Option Addr) (m c : Nat) (w : World) (hr : ResT w) : Calls Tryz.prog 124 #[.agg #[.int .i64 k, .string (bstr xv), .string (bstr xn), .slice q m c]] w fun r w' => r = .returned (.bool (isName (bstr xn) && isName (bstr xv) && decide (m = 0))) ∧ Below w.heap.size w w' := by
 have HA0 : Hid (Arr (w.alloc (.cells #[.int .i64 k, .string (bstr xv), .string (bstr xn), .slice q m c] 175)) 175 w.heap.size [.int .i64 k, .string (bstr xv), .string (bstr xn), .slice q m c]) := Arr.new' _ _ _ _ rfl
 have HB0 : Hid (Below w.heap.size w (w.alloc (.cells #[.int .i64 k, .string (bstr xv), .string (bstr xn), .slice q m c] 175))) := (Below.refl _ _).alloc (Nat.le_refl _) _
 have HRS : Hid (ResT (w.alloc (.cells #[.int .i64 k, .string (bstr xv), .string (bstr xn), .slice q m c] 175))) := hr.below HB0.out hr.lt
 clear hr
 have HC := hiD (isName_any (bstr xn) (w.alloc (.cells #[.int .i64 k, .string (bstr xv), .string (bstr xn), .slice q m c] 175)) HRS.out)
 have HV := hiD (fun W h => isName_any (bstr xv) W h)
 obtain ⟨E, hE⟩ : ∃ E, E = isName (bstr xn) := ⟨_, rfl⟩
 rw [← hE] at HC ⊢
 clear hE
 obtain ⟨F, hF⟩ : ∃ F, F = isName (bstr xv) := ⟨_, rfl⟩
 rw [← hF] at HV ⊢
 clear hF
 cases E with
 | false =>
  have HP : Hid ((false && F && decide (m = 0)) = false) := by show _ = _; simp [*]
  go_enter Tryz.func124, Tryz.ntmps124
  go_wp2_with fail
  refine HC.out.mono ?_
  rintro r w2 ⟨rfl, b2⟩
  have HB2 := hiD (HB0.out.trans (b2.mono HB0.out.size))
  have HA2 := hiD (HA0.out.later b2)
  have HR2 := hiD (HRS.out.below b2 HRS.out.lt)
  have hq1 := HA2.out.cell 1
  simp only [List.getElem?_cons_zero, List.getElem?_cons_succ] at hq1
  clear b2
  go_wp2_with fail
  go_ret
  exact ⟨by rw [HP.out]; rfl, HB2.out⟩
 | true =>
  cases F with
  | false =>
   have HP : Hid ((true && false && decide (m = 0)) = false) := by show _ = _; simp [*]
   go_enter Tryz.func124, Tryz.ntmps124
   go_wp2_with fail
   refine HC.out.mono ?_
   rintro r w2 ⟨rfl, b2⟩
   have HB2 := hiD (HB0.out.trans (b2.mono HB0.out.size))
   have HA2 := hiD (HA0.out.later b2)
   have HR2 := hiD (HRS.out.below b2 HRS.out.lt)
   have hq1 := HA2.out.cell 1
   simp only [List.getElem?_cons_zero, List.getElem?_cons_succ] at hq1
   clear b2
   go_wp2_with fail
   refine (HV.out _ HR2.out).mono ?_
   rintro r w3 ⟨rfl, b3⟩
   have HB3 := hiD (HB2.out.trans (b3.mono HB2.out.size))
   have hq3 := (HA2.out.later b3).cell 3
   simp only [List.getElem?_cons_zero, List.getElem?_cons_succ] at hq3
   clear b3
   go_wp2_with fail
   go_ret
   exact ⟨by rw [HP.out]; rfl, HB3.out⟩
  | true =>
   by_cases hz : m = 0
   ·have HP : Hid ((true && true && decide (m = 0)) = true) := by show _ = _; simp [*]
    have bz : ((m : Int) == 0) = true := by rw [hz]; rfl
    clear hz
    go_enter Tryz.func124, Tryz.ntmps124
    go_wp2_with fail
    refine HC.out.mono ?_
    rintro r w2 ⟨rfl, b2⟩
    have HB2 := hiD (HB0.out.trans (b2.mono HB0.out.size))
    have HA2 := hiD (HA0.out.later b2)
    have HR2 := hiD (HRS.out.below b2 HRS.out.lt)
    have hq1 := HA2.out.cell 1
    simp only [List.getElem?_cons_zero, List.getElem?_cons_succ] at hq1
    clear b2
    go_wp2_with fail
    refine (HV.out _ HR2.out).mono ?_
    rintro r w3 ⟨rfl, b3⟩
    have HB3 := hiD (HB2.out.trans (b3.mono HB2.out.size))
    have hq3 := (HA2.out.later b3).cell 3
    simp only [List.getElem?_cons_zero, List.getElem?_cons_succ] at hq3
    clear b3
    go_wp2_with fail
    go_ret
    exact ⟨by rw [HP.out]; rfl, HB3.out⟩
   ·have HP : Hid ((true && true && decide (m = 0)) = false) := by show _ = _; simp [*]
    have bz : ((m : Int) == 0) = false := by rw [beq_eq_false_iff_ne]; omega
    clear hz
    go_enter Tryz.func124, Tryz.ntmps124
    go_wp2_with fail
    refine HC.out.mono ?_
    rintro r w2 ⟨rfl, b2⟩
    have HB2 := hiD (HB0.out.trans (b2.mono HB0.out.size))
    have HA2 := hiD (HA0.out.later b2)
    have HR2 := hiD (HRS.out.below b2 HRS.out.lt)
    have hq1 := HA2.out.cell 1
    simp only [List.getElem?_cons_zero, List.getElem?_cons_succ] at hq1
    clear b2
    go_wp2_with fail
    refine (HV.out _ HR2.out).mono ?_
    rintro r w3 ⟨rfl, b3⟩
    have HB3 := hiD (HB2.out.trans (b3.mono HB2.out.size))
    have hq3 := (HA2.out.later b3).cell 3
    simp only [List.getElem?_cons_zero, List.getElem?_cons_succ] at hq3
    clear b3
    go_wp2_with fail
    go_ret
    exact ⟨by rw [HP.out]; rfl, HB3.out⟩
def chk (k : Int) : FuncId := if k = 1 then 123 else if k = 2 then 124 else if k = 3 ∨ k = 4 then 125 else if k = 5 then 126 else 127
theorem part_any (k : Int) (xv xn : List UInt8) (q : Option Addr) (m c : Nat) (w : World) (hr : ResT w) : Calls Tryz.prog (chk k) #[.agg #[.int .i64 k, .string (bstr xv), .string (bstr xn), .slice q m c]] w fun r w' => r = .returned (.bool (partB k xv xn m)) ∧ Below w.heap.size w w' := by
 unfold chk partB
 split
 ·exact (isRef_any k xv xn q m c w hr).mono fun r w' ⟨h1, h2⟩ => ⟨by rw [h1]; congr 2; ac_rfl, h2⟩
 split
 ·exact (isArrow_any k xv xn q m c w hr).mono fun r w' ⟨h1, h2⟩ => ⟨by rw [h1]; congr 2; ac_rfl, h2⟩
 split
 ·exact (isMany_any k xv xn q m c w).mono fun r w' ⟨h1, h2⟩ => ⟨by rw [h1]; congr 2; ac_rfl, h2⟩
 split
 ·exact (isPair_any k xv xn q m c w).mono fun r w' ⟨h1, h2⟩ => ⟨by rw [h1]; congr 2; ac_rfl, h2⟩
 ·exact isNothing_any k xv xn q m c w
set_option maxRecDepth 100000 in
set_option maxHeartbeats 1000000 in
theorem checkOf_any (k : Int) (w : World) : Calls Tryz.prog 113 #[.int .i64 k] w fun r w' => r = .returned (.func (.func (chk k)) #[] #[]) ∧ w = w' := by
 by_cases h1 : k = 1
 ·have HP : Hid (chk k = 123) := by show _ = _; unfold chk; simp [*]
  have b1 : (k == 1) = true := by rw [h1]; rfl
  clear h1
  go_enter Tryz.func113, Tryz.ntmps113
  go_wp2_with fail
  go_ret
  exact ⟨by rw [HP.out]; rfl, rfl⟩
 ·by_cases h2 : k = 2
  ·have HP : Hid (chk k = 124) := by show _ = _; unfold chk; simp [*]
   have b1 : (k == 1) = false := by rw [beq_eq_false_iff_ne]; exact h1
   have b2 : (k == 2) = true := by rw [h2]; rfl
   clear h1 h2
   go_enter Tryz.func113, Tryz.ntmps113
   go_wp2_with fail
   go_ret
   exact ⟨by rw [HP.out]; rfl, rfl⟩
  ·by_cases h3 : k = 3
   ·have HP : Hid (chk k = 125) := by show _ = _; unfold chk; simp [*]
    have b1 : (k == 1) = false := by rw [beq_eq_false_iff_ne]; exact h1
    have b2 : (k == 2) = false := by rw [beq_eq_false_iff_ne]; exact h2
    have b3 : (k == 3) = true := by rw [h3]; rfl
    clear h1 h2 h3
    go_enter Tryz.func113, Tryz.ntmps113
    go_wp2_with fail
    go_ret
    exact ⟨by rw [HP.out]; rfl, rfl⟩
   ·by_cases h4 : k = 4
    ·have HP : Hid (chk k = 125) := by show _ = _; unfold chk; simp [*]
     have b1 : (k == 1) = false := by rw [beq_eq_false_iff_ne]; exact h1
     have b2 : (k == 2) = false := by rw [beq_eq_false_iff_ne]; exact h2
     have b3 : (k == 3) = false := by rw [beq_eq_false_iff_ne]; exact h3
     have b4 : (k == 4) = true := by rw [h4]; rfl
     clear h1 h2 h3 h4
     go_enter Tryz.func113, Tryz.ntmps113
     go_wp2_with fail
     go_ret
     exact ⟨by rw [HP.out]; rfl, rfl⟩
    ·by_cases h5 : k = 5
     ·have HP : Hid (chk k = 126) := by show _ = _; unfold chk; simp [*]
      have b1 : (k == 1) = false := by rw [beq_eq_false_iff_ne]; exact h1
      have b2 : (k == 2) = false := by rw [beq_eq_false_iff_ne]; exact h2
      have b3 : (k == 3) = false := by rw [beq_eq_false_iff_ne]; exact h3
      have b4 : (k == 4) = false := by rw [beq_eq_false_iff_ne]; exact h4
      have b5 : (k == 5) = true := by rw [h5]; rfl
      clear h1 h2 h3 h4 h5
      go_enter Tryz.func113, Tryz.ntmps113
      go_wp2_with fail
      go_ret
      exact ⟨by rw [HP.out]; rfl, rfl⟩
     ·have HP : Hid (chk k = 127) := by show _ = _; unfold chk; simp [*]
      have b1 : (k == 1) = false := by rw [beq_eq_false_iff_ne]; exact h1
      have b2 : (k == 2) = false := by rw [beq_eq_false_iff_ne]; exact h2
      have b3 : (k == 3) = false := by rw [beq_eq_false_iff_ne]; exact h3
      have b4 : (k == 4) = false := by rw [beq_eq_false_iff_ne]; exact h4
      have b5 : (k == 5) = false := by rw [beq_eq_false_iff_ne]; exact h5
      clear h1 h2 h3 h4 h5
      go_enter Tryz.func113, Tryz.ntmps113
      go_wp2_with fail
      go_ret
      exact ⟨by rw [HP.out]; rfl, rfl⟩
theorem formL_all : ∀ {ks : List Ex}, (∀ j, j < ks.length → formE (ks.getD j ex0) = true) → formL ks = true
 | [], _ => rfl
 | e :: r, h => by
  have h0 := h 0 (by simp)
  simp only [List.getD_cons_zero] at h0
  unfold formL
  rw [h0, formL_all (ks := r) (fun j hj => by have := h (j + 1) (by simpa using hj); simpa using this)]; rfl
theorem formE_bad {k : Int} {v n : List UInt8} {ks : List Ex} {j : Nat} (hj : j < ks.length) (h : formE (ks.getD j ex0) = false) : formE (.mk k v n ks) = false := by
 rw [Bool.eq_false_iff]
 intro e
 unfold formE at e
 simp only [Bool.and_eq_true] at e
 rw [formL_get hj e.2] at h
 cases h
theorem chk_cases (k : Int) : chk k = 123 ∨ chk k = 124 ∨ chk k = 125 ∨ chk k = 126 ∨ chk k = 127 := by
 unfold chk
 split
 ·exact .inl rfl
 split
 ·exact .inr (.inl rfl)
 split
 ·exact .inr (.inr (.inl rfl))
 split
 ·exact .inr (.inr (.inr (.inl rfl)))
 ·exact .inr (.inr (.inr (.inr rfl)))
set_option maxRecDepth 100000 in
set_option maxHeartbeats 16000000 in
theorem parts_any : ∀ (n : Nat) (e : Ex) (v : Value) (P : Nat → Prop) (w : World), sizeE e ≤ n → sizeE e ≤ 900000 → RdE P w e v → (∀ b, P b → b < w.heap.size) → ResT w → Calls Tryz.prog 94 #[v] w fun r w' => r = .returned (.bool (formE e)) ∧ Below w.heap.size w w' := by
 intro n
 induction n with
 | zero => intro e v P w h; have := sizeE_pos e; omega
 | succ n ih =>
  intro e v P w hn hm h hP hr
  obtain ⟨q, c, rfl, hc, hk⟩ := h.form
  obtain ⟨k, xv, xn, ks⟩ := e
  unfold exv
  show Calls _ _ #[.agg #[.int .i64 k, .string (bstr xv), .string (bstr xn), .slice q ks.length c]] _ _
  have HK : Hid (0 < ks.length → ∃ b o, q = some ⟨b, o, none⟩ ∧ P b ∧ RdL P w ks b o) := hk
  have hks : sizeL ks ≤ n := by unfold sizeE at hn; omega
  have hkm : sizeL ks ≤ 900000 := by unfold sizeE at hm; omega
  have hlen := sizeL_len ks
  have HIH := hiD ih
  have HRS := hiD hr
  have HB0 : Hid (Below w.heap.size w (w.alloc (.cells #[.int .i64 k, .string (bstr xv), .string (bstr xn), .slice q ks.length c] 46))) := (Below.refl _ _).alloc (Nat.le_refl _) _
  have HA0 : Hid (Arr (w.alloc (.cells #[.int .i64 k, .string (bstr xv), .string (bstr xn), .slice q ks.length c] 46)) 46 w.heap.size [.int .i64 k, .string (bstr xv), .string (bstr xn), .slice q ks.length c]) := Arr.new' _ _ _ _ rfl
  have HCK := hiD (fun W => checkOf_any k W)
  have HPT := hiD (fun W h => part_any k xv xn q ks.length c W h)
  have HR0 : Hid (ResT (w.alloc (.cells #[.int .i64 k, .string (bstr xv), .string (bstr xn), .slice q ks.length c] 46))) := hr.below HB0.out hr.lt
  obtain ⟨fid, hfid⟩ : ∃ f, f = chk k := ⟨_, rfl⟩
  obtain ⟨E, hE⟩ : ∃ E, E = partB k xv xn ks.length := ⟨_, rfl⟩
  rw [← hfid] at HCK HPT
  rw [← hE] at HPT
  have HE := hiD hE
  have HFX : Hid (partB k xv xn ks.length = E) := hE.symm
  have hcs := chk_cases k
  rw [← hfid] at hcs
  clear h ih hc hk hn hm hr hfid hE
  rcases hcs with hf | hf | hf | hf | hf
  all_goals
   rw [hf] at HCK HPT
   clear hf
   go_enter Tryz.func94, Tryz.ntmps94
   go_wp2_with fail
   refine (HCK.out _).mono ?_
   rintro r w1 ⟨rfl, hw⟩
   subst hw
   go_wp2_with fail
   refine (HPT.out _ HR0.out).mono ?_
   rintro r w2 ⟨rfl, b2⟩
   have HB2 := hiD (HB0.out.trans (b2.mono HB0.out.size))
   have hq3 := (HA0.out.later b2).cell 3
   simp only [List.getElem?_cons_zero, List.getElem?_cons_succ] at hq3
   clear b2
   cases hEb : E with
   | false =>
    have HBD : Hid (formE (.mk k xv xn ks) = false) := by show _ = _; unfold formE; rw [HFX.out, hEb]; rfl
    clear hEb
    go_wp2_with fail
    go_ret
    exact ⟨by rw [HBD.out]; rfl, HB2.out⟩
   | true =>
    have HEB : Hid (partB k xv xn ks.length = true) := by show _ = _; rw [HFX.out, hEb]
    clear hEb
    go_wp2_with fail
    go_loopw [16] (fun iv wr => ∃ i : Nat, i ≤ ks.length ∧ iv = .int .i64 i ∧ Hid (∀ j, j < i → formE (ks.getD j ex0) = true) ∧ Hid (Below w.heap.size w wr)) (fun iv _ => ks.length - (intOf iv).toNat)
    case atStart => exact ⟨0, Nat.zero_le _, rfl, fun j hj => absurd hj (Nat.not_lt_zero _), HB2.out⟩
    case round =>
     obtain ⟨i, hi, rfl, HG, HI⟩ := hrel
     have hi0 : (0 : Int) ≤ i := by omega
     by_cases hlt : i < ks.length
     ·have hi1 : (i : Int) < ks.length := by omega
      obtain ⟨ba, oa, rfl, hba, hl⟩ := HK.out (by omega)
      obtain ⟨x, hx⟩ : ∃ x, x = ks.getD i ex0 := ⟨_, rfl⟩
      obtain ⟨q2, c2, x0, x1, x2, x3, hr⟩ := hl.at hlt
      have hxs := sizeL_get ks i hlt
      have hxd := depthL_get ks i hlt
      rw [← hx] at x0 x1 x2 x3 hr hxs hxd
      have HX := hiD hx
      obtain ⟨xk, xv2, xn2, xs⟩ := x
      have cc : ∀ n, wr.cell? ⟨ba, n, none⟩ = w.cell? ⟨ba, n, none⟩ := fun n => (HI.out).cell (p := ⟨ba, n, none⟩) (hP _ hba)
      have X0 : wr.cell? ⟨ba, oa + i * 4, none⟩ = some (.int .i64 xk) := (cc _).trans x0
      have X1 : wr.cell? ⟨ba, oa + i * 4 + 1, none⟩ = some (.string (bstr xv2)) := (cc _).trans x1
      have X2 : wr.cell? ⟨ba, oa + i * 4 + 2, none⟩ = some (.string (bstr xn2)) := (cc _).trans x2
      have X3 : wr.cell? ⟨ba, oa + i * 4 + 3, none⟩ = some (.slice q2 xs.length c2) := (cc _).trans x3
      clear x0 x1 x2 x3 cc hx
      have HBA : Hid (Below wr.heap.size wr (wr.alloc (.cells #[.int .i64 xk, .string (bstr xv2), .string (bstr xn2), .slice q2 xs.length c2] 46))) := (Below.refl _ _).alloc (Nat.le_refl _) _
      have HR : Hid (RdE P (wr.alloc (.cells #[.int .i64 xk, .string (bstr xv2), .string (bstr xn2), .slice q2 xs.length c2] 46)) (.mk xk xv2 xn2 xs) (.agg #[.int .i64 xk, .string (bstr xv2), .string (bstr xn2), .slice q2 xs.length c2])) := (hr.below (HI.out) hP).below HBA.out (fun b hb => Nat.lt_of_lt_of_le (hP b hb) (HI.out).size)
      have HRW : Hid (ResT (wr.alloc (.cells #[.int .i64 xk, .string (bstr xv2), .string (bstr xn2), .slice q2 xs.length c2] 46))) := (HRS.out.below (HI.out.trans (HBA.out.mono HI.out.size)) HRS.out.lt)
      have HC := hiD (HIH.out (.mk xk xv2 xn2 xs) _ P _ (by omega) (by omega) HR.out (fun b hb => Nat.lt_of_lt_of_le (hP b hb) (Nat.le_trans HI.out.size HBA.out.size)) HRW.out)
      obtain ⟨G, hG⟩ : ∃ G, G = formE (.mk xk xv2 xn2 xs) := ⟨_, rfl⟩
      rw [← hG] at HC
      have HGD := hiD hG
      have HLT : Hid (i < ks.length) := hlt
      clear hl hr hxs hxd hG
      go_wp2_with fail
      refine HC.out.mono ?_
      rintro r w5 ⟨rfl, b5⟩
      have HB5 := hiD (HI.out.trans ((HBA.out.trans (b5.mono HBA.out.size)).mono HI.out.size))
      clear b5
      cases hGb : G with
      | false =>
       have HBD : Hid (formE (.mk k xv xn ks) = false) := formE_bad HLT.out (by rw [← HX.out, ← HGD.out, hGb])
       clear hGb
       go_wp2_with fail
       go_ret
       exact ⟨by rw [HBD.out]; rfl, HB5.out⟩
      | true =>
       have HGB := hiD hGb
       clear hGb
       go_wp2_with fail
       go_roundw
       case rel =>
        refine ⟨i + 1, by omega, by go_num, fun j hj => ?_, HB5.out⟩
        by_cases e : j = i
        ·subst e; rw [← HX.out, ← HGD.out, HGB.out]
        ·exact HG.out j (by omega)
       case measure => simp [intOf]; omega
     ·have hi1 : ¬ (i : Int) < ks.length := by omega
      have HBD : Hid (formE (.mk k xv xn ks) = true) := by
       show _ = _
       unfold formE
       rw [HEB.out, formL_all fun j hj => HG.out j (by omega)]; rfl
      go_wp2_with fail
      go_ret
      exact ⟨by rw [HBD.out]; rfl, HI.out⟩
end Go.Proofs.YtkildckeikedhaaGreatDoor
namespace Go.Proofs.YtkildckeikedhaaGreatDoor
open Go.RowKit
set_option linter.unusedVariables false
variable {F : Fence} {n : Nat} {P : Program}

def SeqReads {α : Type} (F : Fence) (n : Nat) (P : Program) (g : Nat) (lb : Array Value) (encs : α → Array Value) (n₀ : Nat) (G : List α → α → World → Prop) (S Sp : List α → Prop) (N : Nat) (w : World) : Prop :=
  ∀ (l : Nat) (J Jx : List α → World → Prop) (W : World), Below w.heap.size w W → (∀ s A B, J s A → Below A.heap.size A B → J s B) → (∀ s A B, Jx s A → Below A.heap.size A B → Jx s B) →
    (∀ pre x W1, J pre W1 → G pre x W1 → pre.length < N → YieldAt F (n - 1) P l (encs x) W1 fun e W' =>
      (e = .returned (.bool true) ∧ J (pre ++ [x]) W' ∧ Below n₀ W1 W') ∨ (e = .returned (.bool false) ∧ Jx (pre ++ [x]) W')) →
    J [] W →
    CallsIn F n P g (#[.func (.yield l) #[] #[]] ++ lb) W fun e W' => (∃ v, e = .returned v) ∧ ((∃ xs, S xs ∧ J xs W') ∨ (∃ pre, Sp pre ∧ Jx pre W'))

def Turns (B : Nat) (X : World → Prop) : Prop := ∀ W l o o', B ≤ l → W.heap[l]? = some o → o.isCells = false → X W → X (W.putObj l o')

theorem below_put {B : Nat} (W : World) (l : Nat) (o : Obj) (h : B ≤ l) : Below B W (W.putObj l o) := ⟨rfl, rfl, rfl, by simp, fun k hk => World.putObj_heap_other (by omega)⟩

theorem wpIn_range_read {α : Type} {g : Operand} {ps : Array Tmp} {assign body : Code} {Q : Exit → Act → World → Prop} {a : Act} {w : World}
    (hro : F.round = none) (h1 : 1 ≤ n) {gf : Nat} {lb : Array Value} (hg : a.eval g = .func (.func gf) #[] lb) (hFg : F.fn gf) (eg : ∀ args w, (callFunc gf args).run P w = .ok (.enter gf args) w)
    {encs : α → Array Value} {n₀ : Nat} {G : List α → α → World → Prop} {S Sp : List α → Prop} {N : Nat} (hseq : SeqReads F (n - 1) P gf lb encs n₀ G S Sp N w) (hn : n₀ ≤ w.heap.size) (hG : ∀ pre x, Turns w.heap.size (G pre x)) (hps : ∀ x, (encs x).size = ps.size)
    (I : List α → World → Prop) (Ix : Code → List α → World → Prop)
    (hI : ∀ s A B, I s A → Below A.heap.size A B → I s B) (hIx : ∀ c s A B, Ix c s A → Below A.heap.size A B → Ix c s B) (hIt : ∀ s, Turns w.heap.size (I s)) (hIxt : ∀ c s, Turns w.heap.size (Ix c s))
    (h0 : I [] w) (a₁ : α → Act)
    (hassign : ∀ (l : Nat) (x : α) (W : World) (K : Act → World → Prop), K (a₁ x) W →
      assign.wpIn (F.inRound l) (n - 1 - 1) P (Exit.then K (fun _ _ _ => False)) { tmps := (ps.zip (encs x)).foldl (fun t (p, v) => t.setIfInBounds p v) a.tmps, defers := [] } W)
    (hbody : ∀ (l : Nat) (pre : List α) (x : α) (W : World), I pre W → G pre x W → pre.length < N → body.wpIn (F.inRound l) (n - 1 - 1) P (ownPostK (Below n₀) I Ix (pre ++ [x]) W) (a₁ x) W)
    (hdone : ∀ (D : Nat) (xs : List α) (W : World), w.heap.size ≤ D → S xs → I xs W → W.heap[D]? = some (.deferred (some [])) → Q .normal { a with defers := { target := .collected D, args := #[] } :: a.defers } W)
    (hstop : ∀ (D : Nat) (c : Code) (pre : List α) (W : World), w.heap.size ≤ D → Sp pre → Ix c pre W → W.heap[D]? = some (.deferred (some [])) → c.wpIn F n P Q { a with defers := { target := .collected D, args := #[] } :: a.defers } W) :
    (Code.rangeFunc g ps assign body).wpIn F n P Q a w := by
  refine wpIn_rangeFunc fun fn hfn => ?_
  rw [hro]
  obtain ⟨R, hR⟩ : ∃ R : LoopState → Option Code → Loop, R = fun st pe => { state := st, pending := pe, fn, tmps := a.tmps, params := ps, assign, body, defers := w.heap.size } := ⟨_, rfl⟩
  obtain ⟨D, hD⟩ : ∃ D, D = w.heap.size := ⟨_, rfl⟩
  obtain ⟨W1, hW1⟩ : ∃ W1, W1 = (w.alloc (.deferred (some []))).alloc (.loop (R .ready none)) := ⟨_, rfl⟩
  have hb1 : Below w.heap.size w W1 := by rw [hW1]; exact ((Below.refl _ w).alloc (Nat.le_refl _) _).alloc (by simp) _
  -- where the record stands, and the block for the rounds' deferred calls
  let Bk : LoopState → Option Code → World → Prop := fun st pe W => W.heap[D + 1]? = some (.loop (R st pe)) ∧ W.heap[D]? = some (.deferred (some []))
  have bk1 : Bk .ready none W1 := by
    constructor
    · rw [hW1, hD]
      have := World.alloc_heap_new (w.alloc (.deferred (some []))) (.loop (R .ready none))
      rwa [World.size_alloc] at this
    · rw [hW1, hD]
      exact (Below.heap_alloc _ _ _ (by simp)).trans (World.alloc_heap_new w _)
  have bkB : ∀ {st pe A B}, Bk st pe A → Below A.heap.size A B → Bk st pe B := fun h hb =>
    ⟨(hb.block _ (Array.getElem?_eq_some_iff.1 h.1).1).trans h.1, (hb.block _ (Array.getElem?_eq_some_iff.1 h.2).1).trans h.2⟩
  have bkP : ∀ {st pe A st' pe'}, Bk st pe A → Bk st' pe' (A.putObj (D + 1) (.loop (R st' pe'))) := fun h =>
    ⟨World.putObj_heap_same (Array.getElem?_eq_some_iff.1 h.1).1, (World.putObj_heap_other (by omega)).trans h.2⟩
  have bkO : ∀ {st pe A B}, Bk st pe A → KeepsOthers A B → Bk st pe B := fun h hk => ⟨hk.same _ _ h.1 rfl, hk.same _ _ h.2 rfl⟩
  refine ⟨D + 1, [{ target := .collected D, args := #[] }], W1, { target := .fn (.func gf) lb, args := #[.func (.yield (D + 1)) #[] #[]] }, W1, gf, #[.func (.yield (D + 1)) #[] #[]] ++ lb, W1, ?_, ?_, ?_, ?_, fun _ => h1, ?_⟩
  · rw [hW1, hR, hD]; exact run_enterLoop_outer _ _ _ _ _
  · simp only [resolve, hg]
    simp [go_sem]
  · intro f' hf'; simp [Target.leads] at hf'; subst hf'; exact hFg
  · simp [invoke, go_sem, eg]
  refine (hseq (D + 1) (fun pre W => I pre W ∧ Bk .ready none W) (fun pre W => ∃ c, Ix c pre W ∧ Bk .done (some c) W) W1 hb1 (fun s A B h hb => ⟨hI s A B h.1 hb, bkB h.2 hb⟩)
    (fun s A B ⟨c, h1, h2⟩ hb => ⟨c, hIx c s A B h1 hb, bkB h2 hb⟩) ?round ⟨?start, bk1⟩).mono ?behind
  case start => exact hI _ _ _ h0 hb1
  case behind =>
    rintro e W2 ⟨⟨v, rfl⟩, (⟨xs, hS, hi, hk⟩ | ⟨pre, hSp, c, hi, hk⟩)⟩
    · refine ⟨none, W2.putObj (D + 1) (.loop (R .exhausted none)), ?_, hdone D xs _ (by omega) hS (hIt _ _ _ _ _ (by omega) hk.1 rfl hi) (bkP hk).2⟩
      have := run_endLoop (P := P) hk.1 (by rw [hR]; simp); rw [hR] at this ⊢; exact this
    · refine ⟨some c, W2.putObj (D + 1) (.loop (R .exhausted (some c))), ?_, hstop D c pre _ (by omega) hSp (hIxt _ _ _ _ _ _ (by omega) hk.1 rfl hi) (bkP hk).2⟩
      have := run_endLoop (P := P) hk.1 (by rw [hR]; simp); rw [hR] at this ⊢; exact this
  case round =>
    rintro pre x W ⟨hi, hk⟩ hGx hlen
    have hy := run_yield (P := P) (args := encs x) hk.1 (by rw [hR]; exact hps x)
    have hbeg := run_beginRound (P := P) hk.1 (by rw [hR])
    rw [hR] at hy hbeg
    obtain ⟨Wb, hWb⟩ : ∃ Wb, Wb = W.putObj (D + 1) (.loop (R .busy none)) := ⟨_, rfl⟩
    have hkb : Bk .busy none Wb := by rw [hWb]; exact bkP hk
    have hbb : Below n₀ W Wb := by rw [hWb]; exact below_put W _ _ (by omega)
    have hib : I pre Wb := by rw [hWb]; exact hIt _ _ _ _ _ (by omega) hk.1 rfl hi
    have hgb : G pre x Wb := by rw [hWb]; exact hG _ _ _ _ _ _ (by omega) hk.1 rfl hGx
    refine ⟨fn, _, assign, body, hy, roundIn_of_wpIn hfn (hassign _ x W _ ⟨Wb, by rw [hWb, hR]; exact hbeg, ?_⟩)⟩
    refine wpIn_mono (hbody _ pre x _ hib hgb hlen) ?_
    have fin : ∀ (jump : Option Code) (W3 : World), Bk .busy none W3 → (Instr.endRound (D + 1) jump).run P W3 = .ok (.bool jump.isNone) (W3.putObj (D + 1) (.loop (R (if jump.isNone then .ready else .done) jump))) := fun jump W3 h3 => by
      have := run_endRound (P := P) jump h3.1
      rw [hR] at this ⊢
      exact this
    have out : ∀ (c : Code) (W3 : World), KeepsOthers Wb W3 → Ix c (pre ++ [x]) W3 → ∃ v W4, (Instr.endRound (D + 1) (some c)).run P W3 = .ok v W4 ∧ v = .bool false ∧ ∃ c', Ix c' (pre ++ [x]) W4 ∧ Bk .done (some c') W4 := fun c W3 hk3 hi3 =>
      ⟨_, _, fin (some c) W3 (bkO hkb hk3), rfl, c, hIxt _ _ _ _ _ _ (by omega) (bkO hkb hk3).1 rfl hi3, bkP (bkO hkb hk3)⟩
    rintro e a3 W3 hp
    cases e with
    | normal =>
      obtain ⟨hk3, hb3, hi3⟩ := hp
      have h3 := bkO hkb hk3
      exact ⟨_, _, fin none W3 h3, .inl ⟨rfl, ⟨hIt _ _ _ _ _ (by omega) h3.1 rfl hi3, bkP h3⟩, (hbb.trans (hb3.mono (Nat.le_refl _))).trans (below_put W3 _ _ (by omega))⟩⟩
    | ret =>
      obtain ⟨v, W4, h1, rfl, h2⟩ := out .ret W3 hp.1 hp.2
      exact ⟨_, _, h1, .inr ⟨rfl, h2⟩⟩
    | exit id =>
      obtain ⟨v, W4, h1, rfl, h2⟩ := out (.exit id) W3 hp.1 hp.2
      exact ⟨_, _, h1, .inr ⟨rfl, h2⟩⟩
    | goto t =>
      obtain ⟨v, W4, h1, rfl, h2⟩ := out (.goto t) W3 hp.1 hp.2
      exact ⟨_, _, h1, .inr ⟨rfl, h2⟩⟩
    | panic ch => exact hp.elim
    | outgrown => exact hp.elim
def OnlyN (K : Act → World → Prop) : Exit → Act → World → Prop
  | .normal, a, w => K a w
  | _, _, _ => False
theorem onlyN_out {K : Act → World → Prop} (h : LetsOut (OnlyN K)) : False := by
  obtain ⟨a, w, h⟩ := h
  exact h
section
variable {P : Program} {ops : Array Oper} {n l : Nat}
theorem rowsIn_wide {row : String} {args : Array Value} {w : World} {R : Value → World → Prop} (h : Rows P row args w R) : RowsIn (Fence.wide.inRound l) n P row args w R :=
  fun c cs _ => let ⟨v, w', r, s⟩ := h c cs; ⟨v, w', r, stepsIn_wide.2 s⟩
theorem callsIn_round {f : FuncId} {args : Array Value} {w : World} {R : Ending → World → Prop} (h : Calls P f args w R) : CallsIn (Fence.wide.inRound l) n P f args w R :=
  CallsIn.inRound l (callsIn_wide.2 h)
theorem operIn_round {o : Oper} {a : Act} {w : World} {K K' : Act → World → Prop} {Q : Act → World → Prop} (hd : ∀ c, o.op ≠ .defer c) (hK : ∀ a w, K a w → K' a w) (h : o.wp P a w K (OnlyN Q)) :
    o.wpIn (Fence.wide.inRound l) n P a w K' (OnlyN Q) := by
  refine ⟨fun _ _ => trivial, ?_⟩
  rw [Oper.semAt_plain _ _ _ hd]
  unfold Oper.wp at h
  generalize (execOp a.eval o).run P w = r at *
  cases r with
  | ok x w' =>
    cases x with
    | value v => exact hK _ _ h
    | skip => exact hK _ _ h
    | defer d => exact hK _ _ h
    | enter f args =>
      refine ⟨fun e => Bool.noConfusion e, (callsIn_round h).mono fun e w'' he => ?_⟩
      cases e with
      | returned v => exact hK _ _ he
      | panicked c => exact he
      | outgrown => exact he
    | row r args => exact ⟨fun e => Bool.noConfusion e, (rowsIn_wide h).mono fun _ _ he => hK _ _ he⟩
    | _ => exact (h : False).elim
  | halt x w' => cases x <;> first | exact h | exact (h : False).elim
theorem opIn_round {i : Nat} {a : Act} {w : World} {K K' : Act → World → Prop} {Q : Act → World → Prop} (hd : ∀ o : Oper, ops[i]? = some o → ∀ c, o.op ≠ .defer c) (hK : ∀ a w, K a w → K' a w) (h : wpOp P ops (OnlyN Q) i K a w) :
    wpOpIn (Fence.wide.inRound l) n P ops (OnlyN Q) i K' a w := by
  unfold wpOp at h
  unfold wpOpIn
  cases ho : ops[i]? with
  | none => rw [ho] at h; exact hK _ _ h
  | some o =>
    rw [ho] at h
    simp only at h ⊢
    split
    · rename_i hw
      rw [if_pos hw] at h
      rcases h with h | ⟨_, h⟩
      · exact operIn_round (hd o ho) hK h
      · exact (onlyN_out h).elim
    · rename_i hw
      rw [if_neg hw] at h
      exact ⟨fun _ _ => trivial, hK _ _ h⟩
theorem anyIn_round {Q : Act → World → Prop} {md : Region.Mode} (hd : ∀ (i : Nat) (o : Oper), ops[i]? = some o → ∀ c, o.op ≠ .defer c) : ∀ (fuel : Nat) (listed : Array Bool) (a : Act) (w : World), wpAny P md ops (OnlyN Q) fuel listed a w →
    wpAnyIn (Fence.wide.inRound l) n P md ops (OnlyN Q) fuel listed a w
  | 0, _, _, _, h => h
  | fuel + 1, _, _, _, h => ⟨h.1, fun i hi => opIn_round (hd i) (fun a w hh => anyIn_round hd fuel _ a w hh) (h.2 i hi)⟩
def noDefer (ops : Array Oper) : Bool := ops.all fun o => match o.op with | .defer _ => false | _ => true
theorem noDefer_spec (h : noDefer ops = true) (i : Nat) (o : Oper) (ho : ops[i]? = some o) : ∀ c, o.op ≠ .defer c := by
  intro c e
  have hm := Array.all_eq_true'.1 h o (Array.mem_of_getElem? ho)
  rw [e] at hm
  cases hm
theorem region_round {S : World → Prop} {id : Nat} {a : Act} {w : World} {Q : Exit → Act → World → Prop} (hm : P.follows .mixedOrders = true) (hd : noDefer ops = true) (hS : S w.drew)
    (h : S w.drew → wpAnyH P .any ops (OnlyN (Q .normal)) S ops.size (Array.replicate ops.size false) a w.drew) : (Code.region id ops true).wpIn (Fence.wide.inRound l) n P Q a w := by
  refine wpIn_mono (wpIn_region_any hm (anyIn_round (fun i o => noDefer_spec hd i o) _ _ _ _ (wpAny_of_held _ _ _ _ (h hS)))) ?_
  rintro e a' w' hq
  cases e <;> first | exact hq | exact (hq : False).elim
theorem wp_range_read {α : Type} {g : Operand} {ps : Array Tmp} {assign body : Code} {Q : Exit → Act → World → Prop} {a : Act} {w : World}
    {gf : Nat} {lb : Array Value} (hg : a.eval g = .func (.func gf) #[] lb) (eg : ∀ args w, (callFunc gf args).run P w = .ok (.enter gf args) w)
    {encs : α → Array Value} {n₀ : Nat} {G : List α → α → World → Prop} {S Sp : List α → Prop} {N : Nat} (hseq : SeqReads Fence.wide 5 P gf lb encs n₀ G S Sp N w) (hn : n₀ ≤ w.heap.size) (hG : ∀ pre x, Turns w.heap.size (G pre x)) (hps : ∀ x, (encs x).size = ps.size)
    (I : List α → World → Prop) (Ix : Code → List α → World → Prop)
    (hI : ∀ s A B, I s A → Below A.heap.size A B → I s B) (hIx : ∀ c s A B, Ix c s A → Below A.heap.size A B → Ix c s B) (hIt : ∀ s, Turns w.heap.size (I s)) (hIxt : ∀ c s, Turns w.heap.size (Ix c s))
    (h0 : I [] w) (a₁ : α → Act)
    (hassign : ∀ (l : Nat) (x : α) (W : World) (K : Act → World → Prop), K (a₁ x) W →
      assign.wpIn (Fence.wide.inRound l) 4 P (Exit.then K (fun _ _ _ => False)) { tmps := (ps.zip (encs x)).foldl (fun t (p, v) => t.setIfInBounds p v) a.tmps, defers := [] } W)
    (hbody : ∀ (l : Nat) (pre : List α) (x : α) (W : World), I pre W → G pre x W → pre.length < N → body.wpIn (Fence.wide.inRound l) 4 P (ownPostK (Below n₀) I Ix (pre ++ [x]) W) (a₁ x) W)
    (hdone : ∀ (D : Nat) (xs : List α) (W : World), w.heap.size ≤ D → S xs → I xs W → W.heap[D]? = some (.deferred (some [])) → Q .normal { a with defers := { target := .collected D, args := #[] } :: a.defers } W)
    (hstop : ∀ (D : Nat) (c : Code) (pre : List α) (W : World), w.heap.size ≤ D → Sp pre → Ix c pre W → W.heap[D]? = some (.deferred (some [])) → c.wp P Q { a with defers := { target := .collected D, args := #[] } :: a.defers } W) :
    (Code.rangeFunc g ps assign body).wp P Q a w :=
  wpIn_wide.1 (wpIn_range_read (F := Fence.wide) (n := 6) rfl (by omega) hg trivial eg hseq hn hG hps I Ix hI hIx hIt hIxt h0 a₁ hassign hbody hdone (fun D c pre W h1 h2 h3 h4 => wpIn_wide.2 (hstop D c pre W h1 h2 h3 h4)))
end
end Go.Proofs.YtkildckeikedhaaGreatDoor
namespace Go.Proofs.YtkildckeikedhaaGreatDoor
open Go.ChangeShapes Go.WideShapes Go.ChangeAt Go.RowKit
set_option linter.unusedVariables false

theorem cell_turn {W : World} {l : Nat} {o o' : Obj} {a : Addr} {v : Value} (h : W.heap[l]? = some o) (ho : o.isCells = false) (hc : W.cell? a = some v) : (W.putObj l o').cell? a = some v := by
  have hne : a.block ≠ l := by
    rintro rfl
    unfold World.cell? at hc
    rw [h] at hc
    cases o <;> simp_all [Obj.isCells]
  rw [World.cell?_of_block (World.putObj_heap_other hne)]
  exact hc
theorem arr_turn {W : World} {l : Nat} {o' : Obj} {t : TypeId} {g : Nat} {cs : List Value} (hg : g ≠ l) (hA : Arr W t g cs) : Arr (W.putObj l o') t g cs := (World.putObj_heap_other hg).trans hA
theorem SeqReads.later {α : Type} {F : Fence} {n : Nat} {P : Program} {g : Nat} {lb : Array Value} {encs : α → Array Value} {n₀ : Nat} {G : List α → α → World → Prop} {S Sp : List α → Prop} {N : Nat} {w w' : World}
    (h : SeqReads F n P g lb encs n₀ G S Sp N w) (hb : Below w.heap.size w w') : SeqReads F n P g lb encs n₀ G S Sp N w' :=
  fun l J Jx W hW hJ hJx hY h0 => h l J Jx W (hb.trans (hW.mono hb.size)) hJ hJx hY h0
theorem wp_range_put {P : Program} {α : Type} {g : Operand} {ps : Array Tmp} {assign body : Code} {Q : Exit → Act → World → Prop} {a : Act} {w : World}
    {gf : Nat} {lb : Array Value} (hg : a.eval g = .func (.func gf) #[] lb) (eg : ∀ args w, (callFunc gf args).run P w = .ok (.enter gf args) w)
    {encs : α → Array Value} {n₀ : Nat} {G : List α → α → World → Prop} {S Sp : List α → Prop} {N : Nat} (hseq : SeqReads Fence.wide 5 P gf lb encs n₀ G S Sp N w) (hn : n₀ ≤ w.heap.size) (hG : ∀ pre x, Turns w.heap.size (G pre x)) (hps : ∀ x, (encs x).size = ps.size)
    (I : List α → World → Prop) (Ix : Code → List α → World → Prop)
    (hI : ∀ s A B, I s A → Below A.heap.size A B → I s B) (hIx : ∀ c s A B, Ix c s A → Below A.heap.size A B → Ix c s B) (hIt : ∀ s, Turns w.heap.size (I s)) (hIxt : ∀ c s, Turns w.heap.size (Ix c s))
    (h0 : I [] w) (f : α → Array Value → Array Value)
    (hassign : ∀ (l : Nat) (x : α) (W : World) (K : Act → World → Prop), K { tmps := f x a.tmps, defers := [] } W →
      assign.wpIn (Fence.wide.inRound l) 4 P (Exit.then K (fun _ _ _ => False)) { tmps := (ps.zip (encs x)).foldl (fun t (p, v) => t.setIfInBounds p v) a.tmps, defers := [] } W)
    (hbody : ∀ (l : Nat) (pre : List α) (x : α) (W : World), I pre W → G pre x W → pre.length < N → body.wpIn (Fence.wide.inRound l) 4 P (ownPostK (Below n₀) I Ix (pre ++ [x]) W) { tmps := f x a.tmps, defers := [] } W)
    (hdone : ∀ (D : Nat) (xs : List α) (W : World), w.heap.size ≤ D → S xs → I xs W → W.heap[D]? = some (.deferred (some [])) → Q .normal { a with defers := { target := .collected D, args := #[] } :: a.defers } W)
    (hstop : ∀ (D : Nat) (c : Code) (pre : List α) (W : World), w.heap.size ≤ D → Sp pre → Ix c pre W → W.heap[D]? = some (.deferred (some [])) → c.wp P Q { a with defers := { target := .collected D, args := #[] } :: a.defers } W) :
    (Code.rangeFunc g ps assign body).wp P Q a w :=
  wp_range_read hg eg hseq hn hG hps I Ix hI hIx hIt hIxt h0 (fun x => { tmps := f x a.tmps, defers := [] }) hassign hbody hdone hstop
theorem keeps_of_below {W W' : World} (hb : Below W.heap.size W W') : KeepsOthers W W' := ⟨hb.size, fun k o hk _ => (hb.block k (Array.getElem?_eq_some_iff.1 hk).1).trans hk⟩
theorem wp_block_range {P : Program} {α : Type} {id : Nat} {g : Operand} {ps : Array Tmp} {assign body : Code} {Q : Exit → Act → World → Prop} {a : Act} {w : World}
    {gf : Nat} {lb : Array Value} (hg : a.eval g = .func (.func gf) #[] lb) (eg : ∀ args w, (callFunc gf args).run P w = .ok (.enter gf args) w)
    {encs : α → Array Value} {n₀ : Nat} {G : List α → α → World → Prop} {S Sp : List α → Prop} {N : Nat} (hseq : SeqReads Fence.wide 5 P gf lb encs n₀ G S Sp N w) (hn : n₀ ≤ w.heap.size) (hG : ∀ pre x, Turns w.heap.size (G pre x)) (hps : ∀ x, (encs x).size = ps.size)
    (I Ix : List α → World → Prop)
    (hI : ∀ s A B, I s A → Below A.heap.size A B → I s B) (hIx : ∀ s A B, Ix s A → Below A.heap.size A B → Ix s B) (hIt : ∀ s, Turns w.heap.size (I s)) (hIxt : ∀ s, Turns w.heap.size (Ix s))
    (h0 : I [] w) (f : α → Array Value → Array Value)
    (hassign : ∀ (l : Nat) (x : α) (W : World) (K : Act → World → Prop), K { tmps := f x a.tmps, defers := [] } W →
      assign.wpIn (Fence.wide.inRound l) 4 P (Exit.then K (fun _ _ _ => False)) { tmps := (ps.zip (encs x)).foldl (fun t (p, v) => t.setIfInBounds p v) a.tmps, defers := [] } W)
    (hbody : ∀ (l : Nat) (pre : List α) (x : α) (W : World), I pre W → G pre x W → pre.length < N → body.wpIn (Fence.wide.inRound l) 4 P (ownPostK (Below n₀) I (fun c s W => c = .exit id ∧ Ix s W) (pre ++ [x]) W) { tmps := f x a.tmps, defers := [] } W)
    (hdone : ∀ (D : Nat) (xs : List α) (W : World), w.heap.size ≤ D → (S xs ∧ I xs W) ∨ Ix xs W → W.heap[D]? = some (.deferred (some [])) → Q .normal { a with defers := { target := .collected D, args := #[] } :: a.defers } W) :
    (Code.block id (Code.rangeFunc g ps assign body)).wp P Q a w := by
  refine wp_block (wp_range_put hg eg hseq hn hG hps I (fun c s W => c = .exit id ∧ Ix s W) hI (fun c s A B h hb => ⟨h.1, hIx s A B h.2 hb⟩) hIt (fun c s W l o o' hl h ho hx => ⟨hx.1, hIxt s W l o o' hl h ho hx.2⟩) h0 f hassign hbody ?_ ?_)
  · exact fun D xs W h1 h2 h3 h4 => hdone D xs W h1 (.inl ⟨h2, h3⟩) h4
  · rintro D c pre W h1 h2 ⟨rfl, h3⟩ h4
    refine wp_exit ?_
    simp only [Exit.inBlock, if_true]
    exact hdone D pre W h1 (.inr h3) h4
theorem calls_marks {P : Program} {f : FuncId} {fn : Func} {c : Code} {args : Array Value} {w : World} {R : Ending → World → Prop} (hf : P.funcs[f]? = some fn) (hb : fn.body = some c)
    (h : c.wp P (bodyPostM Fence.wide 6 P fn R) { tmps := args ++ Array.replicate (fn.ntmps - args.size) undef, defers := [] } w) : Calls P f args w R :=
  callsIn_wide.1 (callsIn_of_wp_marks (F := Fence.wide) (n := 6) hf hb trivial (wpIn_wide.2 h) rfl)
attribute [local go_sem] Oper.semAt_some

abbrev OutE := Ex × Value
def outE (x : OutE) : Array Value := #[x.2]
def fsts (l : List OutE) : List Ex := l.map Prod.fst
theorem fsts_app (a b : List OutE) : fsts (a ++ b) = fsts a ++ fsts b := List.map_append
theorem fsts_len (a : List OutE) : (fsts a).length = a.length := List.length_map _
def GoodE (P : Nat → Prop) (LV : List Ex) (pre : List OutE) (x : OutE) (W : World) : Prop := RdE P W x.1 x.2 ∧ (fsts pre ++ [x.1]) <+: LV
def YlPost (n₀ : Nat) (J Jx : List OutE → World → Prop) (ls : List Ex) (pre : List OutE) (w : World) (r : Ending) (w' : World) : Prop :=
 (r = .returned (.bool true) ∧ ∃ out, fsts out = ls ∧ J (pre ++ out) w' ∧ Below n₀ w w') ∨ (r = .returned (.bool false) ∧ ∃ out, fsts out <+: ls ∧ Jx (pre ++ out) w')
theorem prefix_app {a b c L : List Ex} (h : a ++ (b ++ c) <+: L) : a ++ b <+: L := by
 rw [← List.append_assoc] at h
 exact (List.prefix_append _ _).trans h
theorem leavesL_take : ∀ (ks : List Ex) (i : Nat), i < ks.length → leavesL (ks.take i) ++ leavesE (ks.getD i ex0) <+: leavesL ks
 | [], i, h => by simp at h
 | e :: r, 0, _ => by simp only [List.take_zero, leavesL, List.getD_cons_zero, List.nil_append]; exact List.prefix_append _ _
 | e :: r, i + 1, h => by
  have := leavesL_take r i (by simpa using h)
  simp only [List.take_succ_cons, leavesL, List.getD_cons_succ, List.append_assoc]
  exact (List.prefix_append_right_inj _).2 this
theorem prefix_mono {a b c L : List Ex} (h : a ++ b <+: L) (hc : c <+: b) : a ++ c <+: L := ((List.prefix_append_right_inj a).2 hc).trans h
theorem leaves_leaf {k : Int} {v n : List UInt8} {ks : List Ex} (h : leafK k = true) : leavesE (.mk k v n ks) = [.mk k v n ks] := by unfold leavesE; rw [if_pos h]
theorem leaves_kids {k : Int} {v n : List UInt8} {ks : List Ex} (h : ¬ leafK k = true) : leavesE (.mk k v n ks) = leavesL ks := by unfold leavesE; rw [if_neg h]
theorem drew_size (w : World) : w.drew.heap.size = w.heap.size := rfl

set_option maxRecDepth 100000 in
set_option maxHeartbeats 4000000 in
theorem yl_any (l n₀ : Nat) (P : Nat → Prop) (hP : ∀ b, P b → b < n₀) (LV : List Ex) (J Jx : List OutE → World → Prop) (HJ : Hid (∀ s A B, J s A → Below A.heap.size A B → J s B))
  (HY : Hid (∀ pre x W1, J pre W1 → GoodE P LV pre x W1 → pre.length < LV.length → YieldAt Fence.wide 4 Tryz.prog l (outE x) W1 fun e W' => (e = .returned (.bool true) ∧ J (pre ++ [x]) W' ∧ Below n₀ W1 W') ∨ (e = .returned (.bool false) ∧ Jx (pre ++ [x]) W'))) :
  ∀ (n : Nat) (e : Ex) (v : Value) (pre : List OutE) (w : World), sizeE e ≤ n → sizeE e ≤ 900000 → RdE P w e v → n₀ ≤ w.heap.size → J pre w → fsts pre ++ leavesE e <+: LV →
   Calls Tryz.prog 112 #[v, .func (.yield l) #[] #[]] w (YlPost n₀ J Jx (leavesE e) pre w) := by
 intro n
 induction n with
 | zero => intro e v pre w h; have := sizeE_pos e; omega
 | succ n ih =>
  intro e v pre w hn hm h hs hj hp
  have H := hiD h
  obtain ⟨q, c, rfl, hc, hk⟩ := h.form
  obtain ⟨k, xv, xn, ks⟩ := e
  unfold exv
  show Calls _ _ #[.agg #[.int .i64 k, .string (bstr xv), .string (bstr xn), .slice q ks.length c], .func (.yield l) #[] #[]] _ _
  have HK : Hid (0 < ks.length → ∃ b o, q = some ⟨b, o, none⟩ ∧ P b ∧ RdL P w ks b o) := hk
  have hks : sizeL ks ≤ n := by unfold sizeE at hn; omega
  have hkm : sizeL ks ≤ 900000 := by unfold sizeE at hm; omega
  have hlen := sizeL_len ks
  have HIH := hiD ih
  have HP := hiD hP
  have HS := hiD hs
  have HB0 : Hid (Below w.heap.size w (w.alloc (.cells #[.int .i64 k, .string (bstr xv), .string (bstr xn), .slice q ks.length c] 46))) := (Below.refl _ _).alloc (Nat.le_refl _) _
  have HA0 : Hid (Arr (w.alloc (.cells #[.int .i64 k, .string (bstr xv), .string (bstr xn), .slice q ks.length c] 46)) 46 w.heap.size [.int .i64 k, .string (bstr xv), .string (bstr xn), .slice q ks.length c]) := Arr.new' _ _ _ _ rfl
  have HJ0 := hiD (HJ.out _ _ _ hj HB0.out)
  have HLF := hiD ((isLeaf_any (H.out.below HB0.out (fun b hb => Nat.lt_of_lt_of_le (hP b hb) hs))))
  have HPR := hiD hp
  obtain ⟨lf, hlf⟩ : ∃ lf, lf = leafK k := ⟨_, rfl⟩
  have HLK := hiD hlf
  have HLF2 : Hid (Calls Tryz.prog 95 #[.agg #[.int .i64 k, .string (bstr xv), .string (bstr xn), .slice q ks.length c]] (w.alloc (.cells #[.int .i64 k, .string (bstr xv), .string (bstr xn), .slice q ks.length c] 46)) fun r w' => r = .returned (.bool lf) ∧ Below (w.alloc (.cells #[.int .i64 k, .string (bstr xv), .string (bstr xn), .slice q ks.length c] 46)).heap.size (w.alloc (.cells #[.int .i64 k, .string (bstr xv), .string (bstr xn), .slice q ks.length c] 46)) w') := by
   have := HLF.out
   unfold exv at this
   simp only [Ex.kind, Ex.via, Ex.nm, Ex.kids] at this
   rw [← hlf] at this
   exact this
  clear h ih hc hk hn hm hs hj hp hlf hP HLF
  go_enter Tryz.func112, Tryz.ntmps112
  go_wp2_with fail
  refine HLF2.out.mono ?_
  rintro r w2 ⟨rfl, b2⟩
  have HJ2 := hiD (HJ.out _ _ _ HJ0.out b2)
  have HA2 := hiD (HA0.out.later b2)
  have HB2 := hiD (HB0.out.trans (b2.mono HB0.out.size))
  clear b2 HJ0 HA0 HB0 HLF2
  have a0 := HA2.out.cell 0
  have a1 := HA2.out.cell 1
  have a2 := HA2.out.cell 2
  have a3 := HA2.out.cell 3
  simp only [List.getElem?_cons_zero, List.getElem?_cons_succ] at a0 a1 a2 a3
  cases lf with
  | true =>
   have HL : Hid (leavesE (.mk k xv xn ks) = [.mk k xv xn ks]) := leaves_leaf HLK.out.symm
   have HR2 := hiD (H.out.below HB2.out (fun b hb => Nat.lt_of_lt_of_le (HP.out b hb) HS.out))
   have HG : Hid (GoodE P LV pre (.mk k xv xn ks, .agg #[.int .i64 k, .string (bstr xv), .string (bstr xn), .slice q ks.length c]) w2) := ⟨HR2.out, by have := HPR.out; rw [HL.out] at this; exact this⟩
   have HYY := hiD (HY.out pre _ w2 HJ2.out HG.out (by have := HG.out.2.length_le; rw [List.length_append, fsts_len, List.length_singleton] at this; omega))
   go_upto_region 2 with (fail)
   obtain ⟨fn, tmps, assign, body, hy, hR⟩ := HYY.out
   dsimp only [outE] at hy
   refine (wpIn_wide (n := 5)).1 ?_
   gi_wp2
   refine hR.mono ?_
   rintro e W3 (⟨rfl, hJ3, hk3⟩ | ⟨rfl, hJx3⟩)
   ·have HJ3 := hiD (And.intro hJ3 ((HB2.out.mono HS.out).trans hk3))
    clear hJ3 hk3 hy hR
    gi_wp2
    go_wp2_with fail
    go_ret
    exact .inl ⟨rfl, _, by rw [HL.out]; rfl, HJ3.out.1, HJ3.out.2⟩
   ·have HJ3 := hiD hJx3
    clear hJx3 hy hR
    gi_wp2
    go_wp2_with fail
    go_ret
    exact .inr ⟨rfl, _, by rw [HL.out]; exact List.prefix_refl _, HJ3.out⟩
  | false =>
   have HL : Hid (leavesE (.mk k xv xn ks) = leavesL ks) := leaves_kids (by rw [← HLK.out]; exact Bool.false_ne_true)
   have HM0 : Hid (∃ out, fsts out = leavesL (ks.take 0) ∧ J (pre ++ out) w2 ∧ Below n₀ w w2) := ⟨[], by simp [fsts, leavesL], by rw [List.append_nil]; exact HJ2.out, HB2.out.mono HS.out⟩
   clear HJ2 HA2 HB2 HLK H
   go_wp2_with fail
   go_loopw [15] (fun iv wr => ∃ i : Nat, iv = .int .i64 i ∧ i ≤ ks.length ∧ Hid (∃ out, fsts out = leavesL (ks.take i) ∧ J (pre ++ out) wr ∧ Below n₀ w wr)) (fun iv _ => ks.length - (intOf iv).toNat)
   case atStart => exact ⟨0, rfl, Nat.zero_le _, HM0.out⟩
   case round =>
    obtain ⟨i, rfl, hi, HM⟩ := hrel
    clear HM0 a0 a1 a2 a3
    have hi0 : (0 : Int) ≤ i := by omega
    obtain ⟨out, ho, hjw, hbw⟩ := HM.out
    have HO := hiD ho
    have HJW := hiD hjw
    have HI := hiD hbw
    clear ho hjw hbw HM
    by_cases hlt : i < ks.length
    ·have hi1 : (i : Int) < ks.length := by omega
     have hP := HP.out
     obtain ⟨ba, oa, rfl, hba, hl⟩ := HK.out (by omega)
     obtain ⟨x, hx⟩ : ∃ x, x = ks.getD i ex0 := ⟨_, rfl⟩
     obtain ⟨q2, c2, x0, x1, x2, x3, hr⟩ := hl.at hlt
     have hxs := sizeL_get ks i hlt
     have hxd := depthL_get ks i hlt
     rw [← hx] at x0 x1 x2 x3 hr hxs hxd
     have HX := hiD hx
     obtain ⟨xk, xv2, xn2, xs⟩ := x
     have cc : ∀ n, wr.cell? ⟨ba, n, none⟩ = w.cell? ⟨ba, n, none⟩ := fun n => (HI.out).cell (p := ⟨ba, n, none⟩) (hP _ hba)
     have X0 : wr.cell? ⟨ba, oa + i * 4, none⟩ = some (.int .i64 xk) := (cc _).trans x0
     have X1 : wr.cell? ⟨ba, oa + i * 4 + 1, none⟩ = some (.string (bstr xv2)) := (cc _).trans x1
     have X2 : wr.cell? ⟨ba, oa + i * 4 + 2, none⟩ = some (.string (bstr xn2)) := (cc _).trans x2
     have X3 : wr.cell? ⟨ba, oa + i * 4 + 3, none⟩ = some (.slice q2 xs.length c2) := (cc _).trans x3
     clear x0 x1 x2 x3 cc hx
     have HBA : Hid (Below wr.heap.size wr (wr.alloc (.cells #[.int .i64 xk, .string (bstr xv2), .string (bstr xn2), .slice q2 xs.length c2] 46))) := (Below.refl _ _).alloc (Nat.le_refl _) _
     have HR : Hid (RdE P (wr.alloc (.cells #[.int .i64 xk, .string (bstr xv2), .string (bstr xn2), .slice q2 xs.length c2] 46)) (.mk xk xv2 xn2 xs) (.agg #[.int .i64 xk, .string (bstr xv2), .string (bstr xn2), .slice q2 xs.length c2])) := (hr.below HI.out hP).below HBA.out (fun b hb => Nat.lt_of_lt_of_le (hP b hb) (Nat.le_trans HS.out HI.out.size))
     have HTK : Hid (ks.take (i + 1) = ks.take i ++ [.mk xk xv2 xn2 xs]) := by show _ = _; rw [take_snocE hlt, ← HX.out]
     have HPX : Hid (fsts (pre ++ out) ++ leavesE (.mk xk xv2 xn2 xs) <+: LV) := by
      show _ <+: _
      have h1 := HPR.out
      rw [HL.out] at h1
      have h2 := prefix_mono h1 (leavesL_take ks i hlt)
      rw [← HX.out, ← HO.out, ← List.append_assoc, ← fsts_app] at h2
      exact h2
     have HC := hiD (HIH.out (.mk xk xv2 xn2 xs) _ (pre ++ out) _ (by omega) (by omega) HR.out (Nat.le_trans (Nat.le_trans HS.out HI.out.size) HBA.out.size) (HJ.out _ _ _ HJW.out HBA.out) HPX.out)
     clear hl hr hxs hxd hba hP
     go_wp2_with fail
     refine HC.out.mono ?_
     rintro r w5 (⟨rfl, o2, ho2, hj2, hb2⟩ | ⟨rfl, o2, ho2, hj2⟩)
     ·have HJ5 : Hid (∃ out, fsts out = leavesL (ks.take (i + 1)) ∧ J (pre ++ out) w5 ∧ Below n₀ w w5) :=
       ⟨out ++ o2, by rw [fsts_app, HO.out, ho2, HTK.out, leavesL_snoc], by rw [← List.append_assoc]; exact hj2, (HI.out.trans (HBA.out.mono (Nat.le_trans HS.out HI.out.size))).trans hb2⟩
      clear ho2 hj2 hb2
      go_wp2_with fail
      go_roundw
      case rel => exact ⟨i + 1, by go_num, by omega, HJ5.out⟩
      case measure => simp [intOf]; omega
     ·have HJ5 : Hid (∃ out, fsts out <+: leavesL ks ∧ Jx (pre ++ out) w5) :=
       ⟨out ++ o2, by
        rw [fsts_app, HO.out]
        have h2 := leavesL_take ks i hlt
        rw [← HX.out] at h2
        exact prefix_mono h2 ho2, by rw [← List.append_assoc]; exact hj2⟩
      clear ho2 hj2
      go_wp2_with fail
      go_ret
      exact .inr ⟨rfl, by rw [HL.out]; exact HJ5.out⟩
    ·have hi1 : ¬ (i : Int) < ks.length := by omega
     have HK2 : Hid (ks.take i = ks) := List.take_of_length_le (by omega)
     go_wp2_with fail
     go_ret
     exact .inl ⟨rfl, out, by rw [HL.out, HO.out, HK2.out], HJW.out, HI.out⟩
theorem leaves1_reads (P : Nat → Prop) (n₀ : Nat) (w : World) (g : Nat) (q : Option Addr) (c : Nat) (e : Ex) (hm : sizeE e ≤ 900000) (hA : Arr w 46 g [.int .i64 e.kind, .string (bstr e.via), .string (bstr e.nm), .slice q e.kids.length c]) (h : RdE P w e (exv e q c)) (hP : ∀ b, P b → b < n₀) (hn : n₀ ≤ w.heap.size) :
  SeqReads Fence.wide 5 Tryz.prog 111 #[.pointer (some ⟨g, 0, none⟩)] outE n₀ (GoodE P (leavesE e)) (fun xs => fsts xs = leavesE e) (fun xs => fsts xs <+: leavesE e) (leavesE e).length w := by
 intro l J Jx W hW hJ hJx hY h0
 refine callsIn_wide.2 ?_
 have hy := yl_any l n₀ P hP (leavesE e) J Jx hJ hY _ e _ [] W (Nat.le_refl _) hm (h.below hW fun b hb => Nat.lt_of_lt_of_le (hP b hb) hn) (Nat.le_trans hn hW.size) h0 (by simp [fsts])
 obtain ⟨k, xv, xn, ks⟩ := e
 unfold exv at hy
 simp only [Ex.kind, Ex.via, Ex.nm, Ex.kids] at hy hA
 have HY := hiD hy
 have a0 := (hA.later hW).cell 0
 have a1 := (hA.later hW).cell 1
 have a2 := (hA.later hW).cell 2
 have a3 := (hA.later hW).cell 3
 simp only [List.getElem?_cons_zero, List.getElem?_cons_succ] at a0 a1 a2 a3
 clear hy hA h hP hn hW hJ hJx hY h0
 go_enter Tryz.func111, Tryz.ntmps111
 go_wp2_with fail
 refine HY.out.mono ?_
 rintro r w5 (⟨rfl, o2, ho2, hj2, hb2⟩ | ⟨rfl, o2, ho2, hj2⟩)
 ·have HO := hiD (And.intro ho2 hj2)
  clear ho2 hj2 hb2
  go_wp2_with fail
  go_end0
  exact ⟨⟨_, rfl⟩, .inl ⟨o2, HO.out.1, HO.out.2⟩⟩
 ·have HO := hiD (And.intro ho2 hj2)
  clear ho2 hj2
  go_wp2_with fail
  go_end0
  exact ⟨⟨_, rfl⟩, .inr ⟨o2, HO.out.1, HO.out.2⟩⟩
theorem turns_good (P : Nat → Prop) (LV : List Ex) (B : Nat) (hP : ∀ b, P b → b < B) (pre : List OutE) (x : OutE) : Turns B (GoodE P LV pre x) := fun W l o o' hl h ho hx =>
 ⟨hx.1.keep fun b hb n => World.cell?_of_block (World.putObj_heap_other (by have := hP b hb; show b ≠ l; omega)), hx.2⟩
attribute [local go_sem] Oper.semAt_some

mutual
theorem leaves_size : ∀ e : Ex, (leavesE e).length ≤ sizeE e
 | .mk k v n ks => by
  unfold leavesE sizeE
  split
  ·simp
  ·have := leavesL_size ks; omega
theorem leavesL_size : ∀ ks : List Ex, (leavesL ks).length ≤ sizeL ks
 | [] => by simp [leavesL]
 | e :: r => by
  unfold leavesL sizeL
  have := leaves_size e
  have := leavesL_size r
  simp only [List.length_append]; omega
end
def rightE (e : Ex) : Bool := decide ((leavesE e).length ≤ 32) && (decide (depthE e ≤ 16) && formE e)
def RI (w : World) (A : List Value) (pre : List OutE) (W : World) : Prop := Arr W 3 (w.heap.size + 1) [.int .i64 (pre.length : Nat)] ∧ Arr W 46 w.heap.size A ∧ Below w.heap.size w W
theorem RI.later {w : World} {A : List Value} {pre : List OutE} {W W' : World} (h : RI w A pre W) (hb : Below W.heap.size W W') : RI w A pre W' := ⟨h.1.later hb, h.2.1.later hb, h.2.2.trans (hb.mono h.2.2.size)⟩
theorem RI.turns {w : World} {A : List Value} {B : Nat} (hB : w.heap.size + 1 < B) (pre : List OutE) : Turns B (RI w A pre) := fun W l o o' hl h ho hx =>
 ⟨arr_turn (by omega) hx.1, arr_turn (by omega) hx.2.1, hx.2.2.trans (below_put W l o' (by omega))⟩
set_option maxRecDepth 100000 in
set_option maxHeartbeats 4000000 in
theorem eright_any (e : Ex) (v : Value) (P : Nat → Prop) (w : World) (hm : sizeE e ≤ 900000) (h : RdE P w e v) (hP : ∀ b, P b → b < w.heap.size) (hr : ResT w) : Calls Tryz.prog 65 #[v] w fun r w' => r = .returned (.bool (rightE e)) ∧ Below w.heap.size w w' := by
 have H := hiD h
 have HP := hiD hP
 have HRT := hiD hr
 have HM := hiD hm
 obtain ⟨q, c, rfl, hc, hk⟩ := h.form
 obtain ⟨k, xv, xn, ks⟩ := e
 unfold exv
 show Calls _ _ #[.agg #[.int .i64 k, .string (bstr xv), .string (bstr xn), .slice q ks.length c]] _ _
 have hsz := leaves_size (.mk k xv xn ks)
 obtain ⟨E, hE⟩ : ∃ E, E = Ex.mk k xv xn ks := ⟨_, rfl⟩
 rw [← hE] at hsz HM H ⊢
 have HEE := hiD hE
 obtain ⟨N, hN⟩ : ∃ N, N = (leavesE E).length := ⟨_, rfl⟩
 have HN := hiD hN
 have hn1 : N ≤ 900000 := by have := HM.out; omega
 clear h hk hc hm hP hr hsz hE hN
 refine calls_marks Tryz.func65 rfl ?_
 simp only [Tryz.ntmps65, List.size_toArray, List.length_cons, List.length_nil, Nat.reduceAdd, Nat.reduceSub, Array.replicate_succ, Array.replicate_zero, List.push_toArray, List.append_toArray, List.nil_append, List.cons_append]
 go_wp2_with fail
 refine (mkLeaves_any k xv xn q ks.length c _).mono ?_
 rintro r w3 ⟨rfl, rfl⟩
 have HR0 : Hid (RI w [.int .i64 k, .string (bstr xv), .string (bstr xn), .slice q ks.length c] [] (((w.alloc (.cells #[.int .i64 k, .string (bstr xv), .string (bstr xn), .slice q ks.length c] 46)).alloc (.cells #[.int .i64 0] 3)).alloc (.cells #[.int .i64 k, .string (bstr xv), .string (bstr xn), .slice q ks.length c] 46))) :=
  ⟨(Arr.new2 w _ 3 #[.int .i64 0] _ rfl).alloc _, ((Arr.new' w _ _ _ rfl).alloc _).alloc _, (((Below.refl _ _).alloc (Nat.le_refl _) _).alloc (by simp) _).alloc (by simp; omega) _⟩
 have HA3 : Hid (Arr (((w.alloc (.cells #[.int .i64 k, .string (bstr xv), .string (bstr xn), .slice q ks.length c] 46)).alloc (.cells #[.int .i64 0] 3)).alloc (.cells #[.int .i64 k, .string (bstr xv), .string (bstr xn), .slice q ks.length c] 46)) 46 (w.heap.size + 2) [.int .i64 k, .string (bstr xv), .string (bstr xn), .slice q ks.length c]) := Arr.new3 w _ _ _ _ _ rfl
 have HSZ : Hid (w.heap.size + 2 < (((w.alloc (.cells #[.int .i64 k, .string (bstr xv), .string (bstr xn), .slice q ks.length c] 46)).alloc (.cells #[.int .i64 0] 3)).alloc (.cells #[.int .i64 k, .string (bstr xv), .string (bstr xn), .slice q ks.length c] 46)).heap.size) := by show _ < _; simp
 simp only [World.size_alloc]
 rw [show w.heap.size + 1 + 1 = w.heap.size + 2 from rfl]
 generalize (((w.alloc (.cells #[.int .i64 k, .string (bstr xv), .string (bstr xn), .slice q ks.length c] 46)).alloc (.cells #[.int .i64 0] 3)).alloc (.cells #[.int .i64 k, .string (bstr xv), .string (bstr xn), .slice q ks.length c] 46)) = w0 at HR0 HA3 HSZ ⊢
 have HSEQ : Hid (SeqReads Fence.wide 5 Tryz.prog 111 #[.pointer (some ⟨w.heap.size + 2, 0, none⟩)] outE w.heap.size (GoodE P (leavesE E)) (fun xs => fsts xs = leavesE E) (fun xs => fsts xs <+: leavesE E) N w0) := by
  show SeqReads _ _ _ _ _ _ _ _ _ _ _ _
  rw [HN.out]
  refine leaves1_reads P w.heap.size w0 (w.heap.size + 2) q c E HM.out ?_ ?_ HP.out HR0.out.2.2.size
  ·rw [HEE.out]; exact HA3.out
  ·rw [HEE.out]; have := H.out.below HR0.out.2.2 HP.out; rw [HEE.out] at this; exact this
 go_upto_block 0 with fail
 refine wp_block_range (gf := 111) (lb := #[.pointer (some ⟨w.heap.size + 2, 0, none⟩)]) rfl (enters_of Tryz.func111 (by kernel_rfl) rfl) HSEQ.out HR0.out.2.2.size (fun pre x => turns_good P (leavesE E) _ (fun b hb => Nat.lt_of_lt_of_le (HP.out b hb) HR0.out.2.2.size) pre x) (fun _ => rfl)
  (RI w [.int .i64 k, .string (bstr xv), .string (bstr xn), .slice q ks.length c]) (fun _ _ => False) (fun _ _ _ h hb => h.later hb) (fun _ _ _ h _ => h.elim) (fun pre => RI.turns (by have := HSZ.out; omega) pre) (fun _ _ _ _ _ _ _ _ h => h.elim)
  HR0.out (fun x t => t.setIfInBounds 6 x.2) ?assign0 ?body0 ?done0
 case assign0 =>
  intro lq x W K hK
  dsimp only [outE] at hK ⊢
  simp only [List.setIfInBounds_toArray, List.set_cons_zero, List.set_cons_succ] at hK
  gi_wp2
  simpa using hK
 case body0 =>
  rintro lq pre x W HI HG hlen
  have HII := hiD HI
  obtain ⟨m, hm⟩ : ∃ m, m = pre.length := ⟨_, rfl⟩
  have ht := HI.1.cell 0
  have hf := HI.1.free 0
  rw [← hm] at ht
  simp only [List.getElem?_cons_zero] at ht
  have hm4 : (m : Int) ≤ 900000 := by omega
  have hm0 : (0 : Int) ≤ m := by omega
  have HMM := hiD hm
  clear HI HG hlen hm
  simp only [List.setIfInBounds_toArray, List.set_cons_zero, List.set_cons_succ]
  gi_wp2
  refine ⟨KeepsOthers.setCell _ _ _, (Below.refl w.heap.size W).setCell (p := ⟨w.heap.size + 1, 0, none⟩) (by simp) _, ?_, HII.out.2.1.setCell (by simp) _, HII.out.2.2.setCell (p := ⟨w.heap.size + 1, 0, none⟩) (by simp) _⟩
  have := HII.out.1.set 0 (.int .i64 ((m : Int) + 1))
  rw [List.length_append, List.length_singleton, Int.natCast_add, ← HMM.out]
  exact this
 case done0 =>
  rintro D0 xs W hDD hxs hK
  obtain ⟨h1, h2⟩ : fsts xs = leavesE E ∧ RI w [.int .i64 k, .string (bstr xv), .string (bstr xn), .slice q ks.length c] xs W := by
   rcases hxs with h | h
   ·exact h
   ·exact h.elim
  have hlen : xs.length = N := by rw [HN.out, ← h1, fsts_len]
  have ht := h2.1.cell 0
  have a0 := h2.2.1.cell 0
  have a1 := h2.2.1.cell 1
  have a2 := h2.2.1.cell 2
  have a3 := h2.2.1.cell 3
  simp only [List.getElem?_cons_zero, List.getElem?_cons_succ] at ht a0 a1 a2 a3
  rw [hlen] at ht
  have HW := hiD h2
  have HKD := hiD hK
  have HDD := hiD hDD
  have hEW : RdE P W E (.agg #[.int .i64 k, .string (bstr xv), .string (bstr xn), .slice q ks.length c]) := by
   have := H.out.below HW.out.2.2 HP.out
   rw [HEE.out] at this ⊢
   exact this
  have HEW := hiD hEW
  have HPW : Hid (∀ b, P b → b < W.heap.size) := fun b hb => Nat.lt_of_lt_of_le (HP.out b hb) HW.out.2.2.size
  have HDP := hiD (depth_any _ E _ P W (Nat.le_refl _) (by have := HM.out; omega) hEW HPW.out)
  obtain ⟨d, hd⟩ : ∃ d, d = depthE E := ⟨_, rfl⟩
  obtain ⟨f, hf⟩ : ∃ f, f = formE E := ⟨_, rfl⟩
  have HRE : Hid (rightE E = (decide (N ≤ 32) && (decide (d ≤ 16) && f))) := by show _ = _; unfold rightE; rw [hd, hf, HN.out]
  rw [← hd] at HDP
  have HF := hiD hf
  have HD0 : Hid (D0 < W.heap.size) := (Array.getElem?_eq_some_iff.1 hK).1
  have HWD : Hid (w.heap.size ≤ D0) := Nat.le_trans HR0.out.2.2.size hDD
  clear h1 h2 hlen hxs hK hDD hEW hd hf
  by_cases hN : N ≤ 32
  ·have hN1 : (N : Int) ≤ 32 := by omega
   go_wp2_with fail
   refine HDP.out.mono ?_
   rintro r w5 ⟨rfl, b5⟩
   have HB5 := hiD b5
   have HK5 : Hid (w5.heap[D0]? = some (.deferred (some []))) := (b5.block D0 HD0.out).trans HKD.out
   have z0 := (HW.out.2.1.later b5).cell 0
   have z1 := (HW.out.2.1.later b5).cell 1
   have z2 := (HW.out.2.1.later b5).cell 2
   have z3 := (HW.out.2.1.later b5).cell 3
   simp only [List.getElem?_cons_zero, List.getElem?_cons_succ] at z0 z1 z2 z3
   have HW5 := hiD (HW.out.2.2.trans (b5.mono HW.out.2.2.size))
   have HPT := hiD (parts_any _ E _ P w5 (Nat.le_refl _) HM.out (HEW.out.below b5 HPW.out) (fun b hb => Nat.lt_of_lt_of_le (HPW.out b hb) b5.size) (HRT.out.below HW5.out HRT.out.lt))
   rw [← HF.out] at HPT
   clear b5
   by_cases hd : d ≤ 16
   ·have hd1 : (d : Int) ≤ 16 := by omega
    have HFIN : Hid (rightE E = f) := by show _ = _; rw [HRE.out, decide_eq_true hN, decide_eq_true hd]; rfl
    go_wp2_with fail
    refine HPT.out.mono ?_
    rintro r w6 ⟨rfl, b6⟩
    have HK6 : Hid (w6.heap[D0]? = some (.deferred (some []))) := (b6.block D0 (Array.getElem?_eq_some_iff.1 HK5.out).1).trans HK5.out
    have HW6 := hiD (HW5.out.trans (b6.mono HW5.out.size))
    clear b6
    go_wp2_with fail
    refine ⟨by simp, .inl ⟨D0, _, rfl, run_takeDeferred HK6.out, ?_⟩⟩
    exact ⟨_, results_tmp rfl _ _ _, by rw [HFIN.out]; rfl, HW6.out.trans (below_put w6 _ _ HWD.out)⟩
   ·have hd1 : ¬ (d : Int) ≤ 16 := by omega
    have HFIN : Hid (rightE E = false) := by show _ = _; rw [HRE.out, decide_eq_true hN, decide_eq_false hd]; rfl
    go_wp2_with fail
    refine ⟨by simp, .inl ⟨D0, _, rfl, run_takeDeferred HK5.out, ?_⟩⟩
    exact ⟨_, results_tmp rfl _ _ _, by rw [HFIN.out]; rfl, HW5.out.trans (below_put w5 _ _ HWD.out)⟩
  ·have hN1 : ¬ (N : Int) ≤ 32 := by omega
   have HFIN : Hid (rightE E = false) := by show _ = _; rw [HRE.out, decide_eq_false hN]; rfl
   go_wp2_with fail
   refine ⟨by simp, .inl ⟨D0, _, rfl, run_takeDeferred HKD.out, ?_⟩⟩
   exact ⟨_, results_tmp rfl _ _ _, by rw [HFIN.out]; rfl, HW.out.2.2.trans (below_put W _ _ HWD.out)⟩
end Go.Proofs.YtkildckeikedhaaGreatDoor
