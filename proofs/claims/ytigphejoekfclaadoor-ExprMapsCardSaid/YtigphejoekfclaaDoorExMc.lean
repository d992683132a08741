/-
  vestrylaw10.marked.
-/
import Derived.Test.YtigphejoekfclaaDoorExMb
import Derived.StillTailTactics
namespace Go.Proofs.YtigphejoekfclaaDoor
open Go.ChangeShapes Go.WideShapes Go.ChangeAt Go.RowKit
set_option linter.unusedVariables false

/-- From the cells cs on lie the expressions. -/
def RdXL (P : Nat → Prop) (w : World) : List Ex → List Value → Prop
  | [], _ => True
  | e :: r, v0 :: v1 :: v2 :: v3 :: cs => RdE P w e (.agg #[v0, v1, v2, v3]) ∧ RdXL P w r cs
  | _ :: _, [] => False
  | _ :: _, [_] => False
  | _ :: _, [_, _] => False
  | _ :: _, [_, _, _] => False
theorem RdXL.keep {P : Nat → Prop} {w w' : World} (hk : ∀ b, P b → ∀ n, w'.cell? ⟨b, n, none⟩ = w.cell? ⟨b, n, none⟩) : ∀ {l : List Ex} {cs : List Value}, RdXL P w l cs → RdXL P w' l cs
  | [], _, _ => trivial
  | e :: r, v0 :: v1 :: v2 :: v3 :: cs, h => ⟨RdE.keep hk h.1, RdXL.keep hk h.2⟩
theorem RdXL.imp {P Q : Nat → Prop} {w : World} (hPQ : ∀ b, P b → Q b) : ∀ {l : List Ex} {cs : List Value}, RdXL P w l cs → RdXL Q w l cs
  | [], _, _ => trivial
  | e :: r, v0 :: v1 :: v2 :: v3 :: cs, h => ⟨RdE.imp hPQ h.1, RdXL.imp hPQ h.2⟩
theorem RdOL.rdX : ∀ {ks : List Ex} {P : Nat → Prop} {w : World} {cs : List Value}, RdOL P w ks cs → RdXL P w ks cs
  | [], _, _, _, _ => trivial
  | e :: r, P, w, v0 :: v1 :: v2 :: v3 :: cs, h => by unfold RdOL at h; exact ⟨h.1.rdE, h.2.rdX⟩
  | _ :: _, _, _, [], h => by unfold RdOL at h; exact h.elim
  | _ :: _, _, _, [_], h => by unfold RdOL at h; exact h.elim
  | _ :: _, _, _, [_, _], h => by unfold RdOL at h; exact h.elim
  | _ :: _, _, _, [_, _, _], h => by unfold RdOL at h; exact h.elim
theorem RdXL.at {P : Nat → Prop} {w : World} : ∀ {l : List Ex} {cs : List Value} {i : Nat}, RdXL P w l cs → i < l.length → ∃ v0 v1 v2 v3, cs[i * 4]? = some v0 ∧ cs[i * 4 + 1]? = some v1 ∧ cs[i * 4 + 2]? = some v2 ∧ cs[i * 4 + 3]? = some v3 ∧ RdE P w (l.getD i ex0) (.agg #[v0, v1, v2, v3])
  | [], _, _, _, h => by simp at h
  | e :: r, v0 :: v1 :: v2 :: v3 :: cs, 0, h, _ => ⟨v0, v1, v2, v3, rfl, rfl, rfl, rfl, h.1⟩
  | e :: r, v0 :: v1 :: v2 :: v3 :: cs, i + 1, h, hi => by
    obtain ⟨u0, u1, u2, u3, g0, g1, g2, g3, g4⟩ := RdXL.at (i := i) h.2 (by simpa using hi)
    refine ⟨u0, u1, u2, u3, ?_, ?_, ?_, ?_, g4⟩
    · rw [show (i + 1) * 4 = i * 4 + 4 by omega]; simpa using g0
    · rw [show (i + 1) * 4 + 1 = i * 4 + 1 + 4 by omega]; simpa using g1
    · rw [show (i + 1) * 4 + 2 = i * 4 + 2 + 4 by omega]; simpa using g2
    · rw [show (i + 1) * 4 + 3 = i * 4 + 3 + 4 by omega]; simpa using g3
def set4L (cs : List Value) (o : Nat) (x0 x1 x2 x3 : Value) : List Value := (((cs.set o x0).set (o + 1) x1).set (o + 2) x2).set (o + 3) x3
theorem set4L_cons (u0 u1 u2 u3 : Value) (cs : List Value) (i : Nat) (x0 x1 x2 x3 : Value) : set4L (u0 :: u1 :: u2 :: u3 :: cs) ((i + 1) * 4) x0 x1 x2 x3 = u0 :: u1 :: u2 :: u3 :: set4L cs (i * 4) x0 x1 x2 x3 := by
  unfold set4L
  rw [show (i + 1) * 4 = i * 4 + 4 by omega]
  simp only [List.set_cons_succ, show ∀ n, n + 4 = n + 1 + 1 + 1 + 1 from fun _ => rfl]
theorem RdXL.set {P : Nat → Prop} {w : World} {e : Ex} {x0 x1 x2 x3 : Value} (he : RdE P w e (.agg #[x0, x1, x2, x3])) : ∀ {l : List Ex} {cs : List Value} {i : Nat}, RdXL P w l cs → i < l.length → RdXL P w (l.set i e) (set4L cs (i * 4) x0 x1 x2 x3)
  | [], _, _, _, h => by simp at h
  | a :: r, v0 :: v1 :: v2 :: v3 :: cs, 0, h, _ => ⟨he, h.2⟩
  | a :: r, v0 :: v1 :: v2 :: v3 :: cs, i + 1, h, hi => by
    rw [set4L_cons]
    exact ⟨h.1, RdXL.set he (i := i) h.2 (by simpa using hi)⟩
theorem RdXL.rdL {P : Nat → Prop} {w : World} {b : Nat} : ∀ {l : List Ex} {cs : List Value} {o : Nat}, RdXL P w l cs → (∀ j u, cs[j]? = some u → w.cell? ⟨b, o + j, none⟩ = some u) → RdL P w l b o
  | [], _, _, _, _ => by unfold RdL; trivial
  | e :: r, v0 :: v1 :: v2 :: v3 :: cs, o, h, hc => by
    unfold RdL
    refine ⟨⟨v0, v1, v2, v3, hc 0 v0 rfl, hc 1 v1 rfl, hc 2 v2 rfl, hc 3 v3 rfl, h.1⟩, RdXL.rdL h.2 fun j u hj => ?_⟩
    rw [show o + 4 + j = o + (j + 4) by omega]
    exact hc (j + 4) u hj
/-- The first i of them marked. -/
def mixL (ks : List Ex) (i : Nat) : List Ex := mapL (ks.take i) ++ ks.drop i
theorem mixL_length {ks : List Ex} {i : Nat} (h : i ≤ ks.length) : (mixL ks i).length = ks.length := by
  unfold mixL; rw [List.length_append, mapL_length, List.length_take, List.length_drop]; omega
theorem mixL_get {ks : List Ex} {i : Nat} (h : i < ks.length) : (mixL ks i).getD i ex0 = ks.getD i ex0 := by
  unfold mixL
  have hl : (mapL (ks.take i)).length = i := by rw [mapL_length, List.length_take]; omega
  rw [List.getD_eq_getElem?_getD, List.getElem?_append_right (by omega), hl, Nat.sub_self, List.getElem?_drop, Nat.add_zero, List.getD_eq_getElem?_getD]
theorem mixL_set {ks : List Ex} {i : Nat} (h : i < ks.length) : (mixL ks i).set i (mapE (ks.getD i ex0)) = mixL ks (i + 1) := by
  unfold mixL
  have hl : (mapL (ks.take i)).length = i := by rw [mapL_length, List.length_take]; omega
  rw [List.set_append_right _ _ (by omega), hl, Nat.sub_self, take_snocE h, mapL_snoc, List.drop_eq_getElem_cons h, List.set_cons_zero, List.append_assoc]; rfl
/-- What the loop keeps. -/
def MI (w : World) (k : Int) (xv xn : List UInt8) (ks : List Ex) (b3 O : Nat) (q3 : Option Addr) (c3 : Nat) (i : Nat) (W : World) : Prop :=
  (∃ cs, 0 < ks.length → Arr W 24 b3 cs ∧ RdXL (fun x => w.heap.size + 2 ≤ x ∧ x < W.heap.size ∧ x ≠ b3) W (mixL ks i) cs) ∧
  Arr W 24 O [.int .i64 k, .string (bstr xv), .string (bstr xn), .slice q3 ks.length c3] ∧ Arr W 24 (w.heap.size + 1) [.int .i64 0, .string ByteArray.empty, .string ByteArray.empty, .slice none 0 0] ∧ Below w.heap.size w W ∧ (0 < ks.length → q3 = some ⟨b3, 0, none⟩ ∧ w.heap.size + 2 ≤ b3 ∧ b3 < O) ∧ w.heap.size + 2 ≤ O
theorem MI.later {w : World} {k : Int} {xv xn : List UInt8} {ks : List Ex} {b3 O : Nat} {q3 : Option Addr} {c3 i : Nat} {W W' : World} (h : MI w k xv xn ks b3 O q3 c3 i W) (hb : Below W.heap.size W W') : MI w k xv xn ks b3 O q3 c3 i W' := by
  obtain ⟨⟨cs, h1⟩, h2, h3, h4, h5, h6⟩ := h
  refine ⟨⟨cs, fun h0 => ⟨(h1 h0).1.later hb, ((h1 h0).2.keep (cells_below hb fun b hx => hx.2.1)).imp fun x hx => ⟨hx.1, Nat.lt_of_lt_of_le hx.2.1 hb.size, hx.2.2⟩⟩⟩, h2.later hb, h3.later hb, h4.trans (hb.mono h4.size), h5, h6⟩
theorem Arr.set4L {w : World} {t : TypeId} {g : Nat} {cs : List Value} (h : Arr w t g cs) (o : Nat) (x0 x1 x2 x3 : Value) : Arr ((((w.setCell ⟨g, o, none⟩ x0).setCell ⟨g, o + 1, none⟩ x1).setCell ⟨g, o + 2, none⟩ x2).setCell ⟨g, o + 3, none⟩ x3) t g (set4L cs o x0 x1 x2 x3) := (((h.set o x0).set (o + 1) x1).set (o + 2) x2).set (o + 3) x3
theorem heap_set4 (w : World) (g o : Nat) (x0 x1 x2 x3 : Value) {b : Nat} (hb : b ≠ g) : ((((w.setCell ⟨g, o, none⟩ x0).setCell ⟨g, o + 1, none⟩ x1).setCell ⟨g, o + 2, none⟩ x2).setCell ⟨g, o + 3, none⟩ x3).heap[b]? = w.heap[b]? :=
  (Below.heap_setCell _ ⟨g, o + 3, none⟩ _ b hb).trans ((Below.heap_setCell _ ⟨g, o + 2, none⟩ _ b hb).trans ((Below.heap_setCell _ ⟨g, o + 1, none⟩ _ b hb).trans (Below.heap_setCell _ ⟨g, o, none⟩ _ b hb)))
theorem below_set4o {B : Nat} {w0 w : World} {g : Nat} (h : Below B w0 w) (hg : B ≤ g) (o : Nat) (x0 x1 x2 x3 : Value) : Below B w0 ((((w.setCell ⟨g, o, none⟩ x0).setCell ⟨g, o + 1, none⟩ x1).setCell ⟨g, o + 2, none⟩ x2).setCell ⟨g, o + 3, none⟩ x3) :=
  (((h.setCell (p := ⟨g, o, none⟩) hg _).setCell (p := ⟨g, o + 1, none⟩) hg _).setCell (p := ⟨g, o + 2, none⟩) hg _).setCell (p := ⟨g, o + 3, none⟩) hg _
theorem arr_set4 {w : World} {t : TypeId} {h g : Nat} {cs : List Value} (hA : Arr w t h cs) (hne : h ≠ g) (o : Nat) (x0 x1 x2 x3 : Value) : Arr ((((w.setCell ⟨g, o, none⟩ x0).setCell ⟨g, o + 1, none⟩ x1).setCell ⟨g, o + 2, none⟩ x2).setCell ⟨g, o + 3, none⟩ x3) t h cs := (heap_set4 w g o x0 x1 x2 x3 hne).trans hA
theorem MI.put {w : World} {k : Int} {xv xn : List UInt8} {ks : List Ex} {b3 O : Nat} {q3 : Option Addr} {c3 i : Nat} {W0 W : World} (h : MI w k xv xn ks b3 O q3 c3 i W) (hi : i < ks.length) {x0 x1 x2 x3 : Value} (he : RdE (Bt W0.heap.size W.heap.size) W (mapE (ks.getD i ex0)) (.agg #[x0, x1, x2, x3])) (hO : O < W0.heap.size) :
    MI w k xv xn ks b3 O q3 c3 (i + 1) ((((W.setCell ⟨b3, i * 4, none⟩ x0).setCell ⟨b3, i * 4 + 1, none⟩ x1).setCell ⟨b3, i * 4 + 2, none⟩ x2).setCell ⟨b3, i * 4 + 3, none⟩ x3) := by
  obtain ⟨⟨cs, h1⟩, h2, h3, h4, h5, h6⟩ := h
  have h0 : 0 < ks.length := by omega
  obtain ⟨e1, e2, e3⟩ := h5 h0
  obtain ⟨g1, g2⟩ := h1 h0
  have hsz : ((((W.setCell ⟨b3, i * 4, none⟩ x0).setCell ⟨b3, i * 4 + 1, none⟩ x1).setCell ⟨b3, i * 4 + 2, none⟩ x2).setCell ⟨b3, i * 4 + 3, none⟩ x3).heap.size = W.heap.size := by simp [World.setCell]
  refine ⟨⟨set4L cs (i * 4) x0 x1 x2 x3, fun _ => ⟨g1.set4L _ _ _ _ _, ?_⟩⟩, arr_set4 h2 (by omega) _ _ _ _ _, arr_set4 h3 (by omega) _ _ _ _ _, below_set4o h4 (by omega) _ _ _ _ _, h5, h6⟩
  rw [← mixL_set hi, hsz]
  refine (RdXL.set (he.imp fun x hx => ⟨by have := hx.1; omega, hx.2, by have := hx.1; omega⟩) g2 (by rw [mixL_length (by omega)]; exact hi)).keep fun b hb n => World.cell?_of_block (heap_set4 W b3 _ _ _ _ _ hb.2.2)
set_option maxRecDepth 100000 in
set_option maxHeartbeats 8000000 in
theorem marked_any : ∀ (n : Nat) (e : Ex) (v : Value) (P : Nat → Prop) (w : World), sizeE e ≤ n → sizeE e ≤ 900000 → wE e ≤ 900000000 → RdE P w e v → (∀ b, P b → b < w.heap.size) → Calls Tryd.prog 25 #[v] w (ClPost (mapE e) w) := by
  intro n
  induction n with
  | zero => intro e v P w h; have := sizeE_pos e; omega
  | succ n ih =>
    intro e v P w hn hm hwt h hP
    have H := Lib.hid h
    obtain ⟨q, c, rfl, hc, hk⟩ := h.form
    obtain ⟨k, xv, xn, ks⟩ := e
    unfold exv
    show Calls _ _ #[.agg #[.int .i64 k, .string (bstr xv), .string (bstr xn), .slice q ks.length c]] _ _
    have hks : sizeL ks ≤ n := by unfold sizeE at hn; omega
    have hkm : sizeL ks ≤ 900000 := by unfold sizeE at hm; omega
    have hkw : wL ks ≤ 900000000 := by unfold wE at hwt; omega
    have hnl : xn.length ≤ 900000000 := by unfold wE at hwt; omega
    have hlen := sizeL_len ks
    have HIH := Lib.hid ih
    have HCNT := Lib.hid (fun (qv : Option Addr) (cv : Nat) W => count_law k xv xn qv ks.length cv W hnl)
    have HB0 : Hid (Below w.heap.size w ((w.alloc (.cells #[.int .i64 k, .string (bstr xv), .string (bstr xn), .slice q ks.length c] 24)).alloc (.cells #[.int .i64 0, .string ByteArray.empty, .string ByteArray.empty, .slice none 0 0] 24))) := ((Below.refl _ _).alloc (Nat.le_refl _) _).alloc (by simp) _
    have HA0 : Hid (Arr ((w.alloc (.cells #[.int .i64 k, .string (bstr xv), .string (bstr xn), .slice q ks.length c] 24)).alloc (.cells #[.int .i64 0, .string ByteArray.empty, .string ByteArray.empty, .slice none 0 0] 24)) 24 (w.heap.size + 1) [.int .i64 0, .string ByteArray.empty, .string ByteArray.empty, .slice none 0 0]) := Arr.new2 w _ _ _ _ rfl
    have HSZ0 : Hid (((w.alloc (.cells #[.int .i64 k, .string (bstr xv), .string (bstr xn), .slice q ks.length c] 24)).alloc (.cells #[.int .i64 0, .string ByteArray.empty, .string ByteArray.empty, .slice none 0 0] 24)).heap.size = w.heap.size + 2) := by show _ = _; simp
    have HCL := Lib.hid (rcloneO_any _ (.mk k xv xn ks) _ P ((w.alloc (.cells #[.int .i64 k, .string (bstr xv), .string (bstr xn), .slice q ks.length c] 24)).alloc (.cells #[.int .i64 0, .string ByteArray.empty, .string ByteArray.empty, .slice none 0 0] 24)) (Nat.le_refl _) hm (H.out.below HB0.out hP) (fun b hb => Nat.lt_of_lt_of_le (hP b hb) HB0.out.size))
    clear h ih hc hk hn hm hwt hP H
    go_enter Tryd.func25, Tryd.ntmps25
    go_wp2_with fail
    refine HCL.out.mono ?_
    rintro r w3 ⟨v3, rfl, r3, b3⟩
    rw [HSZ0.out] at r3
    obtain ⟨q3, c3, rfl, hcap3, hk3⟩ := r3.form
    have HCAP : Hid (ks.length ≤ c3) := hcap3
    clear hcap3
    unfold exv
    dsimp only [Ex.kind, Ex.via, Ex.nm, Ex.kids] at hk3 ⊢
    have HB4 : Hid (Below w.heap.size w (w3.alloc (.cells #[.int .i64 k, .string (bstr xv), .string (bstr xn), .slice q3 ks.length c3] 24))) := (HB0.out.trans (b3.mono HB0.out.size)).alloc (HB0.out.trans (b3.mono HB0.out.size)).size _
    have hb34 : Below w3.heap.size w3 (w3.alloc (.cells #[.int .i64 k, .string (bstr xv), .string (bstr xn), .slice q3 ks.length c3] 24)) := (Below.refl _ _).alloc (Nat.le_refl _) _
    have HM4 : Hid (∃ bb, MI w k xv xn ks bb w3.heap.size q3 c3 0 (w3.alloc (.cells #[.int .i64 k, .string (bstr xv), .string (bstr xn), .slice q3 ks.length c3] 24))) := by
      have hA1 : Arr (w3.alloc (.cells #[.int .i64 k, .string (bstr xv), .string (bstr xn), .slice q3 ks.length c3] 24)) 24 (w.heap.size + 1) [.int .i64 0, .string ByteArray.empty, .string ByteArray.empty, .slice none 0 0] := (HA0.out.later b3).later hb34
      have hO : w.heap.size + 2 ≤ w3.heap.size := by rw [← HSZ0.out]; exact b3.size
      by_cases h0 : 0 < ks.length
      · obtain ⟨bb, cur, e1, e2, e3, e4⟩ := hk3 h0
        have hmx : mixL ks 0 = ks := by unfold mixL; simp [mapL]
        refine ⟨bb, ⟨cur.toList, fun _ => ⟨?_, ?_⟩⟩, Arr.new' w3 _ _ _ rfl, hA1, HB4.out, fun _ => ⟨e1, e2.1, e2.2⟩, hO⟩
        · exact (show Arr w3 24 bb cur.toList from e3).later hb34
        · rw [hmx]
          exact (e4.rdX.keep (cells_below hb34 fun b hx => hx.1.2)).imp fun x hx => ⟨hx.1.1, Nat.lt_of_lt_of_le hx.1.2 hb34.size, hx.2⟩
      · exact ⟨0, ⟨[], fun h => absurd h h0⟩, Arr.new' w3 _ _ _ rfl, hA1, HB4.out, fun h => absurd h h0, hO⟩
    obtain ⟨bb, hMI⟩ := HM4.out
    have HMI := Lib.hid hMI
    have HNW : Hid (w3.heap.size < (w3.alloc (.cells #[.int .i64 k, .string (bstr xv), .string (bstr xn), .slice q3 ks.length c3] 24)).heap.size) := by show _ < _; simp
    clear b3 r3 hk3 HCL hb34 HM4 hMI HA0 HB0 HB4
    go_wp2_with fail
    generalize w3.heap.size = O at HMI HNW ⊢
    go_loopw [4] (fun iv wr => ∃ i : Nat, i ≤ ks.length ∧ iv = .int .i64 i ∧ Hid (MI w k xv xn ks bb O q3 c3 i wr)) (fun iv _ => ks.length - (intOf iv).toNat)
    case atStart => exact ⟨0, Nat.zero_le _, rfl, HMI.out⟩
    case round =>
      obtain ⟨i, hi, rfl, HI⟩ := hrel
      clear HMI HNW
      have hi0 : (0 : Int) ≤ i := by omega
      have o0 := HI.out.2.1.cell 0
      have o1 := HI.out.2.1.cell 1
      have o2 := HI.out.2.1.cell 2
      have o3 := HI.out.2.1.cell 3
      simp only [List.getElem?_cons_zero, List.getElem?_cons_succ] at o0 o1 o2 o3
      by_cases hlt : i < ks.length
      · have hi1 : (i : Int) < ks.length := by omega
        obtain ⟨rfl, hb1, hb2⟩ := HI.out.2.2.2.2.1 (by omega)
        obtain ⟨cs, hcs⟩ := HI.out.1
        obtain ⟨hA3, hX⟩ := hcs (by omega)
        obtain ⟨u0, u1, u2, u3, g0, g1, g2, g3, g4⟩ := hX.at (i := i) (by rw [mixL_length hi]; exact hlt)
        rw [mixL_get hlt] at g4
        obtain ⟨x, hx⟩ : ∃ x, x = ks.getD i ex0 := ⟨_, rfl⟩
        have hxs := sizeL_get ks i hlt
        have hxw := wL_get ks i hlt
        rw [← hx] at g4 hxs hxw
        have HX := Lib.hid hx
        obtain ⟨xk, xv2, xn2, xs⟩ := x
        obtain ⟨q2, c2, e2, _, _⟩ := g4.form
        unfold exv at e2
        dsimp only [Ex.kind, Ex.via, Ex.nm, Ex.kids] at e2
        simp only [Value.agg.injEq, Array.mk.injEq, List.cons.injEq, and_true] at e2
        obtain ⟨rfl, rfl, rfl, rfl⟩ := e2
        have X0 : wr.cell? ⟨bb, i * 4, none⟩ = some (.int .i64 xk) := (hA3.cell _).trans g0
        have X1 : wr.cell? ⟨bb, i * 4 + 1, none⟩ = some (.string (bstr xv2)) := (hA3.cell _).trans g1
        have X2 : wr.cell? ⟨bb, i * 4 + 2, none⟩ = some (.string (bstr xn2)) := (hA3.cell _).trans g2
        have X3 : wr.cell? ⟨bb, i * 4 + 3, none⟩ = some (.slice q2 xs.length c2) := (hA3.cell _).trans g3
        have HLT : Hid (i < ks.length) := hlt
        have HOW : Hid (O < wr.heap.size) := HI.out.2.1.lt
        have HBd : Hid (Below wr.heap.size wr wr.drew) := (Below.refl _ _).drew
        have hcl := HIH.out (.mk xk xv2 xn2 xs) _ _ wr.drew (by omega) (by omega) (by omega) (g4.below HBd.out fun b hx => hx.2.1) (fun b hx => hx.2.1)
        have HId := Lib.hid (HI.out.later HBd.out)
        have HAd := Lib.hid (hA3.later HBd.out)
        have HOD : Hid (O < wr.drew.heap.size) := HOW.out
        obtain ⟨me, hme⟩ : ∃ e, e = mapE (.mk xk xv2 xn2 xs) := ⟨_, rfl⟩
        rw [← hme] at hcl
        have HME := Lib.hid hme
        obtain ⟨mk, mv, mn, ms⟩ := me
        have HC : Hid (Calls Tryd.prog 25 #[.agg #[.int .i64 xk, .string (bstr xv2), .string (bstr xn2), .slice q2 xs.length c2]] wr.drew fun r w' => ∃ q5 c5, r = .returned (.agg #[.int .i64 mk, .string (bstr mv), .string (bstr mn), .slice q5 ms.length c5]) ∧ RdE (Bt wr.drew.heap.size w'.heap.size) w' (.mk mk mv mn ms) (.agg #[.int .i64 mk, .string (bstr mv), .string (bstr mn), .slice q5 ms.length c5]) ∧ Below wr.drew.heap.size wr.drew w') :=
          hcl.mono fun r w' ⟨v5, h1, h2, h3⟩ => by
            obtain ⟨q5, c5, rfl, _⟩ := h2.form
            exact ⟨q5, c5, h1, h2, h3⟩
        have HFT : Hid (∀ W, MI w k xv xn ks bb O (some ⟨bb, 0, none⟩) c3 i W → ∃ y0 y1 y2 y3, W.cell? ⟨bb, i * 4, none⟩ = some y0 ∧ W.cell? ⟨bb, i * 4 + 1, none⟩ = some y1 ∧ W.cell? ⟨bb, i * 4 + 2, none⟩ = some y2 ∧ W.cell? ⟨bb, i * 4 + 3, none⟩ = some y3) := fun W h => by
          obtain ⟨cs5, h5⟩ := h.1
          obtain ⟨h5a, h5x⟩ := h5 (by have := HLT.out; omega)
          obtain ⟨t0, t1, t2, t3, s0, s1, s2, s3, _⟩ := h5x.at (i := i) (by rw [mixL_length hi]; exact HLT.out)
          exact ⟨t0, t1, t2, t3, (h5a.cell _).trans s0, (h5a.cell _).trans s1, (h5a.cell _).trans s2, (h5a.cell _).trans s3⟩
        have HEQ : Hid (mapE (ks.getD i ex0) = .mk mk mv mn ms) := by show _ = _; rw [← HX.out, ← HME.out]
        clear hA3 hX g0 g1 g2 g3 g4 hcs hx hxs hxw hme hcl
        go_upto_region 5 with (fail)
        go_region_law (first
          | (go_simp; go_at_call 25; (with_reducible refine HC.out.mono ?_); rintro r w5 ⟨q5, c5, rfl, r5, b5⟩; (try simp only []); have HI5 := Lib.hid (HId.out.later b5); have HA5 := Lib.hid (HAd.out.later b5); have HR5 := Lib.hid r5; obtain ⟨y0, y1, y2, y3, Y0, Y1, Y2, Y3⟩ := HFT.out w5 HI5.out; have F0 := HA5.out.free (i * 4); have F1 := HA5.out.free (i * 4 + 1); have F2 := HA5.out.free (i * 4 + 2); have F3 := HA5.out.free (i * 4 + 3); have p3 := HI5.out.2.1.cell 3; simp only [List.getElem?_cons_zero, List.getElem?_cons_succ] at p3; clear r5 b5))
        all_goals
          go_wp2_with fail
          go_roundw
          case rel => exact ⟨i + 1, by omega, by go_num, HI5.out.put HLT.out (by rw [HEQ.out]; exact HR5.out) HOD.out⟩
          case measure => simp [intOf]; omega
      · have hi1 : ¬ (i : Int) < ks.length := by omega
        obtain rfl : i = ks.length := by omega
        go_wp2_with fail
        refine (HCNT.out q3 c3 wr).mono ?_
        rintro r w8 ⟨rfl, b8⟩
        have HI8 := Lib.hid (HI.out.later b8)
        have hr0 := HI8.out.2.2.1.cell 0
        have hr1 := HI8.out.2.2.1.cell 1
        have hr2 := HI8.out.2.2.1.cell 2
        have hr3 := HI8.out.2.2.1.cell 3
        have hp0 := HI8.out.2.2.1.free 0
        have hp1 := HI8.out.2.2.1.free 1
        have hp2 := HI8.out.2.2.1.free 2
        have hp3 := HI8.out.2.2.1.free 3
        simp only [List.getElem?_cons_zero, List.getElem?_cons_succ] at hr0 hr1 hr2 hr3
        have HME : Hid (mapE (.mk k xv xn ks) = .mk (markK k ks.length) xv (markN xn ks.length) (mapL ks)) := mapE_mk _ _ _ _
        obtain ⟨K, hK⟩ : ∃ K, K = markK k ks.length := ⟨_, rfl⟩
        obtain ⟨N, hN⟩ : ∃ N, N = markN xn ks.length := ⟨_, rfl⟩
        rw [← hK, ← hN] at HME ⊢
        clear hK hN b8 o0 o1 o2 o3 HI
        go_wp2_with fail
        have hA := HI8.out.2.2.1.set4 (.int .i64 K) (.string (bstr xv)) (.string (bstr N)) (.slice q3 ks.length c3)
        have hB := below_set4 (g := w.heap.size + 1) HI8.out.2.2.2.1 (by omega) (.int .i64 K) (.string (bstr xv)) (.string (bstr N)) (.slice q3 ks.length c3)
        have hsz : ((((w8.setCell ⟨w.heap.size + 1, 0, none⟩ (.int .i64 K)).setCell ⟨w.heap.size + 1, 1, none⟩ (.string (bstr xv))).setCell ⟨w.heap.size + 1, 2, none⟩ (.string (bstr N))).setCell ⟨w.heap.size + 1, 3, none⟩ (.slice q3 ks.length c3)).heap.size = w8.heap.size := by simp [World.setCell]
        refine bodyPost_ret (resE rfl hA rfl) rfl ⟨_, rfl, ?_, hB⟩
        rw [HME.out, hsz]
        have hml : (mapL ks).length = ks.length := mapL_length ks
        have hcap : ks.length ≤ c3 := HCAP.out
        unfold RdE
        refine ⟨q3, c3, by rw [hml], by omega, fun h0 => ?_⟩
        rw [hml] at h0
        obtain ⟨e1, e2, e3⟩ := HI8.out.2.2.2.2.1 h0
        obtain ⟨cs, hcs⟩ := HI8.out.1
        obtain ⟨g1, g2⟩ := hcs h0
        have hmx : mixL ks ks.length = mapL ks := by unfold mixL; simp
        rw [hmx] at g2
        have hO8 := HI8.out.2.1.lt
        refine ⟨bb, 0, e1, ⟨by omega, by omega⟩, ?_⟩
        refine RdL.imp (P := fun x => w.heap.size + 2 ≤ x ∧ x < w8.heap.size ∧ x ≠ bb) (fun x hx => ⟨by have := hx.1; omega, hx.2.1⟩) ?_
        refine (g2.keep fun b hb n => World.cell?_of_block (heap_set4 w8 (w.heap.size + 1) 0 _ _ _ _ (by have := hb.1; show b ≠ w.heap.size + 1; omega))).rdL fun j u hj => ?_
        refine (World.cell?_of_block (heap_set4 w8 (w.heap.size + 1) 0 _ _ _ _ (by show bb ≠ w.heap.size + 1; omega))).trans ?_
        rw [Nat.zero_add]
        exact (g1.cell j).trans hj
end Go.Proofs.YtigphejoekfclaaDoor
