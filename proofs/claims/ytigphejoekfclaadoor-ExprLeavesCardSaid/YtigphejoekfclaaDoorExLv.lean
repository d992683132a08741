/-
  vestrylaw10.ExprLeaves.
-/
import Derived.Test.YtigphejoekfclaaDoorExW
import Derived.Test.YtigphejoekfclaaDoorExT
import Derived.Test.YtigphejoekfclaaDoorExX
import Derived.Test.YtigphejoekfclaaDoorTurnB
import Derived.Sort.CutIn
import Derived.Deep.CutBlock
namespace Go.Proofs.YtigphejoekfclaaDoor
open Go.ChangeShapes Go.WideShapes Go.ChangeAt Go.RowKit
set_option linter.unusedVariables false
attribute [local go_sem] Oper.semAt_some

/-- What lies before the loop. -/
def L0 (w : World) (k : Int) (xv xn : List UInt8) (ks : List Ex) (q : Option Addr) (c : Nat) (s : Nat) (W : World) : Prop :=
  InE w w.heap.size k xv xn ks q c W ∧ Arr W 5 (w.heap.size + 1) [.int .u8 s] ∧ Arr W 4 (w.heap.size + 2) [.bool false] ∧ ResT W ∧ Below w.heap.size w W
theorem L0.later {w : World} {k : Int} {xv xn : List UInt8} {ks : List Ex} {q : Option Addr} {c s : Nat} {W W' : World} (h : L0 w k xv xn ks q c s W) (hb : Below W.heap.size W W') : L0 w k xv xn ks q c s W' :=
  ⟨h.1.later h.2.2.2.2.size hb, h.2.1.later hb, h.2.2.1.later hb, h.2.2.2.1.below hb h.2.2.2.1.lt, h.2.2.2.2.trans (hb.mono h.2.2.2.2.size)⟩
theorem L0.start {w : World} {k : Int} {xv xn : List UInt8} {ks : List Ex} {q : Option Addr} {c : Nat} (s : Nat) (hr : ResT w) (h : RdE (fun b => b < w.heap.size) w (.mk k xv xn ks) (.agg #[.int .i64 k, .string (bstr xv), .string (bstr xn), .slice q ks.length c])) : L0 w k xv xn ks q c s (((w.alloc (.cells #[.int .i64 k, .string (bstr xv), .string (bstr xn), .slice q ks.length c] 24)).alloc (.cells #[.int .u8 s] 5)).alloc (.cells #[.bool false] 4)) := by
  have hb : Below w.heap.size w (((w.alloc (.cells #[.int .i64 k, .string (bstr xv), .string (bstr xn), .slice q ks.length c] 24)).alloc (.cells #[.int .u8 s] 5)).alloc (.cells #[.bool false] 4)) := (((Below.refl _ _).alloc (Nat.le_refl _) _).alloc (by simp) _).alloc (by simp; omega) _
  exact ⟨⟨((Arr.new' w _ _ _ rfl).alloc _).alloc _, h.below hb fun _ h => h⟩, (Arr.new2 w _ 5 #[.int .u8 s] _ rfl).alloc _, Arr.new3 w _ _ 4 #[.bool false] _ rfl, hr.below hb hr.lt, hb⟩
theorem rdL_cells {P : Nat → Prop} {w w' : World} {b : Nat} (hb : ∀ n, w'.cell? ⟨b, n, none⟩ = w.cell? ⟨b, n, none⟩) (hP : ∀ b, P b → ∀ n, w'.cell? ⟨b, n, none⟩ = w.cell? ⟨b, n, none⟩) : ∀ {ks : List Ex} {o : Nat}, RdL P w ks b o → RdL P w' ks b o
  | [], _, _ => by unfold RdL; trivial
  | e :: r, o, h => by
    unfold RdL at h ⊢
    obtain ⟨⟨v0, v1, v2, v3, c0, c1, c2, c3, h1⟩, h2⟩ := h
    exact ⟨⟨v0, v1, v2, v3, (hb _).trans c0, (hb _).trans c1, (hb _).trans c2, (hb _).trans c3, RdE.keep hP h1⟩, rdL_cells hb hP h2⟩
/-- What the rounds keep. -/
def LI (w : World) (s T5 N7 : Nat) (q3 : Option Addr) (c3 : Nat) (LV : List Ex) (m : Nat) (W : World) : Prop :=
  Arr W 5 (w.heap.size + 1) [.int .u8 s] ∧ Arr W 4 (w.heap.size + 2) [.bool false] ∧ Arr W 22 T5 [.slice q3 LV.length c3] ∧ Arr W 3 N7 [.int .i64 (m : Nat)] ∧
  (0 < LV.length → ∃ b, q3 = some ⟨b, 0, none⟩ ∧ b < T5 ∧ RdL (fun b => b < w.heap.size) W LV b 0) ∧ Below w.heap.size w W ∧ w.heap.size + 2 < T5 ∧ T5 < N7
theorem LI.later {w : World} {s T5 N7 : Nat} {q3 : Option Addr} {c3 : Nat} {LV : List Ex} {m : Nat} {W W' : World} (h : LI w s T5 N7 q3 c3 LV m W) (hb : Below W.heap.size W W') : LI w s T5 N7 q3 c3 LV m W' := by
  obtain ⟨h1, h2, h3, h4, h5, h6, h7, h8⟩ := h
  have hT := h3.lt
  refine ⟨h1.later hb, h2.later hb, h3.later hb, h4.later hb, fun h0 => ?_, h6.trans (hb.mono h6.size), h7, h8⟩
  obtain ⟨b, e, g1, g2⟩ := h5 h0
  exact ⟨b, e, g1, rdL_cells (fun n => hb.cell (p := ⟨b, n, none⟩) (show b < W.heap.size by omega)) (cells_below hb fun b hb => Nat.lt_of_lt_of_le hb h6.size) g2⟩
theorem LI.turns {w : World} {s T5 N7 : Nat} {q3 : Option Addr} {c3 : Nat} {LV : List Ex} {m B : Nat} (hB : N7 < B) : Turns B (LI w s T5 N7 q3 c3 LV m) := fun W l o o' hl h ho hx => by
  obtain ⟨h1, h2, h3, h4, h5, h6, h7, h8⟩ := hx
  refine ⟨arr_turn (by omega) h1, arr_turn (by omega) h2, arr_turn (by omega) h3, arr_turn (by omega) h4, fun h0 => ?_, h6.trans (below_put W l o' (by omega)), h7, h8⟩
  obtain ⟨b, e, g1, g2⟩ := h5 h0
  exact ⟨b, e, g1, rdL_cells (fun n => World.cell?_of_block (World.putObj_heap_other (by show b ≠ l; omega))) (fun b hb n => World.cell?_of_block (World.putObj_heap_other (by have hb : b < w.heap.size := hb; show b ≠ l; omega))) g2⟩
theorem LI.put {w : World} {s T5 N7 : Nat} {q3 : Option Addr} {c3 : Nat} {LV : List Ex} {m : Nat} {W : World} (h : LI w s T5 N7 q3 c3 LV m W) : LI w s T5 N7 q3 c3 LV (m + 1) (W.setCell ⟨N7, 0, none⟩ (.int .i64 ((m : Int) + 1))) := by
  obtain ⟨h1, h2, h3, h4, h5, h6, h7, h8⟩ := h
  refine ⟨h1.setCell (by simp only; omega) _, h2.setCell (by simp only; omega) _, h3.setCell (by simp only; omega) _, ?_, fun h0 => ?_, h6.setCell (p := ⟨N7, 0, none⟩) (by simp only; omega) _, h7, h8⟩
  · have := h4.set 0 (.int .i64 ((m : Int) + 1))
    rw [Int.natCast_add]
    exact this
  · obtain ⟨b, e, g1, g2⟩ := h5 h0
    exact ⟨b, e, g1, rdL_cells (fun n => World.cell?_of_block (Below.heap_setCell W ⟨N7, 0, none⟩ _ b (by simp only; omega))) (fun b hb n => World.cell?_of_block (Below.heap_setCell W ⟨N7, 0, none⟩ _ b (by simp only; omega))) g2⟩
theorem eqlSeq (fn : Fn) (first cp : Array Value) (w : World) : (binOp BinOp.eql 34 (.func fn first cp) .nilFunc).run Tryd.prog w = .ok (.bool false) w := by kernel_rfl
def BL (N7 : Nat) (x : OutE) (g : Nat) (W : World) : Prop := N7 < g ∧ ∃ q c, x.2 = exv x.1 q c ∧ Arr W 24 g [.int .i64 x.1.kind, .string (bstr x.1.via), .string (bstr x.1.nm), .slice q x.1.kids.length c]
theorem bl_turn {N7 : Nat} (x : OutE) (g : Nat) (W : World) (l : Nat) (o o' : Obj) (h : W.heap[l]? = some o) (ho : o.isCells = false) (hx : BL N7 x g W) : BL N7 x g (W.putObj l o') := by
  obtain ⟨h1, q, c, h2, h3⟩ := hx
  refine ⟨h1, q, c, h2, arr_turn (fun e => ?_) h3⟩
  subst e
  unfold Arr at h3
  rw [h] at h3
  cases h3
  cases ho
theorem prefix_get {a L : List Ex} {x : Ex} (h : a ++ [x] <+: L) : a.length < L.length ∧ L.getD a.length ex0 = x := by
  obtain ⟨t, rfl⟩ := h
  simp [List.getD_eq_getElem?_getD]
/-- What a round's region keeps. -/
def LR (w : World) (s T5 N7 : Nat) (q3 : Option Addr) (c3 : Nat) (LV : List Ex) (m g : Nat) (P : Nat → Prop) (xk : Int) (xv xn : List UInt8) (xs : List Ex) (q : Option Addr) (c : Nat) (W : World) : Prop :=
  LI w s T5 N7 q3 c3 LV m W ∧ Arr W 24 g [.int .i64 xk, .string (bstr xv), .string (bstr xn), .slice q xs.length c] ∧ RdE P W (.mk xk xv xn xs) (.agg #[.int .i64 xk, .string (bstr xv), .string (bstr xn), .slice q xs.length c]) ∧ (∀ b, P b → b < W.heap.size)
theorem LR.later {w : World} {s T5 N7 : Nat} {q3 : Option Addr} {c3 : Nat} {LV : List Ex} {m g : Nat} {P : Nat → Prop} {xk : Int} {xv xn : List UInt8} {xs : List Ex} {q : Option Addr} {c : Nat} {W W' : World} (h : LR w s T5 N7 q3 c3 LV m g P xk xv xn xs q c W) (hb : Below W.heap.size W W') :
    LR w s T5 N7 q3 c3 LV m g P xk xv xn xs q c W' := ⟨h.1.later hb, h.2.1.later hb, h.2.2.1.below hb h.2.2.2, fun b hb' => Nat.lt_of_lt_of_le (h.2.2.2 b hb') hb.size⟩
mutual
theorem leaf_part (M : Nat) : ∀ (e x : Ex), x ∈ leavesE e → sizeE x ≤ sizeE e ∧ (okE M e → okE M x)
  | .mk k v n ks, x, h => by
    unfold leavesE at h
    split at h
    · obtain rfl := List.mem_singleton.1 h
      exact ⟨Nat.le_refl _, id⟩
    · obtain ⟨h1, h2⟩ := leaf_partL M ks x h
      have e1 : sizeE (.mk k v n ks) = sizeL ks + 1 := by rw [sizeE]
      have e2 : okE M (.mk k v n ks) = (v.length ≤ M ∧ n.length ≤ M ∧ okL M ks) := by rw [okE]
      rw [e1, e2]
      exact ⟨by omega, fun ho => h2 ho.2.2⟩
theorem leaf_partL (M : Nat) : ∀ (l : List Ex) (x : Ex), x ∈ leavesL l → sizeE x ≤ sizeL l ∧ (okL M l → okE M x)
  | [], x, h => by unfold leavesL at h; cases h
  | e :: r, x, h => by
    unfold leavesL at h
    have e1 : sizeL (e :: r) = sizeE e + sizeL r := by rw [sizeL]
    have e2 : okL M (e :: r) = (okE M e ∧ okL M r) := by rw [okL]
    rw [e1, e2]
    rcases List.mem_append.1 h with h | h
    · obtain ⟨h1, h2⟩ := leaf_part M e x h
      exact ⟨by omega, fun ho => h2 ho.1⟩
    · obtain ⟨h1, h2⟩ := leaf_partL M r x h
      exact ⟨by omega, fun ho => h2 ho.2⟩
end
/-- .. with the reference's leaf beside it. -/
def LQ (W0 : World) (w : World) (s T5 N7 b3 : Nat) (c3 : Nat) (LV : List Ex) (m g : Nat) (P : Nat → Prop) (yk : Int) (yv yn : List UInt8) (ys : List Ex) (q8 : Option Addr) (c8 : Nat) (qq : Option Addr) (cq : Nat) (W : World) : Prop :=
  LR w s T5 N7 (some ⟨b3, 0, none⟩) c3 LV m g P yk yv yn ys q8 c8 W ∧ W.cell? ⟨b3, m * 4, none⟩ = some (.int .i64 yk) ∧ W.cell? ⟨b3, m * 4 + 1, none⟩ = some (.string (bstr yv)) ∧ W.cell? ⟨b3, m * 4 + 2, none⟩ = some (.string (bstr yn)) ∧ W.cell? ⟨b3, m * 4 + 3, none⟩ = some (.slice qq ys.length cq) ∧
  RdE (fun b => b < w.heap.size) W (.mk yk yv yn ys) (.agg #[.int .i64 yk, .string (bstr yv), .string (bstr yn), .slice qq ys.length cq]) ∧ Below W0.heap.size W0 W
theorem LQ.later {W0 w : World} {s T5 N7 b3 c3 : Nat} {LV : List Ex} {m g : Nat} {P : Nat → Prop} {yk : Int} {yv yn : List UInt8} {ys : List Ex} {q8 : Option Addr} {c8 : Nat} {qq : Option Addr} {cq : Nat} {W W' : World} (h : LQ W0 w s T5 N7 b3 c3 LV m g P yk yv yn ys q8 c8 qq cq W) (hb : Below W.heap.size W W') :
    LQ W0 w s T5 N7 b3 c3 LV m g P yk yv yn ys q8 c8 qq cq W' := by
  obtain ⟨h1, h2, h3, h4, h5, h6, h7⟩ := h
  have hlt := World.block_lt_of_cell? W _ h2
  exact ⟨h1.later hb, (hb.cell (p := ⟨b3, m * 4, none⟩) hlt).trans h2, (hb.cell (p := ⟨b3, m * 4 + 1, none⟩) hlt).trans h3, (hb.cell (p := ⟨b3, m * 4 + 2, none⟩) hlt).trans h4, (hb.cell (p := ⟨b3, m * 4 + 3, none⟩) hlt).trans h5, h6.below hb (fun b hb => Nat.lt_of_lt_of_le hb h1.1.2.2.2.2.2.1.size), h7.trans (hb.mono h7.size)⟩
set_option maxRecDepth 100000 in
set_option maxHeartbeats 8000000 in
theorem leaves_few (k : Int) (xv xn : List UInt8) (ks : List Ex) (q : Option Addr) (c s : Nat) (w : World) (hs : s < 256) (ho : okE bigM (.mk k xv xn ks)) (h : RdE (fun b => b < w.heap.size) w (.mk k xv xn ks) (.agg #[.int .i64 k, .string (bstr xv), .string (bstr xn), .slice q ks.length c])) (hr : ResT w) :
    Calls Tryd.prog 6 #[.agg #[.int .i64 k, .string (bstr xv), .string (bstr xn), .slice q ks.length c], .int .u8 s] w fun r w' => r = .returned (.bool true) ∧ Below w.heap.size w w' := by
  have HS0 : Hid (L0 w k xv xn ks q c s (((w.alloc (.cells #[.int .i64 k, .string (bstr xv), .string (bstr xn), .slice q ks.length c] 24)).alloc (.cells #[.int .u8 s] 5)).alloc (.cells #[.bool false] 4))) := L0.start s hr h
  have HO := Lib.hid ho
  clear ho h hr
  refine calls_marks Tryd.func6 rfl ?_
  simp only [Tryd.ntmps6, List.size_toArray, List.length_cons, List.length_nil, Nat.reduceAdd, Nat.reduceSub, Array.replicate_succ, Array.replicate_zero, List.push_toArray, List.append_toArray, List.nil_append, List.cons_append]
  go_wp2_with fail
  generalize ((w.alloc (.cells #[.int .i64 k, .string (bstr xv), .string (bstr xn), .slice q ks.length c] 24)).alloc (.cells #[.int .u8 s] 5)).alloc (.cells #[.bool false] 4) = w0 at HS0 ⊢
  refine (awake_any _ HS0.out.2.2.2.1).mono ?_
  rintro r w1 ⟨rfl, b1⟩
  have HS1 := Lib.hid (HS0.out.later b1)
  clear b1 HS0
  have z0 := HS1.out.1.1.cell 0
  have z1 := HS1.out.1.1.cell 1
  have z2 := HS1.out.1.1.cell 2
  have z3 := HS1.out.1.1.cell 3
  simp only [List.getElem?_cons_zero, List.getElem?_cons_succ] at z0 z1 z2 z3
  obtain ⟨fw, hfw⟩ : ∃ f, f = decide (cntE 31 (.mk k xv xn ks) ≤ 150) := ⟨_, rfl⟩
  have HFW := Lib.hid hfw
  have HFC := Lib.hid (few_any (.mk k xv xn ks) _ _ w1 HO.out HS1.out.1.2 (fun b hb => Nat.lt_of_lt_of_le hb HS1.out.2.2.2.2.size))
  rw [← hfw] at HFC
  clear hfw
  go_wp2_with fail
  refine HFC.out.mono ?_
  rintro r w2 ⟨rfl, b2⟩
  have HS2 := Lib.hid (HS1.out.later b2)
  clear b2 HFC HS1 z0 z1 z2 z3
  cases fw
  case false =>
    go_wp2_with fail
    refine (awake_any _ HS2.out.2.2.2.1).mono ?_
    rintro r w3 ⟨rfl, b3⟩
    have HS3 := Lib.hid (HS2.out.later b3)
    clear b3 HS2
    have hrc := HS3.out.2.2.1.cell 0
    have hff := HS3.out.2.2.1.free 0
    simp only [List.getElem?_cons_zero] at hrc
    have HRC := Lib.hid hrc
    go_wp2_with fail
    have hcf := World.cell?_setCell_same w3 ⟨w.heap.size + 2, 0, none⟩ (.bool true) HRC.out
    refine ⟨.bool true, ?_, rfl, ?_⟩
    · simp [results, Tryd.results6, go_sem, hcf]
    · exact HS3.out.2.2.2.2.setCell (p := ⟨w.heap.size + 2, 0, none⟩) (by simp) _
  have HF := Lib.hid (few_of (of_decide_eq_true HFW.out.symm))
  have z0 := HS2.out.1.1.cell 0
  have z1 := HS2.out.1.1.cell 1
  have z2 := HS2.out.1.1.cell 2
  have z3 := HS2.out.1.1.cell 3
  simp only [List.getElem?_cons_zero, List.getElem?_cons_succ] at z0 z1 z2 z3
  have HLC := Lib.hid (rleaves_any _ (.mk k xv xn ks) _ _ w2 (Nat.le_refl _) HF.out.1 HS2.out.1.2 (fun b hb => Nat.lt_of_lt_of_le hb HS2.out.2.2.2.2.size))
  obtain ⟨LV, hLV⟩ : ∃ L, L = leavesE (.mk k xv xn ks) := ⟨_, rfl⟩
  have HLV := Lib.hid hLV
  have hLN : LV.length ≤ 900000 := by rw [hLV]; exact Nat.le_trans (leaves_size _) HF.out.1
  rw [← hLV] at HLC
  clear hLV
  go_wp2_with fail
  refine HLC.out.mono ?_
  rintro r w3 ⟨v3, rfl, l3, b3⟩
  have HS3 := Lib.hid (HS2.out.later b3)
  obtain ⟨q3, c3, rfl⟩ := l3.form
  have hl3 := l3.rdL
  have HL3 := Lib.hid hl3.2
  have HB3 := Lib.hid b3
  have HS4 : Hid (L0 w k xv xn ks q c s (w3.alloc (.cells #[.slice q3 LV.length c3] 22))) := HS3.out.later ((Below.refl _ _).alloc (Nat.le_refl _) _)
  have HA4 : Hid (Arr (w3.alloc (.cells #[.slice q3 LV.length c3] 22)) 22 w3.heap.size [.slice q3 LV.length c3]) := Arr.new' _ _ _ _ rfl
  have HL4 : Hid (0 < LV.length → ∃ b, q3 = some ⟨b, 0, none⟩ ∧ b < w3.heap.size ∧ RdL (fun b => b < w.heap.size) (w3.alloc (.cells #[.slice q3 LV.length c3] 22)) LV b 0) := fun h0 => by
    obtain ⟨b, e, _, g1, g2⟩ := HL3.out.2 h0
    have hb4 : Below w3.heap.size w3 (w3.alloc (.cells #[.slice q3 LV.length c3] 22)) := (Below.refl _ _).alloc (Nat.le_refl _) _
    exact ⟨b, e, g1, rdL_cells (fun n => hb4.cell (p := ⟨b, n, none⟩) g1) (cells_below hb4 fun b hb => Nat.lt_of_lt_of_le hb HS3.out.2.2.2.2.size) g2⟩
  have HT5 : Hid (w.heap.size + 2 < w3.heap.size) := HS3.out.2.2.1.lt
  clear b3 l3 hl3 HLC z0 z1 z2 z3 HS2
  go_upto_region 4 with (fail)
  obtain ⟨w4, hw4⟩ : ∃ W, W = w3.alloc (.cells #[.slice q3 LV.length c3] 22) := ⟨_, rfl⟩
  have HW4 : Hid (w4.heap.size = w3.heap.size + 1) := by show _ = _; rw [hw4]; simp
  rw [← hw4] at HS4 HA4 HL4 ⊢
  obtain ⟨T5, hT5⟩ : ∃ T, T = w3.heap.size := ⟨_, rfl⟩
  rw [← hT5] at HA4 HL4 HT5 HW4 ⊢
  clear hw4 hT5 HS3 HB3
  have z0 := HS4.out.1.1.cell 0
  have z1 := HS4.out.1.1.cell 1
  have z2 := HS4.out.1.1.cell 2
  have z3 := HS4.out.1.1.cell 3
  simp only [List.getElem?_cons_zero, List.getElem?_cons_succ] at z0 z1 z2 z3
  have HVC := Lib.hid (leavesOf_any (.mk k xv xn ks) _ _ w4 HF.out.1 HS4.out.1.2 (fun b hb => Nat.lt_of_lt_of_le hb HS4.out.2.2.2.2.size))
  have hnf := eqlSeq
  go_wp2_with fail
  refine HVC.out.mono ?_
  rintro r w5 ⟨gb, q5, c5, rfl, a5, r5, g5, b5⟩
  have HS5 := Lib.hid (HS4.out.later b5)
  have HA5 := Lib.hid (HA4.out.later b5)
  have HL5 : Hid (0 < LV.length → ∃ b, q3 = some ⟨b, 0, none⟩ ∧ b < T5 ∧ RdL (fun b => b < w.heap.size) w5 LV b 0) := fun h0 => by
    obtain ⟨b, e, g1, g2⟩ := HL4.out h0
    exact ⟨b, e, g1, rdL_cells (fun n => b5.cell (p := ⟨b, n, none⟩) (by show b < _; have := HW4.out; omega)) (cells_below b5 fun b hb => Nat.lt_of_lt_of_le hb HS4.out.2.2.2.2.size) g2⟩
  have HT57 : Hid (T5 < w5.heap.size) := HA5.out.lt
  have HSEQ : Hid (SeqReads Fence.wide 5 Tryd.prog 41 #[.pointer (some ⟨gb, 0, none⟩)] outE w5.heap.size (GoodE (Bt w4.heap.size w5.heap.size) LV) (fun xs => fsts xs = LV) (fun xs => fsts xs <+: LV) LV.length w5) := by
    rw [HLV.out]
    exact leaves1_reads (Bt w4.heap.size w5.heap.size) w5.heap.size w5 gb q5 c5 (.mk k xv xn ks) HF.out.1 a5 r5 (fun b hb => hb.2) (Nat.le_refl _)
  clear a5 r5 g5 b5 HVC z0 z1 z2 z3 HS4 HA4 HL4
  go_upto_block 0 with fail
  have HI0 : Hid (LI w s T5 w5.heap.size q3 c3 LV 0 (w5.alloc (.cells #[.int .i64 0] 3))) := by
    have hb6 : Below w5.heap.size w5 (w5.alloc (.cells #[.int .i64 0] 3)) := (Below.refl _ _).alloc (Nat.le_refl _) _
    refine ⟨HS5.out.2.1.later hb6, HS5.out.2.2.1.later hb6, HA5.out.later hb6, Arr.new' w5 3 #[.int .i64 0] _ rfl, fun h0 => ?_, HS5.out.2.2.2.2.trans (hb6.mono HS5.out.2.2.2.2.size), HT5.out, HT57.out⟩
    obtain ⟨b, e, g1, g2⟩ := HL5.out h0
    exact ⟨b, e, g1, rdL_cells (fun n => hb6.cell (p := ⟨b, n, none⟩) (by show b < _; have := HT57.out; omega)) (cells_below hb6 fun b hb => Nat.lt_of_lt_of_le hb HS5.out.2.2.2.2.size) g2⟩
  have HSZ : Hid ((w5.alloc (.cells #[.int .i64 0] 3)).heap.size = w5.heap.size + 1) := by show _ = _; simp
  have HSEQ6 : Hid (SeqReads Fence.wide 5 Tryd.prog 41 #[.pointer (some ⟨gb, 0, none⟩)] outE w5.heap.size (GoodE (Bt w4.heap.size w5.heap.size) LV) (fun xs => fsts xs = LV) (fun xs => fsts xs <+: LV) LV.length (w5.alloc (.cells #[.int .i64 0] 3))) := HSEQ.out.later ((Below.refl _ _).alloc (Nat.le_refl _) _)
  obtain ⟨P, hP⟩ : ∃ P, P = Bt w4.heap.size w5.heap.size := ⟨_, rfl⟩
  have HP5 : Hid (∀ b, P b → b < w5.heap.size) := by show ∀ b, P b → b < w5.heap.size; rw [hP]; exact fun b hb => hb.2
  rw [← hP] at HSEQ6
  generalize w5.alloc (.cells #[.int .i64 0] 3) = w6 at HI0 HSZ HSEQ6 ⊢
  generalize w5.heap.size = N7 at HI0 HSZ HSEQ6 HT57 HP5 ⊢
  clear hP HSEQ HS5 HA5 HL5 HL3
  have HFLV := HF
  refine wp_block_put2 (gf := 41) (lb := #[.pointer (some ⟨gb, 0, none⟩)]) rfl (enters_of Tryd.func41 (by kernel_rfl) rfl) HSEQ6.out (by rw [HSZ.out]; omega) (fun pre x => turns_good P LV _ (fun b hb => by have := HP5.out b hb; rw [HSZ.out]; omega) pre x) (by intro x; rfl)
    (fun pre W => LI w s T5 N7 q3 c3 LV pre.length W ∧ pre.length ≤ s) (fun pre W => LI w s T5 N7 q3 c3 LV pre.length W ∧ pre.length = s + 1 ∧ fsts pre <+: LV)
    (fun _ _ _ h hb => ⟨h.1.later hb, h.2⟩) (fun _ _ _ h hb => ⟨h.1.later hb, h.2⟩) (fun pre W l o o' hl h ho hx => ⟨LI.turns (by have := HSZ.out; omega) W l o o' hl h ho hx.1, hx.2⟩) (fun pre W l o o' hl h ho hx => ⟨LI.turns (by have := HSZ.out; omega) W l o o' hl h ho hx.1, hx.2⟩)
    ⟨HI0.out, Nat.zero_le _⟩ (BL N7) (fun x g W l o o' _ h ho hx => bl_turn x g W l o o' h ho hx) (fun x g t => (t.setIfInBounds 24 x.2).setIfInBounds 8 (.pointer (some ⟨g, 0, none⟩))) ?assign0 ?body0 ?done0
  case assign0 =>
    rintro lq pre ⟨xe, xv2⟩ W K ⟨hi, hi2⟩ hg hK
    obtain ⟨q8, c8, e8, _, _⟩ := hg.1.form
    have HG := Lib.hid hg
    simp only at e8
    subst e8
    obtain ⟨yk, yv, yn, ys⟩ := xe
    have HHI := Lib.hid hi
    have HK := Lib.hid hK
    have HIS := Lib.hid hi2
    clear hi hg hK hi2
    dsimp only [outE, exv, Ex.kind, Ex.via, Ex.nm, Ex.kids]
    gi_wp2
    have hb : Below W.heap.size W (W.alloc (.cells #[.int .i64 yk, .string (bstr yv), .string (bstr yn), .slice q8 ys.length c8] 24)) := (Below.refl _ _).alloc (Nat.le_refl _) _
    have hN : N7 < W.heap.size := HHI.out.2.2.2.1.lt
    exact HK.out W.heap.size _ ⟨hN, q8, c8, rfl, Arr.new' W _ _ _ rfl⟩ (keeps_of_below hb) (hb.mono (by omega)) ⟨HHI.out.later hb, HIS.out⟩ ⟨HG.out.1.below hb (fun b hb => Nat.lt_trans (HP5.out b hb) hN), HG.out.2⟩
  case body0 =>
    rintro lq pre ⟨xe, xv2⟩ g W ⟨hg1, q8, c8, e8, ha8⟩ ⟨hi, hi2⟩ hg hlen
    simp only at e8
    subst e8
    obtain ⟨yk, yv, yn, ys⟩ := xe
    simp only [Ex.kind, Ex.via, Ex.nm, Ex.kids] at ha8
    obtain ⟨hpl, hpg⟩ := prefix_get hg.2
    rw [fsts_len] at hpl hpg
    have HPX := Lib.hid hg.2
    obtain ⟨m, hm⟩ : ∃ m, m = pre.length := ⟨_, rfl⟩
    rw [← hm] at hpl hpg hi hi2
    have HMM := Lib.hid hm
    have hR : Hid (LR w s T5 N7 q3 c3 LV m g P yk yv yn ys q8 c8 W) := ⟨hi, ha8, hg.1, fun b hb => Nat.lt_trans (HP5.out b hb) (Nat.lt_trans hg1 ha8.lt)⟩
    have HNG := Lib.hid hg1
    have HN7W : Hid (N7 ≤ W.heap.size) := Nat.le_of_lt (Nat.lt_trans hg1 ha8.lt)
    have hm4 : (m : Int) < LV.length := by omega
    have hm5 : (m : Int) ≤ 900000 := by omega
    have hm0 : (0 : Int) ≤ m := by omega
    obtain ⟨b3, rfl, hb3, hl3⟩ := hi.2.2.2.2.1 (by omega)
    have HPG : Hid (LV.getD m ex0 = .mk yk yv yn ys) := hpg
    have HWL : Hid (∀ W', LR w s T5 N7 (some ⟨b3, 0, none⟩) c3 LV m g P yk yv yn ys q8 c8 W' → ∃ qq cq, W'.cell? ⟨b3, 0 + m * 4, none⟩ = some (.int .i64 yk) ∧ W'.cell? ⟨b3, 0 + m * 4 + 1, none⟩ = some (.string (bstr yv)) ∧ W'.cell? ⟨b3, 0 + m * 4 + 2, none⟩ = some (.string (bstr yn)) ∧ W'.cell? ⟨b3, 0 + m * 4 + 3, none⟩ = some (.slice qq ys.length cq) ∧ RdE (fun b => b < w.heap.size) W' (.mk yk yv yn ys) (.agg #[.int .i64 yk, .string (bstr yv), .string (bstr yn), .slice qq ys.length cq])) := fun W' h => by
      obtain ⟨b, e, _, hl⟩ := h.1.2.2.2.2.1 (by omega)
      simp only [Option.some.injEq, Addr.mk.injEq, and_true] at e
      subst e
      obtain ⟨qq, cq, x0, x1, x2, x3, hr⟩ := hl.at (i := m) (by omega)
      rw [HPG.out] at x0 x1 x2 x3 hr
      exact ⟨qq, cq, x0, x1, x2, x3, hr⟩
    obtain ⟨qq, cq, hq1, hq2, hq3, hq4, hq5⟩ := HWL.out W hR.out
    clear hi hg hlen hpl hpg ha8 hg1 hm hl3
    simp only [List.setIfInBounds_toArray, List.set_cons_zero, List.set_cons_succ]
    dsimp only [exv, Ex.kind, Ex.via, Ex.nm, Ex.kids]
    rw [Nat.zero_add] at hq1 hq2 hq3 hq4
    have HQ : Hid (LQ W w s T5 N7 b3 c3 LV m g P yk yv yn ys q8 c8 qq cq W) := ⟨hR.out, hq1, hq2, hq3, hq4, hq5, Below.refl _ _⟩
    have hxm : Ex.mk yk yv yn ys ∈ leavesE (.mk k xv xn ks) := by
      rw [← HLV.out, ← HPG.out, List.getD_eq_getElem?_getD, List.getElem?_eq_getElem (by omega)]
      exact List.getElem_mem _
    have HXS : Hid (sizeE (.mk yk yv yn ys) ≤ 900000) := Nat.le_trans (leaf_part 100000 _ _ hxm).1 HF.out.1
    have HXO : Hid (okE 100000 (.mk yk yv yn ys)) := (leaf_part 100000 _ _ hxm).2 HF.out.2.1
    clear hq1 hq2 hq3 hq4 hq5 hxm hR HWL
    gi_upto_region 10 with (fail)
    refine region_round (S := LQ W w s T5 N7 b3 c3 LV m g P yk yv yn ys q8 c8 qq cq) (by kernel_rfl) (by kernel_rfl) (HQ.out.later (Below.refl _ _).drew) (fun hHeld => ?_)
    have HNX : Hid (W.heap.size = W.heap.size) := rfl
    generalize W.drew = wd at hHeld ⊢
    clear HQ
    refine wpAnyH_take (i := 0) (oi := ⟨some 25, _, _, _, _, _⟩) (v := .int .i64 (m : Nat)) rfl (by kernel_rfl) (by kernel_rfl) (by kernel_rfl) (fun _ _ _ h => h) (.inl ⟨by rfl, fun w' hSw => ?_⟩) hHeld ?_
    focus (have q0 := hSw.1.1.2.2.2.1.cell 0; simp only [List.getElem?_cons_zero] at q0; clear hHeld; go_simp)
    try simp only [Act.put, List.setIfInBounds_toArray, List.set_cons_zero, List.set_cons_succ]
    refine wpAnyH_take (i := 1) (oi := ⟨some 26, _, _, _, _, _⟩) (v := .slice (some ⟨b3, 0, none⟩) LV.length c3) rfl (by kernel_rfl) (by kernel_rfl) (by kernel_rfl) (fun _ _ _ h => h) (.inl ⟨by rfl, fun w' hSw => ?_⟩) hHeld ?_
    focus (have q0 := hSw.1.1.2.2.1.cell 0; simp only [List.getElem?_cons_zero] at q0; clear hHeld; go_simp)
    try simp only [Act.put, List.setIfInBounds_toArray, List.set_cons_zero, List.set_cons_succ]
    refine wpAnyH_take (i := 2) (oi := ⟨some 27, _, _, _, _, _⟩) (v := .int .i64 (LV.length : Nat)) rfl (by kernel_rfl) (by kernel_rfl) (by kernel_rfl) (fun _ _ _ h => h) (.inl ⟨by rfl, fun w' hSw => ?_⟩) hHeld ?_
    focus (skip; clear hHeld; go_simp)
    try simp only [Act.put, List.setIfInBounds_toArray, List.set_cons_zero, List.set_cons_succ]
    refine wpAnyH_take (i := 3) (oi := ⟨some 28, _, _, _, _, _⟩) (v := .bool false) rfl (by kernel_rfl) (by kernel_rfl) (by kernel_rfl) (fun _ _ _ h => h) (.inl ⟨by rfl, fun w' hSw => ?_⟩) hHeld ?_
    focus (have hq : decide ((LV.length : Int) ≤ m) = false := decide_eq_false (by omega); have hq2 : decide ((m : Int) < LV.length) = true := decide_eq_true hm4; have hq3 : ¬ (LV.length : Int) ≤ m := (by omega); clear hHeld; go_simp)
    try simp only [Act.put, List.setIfInBounds_toArray, List.set_cons_zero, List.set_cons_succ]
    refine wpAnyH_take (i := 4) (oi := ⟨some 29, _, _, _, _, _⟩) (v := .bool false) rfl (by kernel_rfl) (by kernel_rfl) (by kernel_rfl) (fun _ _ _ h => h) (.inl ⟨by rfl, fun w' hSw => ?_⟩) hHeld ?_
    focus (skip; clear hHeld; go_simp)
    try simp only [Act.put, List.setIfInBounds_toArray, List.set_cons_zero, List.set_cons_succ]
    refine wpAnyH_take (i := 5) (oi := ⟨some 30, _, _, _, _, _⟩) (v := .agg #[.int .i64 yk, .string (bstr yv), .string (bstr yn), .slice q8 ys.length c8]) rfl (by kernel_rfl) (by kernel_rfl) (by kernel_rfl) (fun _ _ _ h => h) (.inl ⟨by rfl, fun w' hSw => ?_⟩) hHeld ?_
    focus (have q0 := hSw.1.2.1.cell 0; have q1 := hSw.1.2.1.cell 1; have q2 := hSw.1.2.1.cell 2; have q3 := hSw.1.2.1.cell 3; simp only [List.getElem?_cons_zero, List.getElem?_cons_succ] at q0 q1 q2 q3; clear hHeld; go_simp)
    try simp only [Act.put, List.setIfInBounds_toArray, List.set_cons_zero, List.set_cons_succ]
    refine wpAnyH_take (i := 6) (oi := ⟨some 31, _, _, _, _, _⟩) (v := .slice (some ⟨b3, 0, none⟩) LV.length c3) rfl (by kernel_rfl) (by kernel_rfl) (by kernel_rfl) (fun _ _ _ h => h) (.inl ⟨by rfl, fun w' hSw => ?_⟩) hHeld ?_
    focus (have q0 := hSw.1.1.2.2.1.cell 0; simp only [List.getElem?_cons_zero] at q0; clear hHeld; go_simp)
    try simp only [Act.put, List.setIfInBounds_toArray, List.set_cons_zero, List.set_cons_succ]
    refine wpAnyH_take (i := 7) (oi := ⟨some 32, _, _, _, _, _⟩) (v := .int .i64 (m : Nat)) rfl (by kernel_rfl) (by kernel_rfl) (by kernel_rfl) (fun _ _ _ h => h) (.inl ⟨by rfl, fun w' hSw => ?_⟩) hHeld ?_
    focus (have q0 := hSw.1.1.2.2.2.1.cell 0; simp only [List.getElem?_cons_zero] at q0; clear hHeld; go_simp)
    try simp only [Act.put, List.setIfInBounds_toArray, List.set_cons_zero, List.set_cons_succ]
    refine wpAnyH_take (i := 8) (oi := ⟨some 33, _, _, _, _, _⟩) (v := .pointer (some ⟨b3, m * 4, none⟩)) rfl (by kernel_rfl) (by kernel_rfl) (by kernel_rfl) (fun _ _ _ h => h) (.inl ⟨by rfl, fun w' hSw => ?_⟩) hHeld ?_
    focus (skip; clear hHeld; go_simp)
    try simp only [Act.put, List.setIfInBounds_toArray, List.set_cons_zero, List.set_cons_succ]
    refine wpAnyH_take (i := 9) (oi := ⟨some 34, _, _, _, _, _⟩) (v := .agg #[.int .i64 yk, .string (bstr yv), .string (bstr yn), .slice qq ys.length cq]) rfl (by kernel_rfl) (by kernel_rfl) (by kernel_rfl) (fun _ _ _ h => h) (.inl ⟨by rfl, fun w' hSw => ?_⟩) hHeld ?_
    focus (have q0 := hSw.2.1; have q1 := hSw.2.2.1; have q2 := hSw.2.2.2.1; have q3 := hSw.2.2.2.2.1; clear hHeld; go_simp)
    try simp only [Act.put, List.setIfInBounds_toArray, List.set_cons_zero, List.set_cons_succ]
    refine wpAnyH_ready (rs := [10]) (by kernel_rfl) (by simp) ?_
    refine AllReadyH.cons (o := ⟨some 35, _, _, _, _, _⟩) rfl (fun K' hK' => ?_) AllReadyH.nil
    refine stepw_call (R := fun v w'' => v = .int .i64 0 ∧ LQ W w s T5 N7 b3 c3 LV m g P yk yv yn ys q8 c8 qq cq w'') (by rfl) ?_ ((rcompare_any _ (.mk yk yv yn ys) (.mk yk yv yn ys) _ _ _ _ wd (Nat.le_refl _) HXS.out HXS.out HXO.out HXO.out hHeld.1.2.2.1 hHeld.2.2.2.2.2.1 hHeld.1.2.2.2 (fun b hb => Nat.lt_of_lt_of_le hb hHeld.1.1.2.2.2.2.2.1.size)).mono fun e w'' ⟨h1, h2⟩ => ⟨_, h1, by rw [cmpE_self], hHeld.later h2⟩) ?_
    focus go_simp
    rintro v w9 ⟨rfl, hkn⟩
    refine hK'.out _ _ hkn (fun _ => ?_)
    clear hK' K' hHeld
    have hHeld := hkn
    clear hkn
    try simp only [Act.put, List.setIfInBounds_toArray, List.set_cons_zero, List.set_cons_succ]
    refine wpAnyH_take (i := 11) (oi := ⟨some 36, _, _, _, _, _⟩) (v := .bool false) rfl (by kernel_rfl) (by kernel_rfl) (by kernel_rfl) (fun _ _ _ h => h) (.inl ⟨by rfl, fun w' hSw => ?_⟩) hHeld ?_
    focus (skip; clear hHeld; go_simp)
    try simp only [Act.put, List.setIfInBounds_toArray, List.set_cons_zero, List.set_cons_succ]
    refine wpAnyH_take (i := 12) (oi := ⟨some 37, _, _, _, _, _⟩) (v := .bool false) rfl (by kernel_rfl) (by kernel_rfl) (by kernel_rfl) (fun _ _ _ h => h) (.inl ⟨by rfl, fun w' hSw => ?_⟩) hHeld ?_
    focus (skip; clear hHeld; go_simp)
    try simp only [Act.put, List.setIfInBounds_toArray, List.set_cons_zero, List.set_cons_succ]
    refine wpAnyH_done (by kernel_rfl) ?_ _
    unfold OnlyN
    have HE := Lib.hid hHeld
    have hn0 := hHeld.1.1.2.2.2.1.cell 0
    have hnf := hHeld.1.1.2.2.2.1.free 0
    have hst := hHeld.1.1.1.cell 0
    simp only [List.getElem?_cons_zero] at hn0 hst
    have hne : ¬ w.heap.size + 1 = N7 := by have := hHeld.1.1.2.2.2.2.2.2; omega
    clear hHeld
    have HL9 : Hid (LI w s T5 N7 (some ⟨b3, 0, none⟩) c3 LV (m + 1) (w9.setCell ⟨N7, 0, none⟩ (.int .i64 ((m : Int) + 1)))) := HE.out.1.1.put
    have HK9 : Hid (KeepsOthers W (w9.setCell ⟨N7, 0, none⟩ (.int .i64 ((m : Int) + 1)))) := (keeps_of_below HE.out.2.2.2.2.2.2).trans (KeepsOthers.setCell _ _ _)
    have HB9 : Hid (Below N7 W (w9.setCell ⟨N7, 0, none⟩ (.int .i64 ((m : Int) + 1)))) := (HE.out.2.2.2.2.2.2.mono HN7W.out).setCell (p := ⟨N7, 0, none⟩) (Nat.le_refl _) _
    have HPL : Hid (fsts (pre ++ [(Ex.mk yk yv yn ys, .agg #[.int .i64 yk, .string (bstr yv), .string (bstr yn), .slice q8 ys.length c8])]) <+: LV) := by show _ <+: _; rw [fsts_app]; exact HPX.out
    by_cases hgt : s < m + 1
    · have hgt1 : (s : Int) < (m : Int) + 1 := by omega
      have HMS : Hid (m = s) := by show _ = _; omega
      gi_wp2
      exact ⟨HK9.out, rfl, by rw [List.length_append, List.length_singleton, ← HMM.out]; exact HL9.out, by rw [List.length_append, List.length_singleton, ← HMM.out, HMS.out], HPL.out⟩
    · have hgt1 : ¬ (s : Int) < (m : Int) + 1 := by omega
      gi_wp2
      exact ⟨HK9.out, HB9.out, by rw [List.length_append, List.length_singleton, ← HMM.out]; exact HL9.out, by rw [List.length_append, List.length_singleton, ← HMM.out]; omega⟩
  case done0 =>
    rintro D0 xs W hDD hxs hK
    obtain ⟨hW, hcnt, hle⟩ : LI w s T5 N7 q3 c3 LV xs.length W ∧ ((xs.length : Int) == min (LV.length : Int) ((s : Int) + 1)) = true ∧ xs.length ≤ 900000 := by
      rcases hxs with ⟨h1, h2, h3⟩ | ⟨h2, h3, h4⟩
      · have e : xs.length = LV.length := by rw [← h1, fsts_len]
        refine ⟨h2, ?_, by omega⟩
        rw [beq_iff_eq, e, Int.min_eq_left (by omega)]
      · have := h4.length_le
        rw [fsts_len] at this
        refine ⟨h2, ?_, by omega⟩
        rw [beq_iff_eq, h3, Int.min_eq_right (by omega)]; omega
    obtain ⟨N, hN⟩ : ∃ N, N = xs.length := ⟨_, rfl⟩
    rw [← hN] at hW hcnt hle
    have HW := Lib.hid hW
    have HDM : Hid (W.heap[D0]? = some (.deferred (some [])) ∧ w6.heap.size ≤ D0) := ⟨hK, hDD⟩
    have hn0 := hW.2.2.2.1.cell 0
    have hw0 := hW.2.2.1.cell 0
    have hst := hW.1.cell 0
    have hrc := hW.2.1.cell 0
    have hff := hW.2.1.free 0
    simp only [List.getElem?_cons_zero] at hn0 hw0 hst hrc
    have HRC := Lib.hid hrc
    clear hW hDD hxs hK hN
    go_wp2_with fail
    have hlt : w.heap.size + 2 < D0 := by have := HDM.out.2; have := HSZ.out; have := HT5.out; have := HT57.out; omega
    refine ⟨by simp, .inl ⟨D0, _, rfl, run_takeDeferred ((Below.heap_setCell W ⟨w.heap.size + 2, 0, none⟩ _ D0 (by simp only; omega)).trans HDM.out.1), ?_⟩⟩
    have hm1 : (W.setCell ⟨w.heap.size + 2, 0, none⟩ (.bool true)).heap[D0]? = some (.deferred (some [])) := (Below.heap_setCell W ⟨w.heap.size + 2, 0, none⟩ _ D0 (by simp only; omega)).trans HDM.out.1
    have hcf := cell_turn (o' := .deferred none) hm1 rfl (World.cell?_setCell_same W ⟨w.heap.size + 2, 0, none⟩ (.bool true) HRC.out)
    refine ⟨.bool true, ?_, rfl, ?_⟩
    · simp [results, Tryd.results6, go_sem, hcf]
    · exact (HW.out.2.2.2.2.2.1.setCell (p := ⟨w.heap.size + 2, 0, none⟩) (by simp) _).trans (below_put _ D0 _ (by omega))
theorem leaves_any (e : Ex) (v : Value) (stp : Int) (w : World) (ho : okE bigM e) (h : RdE (fun b => b < w.heap.size) w e v) (hwf : (Lit.int .u8 stp).wf = true) (hr : ResT w) :
    Calls Tryd.prog 6 #[v, .int .u8 stp] w fun r w' => r = .returned (.bool true) ∧ Below w.heap.size w w' := by
  have hb : 0 ≤ stp ∧ stp ≤ 255 := by simpa [Lit.wf, IntKind.min, IntKind.max, IntKind.signed, IntKind.bits] using hwf
  obtain ⟨s, rfl⟩ : ∃ s : Nat, stp = s := ⟨stp.toNat, by omega⟩
  obtain ⟨q, c, rfl, _, _⟩ := h.form
  obtain ⟨k, xv, xn, ks⟩ := e
  exact leaves_few k xv xn ks q c s w (by omega) ho h hr
end Go.Proofs.YtigphejoekfclaaDoor
