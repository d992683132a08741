/-
  expr.Right.
-/
import Derived.Test.YtigphejoekfclaaDoorExN
import Derived.Deep.CutBlock
namespace Go.Proofs.YtigphejoekfclaaDoor
open Go.ChangeShapes Go.WideShapes Go.ChangeAt Go.RowKit
set_option linter.unusedVariables false
attribute [local go_sem] Oper.semAt_some

mutual
theorem leaves_size : ∀ e : Ex, (leavesE e).length ≤ sizeE e
  | .mk k v n ks => by
    unfold leavesE sizeE
    split
    · simp
    · have := leavesL_size ks; omega
theorem leavesL_size : ∀ ks : List Ex, (leavesL ks).length ≤ sizeL ks
  | [] => by simp [leavesL]
  | e :: r => by
    unfold leavesL sizeL
    have := leaves_size e
    have := leavesL_size r
    simp only [List.length_append]; omega
end
def rightE (e : Ex) : Bool := decide ((leavesE e).length ≤ 32) && (decide (depthE e ≤ 16) && formE e)
def RI (w : World) (A : List Value) (pre : List OutE) (W : World) : Prop := Arr W 3 (w.heap.size + 1) [.int .i64 (pre.length : Nat)] ∧ Arr W 24 w.heap.size A ∧ Below w.heap.size w W
theorem RI.later {w : World} {A : List Value} {pre : List OutE} {W W' : World} (h : RI w A pre W) (hb : Below W.heap.size W W') : RI w A pre W' := ⟨h.1.later hb, h.2.1.later hb, h.2.2.trans (hb.mono h.2.2.size)⟩
theorem RI.turns {w : World} {A : List Value} {B : Nat} (hB : w.heap.size + 1 < B) (pre : List OutE) : Turns B (RI w A pre) := fun W l o o' hl h ho hx =>
  ⟨arr_turn (by omega) hx.1, arr_turn (by omega) hx.2.1, hx.2.2.trans (below_put W l o' (by omega))⟩
set_option maxRecDepth 100000 in
set_option maxHeartbeats 4000000 in
theorem eright_any (e : Ex) (v : Value) (P : Nat → Prop) (w : World) (hm : sizeE e ≤ 900000) (h : RdE P w e v) (hP : ∀ b, P b → b < w.heap.size) (hr : ResT w) : Calls Tryd.prog 12 #[v] w fun r w' => r = .returned (.bool (rightE e)) ∧ Below w.heap.size w w' := by
  have H := Lib.hid h
  have HP := Lib.hid hP
  have HRT := Lib.hid hr
  have HM := Lib.hid hm
  obtain ⟨q, c, rfl, hc, hk⟩ := h.form
  obtain ⟨k, xv, xn, ks⟩ := e
  unfold exv
  show Calls _ _ #[.agg #[.int .i64 k, .string (bstr xv), .string (bstr xn), .slice q ks.length c]] _ _
  have hsz := leaves_size (.mk k xv xn ks)
  obtain ⟨E, hE⟩ : ∃ E, E = Ex.mk k xv xn ks := ⟨_, rfl⟩
  rw [← hE] at hsz HM H ⊢
  have HEE := Lib.hid hE
  obtain ⟨N, hN⟩ : ∃ N, N = (leavesE E).length := ⟨_, rfl⟩
  have HN := Lib.hid hN
  have hn1 : N ≤ 900000 := by have := HM.out; omega
  clear h hk hc hm hP hr hsz hE hN
  refine calls_marks Tryd.func12 rfl ?_
  simp only [Tryd.ntmps12, List.size_toArray, List.length_cons, List.length_nil, Nat.reduceAdd, Nat.reduceSub, Array.replicate_succ, Array.replicate_zero, List.push_toArray, List.append_toArray, List.nil_append, List.cons_append]
  go_wp2_with fail
  refine (mkLeaves_any k xv xn q ks.length c _).mono ?_
  rintro r w3 ⟨rfl, rfl⟩
  have HR0 : Hid (RI w [.int .i64 k, .string (bstr xv), .string (bstr xn), .slice q ks.length c] [] (((w.alloc (.cells #[.int .i64 k, .string (bstr xv), .string (bstr xn), .slice q ks.length c] 24)).alloc (.cells #[.int .i64 0] 3)).alloc (.cells #[.int .i64 k, .string (bstr xv), .string (bstr xn), .slice q ks.length c] 24))) :=
    ⟨(Arr.new2 w _ 3 #[.int .i64 0] _ rfl).alloc _, ((Arr.new' w _ _ _ rfl).alloc _).alloc _, (((Below.refl _ _).alloc (Nat.le_refl _) _).alloc (by simp) _).alloc (by simp; omega) _⟩
  have HA3 : Hid (Arr (((w.alloc (.cells #[.int .i64 k, .string (bstr xv), .string (bstr xn), .slice q ks.length c] 24)).alloc (.cells #[.int .i64 0] 3)).alloc (.cells #[.int .i64 k, .string (bstr xv), .string (bstr xn), .slice q ks.length c] 24)) 24 (w.heap.size + 2) [.int .i64 k, .string (bstr xv), .string (bstr xn), .slice q ks.length c]) := Arr.new3 w _ _ _ _ _ rfl
  have HSZ : Hid (w.heap.size + 2 < (((w.alloc (.cells #[.int .i64 k, .string (bstr xv), .string (bstr xn), .slice q ks.length c] 24)).alloc (.cells #[.int .i64 0] 3)).alloc (.cells #[.int .i64 k, .string (bstr xv), .string (bstr xn), .slice q ks.length c] 24)).heap.size) := by show _ < _; simp
  simp only [World.size_alloc]
  rw [show w.heap.size + 1 + 1 = w.heap.size + 2 from rfl]
  generalize (((w.alloc (.cells #[.int .i64 k, .string (bstr xv), .string (bstr xn), .slice q ks.length c] 24)).alloc (.cells #[.int .i64 0] 3)).alloc (.cells #[.int .i64 k, .string (bstr xv), .string (bstr xn), .slice q ks.length c] 24)) = w0 at HR0 HA3 HSZ ⊢
  have HSEQ : Hid (SeqReads Fence.wide 5 Tryd.prog 41 #[.pointer (some ⟨w.heap.size + 2, 0, none⟩)] outE w.heap.size (GoodE P (leavesE E)) (fun xs => fsts xs = leavesE E) (fun xs => fsts xs <+: leavesE E) N w0) := by
    show SeqReads _ _ _ _ _ _ _ _ _ _ _ _
    rw [HN.out]
    refine leaves1_reads P w.heap.size w0 (w.heap.size + 2) q c E HM.out ?_ ?_ HP.out HR0.out.2.2.size
    · rw [HEE.out]; exact HA3.out
    · rw [HEE.out]; have := H.out.below HR0.out.2.2 HP.out; rw [HEE.out] at this; exact this
  go_upto_block 0 with fail
  refine wp_block_range (gf := 41) (lb := #[.pointer (some ⟨w.heap.size + 2, 0, none⟩)]) rfl (enters_of Tryd.func41 (by kernel_rfl) rfl) HSEQ.out HR0.out.2.2.size (fun pre x => turns_good P (leavesE E) _ (fun b hb => Nat.lt_of_lt_of_le (HP.out b hb) HR0.out.2.2.size) pre x) (fun _ => rfl)
    (RI w [.int .i64 k, .string (bstr xv), .string (bstr xn), .slice q ks.length c]) (fun _ _ => False) (fun _ _ _ h hb => h.later hb) (fun _ _ _ h _ => h.elim) (fun pre => RI.turns (by have := HSZ.out; omega) pre) (fun _ _ _ _ _ _ _ _ h => h.elim)
    HR0.out (fun x t => t.setIfInBounds 6 x.2) ?assign0 ?body0 ?done0
  case assign0 =>
    intro lq x W K hK
    dsimp only [outE] at hK ⊢
    simp only [List.setIfInBounds_toArray, List.set_cons_zero, List.set_cons_succ] at hK
    gi_wp2
    simpa using hK
  case body0 =>
    rintro lq pre x W HI HG hlen
    have HII := Lib.hid HI
    obtain ⟨m, hm⟩ : ∃ m, m = pre.length := ⟨_, rfl⟩
    have ht := HI.1.cell 0
    have hf := HI.1.free 0
    rw [← hm] at ht
    simp only [List.getElem?_cons_zero] at ht
    have hm4 : (m : Int) ≤ 900000 := by omega
    have hm0 : (0 : Int) ≤ m := by omega
    have HMM := Lib.hid hm
    clear HI HG hlen hm
    simp only [List.setIfInBounds_toArray, List.set_cons_zero, List.set_cons_succ]
    gi_wp2
    refine ⟨KeepsOthers.setCell _ _ _, (Below.refl w.heap.size W).setCell (p := ⟨w.heap.size + 1, 0, none⟩) (by simp) _, ?_, HII.out.2.1.setCell (by simp) _, HII.out.2.2.setCell (p := ⟨w.heap.size + 1, 0, none⟩) (by simp) _⟩
    have := HII.out.1.set 0 (.int .i64 ((m : Int) + 1))
    rw [List.length_append, List.length_singleton, Int.natCast_add, ← HMM.out]
    exact this
  case done0 =>
    rintro D0 xs W hDD hxs hK
    obtain ⟨h1, h2⟩ : fsts xs = leavesE E ∧ RI w [.int .i64 k, .string (bstr xv), .string (bstr xn), .slice q ks.length c] xs W := by
      rcases hxs with h | h
      · exact h
      · exact h.elim
    have hlen : xs.length = N := by rw [HN.out, ← h1, fsts_len]
    have ht := h2.1.cell 0
    have a0 := h2.2.1.cell 0
    have a1 := h2.2.1.cell 1
    have a2 := h2.2.1.cell 2
    have a3 := h2.2.1.cell 3
    simp only [List.getElem?_cons_zero, List.getElem?_cons_succ] at ht a0 a1 a2 a3
    rw [hlen] at ht
    have HW := Lib.hid h2
    have HKD := Lib.hid hK
    have HDD := Lib.hid hDD
    have hEW : RdE P W E (.agg #[.int .i64 k, .string (bstr xv), .string (bstr xn), .slice q ks.length c]) := by
      have := H.out.below HW.out.2.2 HP.out
      rw [HEE.out] at this ⊢
      exact this
    have HEW := Lib.hid hEW
    have HPW : Hid (∀ b, P b → b < W.heap.size) := fun b hb => Nat.lt_of_lt_of_le (HP.out b hb) HW.out.2.2.size
    have HDP := Lib.hid (depth_any _ E _ P W (Nat.le_refl _) (by have := HM.out; omega) hEW HPW.out)
    obtain ⟨d, hd⟩ : ∃ d, d = depthE E := ⟨_, rfl⟩
    obtain ⟨f, hf⟩ : ∃ f, f = formE E := ⟨_, rfl⟩
    have HRE : Hid (rightE E = (decide (N ≤ 32) && (decide (d ≤ 16) && f))) := by show _ = _; unfold rightE; rw [hd, hf, HN.out]
    rw [← hd] at HDP
    have HF := Lib.hid hf
    have HD0 : Hid (D0 < W.heap.size) := (Array.getElem?_eq_some_iff.1 hK).1
    have HWD : Hid (w.heap.size ≤ D0) := Nat.le_trans HR0.out.2.2.size hDD
    clear h1 h2 hlen hxs hK hDD hEW hd hf
    by_cases hN : N ≤ 32
    · have hN1 : (N : Int) ≤ 32 := by omega
      go_wp2_with fail
      refine HDP.out.mono ?_
      rintro r w5 ⟨rfl, b5⟩
      have HB5 := Lib.hid b5
      have HK5 : Hid (w5.heap[D0]? = some (.deferred (some []))) := (b5.block D0 HD0.out).trans HKD.out
      have z0 := (HW.out.2.1.later b5).cell 0
      have z1 := (HW.out.2.1.later b5).cell 1
      have z2 := (HW.out.2.1.later b5).cell 2
      have z3 := (HW.out.2.1.later b5).cell 3
      simp only [List.getElem?_cons_zero, List.getElem?_cons_succ] at z0 z1 z2 z3
      have HW5 := Lib.hid (HW.out.2.2.trans (b5.mono HW.out.2.2.size))
      have HPT := Lib.hid (parts_any _ E _ P w5 (Nat.le_refl _) HM.out (HEW.out.below b5 HPW.out) (fun b hb => Nat.lt_of_lt_of_le (HPW.out b hb) b5.size) (HRT.out.below HW5.out HRT.out.lt))
      rw [← HF.out] at HPT
      clear b5
      by_cases hd : d ≤ 16
      · have hd1 : (d : Int) ≤ 16 := by omega
        have HFIN : Hid (rightE E = f) := by show _ = _; rw [HRE.out, decide_eq_true hN, decide_eq_true hd]; rfl
        go_wp2_with fail
        refine HPT.out.mono ?_
        rintro r w6 ⟨rfl, b6⟩
        have HK6 : Hid (w6.heap[D0]? = some (.deferred (some []))) := (b6.block D0 (Array.getElem?_eq_some_iff.1 HK5.out).1).trans HK5.out
        have HW6 := Lib.hid (HW5.out.trans (b6.mono HW5.out.size))
        clear b6
        go_wp2_with fail
        refine ⟨by simp, .inl ⟨D0, _, rfl, run_takeDeferred HK6.out, ?_⟩⟩
        exact ⟨_, results_tmp rfl _ _ _, by rw [HFIN.out]; rfl, HW6.out.trans (below_put w6 _ _ HWD.out)⟩
      · have hd1 : ¬ (d : Int) ≤ 16 := by omega
        have HFIN : Hid (rightE E = false) := by show _ = _; rw [HRE.out, decide_eq_true hN, decide_eq_false hd]; rfl
        go_wp2_with fail
        refine ⟨by simp, .inl ⟨D0, _, rfl, run_takeDeferred HK5.out, ?_⟩⟩
        exact ⟨_, results_tmp rfl _ _ _, by rw [HFIN.out]; rfl, HW5.out.trans (below_put w5 _ _ HWD.out)⟩
    · have hN1 : ¬ (N : Int) ≤ 32 := by omega
      have HFIN : Hid (rightE E = false) := by show _ = _; rw [HRE.out, decide_eq_false hN]; rfl
      go_wp2_with fail
      refine ⟨by simp, .inl ⟨D0, _, rfl, run_takeDeferred HKD.out, ?_⟩⟩
      exact ⟨_, results_tmp rfl _ _ _, by rw [HFIN.out]; rfl, HW.out.2.2.trans (below_put W _ _ HWD.out)⟩
end Go.Proofs.YtigphejoekfclaaDoor
