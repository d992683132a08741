/-
  tuple.Read, tuple.ParseBytes.
-/
import Derived.Test.YtnnebfcggdbgpaaGreatDoorTuJ
import Derived.Deep.Cut
import Derived.Deep.WholeRow
import Derived.Deep.RegionHeld3
import Derived.Deep.RegionLaw
namespace Go.Proofs.YtnnebfcggdbgpaaGreatDoor
open Go.ChangeShapes Go.WideShapes Go.ChangeAt Go.RowKit
open errAs (ErrT)
set_option linter.unusedVariables false

theorem setRow_same' {w : World} {t : TypeId} {g : Nat} {cs : List Value} (h : Arr w t g cs) : w.setRow g cs.toArray = w := by
  have hg : g < w.heap.size := h.lt
  cases w
  simp only [World.setRow] at *
  congr 1
  apply Array.ext_getElem?
  intro i
  rw [Array.getElem?_modify]
  split
  · next h' => subst h'; rw [show _ = _ from h]; rfl
  · rfl
theorem stepw_storeT0 {ops : Array Oper} {o : Oper} {a : Act} {w : World} {K : Act → World → Prop} {Q : Exit → Act → World → Prop} {E : Prop} {g : Nat} {u : Tu} (hw : Region.wanted o (yielded ops a.tmps) = true) (x y : Operand) (ho : o.op = .store 25 x y) (hx : a.eval x = .pointer (some ⟨g, 0, none⟩)) (hy : a.eval y = tuV u) (hA : TuAt w g u)
    (hK : K (a.put o.dst undef) w) : if Region.wanted o (yielded ops a.tmps) = true then Oper.wp Tryz.prog o a w K Q else E := by
  rw [if_pos hw]
  exact wp_store_row _ x y ho g (tc u).toArray hx hy _ (tc u).toArray hA (by kernel_rfl) rfl (Array.all_eq_true_iff_forall_mem.2 (fun v hv => tc_one u v (by simpa using hv))) (by rw [setRow_same' hA]; exact hK)
theorem resT {fn : Func} {p q : Tmp} {tmps : Array Value} {w : World} {g : Nat} {t : TypeId} {u : Tu} (h : fn.results = #[.cell p 25, .tmp q]) (hA : Arr w t g (tc u)) (hp : tmps.getD p undef = .pointer (some ⟨g, 0, none⟩)) :
    (results fn tmps).run Tryz.prog w = .ok (.tuple #[tuV u, tmps.getD q undef]) w :=
  results_cell_tmp h tmps w g t (tc u).toArray (0, 0) _ hp hA Tryz.underlying25 rfl (by kernel_rfl)
theorem resT2 {fn : Func} {p q r' : Tmp} {tmps : Array Value} {w : World} {g : Nat} {t : TypeId} {u : Tu} (h : fn.results = #[.cell p 25, .tmp q, .tmp r']) (hA : Arr w t g (tc u)) (hp : tmps.getD p undef = .pointer (some ⟨g, 0, none⟩)) :
    (results fn tmps).run Tryz.prog w = .ok (.tuple #[tuV u, tmps.getD q undef, tmps.getD r' undef]) w := by
  have hp' : tmps[p]?.getD undef = .pointer (some ⟨g, 0, none⟩) := by simpa using hp
  have hl := run_loadVar_row (P := Tryz.prog) w g t 25 (tc u).toArray (0, 0) _ hA Tryz.underlying25 rfl (by kernel_rfl)
  simp [results, h, hp', asAddr, hl]
theorem atT {ops : Array Oper} {rest : List Oper} {o : Oper} {a : Act} {Q : Exit → Act → World → Prop} {w : World} {t : TypeId} {x y : Operand} {u : Tu} {cs : Array Value} (n : Nat)
    (hs : o.guard = none ∧ o.op = .store 25 x y ∧ a.eval x = .pointer (some ⟨n, 0, none⟩) ∧ a.eval y = tuV u ∧ cs.toList.length = 6 ∧ n = w.heap.size)
    (hk : wpList Tryz.prog ops Q rest (a.put o.dst undef) (w.alloc (.cells (tc u).toArray t))) : wpList Tryz.prog ops Q (o :: rest) a (w.alloc (.cells cs t)) := by
  obtain ⟨h1, h2, h3, h4, h5, rfl⟩ := hs
  exact store_arr h1 _ _ _ h2 (Arr.new w t cs) h3 h4 (by kernel_rfl) (by rw [h5]; rfl) (tc_one u) (by rw [World.setRow_alloc_new]; exact hk)
theorem visitD7 (I0 I1 I2 I3 I4 I5 I6 : World → Prop) {bt : Nat} {x y : Value} {w : World} (h0 : I0 w)
    (s0 : ∀ W, I0 W → Calls Tryz.prog 73 #[.pointer (some ⟨bt, 0, none⟩), .int .i64 64, .func (.func 64) #[] #[], x, y] W fun e W' => e = .returned (.tuple #[]) ∧ I1 W')
    (s1 : ∀ W, I1 W → Calls Tryz.prog 73 #[.pointer (some ⟨bt, 1, none⟩), .int .i64 128, .func (.func 99) #[] #[], x, y] W fun e W' => e = .returned (.tuple #[]) ∧ I2 W')
    (s2 : ∀ W, I2 W → Calls Tryz.prog 73 #[.pointer (some ⟨bt, 2, none⟩), .int .i64 64, .func (.func 64) #[] #[], x, y] W fun e W' => e = .returned (.tuple #[]) ∧ I3 W')
    (s3 : ∀ W, I3 W → Calls Tryz.prog 73 #[.pointer (some ⟨bt, 3, none⟩), .int .i64 64, .func (.func 64) #[] #[], x, y] W fun e W' => e = .returned (.tuple #[]) ∧ I4 W')
    (s4 : ∀ W, I4 W → Calls Tryz.prog 73 #[.pointer (some ⟨bt, 4, none⟩), .int .i64 128, .func (.func 99) #[] #[], x, y] W fun e W' => e = .returned (.tuple #[]) ∧ I5 W')
    (s5 : ∀ W, I5 W → Calls Tryz.prog 73 #[.pointer (some ⟨bt, 5, none⟩), .int .i64 64, .func (.func 100) #[] #[], x, y] W fun e W' => e = .returned (.tuple #[]) ∧ I6 W')
    : Calls Tryz.prog 55 #[.pointer (some ⟨bt, 0, none⟩), .func (.func 73) #[] #[x, y]] w fun e w' => e = .returned (.tuple #[]) ∧ I6 w' :=
  visitD (fun i W => match i with | 0 => I0 W | 1 => I1 W | 2 => I2 W | 3 => I3 W | 4 => I4 W | 5 => I5 W | _ => I6 W) h0 s0 s1 s2 s3 s4 s5
set_option maxRecDepth 100000 in
set_option maxHeartbeats 2000000 in
theorem tread_any {w : World} {c A : Nat} {b : List UInt8} (h : Cur w c b A) (hE : EnvC c w) (hb : b.length ≤ 1000000) :
    Calls Tryz.prog 28 #[.pointer (some ⟨c, 0, none⟩)] w fun e w' => e = .returned (.tuple #[tuV (readT b A).1, errF (readT b A).2.2 (readT b A).2.1]) ∧ Cur w' c b (readT b A).2.1 ∧ w.grownBy w' (some c) ∧ EnvC c w' := by
  obtain ⟨W, hW⟩ : ∃ W, W = (((w.alloc (.cells #[.pointer (some ⟨c, 0, none⟩)] 46)).alloc (.cells (tc t0).toArray 25)).alloc (.cells (tc t0).toArray 25)).alloc (.cells #[.nilIface] 34) := ⟨_, rfl⟩
  have hbW : Below w.heap.size w W := by
    rw [hW]
    exact ((((Below.refl _ _).alloc (Nat.le_refl _) _).alloc (by simp) _).alloc (by simp; omega) _).alloc (by simp; omega) _
  have HI : Hid (DI w c w.heap.size (w.heap.size + 1) (w.heap.size + 1 + 1) (w.heap.size + 1 + 1 + 1) b (t0, A, 0) W) := by
    refine ⟨?_, ?_, ?_, ?_, h.below hbW h.lt, grown_of hbW _, hE.grown (grown_of hbW _), h.lt, Nat.le_refl _, by omega, by omega, by omega⟩
    · rw [hW]; exact (Arr.new3 w _ _ _ _ _ rfl).alloc _
    · rw [hW]
      have := Arr.new' (((w.alloc (.cells #[.pointer (some ⟨c, 0, none⟩)] 46)).alloc (.cells (tc t0).toArray 25)).alloc (.cells (tc t0).toArray 25)) 34 #[.nilIface] [.nilIface] rfl
      rw [show (((w.alloc (.cells #[.pointer (some ⟨c, 0, none⟩)] 46)).alloc (.cells (tc t0).toArray 25)).alloc (.cells (tc t0).toArray 25)).heap.size = w.heap.size + 1 + 1 + 1 by simp] at this
      exact this
    · rw [hW]; exact ((Arr.new' w _ _ _ rfl).alloc _).alloc _ |>.alloc _
    · rw [hW]; exact ((Arr.new2 w _ _ _ _ rfl).alloc _).alloc _
  have HBL := Lib.hid hb
  obtain ⟨S1, hS1⟩ : ∃ S, S = stepR b 0 0 (t0, A, 0) := ⟨_, rfl⟩
  obtain ⟨S2, hS2⟩ : ∃ S, S = stepR b 1 1 S1 := ⟨_, rfl⟩
  obtain ⟨S3, hS3⟩ : ∃ S, S = stepR b 0 2 S2 := ⟨_, rfl⟩
  obtain ⟨S4, hS4⟩ : ∃ S, S = stepR b 0 3 S3 := ⟨_, rfl⟩
  obtain ⟨S5, hS5⟩ : ∃ S, S = stepR b 1 4 S4 := ⟨_, rfl⟩
  obtain ⟨S6, hS6⟩ : ∃ S, S = stepR b 2 5 S5 := ⟨_, rfl⟩
  have HS6 : Hid (readS b A = S6) := by show _ = _; rw [hS6, hS5, hS4, hS3, hS2, hS1]; rfl
  have HV := Lib.hid (visitD7 (DI w c w.heap.size (w.heap.size + 1) (w.heap.size + 1 + 1) (w.heap.size + 1 + 1 + 1) b (t0, A, 0)) (DI w c w.heap.size (w.heap.size + 1) (w.heap.size + 1 + 1) (w.heap.size + 1 + 1 + 1) b S1) (DI w c w.heap.size (w.heap.size + 1) (w.heap.size + 1 + 1) (w.heap.size + 1 + 1 + 1) b S2) (DI w c w.heap.size (w.heap.size + 1) (w.heap.size + 1 + 1) (w.heap.size + 1 + 1 + 1) b S3) (DI w c w.heap.size (w.heap.size + 1) (w.heap.size + 1 + 1) (w.heap.size + 1 + 1 + 1) b S4) (DI w c w.heap.size (w.heap.size + 1) (w.heap.size + 1 + 1) (w.heap.size + 1 + 1 + 1) b S5) (DI w c w.heap.size (w.heap.size + 1) (w.heap.size + 1 + 1) (w.heap.size + 1 + 1 + 1) b S6) (bt := w.heap.size + 1 + 1) (x := .pointer (some ⟨w.heap.size + 1 + 1 + 1, 0, none⟩)) (y := .pointer (some ⟨w.heap.size, 0, none⟩)) (w := W) HI.out
    (fun W h => (readC0 0 (by decide) h HBL.out).mono fun e W' ⟨he, hd⟩ => ⟨he, by rw [hS1]; exact hd⟩)
    (fun W h => (readC1 1 (by decide) h HBL.out).mono fun e W' ⟨he, hd⟩ => ⟨he, by rw [hS2]; exact hd⟩)
    (fun W h => (readC0 2 (by decide) h HBL.out).mono fun e W' ⟨he, hd⟩ => ⟨he, by rw [hS3]; exact hd⟩)
    (fun W h => (readC0 3 (by decide) h HBL.out).mono fun e W' ⟨he, hd⟩ => ⟨he, by rw [hS4]; exact hd⟩)
    (fun W h => (readC1 4 (by decide) h HBL.out).mono fun e W' ⟨he, hd⟩ => ⟨he, by rw [hS5]; exact hd⟩)
    (fun W h => (readC2 5 (by decide) h HBL.out).mono fun e W' ⟨he, hd⟩ => ⟨he, by rw [hS6]; exact hd⟩))
  clear hS1 hS2 hS3 hS4 hS5 hS6
  have HW := Lib.hid hW
  clear h hE hb hbW HI hW
  go_enter Tryz.func28, Tryz.ntmps28
  go_wp2_with fail
  rw [show (((w.alloc (.cells #[.pointer (some ⟨c, 0, none⟩)] 46)).alloc (.cells #[.string ⟨#[]⟩, .string ⟨#[]⟩, .string ⟨#[]⟩, .string ⟨#[]⟩, .string ⟨#[]⟩, .string ⟨#[]⟩] 25)).alloc (.cells #[.string ⟨#[]⟩, .string ⟨#[]⟩, .string ⟨#[]⟩, .string ⟨#[]⟩, .string ⟨#[]⟩, .string ⟨#[]⟩] 25)).alloc (.cells #[.nilIface] 34) = W from HW.out.symm]
  refine HV.out.mono ?_
  rintro e w1 ⟨rfl, h6⟩
  have hRT : readT b A = if S6.2.2 = 0 then S6 else (t0, S6.2.1, S6.2.2) := by unfold readT; rw [HS6.out]
  have HRT := Lib.hid hRT
  clear HS6 hRT
  obtain ⟨t, n, cd⟩ := S6
  have H := Lib.hid h6
  have c0 := h6.2.1.cell 0
  simp only [List.getElem?_cons_zero] at c0
  clear h6 HV HW
  by_cases hc : cd = 0
  · subst hc
    have HR2 : Hid (readT b A = (t, n, 0)) := by show _ = _; rw [HRT.out]; rfl
    rw [errF_zero] at c0
    have HT := Lib.hid H.out.1
    have HX := Lib.hid H.out.2.2.2.1
    clear HRT
    go_wp2_with (first
      | ((with_reducible refine loadT (x := .tmp 4) (o := ⟨some 15, _, _, _, _, _⟩) HT.out ?_ ?_); exact ⟨rfl, rfl, rfl⟩)
      | ((with_reducible refine storeT (x := .tmp 2) (y := .tmp 15) (u := t) (o := ⟨none, .store _ _ _, _, _, _, _⟩) HX.out ?_ ?_); exact ⟨rfl, rfl, rfl, rfl⟩))
    refine bodyPost_ret (resT rfl (HX.out.row _) rfl) rfl ?_
    obtain ⟨_, _, _, _, h5, h6, h7, h8⟩ := H.out
    rw [HR2.out]
    have hg : w1.grownBy (w1.setRow (w.heap.size + 1) (tc t).toArray) (some (w.heap.size + 1)) := ⟨rfl, rfl, rfl, by simp [World.setRow], fun k _ hne => by
      simp only [World.setRow, Array.getElem?_modify]
      rw [if_neg (fun e => hne (by rw [e]))]⟩
    have hbb := grown_below' hg (Nat.le_refl _) (Nat.le_of_lt HX.out.lt)
    refine ⟨rfl, h5.below hbb (by omega), ⟨h6.os, h6.tape, h6.output, Nat.le_trans h6.size hg.size, fun k hk hne => (hbb.block k (by omega)).trans (h6.block k hk hne)⟩, ?_⟩
    obtain ⟨wE, e1, e2, e3⟩ := h7
    exact ⟨wE, e1, e2, e3.trans (hbb.mono (by omega))⟩
  · have HR2 : Hid (readT b A = (t0, n, cd)) := by show _ = _; rw [HRT.out, if_neg hc]
    have HC := Lib.hid hc
    have e0 : errF cd n = faultN cd n := by unfold errF; rw [if_neg hc]
    rw [e0] at c0
    unfold faultN at c0
    have HF : Hid (errF cd n = .iface 141 (.agg #[.int .i64 cd, .int .i64 n])) := by show _ = _; rw [e0]; rfl
    have hq := eqNF cd n
    have HX := Lib.hid H.out.2.2.2.1
    clear HRT hc e0
    go_wp2_with fail
    refine wp_region_noPanic ?_
    refine wp_region_held_drew (S := DI w c w.heap.size (w.heap.size + 1) (w.heap.size + 1 + 1) (w.heap.size + 1 + 1 + 1) b (t, n, cd)) (by kernel_rfl) (H.out.later (Below.refl _ _).drew) (fun hHeld => ?_)
    try simp only [Act.put]
    generalize w1.drew = w2 at hHeld ⊢
    refine wpAnyH_take (i := 0) (oi := ⟨some 13, _, _, _, _, _⟩) (v := .agg #[.string ⟨#[]⟩, .string ⟨#[]⟩, .string ⟨#[]⟩, .string ⟨#[]⟩, .string ⟨#[]⟩, .string ⟨#[]⟩]) rfl (by kernel_rfl) (by kernel_rfl) (by kernel_rfl) (fun _ _ _ h => h) (.inl ⟨by rfl, fun w' hSw => ?_⟩) hHeld ?_
    focus (skip; clear hHeld; go_simp)
    try simp only [Act.put, List.setIfInBounds_toArray, List.set_cons_zero, List.set_cons_succ]
    refine wpAnyH_take (i := 1) (oi := ⟨some 14, _, _, _, _, _⟩) (v := .iface 141 (.agg #[.int .i64 cd, .int .i64 n])) rfl (by kernel_rfl) (by kernel_rfl) (by kernel_rfl) (fun _ _ _ h => h) (.inl ⟨by rfl, fun w' hSw => ?_⟩) hHeld ?_
    focus ((have q0 := hSw.2.1.cell 0; simp only [List.getElem?_cons_zero, HF.out] at q0); clear hHeld; go_simp)
    try simp only [Act.put, List.setIfInBounds_toArray, List.set_cons_zero, List.set_cons_succ]
    refine wpAnyH_ready (rs := [2]) (by kernel_rfl) (by simp) ?_
    refine AllReadyH.cons (o := ⟨none, _, _, _, _, _⟩) rfl (fun K' hK' => ?_) AllReadyH.nil
    refine stepw_storeT0 (by rfl) (.tmp 2) (.tmp 13) rfl rfl rfl hHeld.2.2.2.1 ?_
    have hkn := hHeld
    refine hK'.out _ _ hkn (fun _ => ?_)
    clear hK' K' hHeld
    have hHeld := hkn
    clear hkn
    try simp only [Act.put]
    refine wpAnyH_take (i := 3) (oi := ⟨some 3, _, _, _, _, _⟩) (v := .iface 141 (.agg #[.int .i64 cd, .int .i64 n])) rfl (by kernel_rfl) (by kernel_rfl) (by kernel_rfl) (fun _ _ _ h => h) (.inl ⟨by rfl, fun w' hSw => ?_⟩) hHeld ?_
    focus (skip; clear hHeld; go_simp)
    try simp only [Act.put, List.setIfInBounds_toArray, List.set_cons_zero, List.set_cons_succ]
    refine wpAnyH_done (by kernel_rfl) ?_ _
    refine NoPanic.normal ?_
    go_wp2_with fail
    refine bodyPost_ret (resT rfl hHeld.2.2.2.1 rfl) rfl ?_
    rw [HR2.out]
    exact ⟨by rw [HF.out]; rfl, hHeld.2.2.2.2.1, hHeld.2.2.2.2.2.1, hHeld.2.2.2.2.2.2.1⟩
theorem end_done' {w : World} {c at' : Nat} {l : List UInt8} (h : Cur w c l at') (hl : at' = l.length) :
    Calls Tryz.prog 66 #[.pointer (some ⟨c, 0, none⟩)] w fun e w' => e = .returned .nilIface ∧ ∃ n, w' = w.drewN n := by
  have HL := Lib.hid (left_any h)
  rw [hl, Nat.sub_self] at HL
  go_enter Tryz.func66, Tryz.ntmps66
  go_wp2_with fail
  refine HL.out.mono ?_
  rintro e w1 ⟨rfl, nq, rfl⟩
  go_wp2_with fail
  go_ret
  exact ⟨rfl, _, rfl⟩
/-- What ParseBytes hands back. -/
theorem below_rowT {w W : World} {g : Nat} (h : Below w.heap.size w W) (hg : w.heap.size ≤ g) (u : Tu) : Below w.heap.size w (W.setRow g (tc u).toArray) := below_row h hg _
set_option maxRecDepth 100000 in
set_option maxHeartbeats 2000000 in
theorem tparseB_any {B : Nat} {w : World} {vb : Value} {l : List UInt8} (hr : Rd B w vb l) (hB : B ≤ w.heap.size) (hl : l.length ≤ 1000000) (hE : Env w) :
    Calls Tryz.prog 20 #[vb] w fun e w' => e = .returned (.tuple #[tuV (parseB l).1, errF (parseB l).2.1 (parseB l).2.2]) ∧ Below w.heap.size w w' := by
  have b0 : Below w.heap.size w (w.alloc (.cells (tc t0).toArray 25)) := (Below.refl _ _).alloc (Nat.le_refl _) _
  have HB0 := Lib.hid b0
  have HX0 := Lib.hid (tu_new w t0)
  have HE0 := Lib.hid hE
  have HN := Lib.hid (new_any (hr.below b0 hB) (Nat.le_trans hB b0.size) (by omega))
  have HLN := Lib.hid hl
  obtain ⟨ov, cv, rfl⟩ := rd_form hr
  clear hr hE b0 hl
  go_enter Tryz.func20, Tryz.ntmps20
  go_wp2_with fail
  refine HN.out.mono ?_
  rintro e w1 ⟨c, rfl, hc, hcur, b1⟩
  have HB1 := Lib.hid (HB0.out.trans (b1.mono HB0.out.size))
  have HX1 := Lib.hid (HX0.out.later b1)
  have hgc : w.heap.size < c := Nat.lt_of_lt_of_le HX0.out.lt hc
  have HC := Lib.hid hgc
  have HCL := Lib.hid hcur.lt
  have HT := Lib.hid (tread_any hcur ⟨w, HE0.out, Nat.le_of_lt hgc, HB1.out⟩ HLN.out)
  obtain ⟨T, hT⟩ : ∃ T, T = readT l 0 := ⟨_, rfl⟩
  have hP : parseB l = endB l.length T := by rw [hT]; rfl
  rw [← hT] at HT
  have HP := Lib.hid hP
  have hAt : T.2.1 ≤ l.length := by rw [hT]; exact (readT_at (Nat.zero_le _)).2
  have HAT := Lib.hid hAt
  clear b1 HB0 HX0 HN hc hcur hgc hT hP hAt
  obtain ⟨t, n, cd⟩ := T
  go_wp2_with fail
  refine HT.out.mono ?_
  rintro e w2 ⟨rfl, u2, g2, e2⟩
  have b2 := grown_below' g2 (Nat.le_refl c) (Nat.le_of_lt HCL.out)
  have HB2 := Lib.hid (HB1.out.trans (b2.mono (Nat.le_of_lt HC.out)))
  have HX2 := Lib.hid (HX1.out.below b2 HC.out)
  have b3 : Below w2.heap.size w2 (w2.alloc (.cells (tc t).toArray 25)) := (Below.refl _ _).alloc (Nat.le_refl _) _
  have HB3 := Lib.hid (HB2.out.trans (b3.mono HB2.out.size))
  have HX3 := Lib.hid (HX2.out.later b3)
  have HT3 := Lib.hid (tu_new w2 t)
  have HU3 := Lib.hid (u2.below b3 u2.lt)
  clear b2 b3 u2 g2 e2 HT HB1 HX1 HB2 HX2 HCL HC
  by_cases hc : cd = 0
  · subst hc
    rw [errF_zero]
    go_upto_region 3 with ((with_reducible refine atT w2.heap.size (x := .tmp 5) (y := .tmp 12) (u := t) (o := ⟨none, .store _ _ _, _, _, _, _⟩) ?_ ?_); exact ⟨rfl, rfl, rfl, rfl, rfl, rfl⟩)
    generalize w2.alloc (.cells (tc t).toArray 25) = w3 at HB3 HX3 HT3 HU3 ⊢
    generalize w2.heap.size = g3 at HT3 ⊢
    by_cases hlt : n < l.length
    · have HP2 : Hid (parseB l = (t0, 16, n)) := by show _ = _; rw [HP.out]; exact endB_long rfl hlt
      have HEN := Lib.hid (end_left HU3.out hlt)
      have hq := eqNC
      clear HP hlt
      go_wp2_with fail
      refine HEN.out.mono ?_
      rintro e w4 ⟨rfl, k, rfl⟩
      have b4 := below_drewN (Below.refl w3.heap.size w3) k
      have HB4 := Lib.hid (HB3.out.trans (b4.mono HB3.out.size))
      have HX4 := Lib.hid (HX3.out.later b4)
      have HU4 := Lib.hid (HU3.out.below b4 HU3.out.lt)
      clear b4 HB3 HX3 HU3 HEN
      generalize w3.drewN k = w4 at HB4 HX4 HU4 ⊢
      go_wp2_with fail
      refine (at_any HU4.out).mono ?_
      rintro e w5 ⟨rfl, hw5⟩
      subst hw5
      go_wp2_with fail
      refine (fnew_any _ _ _).mono ?_
      rintro e w6 ⟨rfl, hw6⟩
      subst hw6
      have hA := HX4.out
      go_wp2_with ((with_reducible refine storeT (x := .tmp 2) (y := .tmp 21) (u := t0) (o := ⟨none, .store _ _ _, _, _, _, _⟩) hA ?_ ?_); exact ⟨rfl, rfl, rfl, rfl⟩)
      refine bodyPost_ret (resT rfl (hA.row _) rfl) rfl ⟨?_, below_rowT HB4.out (Nat.le_refl _) _⟩
      rw [HP2.out]; rfl
    · have HP2 : Hid (parseB l = (t, 0, 0)) := by show _ = _; rw [HP.out]; exact endB_yes rfl hlt
      have HEN := Lib.hid (end_done' HU3.out (by have := HAT.out; omega))
      clear HP hlt
      go_wp2_with fail
      refine HEN.out.mono ?_
      rintro e w4 ⟨rfl, k, rfl⟩
      have b4 := below_drewN (Below.refl w3.heap.size w3) k
      have HB4 := Lib.hid (HB3.out.trans (b4.mono HB3.out.size))
      have HX4 := Lib.hid (HX3.out.later b4)
      have HT4 := Lib.hid (HT3.out.later b4)
      clear b4 HB3 HX3 HU3 HT3 HEN
      generalize w3.drewN k = w4 at HB4 HX4 HT4 ⊢
      have hA := HX4.out
      go_wp2_with (first
        | ((with_reducible refine loadT (x := .tmp 5) (o := ⟨some 25, _, _, _, _, _⟩) HT4.out ?_ ?_); exact ⟨rfl, rfl, rfl⟩)
        | ((with_reducible refine storeT (x := .tmp 2) (y := .tmp 25) (u := t) (o := ⟨none, .store _ _ _, _, _, _, _⟩) hA ?_ ?_); exact ⟨rfl, rfl, rfl, rfl⟩))
      refine bodyPost_ret (resT rfl (hA.row _) rfl) rfl ⟨?_, below_rowT HB4.out (Nat.le_refl _) _⟩
      rw [HP2.out]; rfl
  · have HP2 : Hid (parseB l = (t0, cd, n)) := by show _ = _; rw [HP.out]; exact endB_bad hc
    have e0 : errF cd n = faultN cd n := by unfold errF; rw [if_neg hc]
    have HF : Hid (errF cd n = .iface 141 (.agg #[.int .i64 cd, .int .i64 n])) := by show _ = _; rw [e0]; rfl
    rw [HF.out]
    have hq := eqNF cd n
    clear HP hc e0
    go_upto_region 3 with ((with_reducible refine atT w2.heap.size (x := .tmp 5) (y := .tmp 12) (u := t) (o := ⟨none, .store _ _ _, _, _, _, _⟩) ?_ ?_); exact ⟨rfl, rfl, rfl, rfl, rfl, rfl⟩)
    generalize w2.alloc (.cells (tc t).toArray 25) = w3 at HB3 HX3 HT3 HU3 ⊢
    generalize w2.heap.size = g3 at HT3 ⊢
    have hA := HX3.out
    go_wp2_with ((with_reducible refine storeT (x := .tmp 2) (y := .tmp 16) (u := t0) (o := ⟨none, .store _ _ _, _, _, _, _⟩) hA ?_ ?_); exact ⟨rfl, rfl, rfl, rfl⟩)
    refine bodyPost_ret (resT rfl (hA.row _) rfl) rfl ⟨?_, below_rowT HB3.out (Nat.le_refl _) _⟩
    rw [HP2.out]
    show _ = Ending.returned (.tuple #[tuV t0, errF cd n])
    rw [HF.out]; rfl

end Go.Proofs.YtnnebfcggdbgpaaGreatDoor
