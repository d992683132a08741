/-
  merge.Diff, compareObject, the binary searches, Has.
-/
import Derived.Test.YtebbbiikphfjcaaMgB
namespace Go.Proofs.Ytebbbiikphfjcaa
open Go.ChangeShapes Go.WideShapes Go.ChangeAt Go.RowKit
set_option linter.unusedVariables false

set_option maxRecDepth 100000 in
set_option maxHeartbeats 2000000 in
theorem diff_any {w : World} {av bv : Value} {a b : List Tu} (ha : TuSl w av a) (hb : TuSl w bv b) (hla : a.length ≤ 100000) (hlb : b.length ≤ 100000) :
    Calls Try.prog 15 #[av, bv] w fun e w' => ∃ v1 v2, e = .returned (.tuple #[v1, v2]) ∧ Below w.heap.size w w' ∧ TuSl w' v1 (minG b a) ∧ TuSl w' v2 (minG a b) := by
  have HSA := Lib.hid ha
  have HSB := Lib.hid hb
  have HLA := Lib.hid hla
  have HLB := Lib.hid hlb
  have HC1 := Lib.hid (minus_any hb ha hlb hla)
  clear ha hb
  go_enter Try.func15, Try.ntmps15
  go_wp2_with fail
  refine HC1.out.mono ?_
  rintro e w1 ⟨v1, rfl, b1, s1⟩
  have HB1 := Lib.hid b1
  have HS1 := Lib.hid s1
  have HC2 := Lib.hid (minus_any (HSA.out.below b1) (HSB.out.below b1) HLA.out HLB.out)
  clear b1 s1 HC1
  go_wp2_with fail
  refine HC2.out.mono ?_
  rintro e w2 ⟨v2, rfl, b2, s2⟩
  have HB2 := Lib.hid (HB1.out.trans (b2.mono HB1.out.size))
  have HS2 := Lib.hid (HS1.out.below b2)
  have HS3 := Lib.hid s2
  clear b2 s2 HC2
  go_wp2_with fail
  go_ret2
  exact ⟨_, _, rfl, HB2.out, HS2.out, HS3.out⟩
theorem stillO {ops : Array Oper} {rest : List Oper} {o : Oper} {a : Act} {Q' : Act → Prop} {w : World} {b off : Nat} {x : Operand} {u v : ByteArray} (hr : w.rangeAt b off [.string u, .string v]) (hs : Region.wanted o (yielded ops a.tmps) = true ∧ o.op = .load 32 x ∧ a.eval x = .pointer (some ⟨b, off, none⟩))
    (hk : wpStill Try.prog ops w Q' rest (a.put o.dst (.agg #[.string u, .string v]))) : wpStill Try.prog ops w Q' (o :: rest) a := by
  refine wpStill_step (fun K hK => ?_)
  rw [if_pos hs.1]
  unfold Oper.still execOp
  simp only [hs.2.1, hs.2.2, Instr.loadAt, Instr.sureAddr, Sem.run_bind, Sem.run_pure, Result.andThen_ok, run_loadVar_mid w b off _ [.string u, .string v] _ hr Try.underlying32 rfl (by kernel_rfl)]
  exact ⟨rfl, hK _ hk⟩
theorem takeT {ops : Array Oper} {md : Region.Mode} {S : World → Prop} {Q : Exit → Act → World → Prop} {i : Nat} {o : Oper} {fuel : Nat} {listed : Array Bool} {a : Act} {w : World} {u : Tu} (hi : ops[i]? = some o) (hs : Region.noSelect ops = true) (hf : Region.free md ops listed i = true) (hr : (Region.ready md ops listed).contains i = true)
    (hQ : ∀ c a w, Q (.panic c) (a.put o.dst (tuV u)) w → Q (.panic c) a w) (hwt : Region.wanted o (yielded ops a.tmps) = true) {x : Operand} {b off : Nat} (ho : o.op = .load 34 x ∧ a.eval x = .pointer (some ⟨b, off, none⟩)) (hS : ∀ w, S w → w.rangeAt b off (tc u)) (hw : S w)
    (h : wpAnyH Try.prog md ops Q S fuel (listed.setIfInBounds i true) (a.put o.dst (tuV u)) w) : wpAnyH Try.prog md ops Q S (fuel + 1) listed a w :=
  wpAnyH_take hi hs hf hr hQ (yieldsIf_load_mid hwt _ x ho.1 b off ho.2 (tc u) _ hS Try.underlying34 rfl (by kernel_rfl)) hw h
theorem takeE {ops : Array Oper} {md : Region.Mode} {S : World → Prop} {Q : Exit → Act → World → Prop} {i : Nat} {o : Oper} {fuel : Nat} {listed : Array Bool} {a : Act} {w : World} {u v : Tu} (hi : ops[i]? = some o) (hs : Region.noSelect ops = true) (hf : Region.free md ops listed i = true) (hr : (Region.ready md ops listed).contains i = true)
    (hQ : ∀ c a w, Q (.panic c) (a.put o.dst (.bool (eqT u v))) w → Q (.panic c) a w) (hwt : Region.wanted o (yielded ops a.tmps) = true) {x y : Operand} {t : TypeId} (ho : o.op = .binOp .eql 34 x y t ∧ a.eval x = tuV u ∧ a.eval y = tuV v) (hw : S w)
    (h : wpAnyH Try.prog md ops Q S fuel (listed.setIfInBounds i true) (a.put o.dst (.bool (eqT u v))) w) : wpAnyH Try.prog md ops Q S (fuel + 1) listed a w :=
  wpAnyH_take hi hs hf hr hQ (.inl ⟨hwt, fun w' _ => by
    have hg : Try.prog.eqGuardType Try.prog.depth 34 = false := by kernel_rfl
    unfold execOp
    simp only [ho.1, ho.2.1, ho.2.2, Sem.run_bind, run_eqGuard_agg (hm := hg), Result.andThen_ok, eqlT, Sem.run_pure]⟩) hw h
theorem takeO {ops : Array Oper} {md : Region.Mode} {S : World → Prop} {Q : Exit → Act → World → Prop} {i : Nat} {o : Oper} {fuel : Nat} {listed : Array Bool} {a : Act} {w : World} {u v : ByteArray} (hi : ops[i]? = some o) (hs : Region.noSelect ops = true) (hf : Region.free md ops listed i = true) (hr : (Region.ready md ops listed).contains i = true)
    (hQ : ∀ c a w, Q (.panic c) (a.put o.dst (.agg #[.string u, .string v])) w → Q (.panic c) a w) (hwt : Region.wanted o (yielded ops a.tmps) = true) {x : Operand} {b off : Nat} (ho : o.op = .load 32 x ∧ a.eval x = .pointer (some ⟨b, off, none⟩)) (hS : ∀ w, S w → w.rangeAt b off [.string u, .string v]) (hw : S w)
    (h : wpAnyH Try.prog md ops Q S fuel (listed.setIfInBounds i true) (a.put o.dst (.agg #[.string u, .string v])) w) : wpAnyH Try.prog md ops Q S (fuel + 1) listed a w :=
  wpAnyH_take hi hs hf hr hQ (yieldsIf_load_mid hwt _ x ho.1 b off ho.2 [.string u, .string v] _ hS Try.underlying32 rfl (by kernel_rfl)) hw h
theorem ordO_or (a b c d : ByteArray) : ordO (a, b) (c, d) = orL [ord a c, ord b d] := by
  show ordL [a, b] [c, d] = _
  simp only [ordL, orL]
set_option maxRecDepth 100000 in
set_option maxHeartbeats 2000000 in
theorem cobj_any (t : Tu) (oa ob : ByteArray) (w : World) : Calls Try.prog 35 #[tuV t, .agg #[.string oa, .string ob]] w fun e w' => e = .returned (.int .i64 (ordO (objT t) (oa, ob))) ∧ Below w.heap.size w w' := by
  obtain ⟨w0, hw0⟩ : ∃ w0, w0 = (w.alloc (.cells (tc t).toArray 34)).alloc (.cells #[.string oa, .string ob] 32) := ⟨_, rfl⟩
  have h1 : TuAt w0 w.heap.size t := by rw [hw0]; exact (tu_new w t).alloc _
  have h2 : Arr w0 32 (w.heap.size + 1) [.string oa, .string ob] := by rw [hw0]; exact Arr.new2 w _ _ _ _ rfl
  have hb0 : Below w.heap.size w w0 := by rw [hw0]; exact ((Below.refl _ _).alloc (Nat.le_refl _) _).alloc (by simp) _
  obtain ⟨a0, a1, a2, a3, a4, a5⟩ := TuAt.cells h1
  have e0 := h2.cell 0
  have e1 := h2.cell 1
  simp only [List.getElem?_cons_zero, List.getElem?_cons_succ] at e0 e1
  have HB0 := Lib.hid hb0
  have HO : Hid (ordO (objT t) (oa, ob) = orL [ord t.ot oa, ord t.oi ob]) := ordO_or _ _ _ _
  have HW := Lib.hid hw0
  have H0 := Lib.hid (Try.strings_Compare t.ot oa)
  have H1 := Lib.hid (Try.strings_Compare t.oi ob)
  clear h1 h2 hw0 hb0
  go_enter Try.func35, Try.ntmps35
  go_wp2_with fail
  rw [show (w.alloc (.cells (tc t).toArray 34)).alloc (.cells #[.string oa, .string ob] 32) = w0 from HW.out.symm]
  refine wp_region_still_tail 12 (by kernel_rfl) (by kernel_rfl) ?_
  simp only [List.take_succ_cons, List.take_zero, List.drop_succ_cons, List.drop_zero]
  repeat first | still_step | still_call (H0.out _) | still_call (H1.out _)
  refine wpStill_nil ?_
  change wpList _ _ _ _ _ w0.drew
  have HB1 := Lib.hid (HB0.out.trans ((Below.refl w0.heap.size w0).drew.mono HB0.out.size))
  generalize w0.drew = w2 at HB1 ⊢
  rw [show Lib.compareBytes t.ot.data.toList oa.data.toList = ord t.ot oa from rfl]
  rw [show Lib.compareBytes t.oi.data.toList ob.data.toList = ord t.oi ob from rfl]
  obtain ⟨x0, hx0⟩ : ∃ x, ord t.ot oa = x := ⟨_, rfl⟩
  obtain ⟨x1, hx1⟩ : ∃ x, ord t.oi ob = x := ⟨_, rfl⟩
  rw [hx0, hx1] at HO ⊢
  clear hx0 hx1 H0 H1 a0 a1 a2 a3 a4 a5 e0 e1 HW HB0
  have hb3 : Below w2.heap.size w2 (w2.alloc (.cells #[.int .i64 x0, .int .i64 x1] 3)) := (Below.refl _ _).alloc (Nat.le_refl _) _
  have HB3 := Lib.hid (HB1.out.trans (hb3.mono HB1.out.size))
  have HOR : Hid (Calls Try.prog 41 #[.slice (some ⟨w2.heap.size, 0, none⟩) 2 2] (w2.alloc (.cells #[.int .i64 x0, .int .i64 x1] 3)) fun r w' => r = .returned (.int .i64 (orL [x0, x1])) ∧ w2.alloc (.cells #[.int .i64 x0, .int .i64 x1] 3) = w') := or_any [x0, x1] (by simp) w2.heap.size _ (Arr.new' _ _ _ _ rfl)
  clear hb3
  go_wp2_with fail
  refine HOR.out.mono ?_
  rintro e w3 ⟨rfl, rfl⟩
  rw [← HO.out]
  go_wp2_with fail
  go_ret
  exact ⟨rfl, HB3.out⟩
set_option maxRecDepth 100000 in
set_option maxHeartbeats 4000000 in
theorem bsT_any {w : World} {av : Value} {l : List Tu} (t : Tu) (h : TuSl w av l) (hr : Ris l) (hl : l.length ≤ 1000000) :
    Calls Try.prog 33 #[av, tuV t, .func (.func 32) #[] #[]] w fun e w' => ∃ p, Cut (fun k => ordT (l.getD k t0) t) l.length p ∧ e = .returned (.tuple #[.int .i64 p, .bool (decide (p < l.length) && decide (ordT (l.getD p t0) t = 0))]) ∧ Below w.heap.size w w' := by
  have HM := Lib.hid (ris_mono hr t)
  obtain ⟨p, c, rfl, hc, hs⟩ := h.src
  have HS := Lib.hid hs
  have HLN := Lib.hid hl
  have hb0 : Below w.heap.size w (w.alloc (.cells (tc t).toArray 34)) := (Below.refl _ _).alloc (Nat.le_refl _) _
  have HB0 := Lib.hid hb0
  have HT0 : Hid (Arr (w.alloc (.cells (tc t).toArray 34)) 34 w.heap.size (tc t)) := Arr.new' _ _ _ _ rfl
  clear h hr hc hs hb0
  go_enter Try.func33, Try.ntmps33
  go_wp2_with fail
  generalize w.alloc (.cells (tc t).toArray 34) = w0 at HB0 HT0 ⊢
  go_loopg [9, 10] l.length (fun g s9 s10 wr => ∃ i j : Nat, i ≤ j ∧ j ≤ l.length ∧ j - i ≤ g ∧ s9 = .int .i64 i ∧ s10 = .int .i64 j ∧ Below w.heap.size w wr ∧ Arr wr 34 w.heap.size (tc t) ∧ (∀ k, k < i → ordT (l.getD k t0) t < 0) ∧ ∀ k, j ≤ k → k < l.length → 0 ≤ ordT (l.getD k t0) t)
  case atStart => exact ⟨0, l.length, Nat.zero_le _, Nat.le_refl _, by omega, rfl, rfl, HB0.out, HT0.out, fun k hk => absurd hk (Nat.not_lt_zero _), fun k h1 h2 => absurd h2 (by omega)⟩
  case round =>
    obtain ⟨i, j, hij, hjn, hg, rfl, rfl, hB, hT, h1, h2⟩ := hrel
    have HB := Lib.hid hB
    have HT := Lib.hid hT
    have H1 := Lib.hid h1
    have H2 := Lib.hid h2
    clear hB hT h1 h2 HB0 HT0
    by_cases hlt : i < j
    · obtain ⟨m, hm⟩ : ∃ m, m = (i + j) / 2 := ⟨_, rfl⟩
      have HMI : Hid (((i : Int) + (j : Int)) / 2 = (m : Nat)) := by show _ = _; omega
      have hml : m < l.length := by omega
      have HM1 : Hid (i ≤ m ∧ m < j) := ⟨by omega, by omega⟩
      obtain ⟨b, off, rfl, hbl, ri⟩ := HS.out.row hml
      obtain ⟨x, hx⟩ : ∃ x, x = l[m] := ⟨_, rfl⟩
      have HX : Hid (l.getD m t0 = x) := by show _ = _; rw [getD_at hml, hx]
      rw [← hx] at ri
      have HBd := Lib.hid (HB.out.trans ((Below.refl wr.heap.size wr).drew.mono HB.out.size))
      have HTd : Hid (Arr wr.drew 34 w.heap.size (tc t)) := Arr.later HT.out (Below.refl wr.heap.size wr).drew
      have HRX : Hid ((wr.drew).rangeAt b (off + m * 6) (tc x)) := range_below ri hbl HBd.out
      have HTB : Hid ((wr.drew).rangeAt w.heap.size 0 (tc t)) := Arr.range HTd.out
      have HCM := Lib.hid (tcompare_below x t wr.drew)
      clear hx ri hbl hm
      go_upto_region 5 with (fail)
      rw [HMI.out]
      go_wp2_with fail
      refine region_tail 6 (by kernel_rfl) (by kernel_rfl) ?_
      simp only [List.take_succ_cons, List.take_zero, List.drop_succ_cons, List.drop_zero]
      repeat first
        | still_step
        | ((with_reducible refine stillG (x := .tmp 27) (o := ⟨some 28, _, _, _, _, _⟩) HRX.out ?_ ?_); exact ⟨rfl, rfl, by go_simp⟩)
        | ((with_reducible refine stillG (x := .tmp 4) (o := ⟨some 29, _, _, _, _, _⟩) HTB.out ?_ ?_); exact ⟨rfl, rfl, by go_simp⟩)
      refine wpStill_nil ?_
      clear HRX HTB
      generalize wr.drew = wd at HBd HTd HCM ⊢
      go_wp2_with fail
      refine HCM.out.mono ?_
      rintro e w2 ⟨rfl, b2⟩
      have HB2 := Lib.hid (HBd.out.trans (b2.mono HBd.out.size))
      have HT2 : Hid (Arr w2 34 w.heap.size (tc t)) := Arr.later HTd.out b2
      clear b2 HCM HBd HTd HB HT
      obtain ⟨q, hq⟩ : ∃ q, q = ordT x t := ⟨_, rfl⟩
      have HQ := Lib.hid hq
      rw [← hq]
      clear hq
      by_cases hneg : q < 0
      · have HN : Hid (ordT (l.getD m t0) t < 0) := by show _ < _; rw [HX.out, ← HQ.out]; exact hneg
        have HWR : Hid (wrap64 ((m : Int) + 1) = ((m + 1 : Nat) : Int)) := by show _ = _; unfold wrap64; have := HLN.out; omega
        go_wp2_with fail
        go_roundg (j - (m + 1))
        case measure => have := HM1.out; omega
        case rel => exact ⟨m + 1, j, HM1.out.2, hjn, Nat.le_refl _, by go_num, rfl, HB2.out, HT2.out, cut_low (n := l.length) (c := fun k => ordT (l.getD k t0) t) HM.out hjn HM1.out.1 HM1.out.2 H1.out HN.out, H2.out⟩
      · have HN : Hid (¬ ordT (l.getD m t0) t < 0) := by show ¬ _ < _; rw [HX.out, ← HQ.out]; exact hneg
        go_wp2_with fail
        go_roundg (m - i)
        case measure => have := HM1.out; omega
        case rel => exact ⟨i, m, HM1.out.1, Nat.le_of_lt hml, Nat.le_refl _, rfl, rfl, HB2.out, HT2.out, H1.out, fun k k1 k2 => by have := cut_high (h := m) (j := j) (n := l.length) (c := fun k => ordT (l.getD k t0) t) HM.out (by have := HN.out; omega) k k1 k2; omega⟩
    · obtain rfl : i = j := by omega
      have HCUT : Hid (Cut (fun k => ordT (l.getD k t0) t) l.length i) := ⟨hjn, H1.out, fun k k1 k2 => Int.not_lt.2 (H2.out k k1 k2)⟩
      clear H1 H2 HM
      by_cases hin : i < l.length
      · obtain ⟨b, off, rfl, hbl, ri⟩ := HS.out.row hin
        obtain ⟨x, hx⟩ : ∃ x, x = l[i] := ⟨_, rfl⟩
        have HX : Hid (l.getD i t0 = x) := by show _ = _; rw [getD_at hin, hx]
        rw [← hx] at ri
        have HRX : Hid (∀ W, Below w.heap.size w W → W.rangeAt b (off + i * 6) (tc x)) := fun W hB => range_below ri hbl hB
        have HIN := Lib.hid hin
        have hi2 : (i : Int) < l.length := by omega
        have hS0 : Below w.heap.size w wr ∧ Arr wr 34 w.heap.size (tc t) := ⟨HB.out, HT.out⟩
        clear hx ri hbl HB HT
        go_wp2_with fail
        refine wp_region_noPanic ?_
        refine wp_region_held_drew (S := fun W => Below w.heap.size w W ∧ Arr W 34 w.heap.size (tc t)) (by kernel_rfl) ⟨hS0.1.trans ((Below.refl wr.heap.size wr).drew.mono hS0.1.size), Arr.later hS0.2 (Below.refl wr.heap.size wr).drew⟩ (fun hHeld => ?_)
        try simp only [Act.put]
        generalize wr.drew = wd at hHeld ⊢
        clear hS0
        refine wpAnyH_take (i := 0) (oi := ⟨some 35, _, _, _, _, _⟩) (v := .int .i64 i) rfl (by kernel_rfl) (by kernel_rfl) (by kernel_rfl) (fun _ _ _ h => h) (.inl ⟨by rfl, fun w' hSw => ?_⟩) hHeld ?_
        focus (skip; clear hHeld; go_simp)
        try simp only [Act.put, List.setIfInBounds_toArray, List.set_cons_zero, List.set_cons_succ]
        refine wpAnyH_take (i := 1) (oi := ⟨some 36, _, _, _, _, _⟩) (v := .int .i64 i) rfl (by kernel_rfl) (by kernel_rfl) (by kernel_rfl) (fun _ _ _ h => h) (.inl ⟨by rfl, fun w' hSw => ?_⟩) hHeld ?_
        focus (skip; clear hHeld; go_simp)
        try simp only [Act.put, List.setIfInBounds_toArray, List.set_cons_zero, List.set_cons_succ]
        refine wpAnyH_take (i := 2) (oi := ⟨some 37, _, _, _, _, _⟩) (v := .int .i64 l.length) rfl (by kernel_rfl) (by kernel_rfl) (by kernel_rfl) (fun _ _ _ h => h) (.inl ⟨by rfl, fun w' hSw => ?_⟩) hHeld ?_
        focus (skip; clear hHeld; go_simp)
        try simp only [Act.put, List.setIfInBounds_toArray, List.set_cons_zero, List.set_cons_succ]
        refine wpAnyH_take (i := 3) (oi := ⟨some 38, _, _, _, _, _⟩) (v := .bool true) rfl (by kernel_rfl) (by kernel_rfl) (by kernel_rfl) (fun _ _ _ h => h) (.inl ⟨by rfl, fun w' hSw => ?_⟩) hHeld ?_
        focus (skip; clear hHeld; go_simp)
        try simp only [Act.put, List.setIfInBounds_toArray, List.set_cons_zero, List.set_cons_succ]
        refine wpAnyH_take (i := 4) (oi := ⟨some 39, _, _, _, _, _⟩) (v := .bool true) rfl (by kernel_rfl) (by kernel_rfl) (by kernel_rfl) (fun _ _ _ h => h) (.inl ⟨by rfl, fun w' hSw => ?_⟩) hHeld ?_
        focus (skip; clear hHeld; go_simp)
        try simp only [Act.put, List.setIfInBounds_toArray, List.set_cons_zero, List.set_cons_succ]
        refine wpAnyH_take (i := 5) (oi := ⟨some 40, _, _, _, _, _⟩) (v := .func (.func 32) #[] #[]) rfl (by kernel_rfl) (by kernel_rfl) (by kernel_rfl) (fun _ _ _ h => h) (.inl ⟨by rfl, fun w' hSw => ?_⟩) hHeld ?_
        focus (skip; clear hHeld; go_simp)
        try simp only [Act.put, List.setIfInBounds_toArray, List.set_cons_zero, List.set_cons_succ]
        refine wpAnyH_take (i := 6) (oi := ⟨some 41, _, _, _, _, _⟩) (v := .slice (some ⟨b, off, none⟩) l.length c) rfl (by kernel_rfl) (by kernel_rfl) (by kernel_rfl) (fun _ _ _ h => h) (.inl ⟨by rfl, fun w' hSw => ?_⟩) hHeld ?_
        focus (skip; clear hHeld; go_simp)
        try simp only [Act.put, List.setIfInBounds_toArray, List.set_cons_zero, List.set_cons_succ]
        refine wpAnyH_take (i := 7) (oi := ⟨some 42, _, _, _, _, _⟩) (v := .int .i64 i) rfl (by kernel_rfl) (by kernel_rfl) (by kernel_rfl) (fun _ _ _ h => h) (.inl ⟨by rfl, fun w' hSw => ?_⟩) hHeld ?_
        focus (skip; clear hHeld; go_simp)
        try simp only [Act.put, List.setIfInBounds_toArray, List.set_cons_zero, List.set_cons_succ]
        refine wpAnyH_take (i := 8) (oi := ⟨some 43, _, _, _, _, _⟩) (v := .pointer (some ⟨b, off + i * 6, none⟩)) rfl (by kernel_rfl) (by kernel_rfl) (by kernel_rfl) (fun _ _ _ h => h) (.inl ⟨by rfl, fun w' hSw => ?_⟩) hHeld ?_
        focus (skip; clear hHeld; go_simp)
        try simp only [Act.put, List.setIfInBounds_toArray, List.set_cons_zero, List.set_cons_succ]
        refine takeT (i := 9) (o := ⟨some 44, _, _, _, _, _⟩) (u := x) rfl (by kernel_rfl) (by kernel_rfl) (by kernel_rfl) (fun _ _ _ h => h) (by rfl) ⟨rfl, rfl⟩ (fun _ h => HRX.out _ h.1) hHeld ?_
        try simp only [Act.put, List.setIfInBounds_toArray, List.set_cons_zero, List.set_cons_succ]
        refine takeT (i := 10) (o := ⟨some 45, _, _, _, _, _⟩) (u := t) rfl (by kernel_rfl) (by kernel_rfl) (by kernel_rfl) (fun _ _ _ h => h) (by rfl) ⟨rfl, rfl⟩ (fun _ h => Arr.range h.2) hHeld ?_
        try simp only [Act.put, List.setIfInBounds_toArray, List.set_cons_zero, List.set_cons_succ]
        refine wpAnyH_ready (rs := [11]) (by kernel_rfl) (by simp) ?_
        refine AllReadyH.cons (o := ⟨some 46, _, _, _, _, _⟩) rfl (fun K' hK' => ?_) AllReadyH.nil
        refine stepw_call (R := fun v w' => v = .int .i64 (ordT x t) ∧ Below w.heap.size w w' ∧ Arr w' 34 w.heap.size (tc t)) (by rfl) ?_ ((tcompare_below x t _).mono fun _ _ ⟨he, hb⟩ => ⟨_, he, rfl, hHeld.1.trans (hb.mono hHeld.1.size), Arr.later hHeld.2 hb⟩) ?_
        focus go_simp
        rintro v wa ⟨rfl, hkn⟩
        refine hK'.out _ _ hkn (fun _ => ?_)
        clear hK' K' hHeld
        have hHeld := hkn
        clear hkn
        try simp only [Act.put, List.setIfInBounds_toArray, List.set_cons_zero, List.set_cons_succ]
        obtain ⟨q, hq⟩ : ∃ q, q = ordT x t := ⟨_, rfl⟩
        have HQ := Lib.hid hq
        rw [← hq]
        clear hq
        refine wpAnyH_take (i := 12) (oi := ⟨some 47, _, _, _, _, _⟩) (v := .bool (q == 0)) rfl (by kernel_rfl) (by kernel_rfl) (by kernel_rfl) (fun _ _ _ h => h) (.inl ⟨by rfl, fun w' hSw => ?_⟩) hHeld ?_
        focus (skip; clear hHeld; go_simp)
        try simp only [Act.put, List.setIfInBounds_toArray, List.set_cons_zero, List.set_cons_succ]
        refine wpAnyH_take (i := 13) (oi := ⟨some 48, _, _, _, _, _⟩) (v := .bool (q == 0)) rfl (by kernel_rfl) (by kernel_rfl) (by kernel_rfl) (fun _ _ _ h => h) (.inl ⟨by rfl, fun w' hSw => ?_⟩) hHeld ?_
        focus (skip; clear hHeld; go_simp)
        try simp only [Act.put, List.setIfInBounds_toArray, List.set_cons_zero, List.set_cons_succ]
        refine wpAnyH_take (i := 14) (oi := ⟨some 6, _, _, _, _, _⟩) (v := .int .i64 i) rfl (by kernel_rfl) (by kernel_rfl) (by kernel_rfl) (fun _ _ _ h => h) (.inl ⟨by rfl, fun w' hSw => ?_⟩) hHeld ?_
        focus (skip; clear hHeld; go_simp)
        try simp only [Act.put, List.setIfInBounds_toArray, List.set_cons_zero, List.set_cons_succ]
        refine wpAnyH_take (i := 15) (oi := ⟨some 7, _, _, _, _, _⟩) (v := .bool (q == 0)) rfl (by kernel_rfl) (by kernel_rfl) (by kernel_rfl) (fun _ _ _ h => h) (.inl ⟨by rfl, fun w' hSw => ?_⟩) hHeld ?_
        focus (skip; clear hHeld; go_simp)
        try simp only [Act.put, List.setIfInBounds_toArray, List.set_cons_zero, List.set_cons_succ]
        refine wpAnyH_done (by kernel_rfl) ?_ _
        refine NoPanic.normal ?_
        go_wp2_with fail
        go_ret2
        refine ⟨i, HCUT.out, ?_, hHeld.1⟩
        rw [decide_eq_true HIN.out, Bool.true_and, HX.out, ← HQ.out]
        rfl
      · have hi2 : ¬ (i : Int) < l.length := by omega
        have HIN : Hid (¬ i < l.length) := hin
        have hS0 : Below w.heap.size w wr ∧ Arr wr 34 w.heap.size (tc t) := ⟨HB.out, HT.out⟩
        clear HB HT
        go_wp2_with fail
        refine wp_region_noPanic ?_
        refine wp_region_held_drew (S := fun W => Below w.heap.size w W ∧ Arr W 34 w.heap.size (tc t)) (by kernel_rfl) ⟨hS0.1.trans ((Below.refl wr.heap.size wr).drew.mono hS0.1.size), Arr.later hS0.2 (Below.refl wr.heap.size wr).drew⟩ (fun hHeld => ?_)
        try simp only [Act.put]
        generalize wr.drew = wd at hHeld ⊢
        clear hS0
        refine wpAnyH_take (i := 0) (oi := ⟨some 35, _, _, _, _, _⟩) (v := .int .i64 i) rfl (by kernel_rfl) (by kernel_rfl) (by kernel_rfl) (fun _ _ _ h => h) (.inl ⟨by rfl, fun w' hSw => ?_⟩) hHeld ?_
        focus (skip; clear hHeld; go_simp)
        try simp only [Act.put, List.setIfInBounds_toArray, List.set_cons_zero, List.set_cons_succ]
        refine wpAnyH_take (i := 1) (oi := ⟨some 36, _, _, _, _, _⟩) (v := .int .i64 i) rfl (by kernel_rfl) (by kernel_rfl) (by kernel_rfl) (fun _ _ _ h => h) (.inl ⟨by rfl, fun w' hSw => ?_⟩) hHeld ?_
        focus (skip; clear hHeld; go_simp)
        try simp only [Act.put, List.setIfInBounds_toArray, List.set_cons_zero, List.set_cons_succ]
        refine wpAnyH_take (i := 2) (oi := ⟨some 37, _, _, _, _, _⟩) (v := .int .i64 l.length) rfl (by kernel_rfl) (by kernel_rfl) (by kernel_rfl) (fun _ _ _ h => h) (.inl ⟨by rfl, fun w' hSw => ?_⟩) hHeld ?_
        focus (skip; clear hHeld; go_simp)
        try simp only [Act.put, List.setIfInBounds_toArray, List.set_cons_zero, List.set_cons_succ]
        refine wpAnyH_take (i := 3) (oi := ⟨some 38, _, _, _, _, _⟩) (v := .bool false) rfl (by kernel_rfl) (by kernel_rfl) (by kernel_rfl) (fun _ _ _ h => h) (.inl ⟨by rfl, fun w' hSw => ?_⟩) hHeld ?_
        focus (skip; clear hHeld; go_simp)
        try simp only [Act.put, List.setIfInBounds_toArray, List.set_cons_zero, List.set_cons_succ]
        refine wpAnyH_take (i := 4) (oi := ⟨some 39, _, _, _, _, _⟩) (v := .bool false) rfl (by kernel_rfl) (by kernel_rfl) (by kernel_rfl) (fun _ _ _ h => h) (.inl ⟨by rfl, fun w' hSw => ?_⟩) hHeld ?_
        focus (skip; clear hHeld; go_simp)
        try simp only [Act.put, List.setIfInBounds_toArray, List.set_cons_zero, List.set_cons_succ]
        refine wpAnyH_take (i := 5) (oi := ⟨some 40, _, _, _, _, _⟩) (v := undef) rfl (by kernel_rfl) (by kernel_rfl) (by kernel_rfl) (fun _ _ _ h => h) (.inr ⟨by rfl, rfl⟩) hHeld ?_
        try simp only [Act.put, List.setIfInBounds_toArray, List.set_cons_zero, List.set_cons_succ]
        refine wpAnyH_take (i := 6) (oi := ⟨some 41, _, _, _, _, _⟩) (v := undef) rfl (by kernel_rfl) (by kernel_rfl) (by kernel_rfl) (fun _ _ _ h => h) (.inr ⟨by rfl, rfl⟩) hHeld ?_
        try simp only [Act.put, List.setIfInBounds_toArray, List.set_cons_zero, List.set_cons_succ]
        refine wpAnyH_take (i := 7) (oi := ⟨some 42, _, _, _, _, _⟩) (v := undef) rfl (by kernel_rfl) (by kernel_rfl) (by kernel_rfl) (fun _ _ _ h => h) (.inr ⟨by rfl, rfl⟩) hHeld ?_
        try simp only [Act.put, List.setIfInBounds_toArray, List.set_cons_zero, List.set_cons_succ]
        refine wpAnyH_take (i := 8) (oi := ⟨some 43, _, _, _, _, _⟩) (v := undef) rfl (by kernel_rfl) (by kernel_rfl) (by kernel_rfl) (fun _ _ _ h => h) (.inr ⟨by rfl, rfl⟩) hHeld ?_
        try simp only [Act.put, List.setIfInBounds_toArray, List.set_cons_zero, List.set_cons_succ]
        refine wpAnyH_take (i := 9) (oi := ⟨some 44, _, _, _, _, _⟩) (v := undef) rfl (by kernel_rfl) (by kernel_rfl) (by kernel_rfl) (fun _ _ _ h => h) (.inr ⟨by rfl, rfl⟩) hHeld ?_
        try simp only [Act.put, List.setIfInBounds_toArray, List.set_cons_zero, List.set_cons_succ]
        refine wpAnyH_take (i := 10) (oi := ⟨some 45, _, _, _, _, _⟩) (v := undef) rfl (by kernel_rfl) (by kernel_rfl) (by kernel_rfl) (fun _ _ _ h => h) (.inr ⟨by rfl, rfl⟩) hHeld ?_
        try simp only [Act.put, List.setIfInBounds_toArray, List.set_cons_zero, List.set_cons_succ]
        refine wpAnyH_take (i := 11) (oi := ⟨some 46, _, _, _, _, _⟩) (v := undef) rfl (by kernel_rfl) (by kernel_rfl) (by kernel_rfl) (fun _ _ _ h => h) (.inr ⟨by rfl, rfl⟩) hHeld ?_
        try simp only [Act.put, List.setIfInBounds_toArray, List.set_cons_zero, List.set_cons_succ]
        refine wpAnyH_take (i := 12) (oi := ⟨some 47, _, _, _, _, _⟩) (v := undef) rfl (by kernel_rfl) (by kernel_rfl) (by kernel_rfl) (fun _ _ _ h => h) (.inr ⟨by rfl, rfl⟩) hHeld ?_
        try simp only [Act.put, List.setIfInBounds_toArray, List.set_cons_zero, List.set_cons_succ]
        refine wpAnyH_take (i := 13) (oi := ⟨some 48, _, _, _, _, _⟩) (v := .bool false) rfl (by kernel_rfl) (by kernel_rfl) (by kernel_rfl) (fun _ _ _ h => h) (.inl ⟨by rfl, fun w' hSw => ?_⟩) hHeld ?_
        focus (skip; clear hHeld; go_simp)
        try simp only [Act.put, List.setIfInBounds_toArray, List.set_cons_zero, List.set_cons_succ]
        refine wpAnyH_take (i := 14) (oi := ⟨some 6, _, _, _, _, _⟩) (v := .int .i64 i) rfl (by kernel_rfl) (by kernel_rfl) (by kernel_rfl) (fun _ _ _ h => h) (.inl ⟨by rfl, fun w' hSw => ?_⟩) hHeld ?_
        focus (skip; clear hHeld; go_simp)
        try simp only [Act.put, List.setIfInBounds_toArray, List.set_cons_zero, List.set_cons_succ]
        refine wpAnyH_take (i := 15) (oi := ⟨some 7, _, _, _, _, _⟩) (v := .bool false) rfl (by kernel_rfl) (by kernel_rfl) (by kernel_rfl) (fun _ _ _ h => h) (.inl ⟨by rfl, fun w' hSw => ?_⟩) hHeld ?_
        focus (skip; clear hHeld; go_simp)
        try simp only [Act.put, List.setIfInBounds_toArray, List.set_cons_zero, List.set_cons_succ]
        refine wpAnyH_done (by kernel_rfl) ?_ _
        refine NoPanic.normal ?_
        go_wp2_with fail
        go_ret2
        refine ⟨i, HCUT.out, ?_, hHeld.1⟩
        rw [decide_eq_false HIN.out]
        rfl
set_option maxRecDepth 100000 in
set_option maxHeartbeats 4000000 in
theorem bsO_any {w : World} {av : Value} {l : List Tu} (oa ob : ByteArray) (h : TuSl w av l) (hr : Ris l) (hl : l.length ≤ 1000000) :
    Calls Try.prog 34 #[av, .agg #[.string oa, .string ob], .func (.func 35) #[] #[]] w fun e w' => ∃ p, Cut (fun k => ordO (objT (l.getD k t0)) (oa, ob)) l.length p ∧ e = .returned (.tuple #[.int .i64 p, .bool (decide (p < l.length) && decide (ordO (objT (l.getD p t0)) (oa, ob) = 0))]) ∧ Below w.heap.size w w' := by
  have HM := Lib.hid (obj_mono hr (oa, ob))
  obtain ⟨p, c, rfl, hc, hs⟩ := h.src
  have HS := Lib.hid hs
  have HLN := Lib.hid hl
  have hb0 : Below w.heap.size w (w.alloc (.cells #[.string oa, .string ob] 32)) := (Below.refl _ _).alloc (Nat.le_refl _) _
  have HB0 := Lib.hid hb0
  have HT0 : Hid (Arr (w.alloc (.cells #[.string oa, .string ob] 32)) 32 w.heap.size [.string oa, .string ob]) := Arr.new' _ _ _ _ rfl
  clear h hr hc hs hb0
  go_enter Try.func34, Try.ntmps34
  go_wp2_with fail
  generalize w.alloc (.cells #[.string oa, .string ob] 32) = w0 at HB0 HT0 ⊢
  go_loopg [9, 10] l.length (fun g s9 s10 wr => ∃ i j : Nat, i ≤ j ∧ j ≤ l.length ∧ j - i ≤ g ∧ s9 = .int .i64 i ∧ s10 = .int .i64 j ∧ Below w.heap.size w wr ∧ Arr wr 32 w.heap.size [.string oa, .string ob] ∧ (∀ k, k < i → ordO (objT (l.getD k t0)) (oa, ob) < 0) ∧ ∀ k, j ≤ k → k < l.length → 0 ≤ ordO (objT (l.getD k t0)) (oa, ob))
  case atStart => exact ⟨0, l.length, Nat.zero_le _, Nat.le_refl _, by omega, rfl, rfl, HB0.out, HT0.out, fun k hk => absurd hk (Nat.not_lt_zero _), fun k h1 h2 => absurd h2 (by omega)⟩
  case round =>
    obtain ⟨i, j, hij, hjn, hg, rfl, rfl, hB, hT, h1, h2⟩ := hrel
    have HB := Lib.hid hB
    have HT := Lib.hid hT
    have H1 := Lib.hid h1
    have H2 := Lib.hid h2
    clear hB hT h1 h2 HB0 HT0
    by_cases hlt : i < j
    · obtain ⟨m, hm⟩ : ∃ m, m = (i + j) / 2 := ⟨_, rfl⟩
      have HMI : Hid (((i : Int) + (j : Int)) / 2 = (m : Nat)) := by show _ = _; omega
      have hml : m < l.length := by omega
      have HM1 : Hid (i ≤ m ∧ m < j) := ⟨by omega, by omega⟩
      obtain ⟨b, off, rfl, hbl, ri⟩ := HS.out.row hml
      obtain ⟨x, hx⟩ : ∃ x, x = l[m] := ⟨_, rfl⟩
      have HX : Hid (l.getD m t0 = x) := by show _ = _; rw [getD_at hml, hx]
      rw [← hx] at ri
      have HBd := Lib.hid (HB.out.trans ((Below.refl wr.heap.size wr).drew.mono HB.out.size))
      have HTd : Hid (Arr wr.drew 32 w.heap.size [.string oa, .string ob]) := Arr.later HT.out (Below.refl wr.heap.size wr).drew
      have HRX : Hid ((wr.drew).rangeAt b (off + m * 6) (tc x)) := range_below ri hbl HBd.out
      have HTB : Hid ((wr.drew).rangeAt w.heap.size 0 [.string oa, .string ob]) := Arr.range HTd.out
      have HCM := Lib.hid (cobj_any x oa ob wr.drew)
      clear hx ri hbl hm
      go_upto_region 5 with (fail)
      rw [HMI.out]
      go_wp2_with fail
      refine region_tail 6 (by kernel_rfl) (by kernel_rfl) ?_
      simp only [List.take_succ_cons, List.take_zero, List.drop_succ_cons, List.drop_zero]
      repeat first
        | still_step
        | ((with_reducible refine stillG (x := .tmp 27) (o := ⟨some 28, _, _, _, _, _⟩) HRX.out ?_ ?_); exact ⟨rfl, rfl, by go_simp⟩)
        | ((with_reducible refine stillO (x := .tmp 4) (o := ⟨some 29, _, _, _, _, _⟩) HTB.out ?_ ?_); exact ⟨rfl, rfl, by go_simp⟩)
      refine wpStill_nil ?_
      clear HRX HTB
      generalize wr.drew = wd at HBd HTd HCM ⊢
      go_wp2_with fail
      refine HCM.out.mono ?_
      rintro e w2 ⟨rfl, b2⟩
      have HB2 := Lib.hid (HBd.out.trans (b2.mono HBd.out.size))
      have HT2 : Hid (Arr w2 32 w.heap.size [.string oa, .string ob]) := Arr.later HTd.out b2
      clear b2 HCM HBd HTd HB HT
      obtain ⟨q, hq⟩ : ∃ q, q = ordO (objT x) (oa, ob) := ⟨_, rfl⟩
      have HQ := Lib.hid hq
      rw [← hq]
      clear hq
      by_cases hneg : q < 0
      · have HN : Hid (ordO (objT (l.getD m t0)) (oa, ob) < 0) := by show _ < _; rw [HX.out, ← HQ.out]; exact hneg
        have HWR : Hid (wrap64 ((m : Int) + 1) = ((m + 1 : Nat) : Int)) := by show _ = _; unfold wrap64; have := HLN.out; omega
        go_wp2_with fail
        go_roundg (j - (m + 1))
        case measure => have := HM1.out; omega
        case rel => exact ⟨m + 1, j, HM1.out.2, hjn, Nat.le_refl _, by go_num, rfl, HB2.out, HT2.out, cut_low (n := l.length) (c := fun k => ordO (objT (l.getD k t0)) (oa, ob)) HM.out hjn HM1.out.1 HM1.out.2 H1.out HN.out, H2.out⟩
      · have HN : Hid (¬ ordO (objT (l.getD m t0)) (oa, ob) < 0) := by show ¬ _ < _; rw [HX.out, ← HQ.out]; exact hneg
        go_wp2_with fail
        go_roundg (m - i)
        case measure => have := HM1.out; omega
        case rel => exact ⟨i, m, HM1.out.1, Nat.le_of_lt hml, Nat.le_refl _, rfl, rfl, HB2.out, HT2.out, H1.out, fun k k1 k2 => by have := cut_high (h := m) (j := j) (n := l.length) (c := fun k => ordO (objT (l.getD k t0)) (oa, ob)) HM.out (by have := HN.out; omega) k k1 k2; omega⟩
    · obtain rfl : i = j := by omega
      have HCUT : Hid (Cut (fun k => ordO (objT (l.getD k t0)) (oa, ob)) l.length i) := ⟨hjn, H1.out, fun k k1 k2 => Int.not_lt.2 (H2.out k k1 k2)⟩
      clear H1 H2 HM
      by_cases hin : i < l.length
      · obtain ⟨b, off, rfl, hbl, ri⟩ := HS.out.row hin
        obtain ⟨x, hx⟩ : ∃ x, x = l[i] := ⟨_, rfl⟩
        have HX : Hid (l.getD i t0 = x) := by show _ = _; rw [getD_at hin, hx]
        rw [← hx] at ri
        have HRX : Hid (∀ W, Below w.heap.size w W → W.rangeAt b (off + i * 6) (tc x)) := fun W hB => range_below ri hbl hB
        have HIN := Lib.hid hin
        have hi2 : (i : Int) < l.length := by omega
        have hS0 : Below w.heap.size w wr ∧ Arr wr 32 w.heap.size [.string oa, .string ob] := ⟨HB.out, HT.out⟩
        clear hx ri hbl HB HT
        go_wp2_with fail
        refine wp_region_noPanic ?_
        refine wp_region_held_drew (S := fun W => Below w.heap.size w W ∧ Arr W 32 w.heap.size [.string oa, .string ob]) (by kernel_rfl) ⟨hS0.1.trans ((Below.refl wr.heap.size wr).drew.mono hS0.1.size), Arr.later hS0.2 (Below.refl wr.heap.size wr).drew⟩ (fun hHeld => ?_)
        try simp only [Act.put]
        generalize wr.drew = wd at hHeld ⊢
        clear hS0
        refine wpAnyH_take (i := 0) (oi := ⟨some 35, _, _, _, _, _⟩) (v := .int .i64 i) rfl (by kernel_rfl) (by kernel_rfl) (by kernel_rfl) (fun _ _ _ h => h) (.inl ⟨by rfl, fun w' hSw => ?_⟩) hHeld ?_
        focus (skip; clear hHeld; go_simp)
        try simp only [Act.put, List.setIfInBounds_toArray, List.set_cons_zero, List.set_cons_succ]
        refine wpAnyH_take (i := 1) (oi := ⟨some 36, _, _, _, _, _⟩) (v := .int .i64 i) rfl (by kernel_rfl) (by kernel_rfl) (by kernel_rfl) (fun _ _ _ h => h) (.inl ⟨by rfl, fun w' hSw => ?_⟩) hHeld ?_
        focus (skip; clear hHeld; go_simp)
        try simp only [Act.put, List.setIfInBounds_toArray, List.set_cons_zero, List.set_cons_succ]
        refine wpAnyH_take (i := 2) (oi := ⟨some 37, _, _, _, _, _⟩) (v := .int .i64 l.length) rfl (by kernel_rfl) (by kernel_rfl) (by kernel_rfl) (fun _ _ _ h => h) (.inl ⟨by rfl, fun w' hSw => ?_⟩) hHeld ?_
        focus (skip; clear hHeld; go_simp)
        try simp only [Act.put, List.setIfInBounds_toArray, List.set_cons_zero, List.set_cons_succ]
        refine wpAnyH_take (i := 3) (oi := ⟨some 38, _, _, _, _, _⟩) (v := .bool true) rfl (by kernel_rfl) (by kernel_rfl) (by kernel_rfl) (fun _ _ _ h => h) (.inl ⟨by rfl, fun w' hSw => ?_⟩) hHeld ?_
        focus (skip; clear hHeld; go_simp)
        try simp only [Act.put, List.setIfInBounds_toArray, List.set_cons_zero, List.set_cons_succ]
        refine wpAnyH_take (i := 4) (oi := ⟨some 39, _, _, _, _, _⟩) (v := .bool true) rfl (by kernel_rfl) (by kernel_rfl) (by kernel_rfl) (fun _ _ _ h => h) (.inl ⟨by rfl, fun w' hSw => ?_⟩) hHeld ?_
        focus (skip; clear hHeld; go_simp)
        try simp only [Act.put, List.setIfInBounds_toArray, List.set_cons_zero, List.set_cons_succ]
        refine wpAnyH_take (i := 5) (oi := ⟨some 40, _, _, _, _, _⟩) (v := .func (.func 35) #[] #[]) rfl (by kernel_rfl) (by kernel_rfl) (by kernel_rfl) (fun _ _ _ h => h) (.inl ⟨by rfl, fun w' hSw => ?_⟩) hHeld ?_
        focus (skip; clear hHeld; go_simp)
        try simp only [Act.put, List.setIfInBounds_toArray, List.set_cons_zero, List.set_cons_succ]
        refine wpAnyH_take (i := 6) (oi := ⟨some 41, _, _, _, _, _⟩) (v := .slice (some ⟨b, off, none⟩) l.length c) rfl (by kernel_rfl) (by kernel_rfl) (by kernel_rfl) (fun _ _ _ h => h) (.inl ⟨by rfl, fun w' hSw => ?_⟩) hHeld ?_
        focus (skip; clear hHeld; go_simp)
        try simp only [Act.put, List.setIfInBounds_toArray, List.set_cons_zero, List.set_cons_succ]
        refine wpAnyH_take (i := 7) (oi := ⟨some 42, _, _, _, _, _⟩) (v := .int .i64 i) rfl (by kernel_rfl) (by kernel_rfl) (by kernel_rfl) (fun _ _ _ h => h) (.inl ⟨by rfl, fun w' hSw => ?_⟩) hHeld ?_
        focus (skip; clear hHeld; go_simp)
        try simp only [Act.put, List.setIfInBounds_toArray, List.set_cons_zero, List.set_cons_succ]
        refine wpAnyH_take (i := 8) (oi := ⟨some 43, _, _, _, _, _⟩) (v := .pointer (some ⟨b, off + i * 6, none⟩)) rfl (by kernel_rfl) (by kernel_rfl) (by kernel_rfl) (fun _ _ _ h => h) (.inl ⟨by rfl, fun w' hSw => ?_⟩) hHeld ?_
        focus (skip; clear hHeld; go_simp)
        try simp only [Act.put, List.setIfInBounds_toArray, List.set_cons_zero, List.set_cons_succ]
        refine takeT (i := 9) (o := ⟨some 44, _, _, _, _, _⟩) (u := x) rfl (by kernel_rfl) (by kernel_rfl) (by kernel_rfl) (fun _ _ _ h => h) (by rfl) ⟨rfl, rfl⟩ (fun _ h => HRX.out _ h.1) hHeld ?_
        try simp only [Act.put, List.setIfInBounds_toArray, List.set_cons_zero, List.set_cons_succ]
        refine takeO (i := 10) (o := ⟨some 45, _, _, _, _, _⟩) (u := oa) (v := ob) rfl (by kernel_rfl) (by kernel_rfl) (by kernel_rfl) (fun _ _ _ h => h) (by rfl) ⟨rfl, rfl⟩ (fun _ h => Arr.range h.2) hHeld ?_
        try simp only [Act.put, List.setIfInBounds_toArray, List.set_cons_zero, List.set_cons_succ]
        refine wpAnyH_ready (rs := [11]) (by kernel_rfl) (by simp) ?_
        refine AllReadyH.cons (o := ⟨some 46, _, _, _, _, _⟩) rfl (fun K' hK' => ?_) AllReadyH.nil
        refine stepw_call (R := fun v w' => v = .int .i64 (ordO (objT x) (oa, ob)) ∧ Below w.heap.size w w' ∧ Arr w' 32 w.heap.size [.string oa, .string ob]) (by rfl) ?_ ((cobj_any x oa ob _).mono fun _ _ ⟨he, hb⟩ => ⟨_, he, rfl, hHeld.1.trans (hb.mono hHeld.1.size), Arr.later hHeld.2 hb⟩) ?_
        focus go_simp
        rintro v wa ⟨rfl, hkn⟩
        refine hK'.out _ _ hkn (fun _ => ?_)
        clear hK' K' hHeld
        have hHeld := hkn
        clear hkn
        try simp only [Act.put, List.setIfInBounds_toArray, List.set_cons_zero, List.set_cons_succ]
        obtain ⟨q, hq⟩ : ∃ q, q = ordO (objT x) (oa, ob) := ⟨_, rfl⟩
        have HQ := Lib.hid hq
        rw [← hq]
        clear hq
        refine wpAnyH_take (i := 12) (oi := ⟨some 47, _, _, _, _, _⟩) (v := .bool (q == 0)) rfl (by kernel_rfl) (by kernel_rfl) (by kernel_rfl) (fun _ _ _ h => h) (.inl ⟨by rfl, fun w' hSw => ?_⟩) hHeld ?_
        focus (skip; clear hHeld; go_simp)
        try simp only [Act.put, List.setIfInBounds_toArray, List.set_cons_zero, List.set_cons_succ]
        refine wpAnyH_take (i := 13) (oi := ⟨some 48, _, _, _, _, _⟩) (v := .bool (q == 0)) rfl (by kernel_rfl) (by kernel_rfl) (by kernel_rfl) (fun _ _ _ h => h) (.inl ⟨by rfl, fun w' hSw => ?_⟩) hHeld ?_
        focus (skip; clear hHeld; go_simp)
        try simp only [Act.put, List.setIfInBounds_toArray, List.set_cons_zero, List.set_cons_succ]
        refine wpAnyH_take (i := 14) (oi := ⟨some 6, _, _, _, _, _⟩) (v := .int .i64 i) rfl (by kernel_rfl) (by kernel_rfl) (by kernel_rfl) (fun _ _ _ h => h) (.inl ⟨by rfl, fun w' hSw => ?_⟩) hHeld ?_
        focus (skip; clear hHeld; go_simp)
        try simp only [Act.put, List.setIfInBounds_toArray, List.set_cons_zero, List.set_cons_succ]
        refine wpAnyH_take (i := 15) (oi := ⟨some 7, _, _, _, _, _⟩) (v := .bool (q == 0)) rfl (by kernel_rfl) (by kernel_rfl) (by kernel_rfl) (fun _ _ _ h => h) (.inl ⟨by rfl, fun w' hSw => ?_⟩) hHeld ?_
        focus (skip; clear hHeld; go_simp)
        try simp only [Act.put, List.setIfInBounds_toArray, List.set_cons_zero, List.set_cons_succ]
        refine wpAnyH_done (by kernel_rfl) ?_ _
        refine NoPanic.normal ?_
        go_wp2_with fail
        go_ret2
        refine ⟨i, HCUT.out, ?_, hHeld.1⟩
        rw [decide_eq_true HIN.out, Bool.true_and, HX.out, ← HQ.out]
        rfl
      · have hi2 : ¬ (i : Int) < l.length := by omega
        have HIN : Hid (¬ i < l.length) := hin
        have hS0 : Below w.heap.size w wr ∧ Arr wr 32 w.heap.size [.string oa, .string ob] := ⟨HB.out, HT.out⟩
        clear HB HT
        go_wp2_with fail
        refine wp_region_noPanic ?_
        refine wp_region_held_drew (S := fun W => Below w.heap.size w W ∧ Arr W 32 w.heap.size [.string oa, .string ob]) (by kernel_rfl) ⟨hS0.1.trans ((Below.refl wr.heap.size wr).drew.mono hS0.1.size), Arr.later hS0.2 (Below.refl wr.heap.size wr).drew⟩ (fun hHeld => ?_)
        try simp only [Act.put]
        generalize wr.drew = wd at hHeld ⊢
        clear hS0
        refine wpAnyH_take (i := 0) (oi := ⟨some 35, _, _, _, _, _⟩) (v := .int .i64 i) rfl (by kernel_rfl) (by kernel_rfl) (by kernel_rfl) (fun _ _ _ h => h) (.inl ⟨by rfl, fun w' hSw => ?_⟩) hHeld ?_
        focus (skip; clear hHeld; go_simp)
        try simp only [Act.put, List.setIfInBounds_toArray, List.set_cons_zero, List.set_cons_succ]
        refine wpAnyH_take (i := 1) (oi := ⟨some 36, _, _, _, _, _⟩) (v := .int .i64 i) rfl (by kernel_rfl) (by kernel_rfl) (by kernel_rfl) (fun _ _ _ h => h) (.inl ⟨by rfl, fun w' hSw => ?_⟩) hHeld ?_
        focus (skip; clear hHeld; go_simp)
        try simp only [Act.put, List.setIfInBounds_toArray, List.set_cons_zero, List.set_cons_succ]
        refine wpAnyH_take (i := 2) (oi := ⟨some 37, _, _, _, _, _⟩) (v := .int .i64 l.length) rfl (by kernel_rfl) (by kernel_rfl) (by kernel_rfl) (fun _ _ _ h => h) (.inl ⟨by rfl, fun w' hSw => ?_⟩) hHeld ?_
        focus (skip; clear hHeld; go_simp)
        try simp only [Act.put, List.setIfInBounds_toArray, List.set_cons_zero, List.set_cons_succ]
        refine wpAnyH_take (i := 3) (oi := ⟨some 38, _, _, _, _, _⟩) (v := .bool false) rfl (by kernel_rfl) (by kernel_rfl) (by kernel_rfl) (fun _ _ _ h => h) (.inl ⟨by rfl, fun w' hSw => ?_⟩) hHeld ?_
        focus (skip; clear hHeld; go_simp)
        try simp only [Act.put, List.setIfInBounds_toArray, List.set_cons_zero, List.set_cons_succ]
        refine wpAnyH_take (i := 4) (oi := ⟨some 39, _, _, _, _, _⟩) (v := .bool false) rfl (by kernel_rfl) (by kernel_rfl) (by kernel_rfl) (fun _ _ _ h => h) (.inl ⟨by rfl, fun w' hSw => ?_⟩) hHeld ?_
        focus (skip; clear hHeld; go_simp)
        try simp only [Act.put, List.setIfInBounds_toArray, List.set_cons_zero, List.set_cons_succ]
        refine wpAnyH_take (i := 5) (oi := ⟨some 40, _, _, _, _, _⟩) (v := undef) rfl (by kernel_rfl) (by kernel_rfl) (by kernel_rfl) (fun _ _ _ h => h) (.inr ⟨by rfl, rfl⟩) hHeld ?_
        try simp only [Act.put, List.setIfInBounds_toArray, List.set_cons_zero, List.set_cons_succ]
        refine wpAnyH_take (i := 6) (oi := ⟨some 41, _, _, _, _, _⟩) (v := undef) rfl (by kernel_rfl) (by kernel_rfl) (by kernel_rfl) (fun _ _ _ h => h) (.inr ⟨by rfl, rfl⟩) hHeld ?_
        try simp only [Act.put, List.setIfInBounds_toArray, List.set_cons_zero, List.set_cons_succ]
        refine wpAnyH_take (i := 7) (oi := ⟨some 42, _, _, _, _, _⟩) (v := undef) rfl (by kernel_rfl) (by kernel_rfl) (by kernel_rfl) (fun _ _ _ h => h) (.inr ⟨by rfl, rfl⟩) hHeld ?_
        try simp only [Act.put, List.setIfInBounds_toArray, List.set_cons_zero, List.set_cons_succ]
        refine wpAnyH_take (i := 8) (oi := ⟨some 43, _, _, _, _, _⟩) (v := undef) rfl (by kernel_rfl) (by kernel_rfl) (by kernel_rfl) (fun _ _ _ h => h) (.inr ⟨by rfl, rfl⟩) hHeld ?_
        try simp only [Act.put, List.setIfInBounds_toArray, List.set_cons_zero, List.set_cons_succ]
        refine wpAnyH_take (i := 9) (oi := ⟨some 44, _, _, _, _, _⟩) (v := undef) rfl (by kernel_rfl) (by kernel_rfl) (by kernel_rfl) (fun _ _ _ h => h) (.inr ⟨by rfl, rfl⟩) hHeld ?_
        try simp only [Act.put, List.setIfInBounds_toArray, List.set_cons_zero, List.set_cons_succ]
        refine wpAnyH_take (i := 10) (oi := ⟨some 45, _, _, _, _, _⟩) (v := undef) rfl (by kernel_rfl) (by kernel_rfl) (by kernel_rfl) (fun _ _ _ h => h) (.inr ⟨by rfl, rfl⟩) hHeld ?_
        try simp only [Act.put, List.setIfInBounds_toArray, List.set_cons_zero, List.set_cons_succ]
        refine wpAnyH_take (i := 11) (oi := ⟨some 46, _, _, _, _, _⟩) (v := undef) rfl (by kernel_rfl) (by kernel_rfl) (by kernel_rfl) (fun _ _ _ h => h) (.inr ⟨by rfl, rfl⟩) hHeld ?_
        try simp only [Act.put, List.setIfInBounds_toArray, List.set_cons_zero, List.set_cons_succ]
        refine wpAnyH_take (i := 12) (oi := ⟨some 47, _, _, _, _, _⟩) (v := undef) rfl (by kernel_rfl) (by kernel_rfl) (by kernel_rfl) (fun _ _ _ h => h) (.inr ⟨by rfl, rfl⟩) hHeld ?_
        try simp only [Act.put, List.setIfInBounds_toArray, List.set_cons_zero, List.set_cons_succ]
        refine wpAnyH_take (i := 13) (oi := ⟨some 48, _, _, _, _, _⟩) (v := .bool false) rfl (by kernel_rfl) (by kernel_rfl) (by kernel_rfl) (fun _ _ _ h => h) (.inl ⟨by rfl, fun w' hSw => ?_⟩) hHeld ?_
        focus (skip; clear hHeld; go_simp)
        try simp only [Act.put, List.setIfInBounds_toArray, List.set_cons_zero, List.set_cons_succ]
        refine wpAnyH_take (i := 14) (oi := ⟨some 6, _, _, _, _, _⟩) (v := .int .i64 i) rfl (by kernel_rfl) (by kernel_rfl) (by kernel_rfl) (fun _ _ _ h => h) (.inl ⟨by rfl, fun w' hSw => ?_⟩) hHeld ?_
        focus (skip; clear hHeld; go_simp)
        try simp only [Act.put, List.setIfInBounds_toArray, List.set_cons_zero, List.set_cons_succ]
        refine wpAnyH_take (i := 15) (oi := ⟨some 7, _, _, _, _, _⟩) (v := .bool false) rfl (by kernel_rfl) (by kernel_rfl) (by kernel_rfl) (fun _ _ _ h => h) (.inl ⟨by rfl, fun w' hSw => ?_⟩) hHeld ?_
        focus (skip; clear hHeld; go_simp)
        try simp only [Act.put, List.setIfInBounds_toArray, List.set_cons_zero, List.set_cons_succ]
        refine wpAnyH_done (by kernel_rfl) ?_ _
        refine NoPanic.normal ?_
        go_wp2_with fail
        go_ret2
        refine ⟨i, HCUT.out, ?_, hHeld.1⟩
        rw [decide_eq_false HIN.out]
        rfl
set_option maxRecDepth 100000 in
set_option maxHeartbeats 2000000 in
theorem mhas_any {w : World} {av : Value} {l : List Tu} (t : Tu) (h : TuSl w av l) (hr : Ris l) (hl : l.length ≤ 1000000) :
    Calls Try.prog 18 #[av, tuV t] w fun e w' => e = .returned (.bool (hasT l t)) ∧ Below w.heap.size w w' := by
  have hb0 : Below w.heap.size w (w.alloc (.cells (tc t).toArray 34)) := (Below.refl _ _).alloc (Nat.le_refl _) _
  have HA : Hid ((w.alloc (.cells (tc t).toArray 34)).rangeAt w.heap.size 0 (tc t)) := Arr.range (tu_new w t)
  have HB0 := Lib.hid hb0
  have HC := Lib.hid (bsT_any t (h.below hb0) hr hl)
  have HR := Lib.hid hr
  clear h hb0
  go_enter Try.func18, Try.ntmps18
  go_upto_region 1 with (fail)
  generalize w.alloc (.cells (tc t).toArray 34) = w0 at HA HB0 HC ⊢
  go_wp2_with ((with_reducible refine loadM (x := .tmp 3) (o := ⟨some 9, _, _, _, _, _⟩) HA.out ?_ ?_); exact ⟨rfl, rfl, by go_simp⟩)
  refine HC.out.mono ?_
  rintro e w1 ⟨p, hp, rfl, b1⟩
  rw [cut_has HR.out hp]
  have HB1 := Lib.hid (HB0.out.trans (b1.mono HB0.out.size))
  clear b1 hp HC
  go_wp2_with fail
  go_ret
  exact ⟨rfl, HB1.out⟩
end Go.Proofs.Ytebbbiikphfjcaa
