/-
  The reference's Has, Minus, Sorted, Range.
-/
import Derived.Test.YtebbbiikphfjcaaMgC
namespace Go.Proofs.Ytebbbiikphfjcaa
open Go.ChangeShapes Go.WideShapes Go.ChangeAt Go.RowKit
set_option linter.unusedVariables false

theorem TuRd.below {w w' : World} {v : Value} {l : List Tu} (h : TuRd w v l) (hb : Below w.heap.size w w') : TuRd w' v l := RdS.below h hb
/-- Has a tuple the object? -/
def eqO (t : Tu) (a b : ByteArray) : Bool := decide (t.ot = a) && decide (t.oi = b)
theorem eqO_ord (t : Tu) (a b : ByteArray) : decide (ordO (objT t) (a, b) = 0) = eqO t a b := by
  unfold eqO
  rw [Bool.eq_iff_iff, Bool.and_eq_true, decide_eq_true_eq, decide_eq_true_eq, decide_eq_true_eq]
  constructor
  · intro h
    have := ordO_eq h
    exact ⟨congrArg Prod.fst this, congrArg Prod.snd this⟩
  · rintro ⟨rfl, rfl⟩
    exact ordO_self _
theorem rangeT_snoc (l : List Tu) (t : Tu) (a b : ByteArray) : rangeT (l ++ [t]) (a, b) = rangeT l (a, b) ++ (if eqO t a b = true then [t] else []) := by
  unfold rangeT
  rw [List.filter_append, List.filter_cons, List.filter_nil, eqO_ord]
theorem range_obj {w : World} {b off : Nat} {x : Tu} (h : w.rangeAt b off (tc x)) : w.rangeAt b off [.string x.ot, .string x.oi] := fun j v hv => h j v (by
  match j, hv with
  | 0, hv => exact hv
  | 1, hv => exact hv)
theorem eqWO {ops : Array Oper} {rest : List Oper} {o : Oper} {a : Act} {Q : Exit → Act → World → Prop} {w : World} {x y : Operand} {u : Tu} {p q : ByteArray} {r : Bool} {t : TypeId} (he : eqO u p q = r) (hs : Region.wanted o (yielded ops a.tmps) = true ∧ o.op = .binOp .eql 32 x y t ∧ a.eval x = .agg #[.string u.ot, .string u.oi] ∧ a.eval y = .agg #[.string p, .string q])
    (hk : wpList Try.prog ops Q rest (a.put o.dst (.bool r)) w) : wpList Try.prog ops Q (o :: rest) a w :=
  wpList_step fun K hK => by
    have hg : Try.prog.eqGuardType Try.prog.depth 32 = false := by kernel_rfl
    subst he
    rw [if_pos hs.1]
    unfold Oper.wp execOp
    simp only [hs.2.1, hs.2.2.1, hs.2.2.2, Sem.run_bind, run_eqGuard_agg (hm := hg), Result.andThen_ok, run_eql_struct, equalO 9998, Sem.run_pure]
    exact hK _ _ hk
set_option maxRecDepth 100000 in
set_option maxHeartbeats 4000000 in
theorem rhas_any {w : World} {av : Value} {l : List Tu} (t : Tu) (h : TuRd w av l) (hl : l.length ≤ 1000000) :
    Calls Try.prog 19 #[av, tuV t] w fun e w' => e = .returned (.bool (hasT l t)) ∧ Below w.heap.size w w' := by
  have HLN := Lib.hid hl
  have hb0 : Below w.heap.size w (w.alloc (.cells (tc t).toArray 34)) := (Below.refl _ _).alloc (Nat.le_refl _) _
  have HB0 := Lib.hid hb0
  have HT0 : Hid (TuAt (w.alloc (.cells (tc t).toArray 34)) w.heap.size t) := tu_new w t
  obtain ⟨p, c, rfl, hrow⟩ := h.form tc_length (by decide)
  have HW := Lib.hid hrow
  clear h hrow hb0
  go_enter Try.func19, Try.ntmps19
  go_upto_region 1 with (fail)
  generalize w.alloc (.cells (tc t).toArray 34) = w0 at HB0 HT0 ⊢
  go_wp2_with fail
  go_loopg [5] (l.length + 1) (fun g s5 wr => ∃ k : Nat, k ≤ l.length ∧ l.length + 1 - k ≤ g ∧ s5 = .int .i64 k ∧ Below w.heap.size w wr ∧ TuAt wr w.heap.size t ∧ hasT (l.take k) t = false)
  case atStart => exact ⟨0, Nat.zero_le _, by omega, rfl, HB0.out, HT0.out, by rw [List.take_zero]; rfl⟩
  case round =>
    obtain ⟨k, hk, hg, rfl, hb, ht, hn⟩ := hrel
    have HB := Lib.hid hb
    have HT := Lib.hid ht
    have HN := Lib.hid hn
    clear hb ht hn HB0 HT0
    by_cases hlt : k < l.length
    · obtain ⟨b, off, rfl, hbl, ri⟩ := HW.out k hlt
      obtain ⟨x, hx⟩ : ∃ x, x = l[k] := ⟨_, rfl⟩
      have HX : Hid (l[k] = x) := hx.symm
      rw [← hx] at ri
      have HBd := Lib.hid (HB.out.trans ((Below.refl wr.heap.size wr).drew.mono HB.out.size))
      have HTd : Hid (TuAt wr.drew w.heap.size t) := Arr.later HT.out (Below.refl wr.heap.size wr).drew
      have HRX : Hid ((wr.drew).rangeAt b (off + k * 6) (tc x)) := range_below ri hbl HBd.out
      have HRT : Hid ((wr.drew).rangeAt w.heap.size 0 (tc t)) := Arr.range HTd.out
      clear hx ri hbl HB HT
      go_wp2_with fail
      refine region_tail 5 (by kernel_rfl) (by kernel_rfl) ?_
      simp only [List.take_succ_cons, List.take_zero, List.drop_succ_cons, List.drop_zero]
      repeat first
        | still_step
        | ((with_reducible refine stillG (x := .tmp 14) (o := ⟨some 15, _, _, _, _, _⟩) HRX.out ?_ ?_); exact ⟨rfl, rfl, by go_simp⟩)
        | ((with_reducible refine stillG (x := .tmp 3) (o := ⟨some 16, _, _, _, _, _⟩) HRT.out ?_ ?_); exact ⟨rfl, rfl, by go_simp⟩)
      refine wpStill_nil ?_
      clear HRX HRT
      generalize wr.drew = wd at HBd HTd ⊢
      rcases he : eqT x t with _ | _
      · have HEQ := Lib.hid he
        have HN2 : Hid (hasT (l.take (k + 1)) t = false) := by
          show _ = _
          rw [take_snoc1 hlt, HX.out, Bool.eq_false_iff, Ne, hasT_iff, List.mem_append, List.mem_singleton, not_or]
          refine ⟨fun h => ?_, fun h => ?_⟩
          · have := (hasT_iff _ _).2 h; rw [HN.out] at this; cases this
          · rw [h, eqT_refl] at he; cases he
        clear he
        go_wp2_with ((with_reducible refine eqW HEQ.out (t := 34) (x := .tmp 15) (y := .tmp 16) (o := ⟨some 17, _, _, _, _, _⟩) ?_ ?_); exact ⟨rfl, rfl, rfl, rfl⟩)
        go_roundg (l.length + 1 - (k + 1))
        case measure => omega
        case rel => exact ⟨k + 1, by omega, Nat.le_refl _, by go_num, HBd.out, HTd.out, HN2.out⟩
      · have HEQ := Lib.hid he
        have HF : Hid (hasT l t = true) := by
          show _ = _
          rw [hasT_iff, ← (eqT_iff x t).1 he, ← HX.out]; exact List.getElem_mem hlt
        clear he
        go_wp2_with ((with_reducible refine eqW HEQ.out (t := 34) (x := .tmp 15) (y := .tmp 16) (o := ⟨some 17, _, _, _, _, _⟩) ?_ ?_); exact ⟨rfl, rfl, rfl, rfl⟩)
        go_ret
        exact ⟨by rw [HF.out]; rfl, HBd.out⟩
    · have HF : Hid (hasT l t = false) := by
        have h := HN.out
        rw [List.take_of_length_le (by omega)] at h
        exact h
      go_wp2_with fail
      go_ret
      exact ⟨by rw [HF.out]; rfl, HB.out⟩
set_option maxRecDepth 100000 in
set_option maxHeartbeats 4000000 in
theorem rminus_any {w : World} {av bv : Value} {a b : List Tu} (ha : TuRd w av a) (hb : TuRd w bv b) (hla : a.length ≤ 100000) (hlb : b.length ≤ 100000) :
    Calls Try.prog 17 #[av, bv] w fun e w' => ∃ v', e = .returned v' ∧ Below w.heap.size w w' ∧ TuSl w' v' (minusT a b) := by
  have HLA := Lib.hid hla
  have HLB := Lib.hid hlb
  have HSB := Lib.hid hb
  obtain ⟨p, c, rfl, hrow⟩ := ha.form tc_length (by decide)
  have HW := Lib.hid hrow
  clear ha hb hrow
  go_enter Try.func17, Try.ntmps17
  go_wp2_with fail
  go_loopg [5, 6] a.length (fun g s5 s6 wr => ∃ (k : Nat) (m : List Tu) (q5 : Option Addr) (c5 : Nat), k ≤ a.length ∧ a.length - k ≤ g ∧ s6 = .int .i64 k ∧ s5 = .slice q5 m.length c5 ∧ Below w.heap.size w wr ∧ wr.ownsRow w.heap.size 34 6 (.slice q5 m.length c5) m.length (m.flatMap tc) ∧ m.length ≤ k ∧ minusT (a.take k) b = m)
  case atStart => exact ⟨0, [], none, 0, Nat.zero_le _, by omega, rfl, rfl, Below.refl _ _, World.ownsRow_nil _ _ _ _, Nat.le_refl _, by rw [List.take_zero]; rfl⟩
  case round =>
    obtain ⟨k, m, q5, c5, hk, hg, rfl, rfl, hb, hr, hml, hm⟩ := hrel
    have HB := Lib.hid hb
    have HR := Lib.hid hr
    have HML := Lib.hid hml
    have HM := Lib.hid hm
    clear hb hr hml hm
    by_cases hlt : k < a.length
    · obtain ⟨b', off, rfl, hbl, ri⟩ := HW.out k hlt
      obtain ⟨x, hx⟩ : ∃ x, x = a[k] := ⟨_, rfl⟩
      rw [← hx] at ri
      have HMN : Hid (minusT (a.take (k + 1)) b = m ++ (if hasT b x = true then [] else [x])) := by show _ = _; rw [take_snoc1 hlt, ← hx, minusT_snoc, HM.out]
      have HRW : Hid (∀ W, Below w.heap.size w W → W.rangeAt b' (off + k * 6) (tc x)) := fun W hB => range_below ri hbl hB
      have HRX := Lib.hid (HRW.out _ HB.out)
      have HC := Lib.hid (rhas_any x (HSB.out.below HB.out) (by have := HLB.out; omega))
      clear hx ri hbl
      go_wp2_with ((with_reducible refine loadM (x := .tmp 16) (o := ⟨some 17, _, _, _, _, _⟩) HRX.out ?_ ?_); exact ⟨rfl, rfl, by go_simp⟩)
      refine HC.out.mono ?_
      rintro e w2 ⟨rfl, b2⟩
      have HB2 := Lib.hid (HB.out.trans (b2.mono HB.out.size))
      have HR2 := Lib.hid (own_keep HR.out b2)
      clear b2 HC HRX HB HR
      have HRX := Lib.hid (HRW.out _ HB2.out)
      rcases hh : hasT b x with _ | _
      · have HMQ : Hid (minusT (a.take (k + 1)) b = m ++ [x]) := by show _ = _; rw [HMN.out, hh]; rfl
        clear hh
        have ba : Below w2.heap.size w2 (w2.alloc (.cells #[.string x.ot, .string x.oi, .string x.re, .string x.st, .string x.si, .string x.us] 34)) := (Below.refl _ _).alloc (Nat.le_refl _) _
        have HO3 := Lib.hid (own_keep HR2.out ba)
        have HB4 := Lib.hid (HB2.out.trans (ba.mono HB2.out.size))
        have HN4 : Hid (SrcT (some ⟨w2.heap.size, 0, none⟩) 1 (w2.alloc (.cells #[.string x.ot, .string x.oi, .string x.re, .string x.st, .string x.si, .string x.us] 34)) [x]) := .inr ⟨w2.heap.size, 0, rfl, by simp, Arr.range (Arr.new' w2 34 _ _ rfl)⟩
        clear ba
        go_wp2_with (first | ((with_reducible refine loadMX (x := .tmp 23) (o := ⟨some 24, _, _, _, _, _⟩) HRX.out ?_ ?_); exact ⟨rfl, rfl, by go_simp⟩) | (at_builtin; refine appT rfl _ _ rfl (base := w.heap.size) (xs := m) (news := [x]) rfl HO3.out rfl rfl HN4.out (by have := HML.out; have := HLA.out; omega) HB4.out.size ?_; intro v4 w4 h4 b4))
        have HB5 := Lib.hid (HB4.out.trans (b4.mono (Nat.le_refl _)))
        obtain ⟨q6, c6, rfl⟩ := own_formT h4
        have HR5 : Hid (w4.ownsRow w.heap.size 34 6 (.slice q6 (m ++ [x]).length c6) (m ++ [x]).length ((m ++ [x]).flatMap tc)) := by have h := h4; rw [List.length_append]; exact h
        clear b4 h4 HO3 HN4
        go_roundg (a.length - (k + 1))
        case measure => omega
        case rel => exact ⟨k + 1, m ++ [x], q6, c6, by omega, Nat.le_refl _, by go_num, by rw [List.length_append]; rfl, HB5.out, HR5.out, by rw [List.length_append, List.length_singleton]; have := HML.out; omega, HMQ.out⟩
      · have HMQ : Hid (minusT (a.take (k + 1)) b = m) := by show _ = _; rw [HMN.out, hh]; simp
        clear hh
        go_wp2_with fail
        go_roundg (a.length - (k + 1))
        case measure => omega
        case rel => exact ⟨k + 1, m, q5, c5, by omega, Nat.le_refl _, by go_num, rfl, HB2.out, HR2.out, by have := HML.out; omega, HMQ.out⟩
    · have HF : Hid (minusT a b = m) := by
        have h := HM.out
        rw [List.take_of_length_le (by omega)] at h
        exact h
      go_wp2_with fail
      go_ret
      refine ⟨_, rfl, HB.out, ?_⟩
      rw [HF.out]
      exact ownsRow_sl HR.out
set_option maxRecDepth 100000 in
set_option maxHeartbeats 2000000 in
theorem rsortedB_any {w : World} {sv : Value} {l : List Tu} (h : TuRd w sv l) (hz : ∀ x ∈ l, sizesT x 1000000) (hl : l.length ≤ 1000000) :
    Calls Try.prog 23 #[sv] w fun e w' => e = .returned (.bool (risB l)) ∧ Below w.heap.size w w' := by
  have HLN := Lib.hid hl
  have HZ := Lib.hid hz
  obtain ⟨p, c, rfl, hrow⟩ := h.form tc_length (by decide)
  have HW := Lib.hid hrow
  clear h hrow hz
  go_enter Try.func23, Try.ntmps23
  go_wp2_with fail
  go_loopg [3] (l.length + 1) (fun g s3 wr => ∃ k : Nat, 1 ≤ k ∧ k ≤ l.length + 1 ∧ l.length + 1 - k ≤ g ∧ s3 = .int .i64 k ∧ Below w.heap.size w wr ∧ ∀ j, j + 1 < k → j + 1 < l.length → ordT (l.getD j t0) (l.getD (j + 1) t0) < 0)
  case atStart => exact ⟨1, Nat.le_refl _, by omega, by omega, rfl, Below.refl _ _, fun j hj => absurd hj (by omega)⟩
  case round =>
    obtain ⟨k, hk1, hk, hg, rfl, hb, hall⟩ := hrel
    have HB := Lib.hid hb
    have HA := Lib.hid hall
    clear hb hall
    by_cases hlt : k < l.length
    · have HWR : Hid (IntKind.i64.wrap ((k : Int) - 1) = ((k - 1 : Nat) : Int)) := by show _ = _; rw [IntKind.wrap_i64]; omega
      have hk1' : k - 1 < l.length := by omega
      obtain ⟨b, off, rfl, hbl, ri⟩ := HW.out (k - 1) hk1'
      obtain ⟨b', off', hbo, _, rk⟩ := HW.out k hlt
      simp only [Option.some.injEq, Addr.mk.injEq, and_true] at hbo
      obtain ⟨rfl, rfl⟩ := hbo
      obtain ⟨x, hx⟩ : ∃ x, x = l[k - 1] := ⟨_, rfl⟩
      obtain ⟨y, hy⟩ : ∃ y, y = l[k] := ⟨_, rfl⟩
      have HD : Hid (l.getD (k - 1) t0 = x ∧ l.getD (k - 1 + 1) t0 = y) := by
        show _ ∧ _
        rw [show k - 1 + 1 = k by omega, getD_at hk1', getD_at hlt, hx, hy]; exact ⟨rfl, rfl⟩
      rw [← hx] at ri
      rw [← hy] at rk
      have HBD := Lib.hid (HB.out.trans ((Below.refl wr.heap.size wr).drew.mono HB.out.size))
      have HRI : Hid ((wr.drew).rangeAt b (off + (k - 1) * 6) (tc x)) := range_below ri hbl HBD.out
      have HRK : Hid ((wr.drew).rangeAt b (off + k * 6) (tc y)) := range_below rk hbl HBD.out
      have HCM := Lib.hid (rcompare_any x y (by rw [hx]; exact HZ.out _ (List.getElem_mem hk1')) (by rw [hy]; exact HZ.out _ (List.getElem_mem hlt)) wr.drew)
      have HT3 := Lib.hid (ordT_three x y)
      clear hx hy ri rk hbl
      go_wp2_with fail
      refine region_tail 9 (by kernel_rfl) (by kernel_rfl) ?_
      simp only [List.take_succ_cons, List.take_zero, List.drop_succ_cons, List.drop_zero]
      repeat first
        | still_step
        | (rw [HWR.out]; still_step)
        | ((with_reducible refine stillG (x := .tmp 13) (o := ⟨some 14, _, _, _, _, _⟩) HRI.out ?_ ?_); exact ⟨rfl, rfl, by go_simp⟩)
        | ((with_reducible refine stillG (x := .tmp 17) (o := ⟨some 18, _, _, _, _, _⟩) HRK.out ?_ ?_); exact ⟨rfl, rfl, by go_simp⟩)
      refine wpStill_nil ?_
      clear HRI HRK
      go_wp2_with fail
      refine HCM.out.mono ?_
      rintro e w2 ⟨rfl, b2⟩
      have HB2 := Lib.hid (HBD.out.trans (b2.mono HBD.out.size))
      clear b2 HCM HB HBD
      obtain ⟨q, hq⟩ : ∃ q, q = ordT x y := ⟨_, rfl⟩
      have HQ := Lib.hid hq
      rw [← hq]
      clear hq
      have ht3 := HT3.out
      rw [← HQ.out] at ht3
      clear HT3
      by_cases hneg : q = -1
      · subst hneg
        clear ht3
        go_wp2_with fail
        go_roundg (l.length + 1 - (k + 1))
        case measure => omega
        case rel =>
          refine ⟨k + 1, by omega, by omega, Nat.le_refl _, by go_num, HB2.out, fun j hj hjl => ?_⟩
          by_cases e : j = k - 1
          · subst e
            rw [HD.out.1, HD.out.2, ← HQ.out]; decide
          · exact HA.out j (by omega) hjl
      · have HF : Hid (risB l = false) := risB_no (j := k - 1) (by omega) (by rw [HD.out.1, HD.out.2, ← HQ.out]; omega)
        go_wp2_with fail
        go_ret
        exact ⟨by rw [HF.out]; rfl, HB2.out⟩
    · have HF : Hid (risB l = true) := risB_yes fun j hj => HA.out j (by omega) hj
      go_wp2_with fail
      go_ret
      exact ⟨by rw [HF.out]; rfl, HB.out⟩
set_option maxRecDepth 100000 in
set_option maxHeartbeats 4000000 in
theorem rrange_any {w : World} {av : Value} {l : List Tu} (oa ob : ByteArray) (h : TuRd w av l) (hl : l.length ≤ 100000) :
    Calls Try.prog 21 #[av, .agg #[.string oa, .string ob]] w fun e w' => ∃ v', e = .returned v' ∧ Below w.heap.size w w' ∧ TuSl w' v' (rangeT l (oa, ob)) := by
  have HLA := Lib.hid hl
  have hb0 : Below w.heap.size w (w.alloc (.cells #[.string oa, .string ob] 32)) := (Below.refl _ _).alloc (Nat.le_refl _) _
  have HB0 := Lib.hid hb0
  have HT0 : Hid (Arr (w.alloc (.cells #[.string oa, .string ob] 32)) 32 w.heap.size [.string oa, .string ob]) := Arr.new' _ _ _ _ rfl
  obtain ⟨p, c, rfl, hrow⟩ := h.form tc_length (by decide)
  have HW := Lib.hid hrow
  clear h hrow hb0
  go_enter Try.func21, Try.ntmps21
  go_upto_region 1 with (fail)
  generalize w.alloc (.cells #[.string oa, .string ob] 32) = w0 at HB0 HT0 ⊢
  go_wp2_with fail
  go_loopg [5, 6] l.length (fun g s5 s6 wr => ∃ (k : Nat) (m : List Tu) (q5 : Option Addr) (c5 : Nat), k ≤ l.length ∧ l.length - k ≤ g ∧ s6 = .int .i64 k ∧ s5 = .slice q5 m.length c5 ∧ Below w.heap.size w wr ∧ Arr wr 32 w.heap.size [.string oa, .string ob] ∧ wr.ownsRow (w.heap.size + 1) 34 6 (.slice q5 m.length c5) m.length (m.flatMap tc) ∧ m.length ≤ k ∧ rangeT (l.take k) (oa, ob) = m)
  case atStart => exact ⟨0, [], none, 0, Nat.zero_le _, by omega, rfl, rfl, HB0.out, HT0.out, World.ownsRow_nil _ _ _ _, Nat.le_refl _, by rw [List.take_zero]; rfl⟩
  case round =>
    obtain ⟨k, m, q5, c5, hk, hg, rfl, rfl, hb, ht, hr, hml, hm⟩ := hrel
    have HB := Lib.hid hb
    have HT := Lib.hid ht
    have HR := Lib.hid hr
    have HML := Lib.hid hml
    have HM := Lib.hid hm
    clear hb ht hr hml hm HB0 HT0
    by_cases hlt : k < l.length
    · obtain ⟨b, off, rfl, hbl, ri⟩ := HW.out k hlt
      obtain ⟨x, hx⟩ : ∃ x, x = l[k] := ⟨_, rfl⟩
      rw [← hx] at ri
      have HMN : Hid (rangeT (l.take (k + 1)) (oa, ob) = m ++ (if eqO x oa ob = true then [x] else [])) := by show _ = _; rw [take_snoc1 hlt, ← hx, rangeT_snoc, HM.out]
      have HRW : Hid (∀ W, Below w.heap.size w W → W.rangeAt b (off + k * 6) (tc x)) := fun W hB => range_below ri hbl hB
      have hbd : Below wr.heap.size wr wr.drew := (Below.refl wr.heap.size wr).drew
      have HB2 := Lib.hid (HB.out.trans (hbd.mono HB.out.size))
      have HT2 : Hid (Arr wr.drew 32 w.heap.size [.string oa, .string ob]) := Arr.later HT.out hbd
      have HR2 := Lib.hid (own_keep HR.out hbd)
      have HRX := Lib.hid (HRW.out _ HB2.out)
      have HRO : Hid ((wr.drew).rangeAt b (off + k * 6) [.string x.ot, .string x.oi]) := range_obj HRX.out
      have HRT : Hid ((wr.drew).rangeAt w.heap.size 0 [.string oa, .string ob]) := Arr.range HT2.out
      clear hx ri hbl hbd HB HT HR
      go_wp2_with fail
      refine region_tail 6 (by kernel_rfl) (by kernel_rfl) ?_
      simp only [List.take_succ_cons, List.take_zero, List.drop_succ_cons, List.drop_zero]
      repeat first
        | still_step
        | ((with_reducible refine stillO (x := .tmp 16) (o := ⟨some 17, _, _, _, _, _⟩) HRO.out ?_ ?_); exact ⟨rfl, rfl, by go_simp⟩)
        | ((with_reducible refine stillO (x := .tmp 3) (o := ⟨some 18, _, _, _, _, _⟩) HRT.out ?_ ?_); exact ⟨rfl, rfl, by go_simp⟩)
      refine wpStill_nil ?_
      clear HRO HRT
      generalize wr.drew = w2 at HB2 HT2 HR2 HRX ⊢
      rcases hh : eqO x oa ob with _ | _
      · have HEQ := Lib.hid hh
        have HMQ : Hid (rangeT (l.take (k + 1)) (oa, ob) = m) := by show _ = _; rw [HMN.out, hh]; simp
        clear hh
        go_wp2_with ((with_reducible refine eqWO HEQ.out (t := 32) (x := .tmp 17) (y := .tmp 18) (o := ⟨some 19, _, _, _, _, _⟩) ?_ ?_); exact ⟨rfl, rfl, rfl, rfl⟩)
        go_roundg (l.length - (k + 1))
        case measure => omega
        case rel => exact ⟨k + 1, m, q5, c5, by omega, Nat.le_refl _, by go_num, rfl, HB2.out, HT2.out, HR2.out, by have := HML.out; omega, HMQ.out⟩
      · have HEQ := Lib.hid hh
        have HMQ : Hid (rangeT (l.take (k + 1)) (oa, ob) = m ++ [x]) := by show _ = _; rw [HMN.out, hh]; rfl
        clear hh
        go_upto_region 6 with ((with_reducible refine eqWO HEQ.out (t := 32) (x := .tmp 17) (y := .tmp 18) (o := ⟨some 19, _, _, _, _, _⟩) ?_ ?_); exact ⟨rfl, rfl, rfl, rfl⟩)
        have HLT2 : Hid (w.heap.size < w2.heap.size) := HT2.out.lt
        have ba : Below w2.heap.size w2 (w2.alloc (.cells #[.string x.ot, .string x.oi, .string x.re, .string x.st, .string x.si, .string x.us] 34)) := (Below.refl _ _).alloc (Nat.le_refl _) _
        have HO3 := Lib.hid (own_keep HR2.out ba)
        have HB4 := Lib.hid (HB2.out.trans (ba.mono HB2.out.size))
        have HN4 : Hid (SrcT (some ⟨w2.heap.size, 0, none⟩) 1 (w2.alloc (.cells #[.string x.ot, .string x.oi, .string x.re, .string x.st, .string x.si, .string x.us] 34)) [x]) := .inr ⟨w2.heap.size, 0, rfl, by simp, Arr.range (Arr.new' w2 34 _ _ rfl)⟩
        clear ba
        go_wp2_with (first | ((with_reducible refine loadMX (x := .tmp 23) (o := ⟨some 24, _, _, _, _, _⟩) HRX.out ?_ ?_); exact ⟨rfl, rfl, by go_simp⟩) | (at_builtin; refine appT rfl _ _ rfl (base := (w.heap.size + 1)) (xs := m) (news := [x]) rfl HO3.out rfl rfl HN4.out (by have := HML.out; have := HLA.out; omega) (by have := HB4.out.size; have := HLT2.out; simp [World.size_alloc]; omega) ?_; intro v4 w4 h4 b4))
        have HB5 := Lib.hid (HB4.out.trans (b4.mono (Nat.le_succ _)))
        obtain ⟨q6, c6, rfl⟩ := own_formT h4
        have HR5 : Hid (w4.ownsRow (w.heap.size + 1) 34 6 (.slice q6 (m ++ [x]).length c6) (m ++ [x]).length ((m ++ [x]).flatMap tc)) := by have h := h4; rw [List.length_append]; exact h
        clear h4 HO3 HN4
        have HT5 : Hid (Arr w4 32 w.heap.size [.string oa, .string ob]) := Arr.below (Arr.later HT2.out ((Below.refl _ _).alloc (Nat.le_refl _) _)) b4 (Nat.lt_succ_self _)
        clear b4
        go_roundg (l.length - (k + 1))
        case measure => omega
        case rel => exact ⟨k + 1, m ++ [x], q6, c6, by omega, Nat.le_refl _, by go_num, by rw [List.length_append]; rfl, HB5.out, HT5.out, HR5.out, by rw [List.length_append, List.length_singleton]; have := HML.out; omega, HMQ.out⟩
    · have HF : Hid (rangeT l (oa, ob) = m) := by
        have h := HM.out
        rw [List.take_of_length_le (by omega)] at h
        exact h
      go_wp2_with fail
      go_ret
      refine ⟨_, rfl, HB.out, ?_⟩
      rw [HF.out]
      exact ownsRow_sl HR.out
end Go.Proofs.Ytebbbiikphfjcaa
