/-
  merge.Minus, merge.Diff.
-/
import Derived.Test.YtebbbiikphfjcaaMgA
namespace Go.Proofs.Ytebbbiikphfjcaa
open Go.ChangeShapes Go.WideShapes Go.ChangeAt Go.RowKit
set_option linter.unusedVariables false

theorem own_keep {w w' : World} {base n : Nat} {v : Value} {xs : List Value} (h : w.ownsRow base 34 6 v n xs) (hb : Below w.heap.size w w') : w'.ownsRow base 34 6 v n xs := by
  refine h.kept (row := none) (grown_of hb none) ?_
  by_cases e : v.ownBlock = none
  · exact .inl e
  · exact .inr e
theorem own_formT {w : World} {base n : Nat} {v : Value} {xs : List Value} (h : w.ownsRow base 34 6 v n xs) : ∃ q c, v = .slice q n c := by
  rcases h.2 with ⟨h1, h2⟩ | ⟨g, cap, cur, h1, _⟩
  · exact ⟨none, 0, by rw [h1, h2]⟩
  · exact ⟨_, _, h1⟩
theorem drop_at {l : List Tu} {i : Nat} (h : i < l.length) : l.drop i = l[i] :: l.drop (i + 1) := List.drop_eq_getElem_cons h
theorem loadMX {ops : Array Oper} {rest : List Oper} {o : Oper} {a : Act} {Q : Exit → Act → World → Prop} {w : World} {b off : Nat} {x : Operand} {u : Tu} (hr : w.rangeAt b off (tc u)) (hs : o.guard = none ∧ o.op = .load 34 x ∧ a.eval x = .pointer (some ⟨b, off, none⟩))
    (hk : wpList Try.prog ops Q rest (a.put o.dst (.agg #[.string u.ot, .string u.oi, .string u.re, .string u.st, .string u.si, .string u.us])) w) : wpList Try.prog ops Q (o :: rest) a w := loadM hr hs hk
/-- The head and the rest of a list that is read. -/
theorem TuSl.cons {w : World} {v : Value} {y : Tu} {r : List Tu} (h : TuSl w v (y :: r)) : ∃ b off c, v = .slice (some ⟨b, off, none⟩) (r.length + 1) c ∧ r.length + 1 ≤ c ∧ b < w.heap.size ∧ w.rangeAt b off (tc y) ∧ TuSl w (.slice (some ⟨b, off + 6, none⟩) r.length (c - 1)) r := by
  rcases h with ⟨_, h⟩ | ⟨b, off, c, rfl, h1, h2, h3⟩
  · cases h
  · refine ⟨b, off, c, rfl, h1, h2, fun j u hj => h3 j u ?_, .inr ⟨b, off + 6, c - 1, rfl, by simp at h1; omega, h2, fun j u hj => ?_⟩⟩
    · rw [List.flatMap_cons, List.getElem?_append_left (List.getElem?_eq_some_iff.1 hj).1]; exact hj
    · have := h3 (6 + j) u (by rw [List.flatMap_cons, List.getElem?_append_right (by rw [tc_length]; omega), tc_length, Nat.add_sub_cancel_left]; exact hj)
      rw [← Nat.add_assoc] at this; exact this
theorem TuSl.none_form {w : World} {v : Value} (h : TuSl w v []) : ∃ p c, v = .slice p 0 c := by
  rcases h with ⟨h, _⟩ | ⟨b, off, c, h, _⟩
  · exact ⟨_, _, h⟩
  · exact ⟨_, _, h⟩
theorem TuSl.zero {w : World} {b off c : Nat} (hb : b < w.heap.size) : TuSl w (.slice (some ⟨b, off, none⟩) 0 c) [] := .inr ⟨b, off, c, rfl, Nat.zero_le _, hb, fun j u hj => by simp at hj⟩
set_option maxRecDepth 100000 in
set_option maxHeartbeats 4000000 in
theorem minus_any {w : World} {av bv : Value} {a b : List Tu} (ha : TuSl w av a) (hb : TuSl w bv b) (hla : a.length ≤ 100000) (hlb : b.length ≤ 100000) :
    Calls Try.prog 16 #[av, bv] w fun e w' => ∃ v', e = .returned v' ∧ Below w.heap.size w w' ∧ TuSl w' v' (minG a b) := by
  have HLA := Lib.hid hla
  have HLB := Lib.hid hlb
  have HSB := Lib.hid hb
  obtain ⟨p, c, rfl, hc, hs⟩ := ha.src
  have HSA := Lib.hid hs
  clear ha hb hc hs
  go_enter Try.func16, Try.ntmps16
  go_wp2_with fail
  go_loopg [1, 5, 10] a.length (fun g s1 s5 s10 wr => ∃ (i : Nat) (bb m : List Tu) (q5 : Option Addr) (c5 : Nat), i ≤ a.length ∧ a.length - i ≤ g ∧ s10 = .int .i64 i ∧ s5 = .slice q5 m.length c5 ∧ Below w.heap.size w wr ∧ TuSl w s1 bb ∧ bb.length ≤ 100000 ∧ m.length ≤ i ∧ wr.ownsRow w.heap.size 34 6 (.slice q5 m.length c5) m.length (m.flatMap tc) ∧ minG a b = m ++ minG (a.drop i) bb)
  case atStart => exact ⟨0, b, [], none, 0, Nat.zero_le _, by omega, rfl, rfl, Below.refl _ _, HSB.out, HLB.out, Nat.le_refl _, World.ownsRow_nil _ _ _ _, rfl⟩
  case round =>
    obtain ⟨i, bb, m, q5, c5, hi, hg, rfl, rfl, hB, hsb, hbl, hml, hr, hm⟩ := hrel
    have HB := Lib.hid hB
    have HS := Lib.hid hsb
    have HL := Lib.hid hbl
    have HML := Lib.hid hml
    have HR := Lib.hid hr
    have HM := Lib.hid hm
    clear hB hsb hbl hml hr hm
    by_cases hlt : i < a.length
    · obtain ⟨ba, off, rfl, hba, ri⟩ := HSA.out.row hlt
      obtain ⟨x, hx⟩ : ∃ x, x = a[i] := ⟨_, rfl⟩
      rw [← hx] at ri
      have HX := Lib.hid hx
      have HRI : Hid (wr.rangeAt ba (off + i * 6) (tc x)) := range_below ri hba HB.out
      clear hx ri hba
      have hb1 : Below wr.heap.size wr (wr.alloc (.cells #[.string x.ot, .string x.oi, .string x.re, .string x.st, .string x.si, .string x.us] 34)) := (Below.refl _ _).alloc (Nat.le_refl _) _
      have HB1 := Lib.hid (HB.out.trans (hb1.mono HB.out.size))
      have HR1 := Lib.hid (own_keep HR.out hb1)
      have HX1 : Hid (TuAt (wr.alloc (.cells #[.string x.ot, .string x.oi, .string x.re, .string x.st, .string x.si, .string x.us] 34)) wr.heap.size x) := tu_new wr x
      obtain ⟨gx, hgx⟩ : ∃ g, g = wr.heap.size := ⟨_, rfl⟩
      rw [← hgx] at HX1
      clear hb1
      go_wp2_with ((with_reducible refine loadMX (x := .tmp 12) (o := ⟨some 13, _, _, _, _, _⟩) HRI.out ?_ ?_); exact ⟨rfl, rfl, by go_simp⟩)
      rw [← hgx]
      clear hgx HRI HR HB
      generalize wr.alloc (.cells #[.string x.ot, .string x.oi, .string x.re, .string x.st, .string x.si, .string x.us] 34) = w1 at HB1 HR1 HX1 ⊢
      go_loopg [1] (bb.length + 1) (fun g s1 wr => ∃ b2 : List Tu, b2.length + 1 ≤ g ∧ b2.length ≤ 100000 ∧ TuSl w s1 b2 ∧ dropLt x b2 = dropLt x bb ∧ Below w.heap.size w wr ∧ TuAt wr gx x ∧ wr.ownsRow w.heap.size 34 6 (.slice q5 m.length c5) m.length (m.flatMap tc))
      case atStart => exact ⟨bb, Nat.le_refl _, HL.out, HS.out, rfl, HB1.out, HX1.out, HR1.out⟩
      case round =>
        obtain ⟨b2, hg2, hl2, hs2, hd2, hB2, hX2, hR2⟩ := hrel
        have HL2 := Lib.hid hl2
        have HD2 := Lib.hid hd2
        have HB2 := Lib.hid hB2
        have HX2 := Lib.hid hX2
        have HR2 := Lib.hid hR2
        clear hl2 hd2 hB2 hX2 hR2 HB1 HR1 HX1 HL HS
        cases b2 with
        | nil =>
          have HSX := Lib.hid hs2
          obtain ⟨p2, c2, rfl⟩ := hs2.none_form
          have HDD : Hid (dropLt x bb = []) := HD2.out.symm.trans rfl
          have HS2 := HSX
          have HDL : Hid (([] : List Tu).length ≤ 100000) := Nat.zero_le _
          clear hs2 HD2
          have HE : Hid (minG a b = m ++ [x] ++ minG (a.drop (i + 1)) []) := by
            show _ = _
            rw [HM.out, drop_at hlt, ← HX.out, minG, HDD.out, show heads [] x = false from rfl]
            simp
          go_wp2_with fail
          refine region_tail 8 (by kernel_rfl) (by kernel_rfl) ?_
          simp only [List.take_succ_cons, List.take_zero, List.drop_succ_cons, List.drop_zero]
          repeat still_step
          refine wpStill_nil ?_
          go_wp2_with fail
          refine region_tail 8 (by kernel_rfl) (by kernel_rfl) ?_
          simp only [List.take_succ_cons, List.take_zero, List.drop_succ_cons, List.drop_zero]
          repeat still_step
          refine wpStill_nil ?_
          have hbd : Below wr.heap.size wr wr.drew.drew := (Below.refl wr.heap.size wr).drew.trans ((Below.refl wr.drew.heap.size wr.drew).drew.mono (Nat.le_refl _))
          have HB3 := Lib.hid (HB2.out.trans (hbd.mono HB2.out.size))
          have HX3 : Hid (TuAt wr.drew.drew gx x) := Arr.later HX2.out hbd
          have HR3 := Lib.hid (own_keep HR2.out hbd)
          clear hbd HB2 HX2 HR2
          generalize wr.drew.drew = w3 at HB3 HX3 HR3 ⊢
          clear HS2
          have HA3 : Hid (Arr w3 34 gx (tc x)) := HX3.out
          have ba : Below w3.heap.size w3 (w3.alloc (.cells #[.string x.ot, .string x.oi, .string x.re, .string x.st, .string x.si, .string x.us] 34)) := (Below.refl _ _).alloc (Nat.le_refl _) _
          have HO3 := Lib.hid (own_keep HR3.out ba)
          have HB4 := Lib.hid (HB3.out.trans (ba.mono HB3.out.size))
          have HN4 : Hid (SrcT (some ⟨w3.heap.size, 0, none⟩) 1 (w3.alloc (.cells #[.string x.ot, .string x.oi, .string x.re, .string x.st, .string x.si, .string x.us] 34)) [x]) := .inr ⟨w3.heap.size, 0, rfl, by simp, Arr.range (Arr.new' w3 34 _ _ rfl)⟩
          clear ba
          go_wp2_with (first | ((with_reducible refine loadX (x := .tmp 7) (t := x) (o := ⟨some 38, _, _, _, _, _⟩) HA3.out ?_ ?_); exact ⟨rfl, rfl, rfl⟩) | (at_builtin; refine appT rfl _ _ rfl (base := w.heap.size) (xs := m) (news := [x]) rfl HO3.out rfl rfl HN4.out (by have := HML.out; have := HLA.out; omega) HB4.out.size ?_; intro v4 w4 h4 b4))
          have HB5 := Lib.hid (HB4.out.trans (b4.mono (Nat.le_refl _)))
          obtain ⟨q6, c6, rfl⟩ := own_formT h4
          have HR5 : Hid (w4.ownsRow w.heap.size 34 6 (.slice q6 (m ++ [x]).length c6) (m ++ [x]).length ((m ++ [x]).flatMap tc)) := by have h := h4; rw [List.length_append]; exact h
          clear b4 h4 HO3 HN4 HA3
          go_roundg (a.length - (i + 1))
          case measure => omega
          case rel => exact ⟨i + 1, [], m ++ [x], q6, c6, by omega, Nat.le_refl _, by go_num, by rw [List.length_append]; rfl, HB5.out, HSX.out, by have := HDL.out; omega, by rw [List.length_append, List.length_singleton]; have := HML.out; omega, HR5.out, HE.out⟩
        | cons y r =>
          obtain ⟨b', off', c', rfl, hc', hb', hy, ht⟩ := hs2.cons
          have HSX := Lib.hid hs2
          have hbd : Below wr.heap.size wr wr.drew := (Below.refl wr.heap.size wr).drew
          have HBd := Lib.hid (HB2.out.trans (hbd.mono HB2.out.size))
          have HXd : Hid (TuAt wr.drew gx x) := Arr.later HX2.out hbd
          have HRd := Lib.hid (own_keep HR2.out hbd)
          have HY : Hid (∀ W, Below w.heap.size w W → W.rangeAt b' off' (tc y)) := fun W hB => range_below hy hb' hB
          have HBT := Lib.hid hb'
          have HTL := Lib.hid ht
          have HCL := Lib.hid hc'
          have HYR := Lib.hid (HY.out _ HBd.out)
          have HXR : Hid ((wr.drew).rangeAt gx 0 (tc x)) := Arr.range HXd.out
          have HCM := Lib.hid (tcompare_below y x wr.drew)
          have hl0 : (0 : Int) < (r.length : Nat) + 1 := by omega
          have hl1 : ¬ ((r.length : Nat) : Int) + 1 = 0 := by omega
          clear hbd hy ht hb' hc' hs2 HB2 HX2 HR2
          go_wp2_with fail
          refine region_tail 8 (by kernel_rfl) (by kernel_rfl) ?_
          simp only [List.take_succ_cons, List.take_zero, List.drop_succ_cons, List.drop_zero]
          repeat first
            | still_step
            | ((with_reducible refine stillG (x := .tmp 19) (o := ⟨some 20, _, _, _, _, _⟩) HYR.out ?_ ?_); exact ⟨rfl, rfl, by go_simp⟩)
            | ((with_reducible refine stillG (x := .tmp 7) (o := ⟨some 21, _, _, _, _, _⟩) HXR.out ?_ ?_); exact ⟨rfl, rfl, by go_simp⟩)
          refine wpStill_nil ?_
          clear HXR HYR
          generalize wr.drew = wd at HBd HXd HRd HCM ⊢
          go_wp2_with fail
          refine HCM.out.mono ?_
          rintro e w2 ⟨rfl, b2⟩
          have HB3 := Lib.hid (HBd.out.trans (b2.mono HBd.out.size))
          have HX3 : Hid (TuAt w2 gx x) := Arr.later HXd.out b2
          have HR3 := Lib.hid (own_keep HRd.out b2)
          clear b2 HCM HBd HXd HRd
          obtain ⟨q, hq⟩ : ∃ q, q = ordT y x := ⟨_, rfl⟩
          have HQ := Lib.hid hq
          rw [← hq]
          clear hq
          by_cases hneg : q < 0
          · have HDN : Hid (dropLt x r = dropLt x bb) := (dropLt_lt (by rw [← HQ.out]; exact hneg)).symm.trans HD2.out
            by_cases hc1 : c' = 1
            · have hr0 : r = [] := List.eq_nil_of_length_eq_zero (by have := HCL.out; omega)
              subst hr0 hc1
              go_wp2_with fail
              go_roundg 1
              case measure => simp at hg2; omega
              case rel => exact ⟨[], Nat.le_refl _, Nat.zero_le _, TuSl.zero HBT.out, HDN.out, HB3.out, HX3.out, HR3.out⟩
            · have hc2 : 1 < c' := by have := HCL.out; omega
              go_wp2_with fail
              go_roundg (r.length + 1)
              case measure => simp at hg2; omega
              case rel => exact ⟨r, Nat.le_refl _, by have := HL2.out; simp at this; omega, HTL.out, HDN.out, HB3.out, HX3.out, HR3.out⟩
          · have HDD : Hid (dropLt x bb = y :: r) := HD2.out.symm.trans (dropLt_ge (by rw [← HQ.out]; exact hneg))
            have HDL : Hid ((y :: r).length ≤ 100000) := HL2.out
            have hbd : Below w2.heap.size w2 w2.drew := (Below.refl w2.heap.size w2).drew
            have HBe := Lib.hid (HB3.out.trans (hbd.mono HB3.out.size))
            have HXe : Hid (TuAt w2.drew gx x) := Arr.later HX3.out hbd
            have HRe := Lib.hid (own_keep HR3.out hbd)
            have HYR := Lib.hid (HY.out _ HBe.out)
            have HXR : Hid ((w2.drew).rangeAt gx 0 (tc x)) := Arr.range HXe.out
            clear hbd HB3 HX3 HR3 HD2
            go_wp2_with fail
            refine region_tail 8 (by kernel_rfl) (by kernel_rfl) ?_
            simp only [List.take_succ_cons, List.take_zero, List.drop_succ_cons, List.drop_zero]
            repeat first
              | still_step
              | ((with_reducible refine stillG (x := .tmp 32) (o := ⟨some 33, _, _, _, _, _⟩) HYR.out ?_ ?_); exact ⟨rfl, rfl, by go_simp⟩)
              | ((with_reducible refine stillG (x := .tmp 7) (o := ⟨some 34, _, _, _, _, _⟩) HXR.out ?_ ?_); exact ⟨rfl, rfl, by go_simp⟩)
            refine wpStill_nil ?_
            clear HXR HYR
            have HB3 := HBe
            have HX3 := HXe
            have HR3 := HRe
            clear HBe HXe HRe
            generalize w2.drew = w3 at HB3 HX3 HR3 ⊢
            rcases he : eqT y x with _ | _
            · have HEQ : Hid (eqT y x = !true) := he
              have HS2 := HSX
              have HE : Hid (minG a b = m ++ [x] ++ minG (a.drop (i + 1)) (y :: r)) := by
                show _ = _
                rw [HM.out, drop_at hlt, ← HX.out, minG, HDD.out, show heads (y :: r) x = false from he]
                simp
              clear he
              go_upto_region 8 with ((with_reducible refine neW HEQ.out (t := 34) (x := .tmp 33) (y := .tmp 34) (o := ⟨some 35, _, _, _, _, _⟩) ?_ ?_); exact ⟨rfl, rfl, rfl, rfl⟩)
              clear HS2
              have HA3 : Hid (Arr w3 34 gx (tc x)) := HX3.out
              have ba : Below w3.heap.size w3 (w3.alloc (.cells #[.string x.ot, .string x.oi, .string x.re, .string x.st, .string x.si, .string x.us] 34)) := (Below.refl _ _).alloc (Nat.le_refl _) _
              have HO3 := Lib.hid (own_keep HR3.out ba)
              have HB4 := Lib.hid (HB3.out.trans (ba.mono HB3.out.size))
              have HN4 : Hid (SrcT (some ⟨w3.heap.size, 0, none⟩) 1 (w3.alloc (.cells #[.string x.ot, .string x.oi, .string x.re, .string x.st, .string x.si, .string x.us] 34)) [x]) := .inr ⟨w3.heap.size, 0, rfl, by simp, Arr.range (Arr.new' w3 34 _ _ rfl)⟩
              clear ba
              go_wp2_with (first | ((with_reducible refine loadX (x := .tmp 7) (t := x) (o := ⟨some 38, _, _, _, _, _⟩) HA3.out ?_ ?_); exact ⟨rfl, rfl, rfl⟩) | (at_builtin; refine appT rfl _ _ rfl (base := w.heap.size) (xs := m) (news := [x]) rfl HO3.out rfl rfl HN4.out (by have := HML.out; have := HLA.out; omega) HB4.out.size ?_; intro v4 w4 h4 b4))
              have HB5 := Lib.hid (HB4.out.trans (b4.mono (Nat.le_refl _)))
              obtain ⟨q6, c6, rfl⟩ := own_formT h4
              have HR5 : Hid (w4.ownsRow w.heap.size 34 6 (.slice q6 (m ++ [x]).length c6) (m ++ [x]).length ((m ++ [x]).flatMap tc)) := by have h := h4; rw [List.length_append]; exact h
              clear b4 h4 HO3 HN4 HA3
              go_roundg (a.length - (i + 1))
              case measure => omega
              case rel => exact ⟨i + 1, (y :: r), m ++ [x], q6, c6, by omega, Nat.le_refl _, by go_num, by rw [List.length_append]; rfl, HB5.out, HSX.out, by have := HDL.out; omega, by rw [List.length_append, List.length_singleton]; have := HML.out; omega, HR5.out, HE.out⟩
            · have HEQ : Hid (eqT y x = !false) := he
              have HE : Hid (minG a b = m ++ minG (a.drop (i + 1)) (y :: r)) := by
                show _ = _
                rw [HM.out, drop_at hlt, ← HX.out, minG, HDD.out, show heads (y :: r) x = true from he]
                simp
              clear he
              go_wp2_with ((with_reducible refine neW HEQ.out (t := 34) (x := .tmp 33) (y := .tmp 34) (o := ⟨some 35, _, _, _, _, _⟩) ?_ ?_); exact ⟨rfl, rfl, rfl, rfl⟩)
              go_roundg (a.length - (i + 1))
              case measure => omega
              case rel => exact ⟨i + 1, y :: r, m, q5, c5, by omega, Nat.le_refl _, by go_num, rfl, HB3.out, HSX.out, HDL.out, by have := HML.out; omega, HR3.out, HE.out⟩
    · have HE : Hid (minG a b = m) := by
        show _ = _
        rw [HM.out, List.drop_of_length_le (by omega), minG, List.append_nil]
      go_wp2_with fail
      go_ret
      refine ⟨_, rfl, HB.out, ?_⟩
      rw [HE.out]
      exact ownsRow_sl HR.out
end Go.Proofs.Ytebbbiikphfjcaa
