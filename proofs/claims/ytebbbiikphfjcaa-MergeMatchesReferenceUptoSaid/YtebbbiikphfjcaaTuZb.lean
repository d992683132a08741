/-
  The reference's Compare.
-/
import Derived.Test.YtebbbiikphfjcaaTuZ
import Derived.Test.YtebbbiikphfjcaaTuQ
import Derived.Test.YtebbbiikphfjcaaOrd
import Derived.RegionTactic
import Derived.BigRegion
namespace Go.Proofs.Ytebbbiikphfjcaa
open Go.ChangeShapes Go.WideShapes Go.ChangeAt Go.RowKit
set_option linter.unusedVariables false

def strs (t : Tu) : List Value := t.l.map .string
theorem sizesT.l {t : Tu} {n : Nat} (h : sizesT t n) : ∀ s ∈ t.l, s.size ≤ n := by
  intro s hs
  obtain ⟨h1, h2, h3, h4, h5, h6⟩ := h
  simp only [Tu.l, List.mem_cons, List.not_mem_nil, or_false] at hs
  rcases hs with rfl | rfl | rfl | rfl | rfl | rfl <;> assumption
def CS (w : World) (a b : Tu) (g1 g2 : Nat) (W : World) : Prop := Below w.heap.size w W ∧ Arr W 9 g1 (strs a) ∧ Arr W 9 g2 (strs b)
theorem CS.later {w W W' : World} {a b : Tu} {g1 g2 : Nat} (h : CS w a b g1 g2 W) (hb : Below W.heap.size W W') : CS w a b g1 g2 W' := ⟨h.1.trans (hb.mono h.1.size), h.2.1.later hb, h.2.2.later hb⟩
set_option maxRecDepth 100000 in
set_option maxHeartbeats 2000000 in
theorem rcompare_any (a b : Tu) (ha : sizesT a 1000000) (hb : sizesT b 1000000) (w : World) : Calls Try.prog 37 #[tuV a, tuV b] w fun e w' => e = .returned (.int .i64 (ordT a b)) ∧ Below w.heap.size w w' := by
  have b0 : Below w.heap.size w ((w.alloc (.cells (tc a).toArray 34)).alloc (.cells (tc b).toArray 34)) := ((Below.refl _ _).alloc (Nat.le_refl _) _).alloc (by simp) _
  have HB0 := Lib.hid b0
  obtain ⟨w0, hw0⟩ : ∃ w0, w0 = (w.alloc (.cells (tc a).toArray 34)).alloc (.cells (tc b).toArray 34) := ⟨_, rfl⟩
  have h1 : TuAt w0 w.heap.size a := by rw [hw0]; exact (tu_new w a).alloc _
  have h2 : TuAt w0 (w.heap.size + 1) b := by rw [hw0]; exact Arr.new2 w _ _ _ _ rfl
  rw [← hw0] at HB0
  have HW := Lib.hid hw0
  have H1 := Lib.hid h1
  have H2 := Lib.hid h2
  have HZ1 := Lib.hid ha.l
  have HZ2 := Lib.hid hb.l
  clear h1 h2 hw0 b0 ha hb
  go_enter Try.func37, Try.ntmps37
  go_upto_region 1 with fail
  rw [show (w.alloc (.cells (tc a).toArray 34)).alloc (.cells (tc b).toArray 34) = w0 from HW.out.symm]
  clear HW
  obtain ⟨a0, a1, a2, a3, a4, a5⟩ := TuAt.cells H1.out
  go_upto_region 2 with fail
  have HB1 : Hid (Below w.heap.size w (w0.alloc (.cells (strs a).toArray 9))) := HB0.out.alloc HB0.out.size _
  have HA1 : Hid (Arr (w0.alloc (.cells (strs a).toArray 9)) 9 w0.heap.size (strs a)) := Arr.new' w0 _ _ _ rfl
  have HX1 := Lib.hid (H2.out.alloc (.cells (strs a).toArray 9))
  rw [show w0.alloc (.cells #[.string a.ot, .string a.oi, .string a.re, .string a.st, .string a.si, .string a.us] 9) = w0.alloc (.cells (strs a).toArray 9) from rfl]
  generalize w0.alloc (.cells (strs a).toArray 9) = w1 at HB1 HA1 HX1 ⊢
  generalize w0.heap.size = g1 at HA1 ⊢
  clear a0 a1 a2 a3 a4 a5 H1 H2 HB0
  obtain ⟨b0, b1, b2, b3, b4, b5⟩ := TuAt.cells HX1.out
  go_upto_region 3 with fail
  have HM : Hid (CS w a b g1 w1.heap.size (w1.alloc (.cells (strs b).toArray 9))) := ⟨HB1.out.alloc HB1.out.size _, HA1.out.alloc _, Arr.new' w1 _ _ _ rfl⟩
  rw [show w1.alloc (.cells #[.string b.ot, .string b.oi, .string b.re, .string b.st, .string b.si, .string b.us] 9) = w1.alloc (.cells (strs b).toArray 9) from rfl]
  generalize w1.alloc (.cells (strs b).toArray 9) = w2 at HM ⊢
  generalize w1.heap.size = g2 at HM ⊢
  clear b0 b1 b2 b3 b4 b5 HX1 HA1 HB1
  go_wp2_with fail
  go_loopg [7] 6 (fun g s7 wr => ∃ k : Nat, k ≤ 6 ∧ 6 - k ≤ g ∧ s7 = .int .i64 k ∧ CS w a b g1 g2 wr ∧ ordT a b = ordL (a.l.drop k) (b.l.drop k))
  case atStart => exact ⟨0, by omega, by omega, rfl, HM.out, rfl⟩
  case round =>
    obtain ⟨k, hk, hg, rfl, hm, ho⟩ := hrel
    have HR := Lib.hid hm
    have HO := Lib.hid ho
    clear hm ho
    by_cases hlt : k < 6
    · have l1 : k < a.l.length := hlt
      have l2 : k < b.l.length := hlt
      obtain ⟨x, hx⟩ : ∃ x, x = a.l[k] := ⟨_, rfl⟩
      obtain ⟨y, hy⟩ : ∃ y, y = b.l[k] := ⟨_, rfl⟩
      have c1 : (wr.drew).cell? ⟨g1, k, none⟩ = some (.string x) := by
        have := HR.out.2.1.cell k
        rw [show (strs a)[k]? = some (.string x) by unfold strs; rw [List.getElem?_map, List.getElem?_eq_getElem l1, hx]; rfl] at this
        exact this
      have c2 : (wr.drew).cell? ⟨g2, k, none⟩ = some (.string y) := by
        have := HR.out.2.2.cell k
        rw [show (strs b)[k]? = some (.string y) by unfold strs; rw [List.getElem?_map, List.getElem?_eq_getElem l2, hy]; rfl] at this
        exact this
      have HD : Hid (ordT a b = if ord x y = 0 then ordL (a.l.drop (k + 1)) (b.l.drop (k + 1)) else ord x y) := by
        show _ = _
        rw [HO.out, List.drop_eq_getElem_cons l1, List.drop_eq_getElem_cons l2, hx, hy]
        rfl
      have HOR := Lib.hid (order_any x y (by rw [hx]; exact HZ1.out _ (List.getElem_mem l1)) (by rw [hy]; exact HZ2.out _ (List.getElem_mem l2)) wr.drew)
      clear hx hy l1 l2 HO
      go_wp2_with fail
      refine region_tail 8 (by kernel_rfl) (by kernel_rfl) ?_
      simp only [List.take_succ_cons, List.take_zero, List.drop_succ_cons, List.drop_zero]
      repeat still_step
      refine wpStill_nil ?_
      clear c1 c2
      go_wp2_with fail
      refine HOR.out.mono ?_
      rintro e w3 ⟨rfl, b3⟩
      have HR3 := Lib.hid ((HR.out.later (Below.refl _ _).drew).later b3)
      clear b3 HOR HR
      by_cases hc : ord x y = 0
      · rw [hc] at HD ⊢
        rw [if_pos rfl] at HD
        go_wp2_with fail
        go_roundg (6 - (k + 1))
        case measure => omega
        case rel => exact ⟨k + 1, by omega, Nat.le_refl _, by go_num, HR3.out, HD.out⟩
      · rw [if_neg hc] at HD
        obtain ⟨c, hcc⟩ : ∃ c, c = ord x y := ⟨_, rfl⟩
        rw [← hcc] at hc HD ⊢
        have hc1 : (c != 0) = true := by rw [bne_iff_ne]; exact hc
        clear hcc
        go_wp2_with fail
        go_ret
        exact ⟨by rw [HD.out]; rfl, HR3.out.1⟩
    · have : k = 6 := by omega
      subst this
      have HD : Hid (ordT a b = 0) := HO.out
      go_wp2_with fail
      go_ret
      exact ⟨by rw [HD.out]; rfl, HR.out.1⟩
end Go.Proofs.Ytebbbiikphfjcaa
