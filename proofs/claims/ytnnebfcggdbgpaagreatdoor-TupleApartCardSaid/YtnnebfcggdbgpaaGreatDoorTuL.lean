/-
  vestryref18.Right, Text, Short; tuple.Text.
-/
import Derived.Test.YtnnebfcggdbgpaaGreatDoorTuF
import Derived.Test.YtnnebfcggdbgpaaGreatDoorNameP
import Derived.Test.YtnnebfcggdbgpaaGreatDoorNameD
import Derived.Deep.Cut
namespace Go.Proofs.YtnnebfcggdbgpaaGreatDoor
open Go.ChangeShapes Go.WideShapes Go.ChangeAt Go.RowKit
set_option linter.unusedVariables false

def sizesT (t : Tu) (n : Nat) : Prop := t.ot.size ≤ n ∧ t.oi.size ≤ n ∧ t.re.size ≤ n ∧ t.st.size ≤ n ∧ t.si.size ≤ n ∧ t.us.size ≤ n
theorem sizes_right {t : Tu} (h : rightT t = true) : sizesT t 128 := by
  obtain ⟨h1, h2, h3, h4, h5, h6⟩ := rightT_all h
  have a1 := name_size h1
  have a2 := id_size h2
  have a3 := name_size h3
  have a4 := name_size h4
  have a5 := id_size h5
  have a6 := us_size h6
  exact ⟨by omega, by omega, by omega, by omega, by omega, by omega⟩
theorem rightT_obj (t : Tu) : rightT t = (objB t.ot t.oi && (isName t.re && (objB t.st t.si && (decide (t.us = e0) || isName t.us)))) := by
  unfold rightT objB isUs
  cases isName t.ot <;> cases isId t.oi <;> cases isName t.re <;> cases isName t.st <;> cases isId t.si <;> rfl
theorem tcells (w : World) (t : Tu) (T : TypeId) : (w.alloc (.cells (tc t).toArray T)).cell? ⟨w.heap.size, 0, none⟩ = some (.string t.ot) ∧ (w.alloc (.cells (tc t).toArray T)).cell? ⟨w.heap.size, 1, none⟩ = some (.string t.oi) ∧ (w.alloc (.cells (tc t).toArray T)).cell? ⟨w.heap.size, 2, none⟩ = some (.string t.re) ∧ (w.alloc (.cells (tc t).toArray T)).cell? ⟨w.heap.size, 3, none⟩ = some (.string t.st) ∧ (w.alloc (.cells (tc t).toArray T)).cell? ⟨w.heap.size, 4, none⟩ = some (.string t.si) ∧ (w.alloc (.cells (tc t).toArray T)).cell? ⟨w.heap.size, 5, none⟩ = some (.string t.us) :=
  let h := Arr.new' w T (tc t).toArray _ rfl
  ⟨h.cell 0, h.cell 1, h.cell 2, h.cell 3, h.cell 4, h.cell 5⟩
theorem below_tu (w : World) (t : Tu) (T : TypeId) : Below w.heap.size w (w.alloc (.cells (tc t).toArray T)) := (Below.refl _ _).alloc (Nat.le_refl _) _
def shortT (t : Tu) : Bool := decide (t.ot.size + t.oi.size + t.re.size + t.st.size + t.si.size + t.us.size ≤ 1500)
theorem shortT_sizes {t : Tu} (h : shortT t = true) : sizesT t 1500 := by
  have := of_decide_eq_true h
  exact ⟨by omega, by omega, by omega, by omega, by omega, by omega⟩
set_option maxRecDepth 100000 in
set_option maxHeartbeats 1000000 in
theorem short_any (t : Tu) (h : sizesT t 140737488355328) (w : World) : Calls Tryz.prog 14 #[tuV t] w fun e w' => e = .returned (.bool (shortT t)) ∧ Below w.heap.size w w' := by
  obtain ⟨h1, h2, h3, h4, h5, h6⟩ := h
  obtain ⟨c0, c1, c2, c3, c4, c5⟩ := tcells w t 25
  have HB := Lib.hid (below_tu w t 25)
  have HS : Hid (shortT t = decide (t.ot.size + t.oi.size + t.re.size + t.st.size + t.si.size + t.us.size ≤ 1500)) := rfl
  have g1 : (t.ot.size : Int) ≤ 140737488355328 := by omega
  have g2 : (t.oi.size : Int) ≤ 140737488355328 := by omega
  have g3 : (t.re.size : Int) ≤ 140737488355328 := by omega
  have g4 : (t.st.size : Int) ≤ 140737488355328 := by omega
  have g5 : (t.si.size : Int) ≤ 140737488355328 := by omega
  have g6 : (t.us.size : Int) ≤ 140737488355328 := by omega
  clear h1 h2 h3 h4 h5 h6
  go_enter Tryz.func14, Tryz.ntmps14
  go_wp2_with fail
  go_ret
  refine ⟨ret_b ?_, HB.out⟩
  rw [HS.out]
  rw [Bool.eq_iff_iff]
  simp only [decide_eq_true_eq]
  omega
set_option maxRecDepth 100000 in
set_option maxHeartbeats 1000000 in
theorem rrightT_any (t : Tu) (h : sizesT t 1000000) (w : World) : Calls Tryz.prog 18 #[tuV t] w fun e w' => e = .returned (.bool (rightT t)) ∧ Below w.heap.size w w' := by
  have HZ := Lib.hid h
  obtain ⟨c0, c1, c2, c3, c4, c5⟩ := tcells w t 25
  have HB := Lib.hid (below_tu w t 25)
  have HX := Lib.hid (tu_new w t)
  have HR := Lib.hid (rightT_obj t)
  clear h
  go_enter Tryz.func18, Tryz.ntmps18
  go_wp2_with fail
  refine (right_any t.ot t.oi HZ.out.1 HZ.out.2.1 _).mono ?_
  rintro e w1 ⟨rfl, b1⟩
  have HB1 := Lib.hid (HB.out.trans (b1.mono HB.out.size))
  have HX1 := Lib.hid (HX.out.later b1)
  clear b1 c0 c1 c2 c3 c4 c5 HB HX
  cases ha : objB t.ot t.oi with
  | false =>
    have HR2 : Hid (rightT t = false) := by show _ = _; rw [HR.out, ha]; rfl
    clear ha
    go_wp2_with fail
    go_ret
    exact ⟨by rw [HR2.out]; rfl, HB1.out⟩
  | true =>
    have HA := Lib.hid ha
    clear ha
    obtain ⟨c0, c1, c2, c3, c4, c5⟩ := TuAt.cells HX1.out
    go_wp2_with fail
    refine (risName_any t.re HZ.out.2.2.1 _).mono ?_
    rintro e w2 ⟨rfl, hw2⟩
    subst hw2
    cases hb : isName t.re with
    | false =>
      have HR2 : Hid (rightT t = false) := by show _ = _; rw [HR.out, HA.out, hb]; rfl
      clear hb
      go_wp2_with fail
      go_ret
      exact ⟨by rw [HR2.out]; rfl, HB1.out⟩
    | true =>
      have HBN := Lib.hid hb
      clear hb
      go_wp2_with fail
      refine (right_any t.st t.si HZ.out.2.2.2.1 HZ.out.2.2.2.2.1 _).mono ?_
      rintro e w3 ⟨rfl, b3⟩
      have HB3 := Lib.hid (HB1.out.trans (b3.mono HB1.out.size))
      have HX3 := Lib.hid (HX1.out.later b3)
      clear b3 c0 c1 c2 c3 c4 c5 HB1 HX1
      cases hc : objB t.st t.si with
      | false =>
        have HR2 : Hid (rightT t = false) := by show _ = _; rw [HR.out, HA.out, HBN.out, hc]; rfl
        clear hc
        go_wp2_with fail
        go_ret
        exact ⟨by rw [HR2.out]; rfl, HB3.out⟩
      | true =>
        have HCN := Lib.hid hc
        obtain ⟨c0, c1, c2, c3, c4, c5⟩ := TuAt.cells HX3.out
        clear hc
        by_cases hu : t.us = e0
        · have HR2 : Hid (rightT t = true) := by show _ = _; rw [HR.out, HA.out, HBN.out, HCN.out, hu]; rfl
          rw [hu] at c5
          unfold e0 at c5
          clear hu
          go_wp2_with fail
          go_ret
          exact ⟨by rw [HR2.out]; rfl, HB3.out⟩
        · obtain ⟨n1, n2⟩ := empty_ne hu
          have HR2 : Hid (rightT t = isName t.us) := by show _ = _; rw [HR.out, HA.out, HBN.out, HCN.out]; simp [hu]
          clear hu
          go_wp2_with fail
          refine (risName_any t.us HZ.out.2.2.2.2.2 _).mono ?_
          rintro e w4 ⟨rfl, hw4⟩
          subst hw4
          go_wp2_with fail
          go_ret
          exact ⟨by rw [HR2.out]; rfl, HB3.out⟩
theorem text_cat0 (t : Tu) (h : t.us = e0) : t.ot ++ ⟨#[58]⟩ ++ t.oi ++ ⟨#[35]⟩ ++ t.re ++ ⟨#[64]⟩ ++ t.st ++ ⟨#[58]⟩ ++ t.si = textT t := by
  unfold textT
  apply bytes_inj
  rw [bstr_data]
  simp [textL, frontL, backL, usL, h]
theorem text_cat1 (t : Tu) (h : ¬ t.us = e0) : t.ot ++ ⟨#[58]⟩ ++ t.oi ++ ⟨#[35]⟩ ++ t.re ++ ⟨#[64]⟩ ++ t.st ++ ⟨#[58]⟩ ++ t.si ++ ⟨#[35]⟩ ++ t.us = textT t := by
  unfold textT
  apply bytes_inj
  rw [bstr_data]
  simp [textL, frontL, backL, usL, h]
theorem objS_yes {a b : ByteArray} (h1 : isName a = true) (h2 : isId b = true) : objS a b = a ++ ⟨#[58]⟩ ++ b ∧ objB a b = true := by
  unfold objS objB
  rw [if_pos ⟨h1, h2⟩, h1, h2]; exact ⟨rfl, rfl⟩
theorem text_obj0 (t : Tu) (h : t.us = e0) {O S : ByteArray} (hO : O = t.ot ++ ⟨#[58]⟩ ++ t.oi) (hS : S = t.st ++ ⟨#[58]⟩ ++ t.si) : O ++ ⟨#[35]⟩ ++ t.re ++ ⟨#[64]⟩ ++ S = textT t := by
  rw [← text_cat0 t h, hO, hS]; simp only [ByteArray.append_assoc]
theorem text_obj1 (t : Tu) (h : ¬ t.us = e0) {O S : ByteArray} (hO : O = t.ot ++ ⟨#[58]⟩ ++ t.oi) (hS : S = t.st ++ ⟨#[58]⟩ ++ t.si) : O ++ ⟨#[35]⟩ ++ t.re ++ ⟨#[64]⟩ ++ S ++ (⟨#[35]⟩ ++ t.us) = textT t := by
  rw [← text_cat1 t h, hO, hS]; simp only [ByteArray.append_assoc]
set_option maxRecDepth 100000 in
set_option maxHeartbeats 1000000 in
theorem rtextT_any (t : Tu) (h : sizesT t 1000000) (w : World) : Calls Tryz.prog 21 #[tuV t] w fun e w' => e = .returned (.string (textT t)) ∧ Below w.heap.size w w' := by
  obtain ⟨h1, h2, h3, h4, h5, h6⟩ := h
  obtain ⟨c0, c1, c2, c3, c4, c5⟩ := tcells w t 25
  have HB := Lib.hid (below_tu w t 25)
  have g1 : (t.ot.size : Int) ≤ 1000000 := by omega
  have g2 : (t.oi.size : Int) ≤ 1000000 := by omega
  have g3 : (t.re.size : Int) ≤ 1000000 := by omega
  have g4 : (t.st.size : Int) ≤ 1000000 := by omega
  have g5 : (t.si.size : Int) ≤ 1000000 := by omega
  have g6 : (t.us.size : Int) ≤ 1000000 := by omega
  clear h1 h2 h3 h4 h5 h6
  by_cases hu : t.us = e0
  · have HT := Lib.hid (text_cat0 t hu)
    rw [hu] at c5
    unfold e0 at c5
    clear hu
    go_enter Tryz.func21, Tryz.ntmps21
    go_wp2_with fail
    go_ret
    exact ⟨by rw [← HT.out]; rfl, HB.out⟩
  · have HT := Lib.hid (text_cat1 t hu)
    obtain ⟨n1, n2⟩ := empty_ne hu
    clear hu
    go_enter Tryz.func21, Tryz.ntmps21
    go_wp2_with fail
    go_ret
    exact ⟨by rw [← HT.out]; rfl, HB.out⟩
set_option maxRecDepth 100000 in
theorem text_no (t : Tu) (ht : rightT t = false) (w : World) (h : Env w) : Calls Tryz.prog 15 #[tuV t] w fun e w' => e = .returned (.tuple #[.string ⟨#[]⟩, .bool false]) ∧ Below w.heap.size w w' := by
  have b0 := below_tu w t 25
  have HB0 := Lib.hid b0
  have HA0 := Lib.hid (tu_new w t)
  have HR := Lib.hid (h.1.below b0 h.1.lt)
  have HY := Lib.hid ht
  clear b0 h ht
  go_enter Tryz.func15, Tryz.ntmps15
  go_wp2_with ((with_reducible refine loadT (x := .tmp 1) (o := ⟨some _, _, _, _, _, _⟩) HA0.out ?_ ?_); exact ⟨rfl, rfl, rfl⟩)
  refine (right_any' t _ HR.out).mono ?_
  rintro e w1 ⟨rfl, b1⟩
  rw [HY.out]
  have HB1 := Lib.hid (HB0.out.trans (b1.mono HB0.out.size))
  clear b1
  go_wp2_with fail
  go_ret2
  exact ⟨rfl, HB1.out⟩
set_option maxRecDepth 100000 in
set_option maxHeartbeats 1000000 in
theorem text_yes (t : Tu) (ht : rightT t = true) (w : World) (h : Env w) : Calls Tryz.prog 15 #[tuV t] w fun e w' => e = .returned (.tuple #[.string (textT t), .bool true]) ∧ Below w.heap.size w w' := by
  have b0 := below_tu w t 25
  have HB0 := Lib.hid b0
  have HA0 := Lib.hid (tu_new w t)
  have HE := Lib.hid (h.below b0)
  have HY := Lib.hid ht
  have HZ := Lib.hid (sizes_right ht)
  obtain ⟨r1, r2, r3, r4, r5, r6⟩ := rightT_all ht
  have HO := Lib.hid (objS_yes r1 r2)
  have HS := Lib.hid (objS_yes r4 r5)
  have HU := Lib.hid (And.intro (text_obj0 t) (text_obj1 t))
  clear b0 h ht r1 r2 r3 r4 r5 r6
  go_enter Tryz.func15, Tryz.ntmps15
  go_wp2_with ((with_reducible refine loadT (x := .tmp 1) (o := ⟨some _, _, _, _, _, _⟩) HA0.out ?_ ?_); exact ⟨rfl, rfl, rfl⟩)
  refine (right_any' t _ HE.out.1).mono ?_
  rintro e w1 ⟨rfl, b1⟩
  rw [HY.out]
  have HB1 := Lib.hid (HB0.out.trans (b1.mono HB0.out.size))
  have HX1 := Lib.hid (HA0.out.later b1)
  have HE1 := Lib.hid (HE.out.below b1)
  clear b1 HB0 HA0 HE
  obtain ⟨c0, c1, c2, c3, c4, c5⟩ := TuAt.cells HX1.out
  go_wp2_with fail
  refine (object_any t.ot t.oi _ HE1.out (by have := HZ.out.1; omega) (by have := HZ.out.2.1; omega)).mono ?_
  rintro e w2 ⟨rfl, b2⟩
  rw [HO.out.2, HO.out.1]
  have HB2 := Lib.hid (HB1.out.trans (b2.mono HB1.out.size))
  have HX2 := Lib.hid (HX1.out.later b2)
  have HE2 := Lib.hid (HE1.out.below b2)
  clear b2 HB1 HX1 HE1 c0 c1 c2 c3 c4 c5
  obtain ⟨O, hO⟩ : ∃ O, O = t.ot ++ ⟨#[58]⟩ ++ t.oi := ⟨_, rfl⟩
  have hOs : (O.size : Int) ≤ 1000 := by
    have : O.size = t.ot.size + 1 + t.oi.size := by rw [hO, ByteArray.size_append, ByteArray.size_append]; rfl
    have := HZ.out
    unfold sizesT at this
    omega
  rw [← hO]
  have HOE := Lib.hid hO
  clear hO
  obtain ⟨c0, c1, c2, c3, c4, c5⟩ := TuAt.cells HX2.out
  go_wp2_with fail
  refine (object_any t.st t.si _ HE2.out (by have := HZ.out.2.2.2.1; omega) (by have := HZ.out.2.2.2.2.1; omega)).mono ?_
  rintro e w3 ⟨rfl, b3⟩
  rw [HS.out.2, HS.out.1]
  have HB3 := Lib.hid (HB2.out.trans (b3.mono HB2.out.size))
  have HX3 := Lib.hid (HX2.out.later b3)
  clear b3 HB2 HX2 HE2 c0 c1 c2 c3 c4 c5
  obtain ⟨S, hS⟩ : ∃ S, S = t.st ++ ⟨#[58]⟩ ++ t.si := ⟨_, rfl⟩
  have hSs : (S.size : Int) ≤ 1000 := by
    have : S.size = t.st.size + 1 + t.si.size := by rw [hS, ByteArray.size_append, ByteArray.size_append]; rfl
    have := HZ.out
    unfold sizesT at this
    omega
  rw [← hS]
  have HSE := Lib.hid hS
  clear hS
  have z2 : (t.re.size : Int) ≤ 128 := by have := HZ.out.2.2.1; omega
  have z5 : (t.us.size : Int) ≤ 128 := by have := HZ.out.2.2.2.2.2; omega
  obtain ⟨c0, c1, c2, c3, c4, c5⟩ := TuAt.cells HX3.out
  clear c0 c1 c3 c4 HO HS
  by_cases hu : t.us = e0
  · have HT := Lib.hid (HU.out.1 hu HOE.out HSE.out)
    rw [hu] at c5
    unfold e0 at c5
    clear hu
    go_wp2_with fail
    go_ret2
    exact ⟨by rw [← HT.out]; rfl, HB3.out⟩
  · have HT := Lib.hid (HU.out.2 hu HOE.out HSE.out)
    obtain ⟨n1, n2⟩ := empty_ne hu
    clear hu
    go_wp2_with fail
    go_ret2
    exact ⟨by rw [← HT.out]; rfl, HB3.out⟩
end Go.Proofs.YtnnebfcggdbgpaaGreatDoor
