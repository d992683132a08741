/-
  expr.part's methods; expr.checkOf.
-/
import Derived.Test.YtigphejoekfclaaDoorExG
namespace Go.Proofs.YtigphejoekfclaaDoor
open Go.ChangeShapes Go.WideShapes Go.ChangeAt Go.RowKit
set_option linter.unusedVariables false

set_option maxRecDepth 100000 in
set_option maxHeartbeats 1000000 in
theorem nameless_any (k : Int) (xv xn : List UInt8) (q : Option Addr) (m c : Nat) (w : World) : Calls Tryd.prog 62 #[.agg #[.int .i64 k, .string (bstr xv), .string (bstr xn), .slice q m c]] w fun r w' => r = .returned (.bool (decide (xn = []) && decide (xv = []))) ∧ Below w.heap.size w w' := by
  have HB0 : Hid (Below w.heap.size w (w.alloc (.cells #[.int .i64 k, .string (bstr xv), .string (bstr xn), .slice q m c] 51))) := (Below.refl _ _).alloc (Nat.le_refl _) _
  by_cases hn : xn = []
  · by_cases hv : xv = []
    · have HP : Hid ((decide (xn = []) && decide (xv = [])) = true) := by show _ = _; simp [*]
      have en := bstr_nil hn
      have ev := bstr_nil hv
      clear hn hv
      go_enter Tryd.func62, Tryd.ntmps62
      go_wp2_with fail
      go_ret
      exact ⟨by rw [HP.out]; rfl, HB0.out⟩
    · have HP : Hid ((decide (xn = []) && decide (xv = [])) = false) := by show _ = _; simp [*]
      have en := bstr_nil hn
      have ev := bstr_nnil hv
      clear hn hv
      go_enter Tryd.func62, Tryd.ntmps62
      go_wp2_with fail
      go_ret
      exact ⟨by rw [HP.out]; rfl, HB0.out⟩
  · have HP : Hid ((decide (xn = []) && decide (xv = [])) = false) := by show _ = _; simp [*]
    have en := bstr_nnil hn
    clear hn
    go_enter Tryd.func62, Tryd.ntmps62
    go_wp2_with fail
    go_ret
    exact ⟨by rw [HP.out]; rfl, HB0.out⟩
set_option maxRecDepth 100000 in
set_option maxHeartbeats 1000000 in
theorem isNothing_any (k : Int) (xv xn : List UInt8) (q : Option Addr) (m c : Nat) (w : World) : Calls Tryd.prog 56 #[.agg #[.int .i64 k, .string (bstr xv), .string (bstr xn), .slice q m c]] w fun r w' => r = .returned (.bool (false)) ∧ Below w.heap.size w w' := by
  have HB0 : Hid (Below w.heap.size w (w.alloc (.cells #[.int .i64 k, .string (bstr xv), .string (bstr xn), .slice q m c] 51))) := (Below.refl _ _).alloc (Nat.le_refl _) _
  go_enter Tryd.func56, Tryd.ntmps56
  go_wp2_with fail
  go_ret
  exact ⟨rfl, HB0.out⟩
set_option maxRecDepth 100000 in
set_option maxHeartbeats 1000000 in
theorem isMany_any (k : Int) (xv xn : List UInt8) (q : Option Addr) (m c : Nat) (w : World) : Calls Tryd.prog 54 #[.agg #[.int .i64 k, .string (bstr xv), .string (bstr xn), .slice q m c]] w fun r w' => r = .returned (.bool ((decide (xn = []) && decide (xv = [])) && decide (2 ≤ m))) ∧ Below w.heap.size w w' := by
  have HB0 : Hid (Below w.heap.size w (w.alloc (.cells #[.int .i64 k, .string (bstr xv), .string (bstr xn), .slice q m c] 51))) := (Below.refl _ _).alloc (Nat.le_refl _) _
  have HA0 : Hid (Arr (w.alloc (.cells #[.int .i64 k, .string (bstr xv), .string (bstr xn), .slice q m c] 51)) 51 w.heap.size [.int .i64 k, .string (bstr xv), .string (bstr xn), .slice q m c]) := Arr.new' _ _ _ _ rfl
  have HC := Lib.hid (nameless_any k xv xn q m c (w.alloc (.cells #[.int .i64 k, .string (bstr xv), .string (bstr xn), .slice q m c] 51)))
  obtain ⟨E, hE⟩ : ∃ E, E = (decide (xn = []) && decide (xv = [])) := ⟨_, rfl⟩
  rw [← hE] at HC ⊢
  clear hE
  cases E with
  | false =>
    have HP : Hid ((false && decide (2 ≤ m)) = false) := by show _ = _; simp [*]
    go_enter Tryd.func54, Tryd.ntmps54
    go_wp2_with fail
    refine HC.out.mono ?_
    rintro r w2 ⟨rfl, b2⟩
    have HB2 := Lib.hid (HB0.out.trans (b2.mono HB0.out.size))
    have hq3 := (HA0.out.later b2).cell 3
    simp only [List.getElem?_cons_zero, List.getElem?_cons_succ] at hq3
    clear b2
    go_wp2_with fail
    go_ret
    exact ⟨by rw [HP.out]; first | rfl | exact congrArg (fun b => Ending.returned (.bool b)) (decide_eq_false (by omega)), HB2.out⟩
  | true =>
    by_cases hg : 2 ≤ m
    · have HP : Hid ((true && decide (2 ≤ m)) = true) := by show _ = _; simp [*]
      have bg : (2 : Int) ≤ m := by omega
      clear hg
      go_enter Tryd.func54, Tryd.ntmps54
      go_wp2_with fail
      refine HC.out.mono ?_
      rintro r w2 ⟨rfl, b2⟩
      have HB2 := Lib.hid (HB0.out.trans (b2.mono HB0.out.size))
      have hq3 := (HA0.out.later b2).cell 3
      simp only [List.getElem?_cons_zero, List.getElem?_cons_succ] at hq3
      clear b2
      go_wp2_with fail
      go_ret
      exact ⟨by rw [HP.out]; first | rfl | exact congrArg (fun b => Ending.returned (.bool b)) (decide_eq_false (by omega)), HB2.out⟩
    · have HP : Hid ((true && decide (2 ≤ m)) = false) := by show _ = _; simp [*]
      have bg : ¬ (2 : Int) ≤ m := by omega
      clear hg
      go_enter Tryd.func54, Tryd.ntmps54
      go_wp2_with fail
      refine HC.out.mono ?_
      rintro r w2 ⟨rfl, b2⟩
      have HB2 := Lib.hid (HB0.out.trans (b2.mono HB0.out.size))
      have hq3 := (HA0.out.later b2).cell 3
      simp only [List.getElem?_cons_zero, List.getElem?_cons_succ] at hq3
      clear b2
      go_wp2_with fail
      go_ret
      exact ⟨by rw [HP.out]; first | rfl | exact congrArg (fun b => Ending.returned (.bool b)) (decide_eq_false (by omega)), HB2.out⟩
set_option maxRecDepth 100000 in
set_option maxHeartbeats 1000000 in
theorem isPair_any (k : Int) (xv xn : List UInt8) (q : Option Addr) (m c : Nat) (w : World) : Calls Tryd.prog 55 #[.agg #[.int .i64 k, .string (bstr xv), .string (bstr xn), .slice q m c]] w fun r w' => r = .returned (.bool ((decide (xn = []) && decide (xv = [])) && decide (m = 2))) ∧ Below w.heap.size w w' := by
  have HB0 : Hid (Below w.heap.size w (w.alloc (.cells #[.int .i64 k, .string (bstr xv), .string (bstr xn), .slice q m c] 51))) := (Below.refl _ _).alloc (Nat.le_refl _) _
  have HA0 : Hid (Arr (w.alloc (.cells #[.int .i64 k, .string (bstr xv), .string (bstr xn), .slice q m c] 51)) 51 w.heap.size [.int .i64 k, .string (bstr xv), .string (bstr xn), .slice q m c]) := Arr.new' _ _ _ _ rfl
  have HC := Lib.hid (nameless_any k xv xn q m c (w.alloc (.cells #[.int .i64 k, .string (bstr xv), .string (bstr xn), .slice q m c] 51)))
  obtain ⟨E, hE⟩ : ∃ E, E = (decide (xn = []) && decide (xv = [])) := ⟨_, rfl⟩
  rw [← hE] at HC ⊢
  clear hE
  cases E with
  | false =>
    have HP : Hid ((false && decide (m = 2)) = false) := by show _ = _; simp [*]
    go_enter Tryd.func55, Tryd.ntmps55
    go_wp2_with fail
    refine HC.out.mono ?_
    rintro r w2 ⟨rfl, b2⟩
    have HB2 := Lib.hid (HB0.out.trans (b2.mono HB0.out.size))
    have hq3 := (HA0.out.later b2).cell 3
    simp only [List.getElem?_cons_zero, List.getElem?_cons_succ] at hq3
    clear b2
    go_wp2_with fail
    go_ret
    exact ⟨by rw [HP.out]; first | rfl | exact congrArg (fun b => Ending.returned (.bool b)) (decide_eq_false (by omega)), HB2.out⟩
  | true =>
    by_cases ht : m = 2
    · have HP : Hid ((true && decide (m = 2)) = true) := by show _ = _; simp [*]
      have bt : ((m : Int) == 2) = true := by rw [ht]; rfl
      clear ht
      go_enter Tryd.func55, Tryd.ntmps55
      go_wp2_with fail
      refine HC.out.mono ?_
      rintro r w2 ⟨rfl, b2⟩
      have HB2 := Lib.hid (HB0.out.trans (b2.mono HB0.out.size))
      have hq3 := (HA0.out.later b2).cell 3
      simp only [List.getElem?_cons_zero, List.getElem?_cons_succ] at hq3
      clear b2
      go_wp2_with fail
      go_ret
      exact ⟨by rw [HP.out]; first | rfl | exact congrArg (fun b => Ending.returned (.bool b)) (decide_eq_false (by omega)), HB2.out⟩
    · have HP : Hid ((true && decide (m = 2)) = false) := by show _ = _; simp [*]
      have bt : ((m : Int) == 2) = false := by rw [beq_eq_false_iff_ne]; omega
      clear ht
      go_enter Tryd.func55, Tryd.ntmps55
      go_wp2_with fail
      refine HC.out.mono ?_
      rintro r w2 ⟨rfl, b2⟩
      have HB2 := Lib.hid (HB0.out.trans (b2.mono HB0.out.size))
      have hq3 := (HA0.out.later b2).cell 3
      simp only [List.getElem?_cons_zero, List.getElem?_cons_succ] at hq3
      clear b2
      go_wp2_with fail
      go_ret
      exact ⟨by rw [HP.out]; first | rfl | exact congrArg (fun b => Ending.returned (.bool b)) (decide_eq_false (by omega)), HB2.out⟩
set_option maxRecDepth 100000 in
set_option maxHeartbeats 1000000 in
theorem isRef_any (k : Int) (xv xn : List UInt8) (q : Option Addr) (m c : Nat) (w : World) (hr : ResT w) : Calls Tryd.prog 52 #[.agg #[.int .i64 k, .string (bstr xv), .string (bstr xn), .slice q m c]] w fun r w' => r = .returned (.bool (isName (bstr xn) && decide (xv = []) && decide (m = 0))) ∧ Below w.heap.size w w' := by
  have HA0 : Hid (Arr (w.alloc (.cells #[.int .i64 k, .string (bstr xv), .string (bstr xn), .slice q m c] 51)) 51 w.heap.size [.int .i64 k, .string (bstr xv), .string (bstr xn), .slice q m c]) := Arr.new' _ _ _ _ rfl
  have HB0 : Hid (Below w.heap.size w (w.alloc (.cells #[.int .i64 k, .string (bstr xv), .string (bstr xn), .slice q m c] 51))) := (Below.refl _ _).alloc (Nat.le_refl _) _
  have HRS : Hid (ResT (w.alloc (.cells #[.int .i64 k, .string (bstr xv), .string (bstr xn), .slice q m c] 51))) := hr.below HB0.out hr.lt
  clear hr
  have HC := Lib.hid (isName_any (bstr xn) (w.alloc (.cells #[.int .i64 k, .string (bstr xv), .string (bstr xn), .slice q m c] 51)) HRS.out)
  obtain ⟨E, hE⟩ : ∃ E, E = isName (bstr xn) := ⟨_, rfl⟩
  rw [← hE] at HC ⊢
  clear hE
  cases E with
  | false =>
    have HP : Hid ((false && decide (xv = []) && decide (m = 0)) = false) := by show _ = _; simp [*]
    go_enter Tryd.func52, Tryd.ntmps52
    go_wp2_with fail
    refine HC.out.mono ?_
    rintro r w2 ⟨rfl, b2⟩
    have HB2 := Lib.hid (HB0.out.trans (b2.mono HB0.out.size))
    have HA2 := (HA0.out.later b2)
    have hq1 := HA2.cell 1
    have hq3 := HA2.cell 3
    simp only [List.getElem?_cons_zero, List.getElem?_cons_succ] at hq1 hq3
    clear b2 HA2
    go_wp2_with fail
    go_ret
    exact ⟨by rw [HP.out]; rfl, HB2.out⟩
  | true =>
    by_cases hv : xv = []
    · by_cases hz : m = 0
      · have HP : Hid ((true && decide (xv = []) && decide (m = 0)) = true) := by show _ = _; simp [*]
        have ev := bstr_nil hv
        have bz : ((m : Int) == 0) = true := by rw [hz]; rfl
        clear hv hz
        go_enter Tryd.func52, Tryd.ntmps52
        go_wp2_with fail
        refine HC.out.mono ?_
        rintro r w2 ⟨rfl, b2⟩
        have HB2 := Lib.hid (HB0.out.trans (b2.mono HB0.out.size))
        have HA2 := (HA0.out.later b2)
        have hq1 := HA2.cell 1
        have hq3 := HA2.cell 3
        simp only [List.getElem?_cons_zero, List.getElem?_cons_succ] at hq1 hq3
        clear b2 HA2
        go_wp2_with fail
        go_ret
        exact ⟨by rw [HP.out]; rfl, HB2.out⟩
      · have HP : Hid ((true && decide (xv = []) && decide (m = 0)) = false) := by show _ = _; simp [*]
        have ev := bstr_nil hv
        have bz : ((m : Int) == 0) = false := by rw [beq_eq_false_iff_ne]; omega
        clear hv hz
        go_enter Tryd.func52, Tryd.ntmps52
        go_wp2_with fail
        refine HC.out.mono ?_
        rintro r w2 ⟨rfl, b2⟩
        have HB2 := Lib.hid (HB0.out.trans (b2.mono HB0.out.size))
        have HA2 := (HA0.out.later b2)
        have hq1 := HA2.cell 1
        have hq3 := HA2.cell 3
        simp only [List.getElem?_cons_zero, List.getElem?_cons_succ] at hq1 hq3
        clear b2 HA2
        go_wp2_with fail
        go_ret
        exact ⟨by rw [HP.out]; rfl, HB2.out⟩
    · have HP : Hid ((true && decide (xv = []) && decide (m = 0)) = false) := by show _ = _; simp [*]
      have ev := bstr_nnil hv
      clear hv
      go_enter Tryd.func52, Tryd.ntmps52
      go_wp2_with fail
      refine HC.out.mono ?_
      rintro r w2 ⟨rfl, b2⟩
      have HB2 := Lib.hid (HB0.out.trans (b2.mono HB0.out.size))
      have HA2 := (HA0.out.later b2)
      have hq1 := HA2.cell 1
      have hq3 := HA2.cell 3
      simp only [List.getElem?_cons_zero, List.getElem?_cons_succ] at hq1 hq3
      clear b2 HA2
      go_wp2_with fail
      go_ret
      exact ⟨by rw [HP.out]; rfl, HB2.out⟩
set_option maxRecDepth 100000 in
set_option maxHeartbeats 1000000 in
theorem isArrow_any (k : Int) (xv xn : List UInt8) (q : Option Addr) (m c : Nat) (w : World) (hr : ResT w) : Calls Tryd.prog 53 #[.agg #[.int .i64 k, .string (bstr xv), .string (bstr xn), .slice q m c]] w fun r w' => r = .returned (.bool (isName (bstr xn) && isName (bstr xv) && decide (m = 0))) ∧ Below w.heap.size w w' := by
  have HA0 : Hid (Arr (w.alloc (.cells #[.int .i64 k, .string (bstr xv), .string (bstr xn), .slice q m c] 51)) 51 w.heap.size [.int .i64 k, .string (bstr xv), .string (bstr xn), .slice q m c]) := Arr.new' _ _ _ _ rfl
  have HB0 : Hid (Below w.heap.size w (w.alloc (.cells #[.int .i64 k, .string (bstr xv), .string (bstr xn), .slice q m c] 51))) := (Below.refl _ _).alloc (Nat.le_refl _) _
  have HRS : Hid (ResT (w.alloc (.cells #[.int .i64 k, .string (bstr xv), .string (bstr xn), .slice q m c] 51))) := hr.below HB0.out hr.lt
  clear hr
  have HC := Lib.hid (isName_any (bstr xn) (w.alloc (.cells #[.int .i64 k, .string (bstr xv), .string (bstr xn), .slice q m c] 51)) HRS.out)
  have HV := Lib.hid (fun W h => isName_any (bstr xv) W h)
  obtain ⟨E, hE⟩ : ∃ E, E = isName (bstr xn) := ⟨_, rfl⟩
  rw [← hE] at HC ⊢
  clear hE
  obtain ⟨F, hF⟩ : ∃ F, F = isName (bstr xv) := ⟨_, rfl⟩
  rw [← hF] at HV ⊢
  clear hF
  cases E with
  | false =>
    have HP : Hid ((false && F && decide (m = 0)) = false) := by show _ = _; simp [*]
    go_enter Tryd.func53, Tryd.ntmps53
    go_wp2_with fail
    refine HC.out.mono ?_
    rintro r w2 ⟨rfl, b2⟩
    have HB2 := Lib.hid (HB0.out.trans (b2.mono HB0.out.size))
    have HA2 := Lib.hid (HA0.out.later b2)
    have HR2 := Lib.hid (HRS.out.below b2 HRS.out.lt)
    have hq1 := HA2.out.cell 1
    simp only [List.getElem?_cons_zero, List.getElem?_cons_succ] at hq1
    clear b2
    go_wp2_with fail
    go_ret
    exact ⟨by rw [HP.out]; rfl, HB2.out⟩
  | true =>
    cases F with
    | false =>
      have HP : Hid ((true && false && decide (m = 0)) = false) := by show _ = _; simp [*]
      go_enter Tryd.func53, Tryd.ntmps53
      go_wp2_with fail
      refine HC.out.mono ?_
      rintro r w2 ⟨rfl, b2⟩
      have HB2 := Lib.hid (HB0.out.trans (b2.mono HB0.out.size))
      have HA2 := Lib.hid (HA0.out.later b2)
      have HR2 := Lib.hid (HRS.out.below b2 HRS.out.lt)
      have hq1 := HA2.out.cell 1
      simp only [List.getElem?_cons_zero, List.getElem?_cons_succ] at hq1
      clear b2
      go_wp2_with fail
      refine (HV.out _ HR2.out).mono ?_
      rintro r w3 ⟨rfl, b3⟩
      have HB3 := Lib.hid (HB2.out.trans (b3.mono HB2.out.size))
      have hq3 := (HA2.out.later b3).cell 3
      simp only [List.getElem?_cons_zero, List.getElem?_cons_succ] at hq3
      clear b3
      go_wp2_with fail
      go_ret
      exact ⟨by rw [HP.out]; rfl, HB3.out⟩
    | true =>
      by_cases hz : m = 0
      · have HP : Hid ((true && true && decide (m = 0)) = true) := by show _ = _; simp [*]
        have bz : ((m : Int) == 0) = true := by rw [hz]; rfl
        clear hz
        go_enter Tryd.func53, Tryd.ntmps53
        go_wp2_with fail
        refine HC.out.mono ?_
        rintro r w2 ⟨rfl, b2⟩
        have HB2 := Lib.hid (HB0.out.trans (b2.mono HB0.out.size))
        have HA2 := Lib.hid (HA0.out.later b2)
        have HR2 := Lib.hid (HRS.out.below b2 HRS.out.lt)
        have hq1 := HA2.out.cell 1
        simp only [List.getElem?_cons_zero, List.getElem?_cons_succ] at hq1
        clear b2
        go_wp2_with fail
        refine (HV.out _ HR2.out).mono ?_
        rintro r w3 ⟨rfl, b3⟩
        have HB3 := Lib.hid (HB2.out.trans (b3.mono HB2.out.size))
        have hq3 := (HA2.out.later b3).cell 3
        simp only [List.getElem?_cons_zero, List.getElem?_cons_succ] at hq3
        clear b3
        go_wp2_with fail
        go_ret
        exact ⟨by rw [HP.out]; rfl, HB3.out⟩
      · have HP : Hid ((true && true && decide (m = 0)) = false) := by show _ = _; simp [*]
        have bz : ((m : Int) == 0) = false := by rw [beq_eq_false_iff_ne]; omega
        clear hz
        go_enter Tryd.func53, Tryd.ntmps53
        go_wp2_with fail
        refine HC.out.mono ?_
        rintro r w2 ⟨rfl, b2⟩
        have HB2 := Lib.hid (HB0.out.trans (b2.mono HB0.out.size))
        have HA2 := Lib.hid (HA0.out.later b2)
        have HR2 := Lib.hid (HRS.out.below b2 HRS.out.lt)
        have hq1 := HA2.out.cell 1
        simp only [List.getElem?_cons_zero, List.getElem?_cons_succ] at hq1
        clear b2
        go_wp2_with fail
        refine (HV.out _ HR2.out).mono ?_
        rintro r w3 ⟨rfl, b3⟩
        have HB3 := Lib.hid (HB2.out.trans (b3.mono HB2.out.size))
        have hq3 := (HA2.out.later b3).cell 3
        simp only [List.getElem?_cons_zero, List.getElem?_cons_succ] at hq3
        clear b3
        go_wp2_with fail
        go_ret
        exact ⟨by rw [HP.out]; rfl, HB3.out⟩
/-- The function that checks parts of a kind. -/
def chk (k : Int) : FuncId := if k = 1 then 52 else if k = 2 then 53 else if k = 3 ∨ k = 4 then 54 else if k = 5 then 55 else 56
theorem part_any (k : Int) (xv xn : List UInt8) (q : Option Addr) (m c : Nat) (w : World) (hr : ResT w) : Calls Tryd.prog (chk k) #[.agg #[.int .i64 k, .string (bstr xv), .string (bstr xn), .slice q m c]] w fun r w' => r = .returned (.bool (partB k xv xn m)) ∧ Below w.heap.size w w' := by
  unfold chk partB
  split
  · exact (isRef_any k xv xn q m c w hr).mono fun r w' ⟨h1, h2⟩ => ⟨by rw [h1]; congr 2; ac_rfl, h2⟩
  split
  · exact (isArrow_any k xv xn q m c w hr).mono fun r w' ⟨h1, h2⟩ => ⟨by rw [h1]; congr 2; ac_rfl, h2⟩
  split
  · exact (isMany_any k xv xn q m c w).mono fun r w' ⟨h1, h2⟩ => ⟨by rw [h1]; congr 2; ac_rfl, h2⟩
  split
  · exact (isPair_any k xv xn q m c w).mono fun r w' ⟨h1, h2⟩ => ⟨by rw [h1]; congr 2; ac_rfl, h2⟩
  · exact isNothing_any k xv xn q m c w
set_option maxRecDepth 100000 in
set_option maxHeartbeats 1000000 in
theorem checkOf_any (k : Int) (w : World) : Calls Tryd.prog 43 #[.int .i64 k] w fun r w' => r = .returned (.func (.func (chk k)) #[] #[]) ∧ w = w' := by
  by_cases h1 : k = 1
  · have HP : Hid (chk k = 52) := by show _ = _; unfold chk; simp [*]
    have b1 : (k == 1) = true := by rw [h1]; rfl
    clear h1
    go_enter Tryd.func43, Tryd.ntmps43
    go_wp2_with fail
    go_ret
    exact ⟨by rw [HP.out]; rfl, rfl⟩
  · by_cases h2 : k = 2
    · have HP : Hid (chk k = 53) := by show _ = _; unfold chk; simp [*]
      have b1 : (k == 1) = false := by rw [beq_eq_false_iff_ne]; exact h1
      have b2 : (k == 2) = true := by rw [h2]; rfl
      clear h1 h2
      go_enter Tryd.func43, Tryd.ntmps43
      go_wp2_with fail
      go_ret
      exact ⟨by rw [HP.out]; rfl, rfl⟩
    · by_cases h3 : k = 3
      · have HP : Hid (chk k = 54) := by show _ = _; unfold chk; simp [*]
        have b1 : (k == 1) = false := by rw [beq_eq_false_iff_ne]; exact h1
        have b2 : (k == 2) = false := by rw [beq_eq_false_iff_ne]; exact h2
        have b3 : (k == 3) = true := by rw [h3]; rfl
        clear h1 h2 h3
        go_enter Tryd.func43, Tryd.ntmps43
        go_wp2_with fail
        go_ret
        exact ⟨by rw [HP.out]; rfl, rfl⟩
      · by_cases h4 : k = 4
        · have HP : Hid (chk k = 54) := by show _ = _; unfold chk; simp [*]
          have b1 : (k == 1) = false := by rw [beq_eq_false_iff_ne]; exact h1
          have b2 : (k == 2) = false := by rw [beq_eq_false_iff_ne]; exact h2
          have b3 : (k == 3) = false := by rw [beq_eq_false_iff_ne]; exact h3
          have b4 : (k == 4) = true := by rw [h4]; rfl
          clear h1 h2 h3 h4
          go_enter Tryd.func43, Tryd.ntmps43
          go_wp2_with fail
          go_ret
          exact ⟨by rw [HP.out]; rfl, rfl⟩
        · by_cases h5 : k = 5
          · have HP : Hid (chk k = 55) := by show _ = _; unfold chk; simp [*]
            have b1 : (k == 1) = false := by rw [beq_eq_false_iff_ne]; exact h1
            have b2 : (k == 2) = false := by rw [beq_eq_false_iff_ne]; exact h2
            have b3 : (k == 3) = false := by rw [beq_eq_false_iff_ne]; exact h3
            have b4 : (k == 4) = false := by rw [beq_eq_false_iff_ne]; exact h4
            have b5 : (k == 5) = true := by rw [h5]; rfl
            clear h1 h2 h3 h4 h5
            go_enter Tryd.func43, Tryd.ntmps43
            go_wp2_with fail
            go_ret
            exact ⟨by rw [HP.out]; rfl, rfl⟩
          · have HP : Hid (chk k = 56) := by show _ = _; unfold chk; simp [*]
            have b1 : (k == 1) = false := by rw [beq_eq_false_iff_ne]; exact h1
            have b2 : (k == 2) = false := by rw [beq_eq_false_iff_ne]; exact h2
            have b3 : (k == 3) = false := by rw [beq_eq_false_iff_ne]; exact h3
            have b4 : (k == 4) = false := by rw [beq_eq_false_iff_ne]; exact h4
            have b5 : (k == 5) = false := by rw [beq_eq_false_iff_ne]; exact h5
            clear h1 h2 h3 h4 h5
            go_enter Tryd.func43, Tryd.ntmps43
            go_wp2_with fail
            go_ret
            exact ⟨by rw [HP.out]; rfl, rfl⟩
end Go.Proofs.YtigphejoekfclaaDoor
