/-
  Which expressions are right; vestryref10.right.
-/
import Derived.Test.YteieimchleioaaaDoorMl0
import Derived.RangeFuncFrom
import Derived.OrdersHeld
import Derived.OrdersIn
import Derived.OwnWalkIn
import Derived.RangeFuncCalls
import Derived.WalkKit
import Derived.RangeFuncNested
import Derived.RangeFuncBound
import Derived.RangeFuncLeaves
import Derived.Shelf.Abstract
import Derived.Shelf.RegionOpen
import Derived.WalkMore
import Derived.TacticsInMore
import Derived.LoopNIn
import Derived.LoopIn
import Derived.Deep.Cut
import Derived.Deep.CutBlock
import Derived.Lib.Small
import Derived.Lib.Bytealg
import Derived.Deep.QuietTactic
import Derived.Test.YteieimchleioaaaDoorProg
import Derived.LaidEql
import Derived.Stop.Asserts
import Derived.RowKitTokens
namespace Go.Proofs.YteieimchleioaaaDoor
open Go.ChangeShapes Go.WideShapes Go.ChangeAt Go.RowKit
set_option linter.unusedVariables false

/-- A part is right, its kids apart: m, how many they are. -/
def partB (k : Int) (v n : List UInt8) (m : Nat) : Bool :=
 if k = 1 then decide (m = 0) && decide (v = []) && isName (bstr n)
 else if k = 2 then decide (m = 0) && isName (bstr v) && isName (bstr n)
 else if k = 3 ∨ k = 4 then decide (2 ≤ m) && decide (v = []) && decide (n = [])
 else if k = 5 then decide (m = 2) && decide (v = []) && decide (n = [])
 else false
mutual
def formE : Ex → Bool
 | .mk k v n ks => partB k v n ks.length && formL ks
def formL : List Ex → Bool
 | [] => true
 | e :: r => formE e && formL r
end
theorem good_all : ∀ {ks : List Ex} {d : Nat}, (∀ j, j < ks.length → (decide (depthE (ks.getD j ex0) ≤ d) && formE (ks.getD j ex0)) = true) → depthL ks ≤ d ∧ formL ks = true
 | [], d, _ => ⟨by unfold depthL; omega, rfl⟩
 | e :: r, d, h => by
  have h0 := h 0 (by simp)
  simp only [List.getD_cons_zero, Bool.and_eq_true, decide_eq_true_eq] at h0
  obtain ⟨g1, g2⟩ := good_all (ks := r) (d := d) (fun j hj => by have := h (j + 1) (by simpa using hj); simpa using this)
  unfold depthL formL
  exact ⟨by omega, by rw [h0.2, g2]; rfl⟩
theorem formL_get : ∀ {ks : List Ex} {j : Nat}, j < ks.length → formL ks = true → formE (ks.getD j ex0) = true
 | [], _, h, _ => by simp at h
 | e :: r, 0, _, h => by unfold formL at h; simp only [Bool.and_eq_true] at h; exact h.1
 | e :: r, j + 1, hj, h => by unfold formL at h; simp only [Bool.and_eq_true] at h; exact formL_get (j := j) (by simpa using hj) h.2
theorem bad_one {k : Int} {v n : List UInt8} {ks : List Ex} {d j : Nat} (hj : j < ks.length) (h : (decide (depthE (ks.getD j ex0) ≤ d) && formE (ks.getD j ex0)) = false) : (decide (depthE (.mk k v n ks) ≤ d + 1) && formE (.mk k v n ks)) = false := by
 rw [Bool.eq_false_iff] at h ⊢
 intro e
 simp only [Bool.and_eq_true, decide_eq_true_eq] at e
 refine h ?_
 simp only [Bool.and_eq_true, decide_eq_true_eq]
 obtain ⟨e1, e2⟩ := e
 unfold depthE at e1
 unfold formE at e2
 simp only [Bool.and_eq_true] at e2
 have := depthL_get ks j hj
 exact ⟨by omega, formL_get hj e2.2⟩
theorem all_good {k : Int} {v n : List UInt8} {ks : List Ex} {d : Nat} (h : ∀ j, j < ks.length → (decide (depthE (ks.getD j ex0) ≤ d) && formE (ks.getD j ex0)) = true) : (decide (depthE (.mk k v n ks) ≤ d + 1) && formE (.mk k v n ks)) = partB k v n ks.length := by
 obtain ⟨h1, h2⟩ := good_all h
 unfold depthE formE
 rw [h2, decide_eq_true (by omega)]; simp
theorem bstr_nil {l : List UInt8} (h : l = []) : ((bstr l).toList == []) = true := by rw [toList_data, bstr_data, h]; rfl
theorem bstr_nnil {l : List UInt8} (h : ¬ l = []) : ((bstr l).toList == []) = false := by rw [toList_data, bstr_data, beq_eq_false_iff_ne]; exact h
set_option maxRecDepth 100000 in
set_option maxHeartbeats 8000000 in
theorem rright_any : ∀ (d : Nat) (e : Ex) (v : Value) (P : Nat → Prop) (w : World), d ≤ 31 → okE 100000 e → sizeE e ≤ 900000 → RdE P w e v → (∀ b, P b → b < w.heap.size) → Calls Tryd.prog 27 #[v, .int .i64 (d : Nat)] w fun r w' => r = .returned (.bool (decide (depthE e ≤ d) && formE e)) ∧ Below w.heap.size w w' := by
 intro d
 induction d with
 | zero =>
  intro e v P w _ hok hm h hP
  have HD : Hid ((decide (depthE e ≤ 0) && formE e) = false) := by show _ = _; have := depthE_pos e; rw [decide_eq_false (by omega)]; rfl
  rw [HD.out]
  obtain ⟨q, c, rfl, hc, hk⟩ := h.form
  obtain ⟨k, xv, xn, ks⟩ := e
  unfold exv
  show Calls _ _ #[.agg #[.int .i64 k, .string (bstr xv), .string (bstr xn), .slice q ks.length c], .int .i64 0] _ _
  have HK : Hid (0 < ks.length → ∃ b o, q = some ⟨b, o, none⟩ ∧ P b ∧ RdL P w ks b o) := hk
  have HB0 : Hid (Below w.heap.size w (w.alloc (.cells #[.int .i64 k, .string (bstr xv), .string (bstr xn), .slice q ks.length c] 25))) := (Below.refl _ _).alloc (Nat.le_refl _) _
  clear h hc hk hok hm
  go_enter Tryd.func27, Tryd.ntmps27
  go_wp2_with fail
  go_ret
  exact ⟨rfl, HB0.out⟩
 | succ d ih =>
  intro e v P w hd hok hm h hP
  obtain ⟨q, c, rfl, hc, hk⟩ := h.form
  obtain ⟨k, xv, xn, ks⟩ := e
  unfold exv
  show Calls _ _ #[.agg #[.int .i64 k, .string (bstr xv), .string (bstr xn), .slice q ks.length c], .int .i64 ((d + 1 : Nat) : Int)] _ _
  have HK : Hid (0 < ks.length → ∃ b o, q = some ⟨b, o, none⟩ ∧ P b ∧ RdL P w ks b o) := hk
  unfold okE at hok
  have HOK := Lib.hid hok.2.2
  have HIH := Lib.hid ih
  have hv1 : (bstr xv).size ≤ 1000000 := by rw [bstr_size]; omega
  have hn1 : (bstr xn).size ≤ 1000000 := by rw [bstr_size]; omega
  have HV := Lib.hid (fun W => risName_any (bstr xv) hv1 W)
  have HN := Lib.hid (fun W => risName_any (bstr xn) hn1 W)
  have hkm : sizeL ks ≤ 900000 := by unfold sizeE at hm; omega
  have hlen := sizeL_len ks
  have bd0 : ((d : Int) + 1 == 0) = false := by rw [beq_eq_false_iff_ne]; omega
  have hd1 : (d : Int) ≤ 30 := by omega
  rw [show ((d + 1 : Nat) : Int) = (d : Int) + 1 by omega]
  have HB0 : Hid (Below w.heap.size w (w.alloc (.cells #[.int .i64 k, .string (bstr xv), .string (bstr xn), .slice q ks.length c] 25))) := (Below.refl _ _).alloc (Nat.le_refl _) _
  have HA0 : Hid (Arr (w.alloc (.cells #[.int .i64 k, .string (bstr xv), .string (bstr xn), .slice q ks.length c] 25)) 25 w.heap.size [.int .i64 k, .string (bstr xv), .string (bstr xn), .slice q ks.length c]) := Arr.new' _ _ _ _ rfl
  clear h ih hc hk hok hm hv1 hn1
  go_enter Tryd.func27, Tryd.ntmps27
  go_wp2_with fail
  go_loopw [6] (fun iv wr => ∃ i : Nat, i ≤ ks.length ∧ iv = .int .i64 i ∧ Hid (∀ j, j < i → (decide (depthE (ks.getD j ex0) ≤ d) && formE (ks.getD j ex0)) = true) ∧ Hid (Below w.heap.size w wr ∧ Arr wr 25 w.heap.size [.int .i64 k, .string (bstr xv), .string (bstr xn), .slice q ks.length c])) (fun iv _ => ks.length - (intOf iv).toNat)
  case atStart => exact ⟨0, Nat.zero_le _, rfl, fun j hj => absurd hj (Nat.not_lt_zero _), HB0.out, HA0.out⟩
  case round =>
   obtain ⟨i, hi, rfl, HG, HI2⟩ := hrel
   have HI := Lib.hid HI2.out.1
   have HAI := Lib.hid HI2.out.2
   have hq0 := HAI.out.cell 0
   have hq1 := HAI.out.cell 1
   have hq2 := HAI.out.cell 2
   have hq3 := HAI.out.cell 3
   simp only [List.getElem?_cons_zero, List.getElem?_cons_succ] at hq0 hq1 hq2 hq3
   have hi0 : (0 : Int) ≤ i := by omega
   clear HI2
   by_cases hlt : i < ks.length
   ·have hi1 : (i : Int) < ks.length := by omega
    obtain ⟨ba, oa, rfl, hba, hl⟩ := HK.out (by omega)
    obtain ⟨x, hx⟩ : ∃ x, x = ks.getD i ex0 := ⟨_, rfl⟩
    obtain ⟨q2, c2, x0, x1, x2, x3, hr⟩ := hl.at hlt
    have hxs := sizeL_get ks i hlt
    have hxd := depthL_get ks i hlt
    rw [← hx] at x0 x1 x2 x3 hr hxs hxd
    have HX := Lib.hid hx
    obtain ⟨xk, xv2, xn2, xs⟩ := x
    have cc : ∀ n, wr.cell? ⟨ba, n, none⟩ = w.cell? ⟨ba, n, none⟩ := fun n => (HI.out).cell (p := ⟨ba, n, none⟩) (hP _ hba)
    have X0 : wr.cell? ⟨ba, oa + i * 4, none⟩ = some (.int .i64 xk) := (cc _).trans x0
    have X1 : wr.cell? ⟨ba, oa + i * 4 + 1, none⟩ = some (.string (bstr xv2)) := (cc _).trans x1
    have X2 : wr.cell? ⟨ba, oa + i * 4 + 2, none⟩ = some (.string (bstr xn2)) := (cc _).trans x2
    have X3 : wr.cell? ⟨ba, oa + i * 4 + 3, none⟩ = some (.slice q2 xs.length c2) := (cc _).trans x3
    clear x0 x1 x2 x3 cc hx
    have HR : Hid (RdE P wr (.mk xk xv2 xn2 xs) (.agg #[.int .i64 xk, .string (bstr xv2), .string (bstr xn2), .slice q2 xs.length c2])) := hr.below (HI.out) hP
    have HC := Lib.hid (HIH.out (.mk xk xv2 xn2 xs) _ P _ (by omega) (HX.out ▸ okL_get HOK.out hlt) (by omega) HR.out (fun b hb => Nat.lt_of_lt_of_le (hP b hb) HI.out.size))
    obtain ⟨E, hE⟩ : ∃ E, E = (decide (depthE (.mk xk xv2 xn2 xs) ≤ d) && formE (.mk xk xv2 xn2 xs)) := ⟨_, rfl⟩
    rw [← hE] at HC
    have HED := Lib.hid hE
    have HLT : Hid (i < ks.length) := hlt
    clear hl hr hxs hxd hE
    go_wp2_with fail
    refine HC.out.mono ?_
    rintro r w5 ⟨rfl, b5⟩
    have HB5 := Lib.hid (HI.out.trans (b5.mono HI.out.size))
    have HA5 := Lib.hid (HAI.out.later b5)
    clear b5
    cases hEb : E with
    | false =>
     have HBD : Hid ((decide (depthE (.mk k xv xn ks) ≤ d + 1) && formE (.mk k xv xn ks)) = false) := bad_one HLT.out (by rw [← HX.out, ← HED.out, hEb])
     clear hEb
     go_wp2_with fail
     go_ret
     exact ⟨by rw [HBD.out]; rfl, HB5.out⟩
    | true =>
     have HEB := Lib.hid hEb
     clear hEb
     go_wp2_with fail
     go_roundw
     case rel =>
      refine ⟨i + 1, by omega, by go_num, fun j hj => ?_, HB5.out, HA5.out⟩
      by_cases e : j = i
      ·subst e; rw [← HX.out, ← HED.out, HEB.out]
      ·exact HG.out j (by omega)
     case measure => simp [intOf]; omega
   ·have hi1 : ¬ (i : Int) < ks.length := by omega
    have HF : Hid ((decide (depthE (.mk k xv xn ks) ≤ d + 1) && formE (.mk k xv xn ks)) = partB k xv xn ks.length) := all_good fun j hj => HG.out j (by omega)
    by_cases h1 : k = 1
    ·by_cases hz : ks.length = 0
     ·by_cases hv : xv = []
      ·have HP : Hid (partB k xv xn ks.length = isName (bstr xn)) := by show _ = _; unfold partB; simp [*]
       have b1 : (k == 1) = true := by rw [h1]; rfl
       have bz : ((ks.length : Int) == 0) = true := by rw [hz]; rfl
       have ev := bstr_nil hv
       clear h1 hv hz
       go_wp2_with fail
       refine (HN.out _).mono ?_
       rintro r w6 ⟨rfl, hw⟩
       subst hw
       go_wp2_with fail
       go_ret
       exact ⟨by rw [HF.out, HP.out]; rfl, HI.out⟩
      ·have HP : Hid (partB k xv xn ks.length = false) := by show _ = _; unfold partB; simp [*]
       have b1 : (k == 1) = true := by rw [h1]; rfl
       have bz : ((ks.length : Int) == 0) = true := by rw [hz]; rfl
       have ev := bstr_nnil hv
       clear h1 hv hz
       go_wp2_with fail
       go_ret
       exact ⟨by rw [HF.out, HP.out]; rfl, HI.out⟩
     ·have HP : Hid (partB k xv xn ks.length = false) := by show _ = _; unfold partB; simp [*]
      have b1 : (k == 1) = true := by rw [h1]; rfl
      have bz : ((ks.length : Int) == 0) = false := by rw [beq_eq_false_iff_ne]; omega
      clear h1 hz
      go_wp2_with fail
      go_ret
      exact ⟨by rw [HF.out, HP.out]; rfl, HI.out⟩
    ·by_cases h2 : k = 2
     ·by_cases hz : ks.length = 0
      ·cases hB : isName (bstr xv) with
       | false =>
        have HP : Hid (partB k xv xn ks.length = false) := by show _ = _; unfold partB; simp [*]
        have HVb := HV.out
        rw [hB] at HVb
        have HVb := Lib.hid HVb
        have b1 : (k == 1) = false := by rw [beq_eq_false_iff_ne]; exact h1
        have b2 : (k == 2) = true := by rw [h2]; rfl
        have bz : ((ks.length : Int) == 0) = true := by rw [hz]; rfl
        clear h1 h2 hz
        clear hB
        go_wp2_with fail
        refine (HVb.out _).mono ?_
        rintro r w6 ⟨rfl, hw⟩
        subst hw
        go_wp2_with fail
        go_ret
        exact ⟨by rw [HF.out, HP.out]; rfl, HI.out⟩
       | true =>
        have HP : Hid (partB k xv xn ks.length = isName (bstr xn)) := by show _ = _; unfold partB; simp [*]
        have HVb := HV.out
        rw [hB] at HVb
        have HVb := Lib.hid HVb
        have b1 : (k == 1) = false := by rw [beq_eq_false_iff_ne]; exact h1
        have b2 : (k == 2) = true := by rw [h2]; rfl
        have bz : ((ks.length : Int) == 0) = true := by rw [hz]; rfl
        clear h1 h2 hz
        clear hB
        go_wp2_with fail
        refine (HVb.out _).mono ?_
        rintro r w6 ⟨rfl, hw⟩
        subst hw
        go_wp2_with fail
        refine (HN.out _).mono ?_
        rintro r w7 ⟨rfl, hw⟩
        subst hw
        go_wp2_with fail
        go_ret
        exact ⟨by rw [HF.out, HP.out]; rfl, HI.out⟩
      ·have HP : Hid (partB k xv xn ks.length = false) := by show _ = _; unfold partB; simp [*]
       have b1 : (k == 1) = false := by rw [beq_eq_false_iff_ne]; exact h1
       have b2 : (k == 2) = true := by rw [h2]; rfl
       have bz : ((ks.length : Int) == 0) = false := by rw [beq_eq_false_iff_ne]; omega
       clear h1 h2 hz
       go_wp2_with fail
       go_ret
       exact ⟨by rw [HF.out, HP.out]; rfl, HI.out⟩
     ·by_cases h3 : k = 3
      ·by_cases hg : 2 ≤ ks.length
       ·by_cases hv : xv = []
        ·by_cases hn : xn = []
         ·have HP : Hid (partB k xv xn ks.length = true) := by show _ = _; unfold partB; simp [*]
          have b1 : (k == 1) = false := by rw [beq_eq_false_iff_ne]; exact h1
          have b2 : (k == 2) = false := by rw [beq_eq_false_iff_ne]; exact h2
          have b3 : (k == 3) = true := by rw [h3]; rfl
          have bg : (2 : Int) ≤ ks.length := by omega
          have ev := bstr_nil hv
          have en := bstr_nil hn
          clear h1 h2 h3 hg hn hv
          go_wp2_with fail
          go_ret
          exact ⟨by rw [HF.out, HP.out]; rfl, HI.out⟩
         ·have HP : Hid (partB k xv xn ks.length = false) := by show _ = _; unfold partB; simp [*]
          have b1 : (k == 1) = false := by rw [beq_eq_false_iff_ne]; exact h1
          have b2 : (k == 2) = false := by rw [beq_eq_false_iff_ne]; exact h2
          have b3 : (k == 3) = true := by rw [h3]; rfl
          have bg : (2 : Int) ≤ ks.length := by omega
          have ev := bstr_nil hv
          have en := bstr_nnil hn
          clear h1 h2 h3 hg hn hv
          go_wp2_with fail
          go_ret
          exact ⟨by rw [HF.out, HP.out]; rfl, HI.out⟩
        ·have HP : Hid (partB k xv xn ks.length = false) := by show _ = _; unfold partB; simp [*]
         have b1 : (k == 1) = false := by rw [beq_eq_false_iff_ne]; exact h1
         have b2 : (k == 2) = false := by rw [beq_eq_false_iff_ne]; exact h2
         have b3 : (k == 3) = true := by rw [h3]; rfl
         have bg : (2 : Int) ≤ ks.length := by omega
         have ev := bstr_nnil hv
         clear h1 h2 h3 hg hv
         go_wp2_with fail
         go_ret
         exact ⟨by rw [HF.out, HP.out]; rfl, HI.out⟩
       ·have HP : Hid (partB k xv xn ks.length = false) := by show _ = _; unfold partB; simp [*]
        have b1 : (k == 1) = false := by rw [beq_eq_false_iff_ne]; exact h1
        have b2 : (k == 2) = false := by rw [beq_eq_false_iff_ne]; exact h2
        have b3 : (k == 3) = true := by rw [h3]; rfl
        have bg : ¬ (2 : Int) ≤ ks.length := by omega
        clear h1 h2 h3 hg
        go_wp2_with fail
        go_ret
        exact ⟨by rw [HF.out, HP.out]; rfl, HI.out⟩
      ·by_cases h4 : k = 4
       ·by_cases hg : 2 ≤ ks.length
        ·by_cases hv : xv = []
         ·by_cases hn : xn = []
          ·have HP : Hid (partB k xv xn ks.length = true) := by show _ = _; unfold partB; simp [*]
           have b1 : (k == 1) = false := by rw [beq_eq_false_iff_ne]; exact h1
           have b2 : (k == 2) = false := by rw [beq_eq_false_iff_ne]; exact h2
           have b3 : (k == 3) = false := by rw [beq_eq_false_iff_ne]; exact h3
           have b4 : (k == 4) = true := by rw [h4]; rfl
           have bg : (2 : Int) ≤ ks.length := by omega
           have ev := bstr_nil hv
           have en := bstr_nil hn
           clear h1 h2 h3 h4 hg hn hv
           go_wp2_with fail
           go_ret
           exact ⟨by rw [HF.out, HP.out]; rfl, HI.out⟩
          ·have HP : Hid (partB k xv xn ks.length = false) := by show _ = _; unfold partB; simp [*]
           have b1 : (k == 1) = false := by rw [beq_eq_false_iff_ne]; exact h1
           have b2 : (k == 2) = false := by rw [beq_eq_false_iff_ne]; exact h2
           have b3 : (k == 3) = false := by rw [beq_eq_false_iff_ne]; exact h3
           have b4 : (k == 4) = true := by rw [h4]; rfl
           have bg : (2 : Int) ≤ ks.length := by omega
           have ev := bstr_nil hv
           have en := bstr_nnil hn
           clear h1 h2 h3 h4 hg hn hv
           go_wp2_with fail
           go_ret
           exact ⟨by rw [HF.out, HP.out]; rfl, HI.out⟩
         ·have HP : Hid (partB k xv xn ks.length = false) := by show _ = _; unfold partB; simp [*]
          have b1 : (k == 1) = false := by rw [beq_eq_false_iff_ne]; exact h1
          have b2 : (k == 2) = false := by rw [beq_eq_false_iff_ne]; exact h2
          have b3 : (k == 3) = false := by rw [beq_eq_false_iff_ne]; exact h3
          have b4 : (k == 4) = true := by rw [h4]; rfl
          have bg : (2 : Int) ≤ ks.length := by omega
          have ev := bstr_nnil hv
          clear h1 h2 h3 h4 hg hv
          go_wp2_with fail
          go_ret
          exact ⟨by rw [HF.out, HP.out]; rfl, HI.out⟩
        ·have HP : Hid (partB k xv xn ks.length = false) := by show _ = _; unfold partB; simp [*]
         have b1 : (k == 1) = false := by rw [beq_eq_false_iff_ne]; exact h1
         have b2 : (k == 2) = false := by rw [beq_eq_false_iff_ne]; exact h2
         have b3 : (k == 3) = false := by rw [beq_eq_false_iff_ne]; exact h3
         have b4 : (k == 4) = true := by rw [h4]; rfl
         have bg : ¬ (2 : Int) ≤ ks.length := by omega
         clear h1 h2 h3 h4 hg
         go_wp2_with fail
         go_ret
         exact ⟨by rw [HF.out, HP.out]; rfl, HI.out⟩
       ·by_cases h5 : k = 5
        ·by_cases ht : ks.length = 2
         ·by_cases hv : xv = []
          ·by_cases hn : xn = []
           ·have HP : Hid (partB k xv xn ks.length = true) := by show _ = _; unfold partB; simp [*]
            have b1 : (k == 1) = false := by rw [beq_eq_false_iff_ne]; exact h1
            have b2 : (k == 2) = false := by rw [beq_eq_false_iff_ne]; exact h2
            have b3 : (k == 3) = false := by rw [beq_eq_false_iff_ne]; exact h3
            have b4 : (k == 4) = false := by rw [beq_eq_false_iff_ne]; exact h4
            have b5 : (k == 5) = true := by rw [h5]; rfl
            have bt : ((ks.length : Int) == 2) = true := by rw [ht]; rfl
            have ev := bstr_nil hv
            have en := bstr_nil hn
            clear h1 h2 h3 h4 h5 hn ht hv
            go_wp2_with fail
            go_ret
            exact ⟨by rw [HF.out, HP.out]; rfl, HI.out⟩
           ·have HP : Hid (partB k xv xn ks.length = false) := by show _ = _; unfold partB; simp [*]
            have b1 : (k == 1) = false := by rw [beq_eq_false_iff_ne]; exact h1
            have b2 : (k == 2) = false := by rw [beq_eq_false_iff_ne]; exact h2
            have b3 : (k == 3) = false := by rw [beq_eq_false_iff_ne]; exact h3
            have b4 : (k == 4) = false := by rw [beq_eq_false_iff_ne]; exact h4
            have b5 : (k == 5) = true := by rw [h5]; rfl
            have bt : ((ks.length : Int) == 2) = true := by rw [ht]; rfl
            have ev := bstr_nil hv
            have en := bstr_nnil hn
            clear h1 h2 h3 h4 h5 hn ht hv
            go_wp2_with fail
            go_ret
            exact ⟨by rw [HF.out, HP.out]; rfl, HI.out⟩
          ·have HP : Hid (partB k xv xn ks.length = false) := by show _ = _; unfold partB; simp [*]
           have b1 : (k == 1) = false := by rw [beq_eq_false_iff_ne]; exact h1
           have b2 : (k == 2) = false := by rw [beq_eq_false_iff_ne]; exact h2
           have b3 : (k == 3) = false := by rw [beq_eq_false_iff_ne]; exact h3
           have b4 : (k == 4) = false := by rw [beq_eq_false_iff_ne]; exact h4
           have b5 : (k == 5) = true := by rw [h5]; rfl
           have bt : ((ks.length : Int) == 2) = true := by rw [ht]; rfl
           have ev := bstr_nnil hv
           clear h1 h2 h3 h4 h5 ht hv
           go_wp2_with fail
           go_ret
           exact ⟨by rw [HF.out, HP.out]; rfl, HI.out⟩
         ·have HP : Hid (partB k xv xn ks.length = false) := by show _ = _; unfold partB; simp [*]
          have b1 : (k == 1) = false := by rw [beq_eq_false_iff_ne]; exact h1
          have b2 : (k == 2) = false := by rw [beq_eq_false_iff_ne]; exact h2
          have b3 : (k == 3) = false := by rw [beq_eq_false_iff_ne]; exact h3
          have b4 : (k == 4) = false := by rw [beq_eq_false_iff_ne]; exact h4
          have b5 : (k == 5) = true := by rw [h5]; rfl
          have bt : ((ks.length : Int) == 2) = false := by rw [beq_eq_false_iff_ne]; omega
          clear h1 h2 h3 h4 h5 ht
          go_wp2_with fail
          go_ret
          exact ⟨by rw [HF.out, HP.out]; rfl, HI.out⟩
        ·have HP : Hid (partB k xv xn ks.length = false) := by show _ = _; unfold partB; simp [*]
         have b1 : (k == 1) = false := by rw [beq_eq_false_iff_ne]; exact h1
         have b2 : (k == 2) = false := by rw [beq_eq_false_iff_ne]; exact h2
         have b3 : (k == 3) = false := by rw [beq_eq_false_iff_ne]; exact h3
         have b4 : (k == 4) = false := by rw [beq_eq_false_iff_ne]; exact h4
         have b5 : (k == 5) = false := by rw [beq_eq_false_iff_ne]; exact h5
         clear h1 h2 h3 h4 h5
         go_wp2_with fail
         go_ret
         exact ⟨by rw [HF.out, HP.out]; rfl, HI.out⟩
end Go.Proofs.YteieimchleioaaaDoor
/-
  expr.part's methods; expr.checkOf.
-/
namespace Go.Proofs.YteieimchleioaaaDoor
open Go.ChangeShapes Go.WideShapes Go.ChangeAt Go.RowKit
set_option linter.unusedVariables false

end Go.Proofs.YteieimchleioaaaDoor
/-
  expr.hasRightParts.
-/
namespace Go.Proofs.YteieimchleioaaaDoor
open Go.ChangeShapes Go.WideShapes Go.ChangeAt Go.RowKit
set_option linter.unusedVariables false

theorem formL_all : ∀ {ks : List Ex}, (∀ j, j < ks.length → formE (ks.getD j ex0) = true) → formL ks = true
 | [], _ => rfl
 | e :: r, h => by
  have h0 := h 0 (by simp)
  simp only [List.getD_cons_zero] at h0
  unfold formL
  rw [h0, formL_all (ks := r) (fun j hj => by have := h (j + 1) (by simpa using hj); simpa using this)]; rfl
theorem formE_bad {k : Int} {v n : List UInt8} {ks : List Ex} {j : Nat} (hj : j < ks.length) (h : formE (ks.getD j ex0) = false) : formE (.mk k v n ks) = false := by
 rw [Bool.eq_false_iff]
 intro e
 unfold formE at e
 simp only [Bool.and_eq_true] at e
 rw [formL_get hj e.2] at h
 cases h
end Go.Proofs.YteieimchleioaaaDoor
/-
  A range over a function whose body reads the memory behind what it is handed: the premise of a round may name the world.
-/
namespace Go.Proofs.YteieimchleioaaaDoor
open Go.RowKit
set_option linter.unusedVariables false
variable {F : Fence} {n : Nat} {P : Program}

/-- An iterator that hands out things of which G holds, behind what has come, where it does, to whatever keeps what lay below n₀. -/
def SeqReads {α : Type} (F : Fence) (n : Nat) (P : Program) (g : Nat) (lb : Array Value) (encs : α → Array Value) (n₀ : Nat) (G : List α → α → World → Prop) (S Sp : List α → Prop) (N : Nat) (w : World) : Prop :=
  ∀ (l : Nat) (J Jx : List α → World → Prop) (W : World), Below w.heap.size w W → (∀ s A B, J s A → Below A.heap.size A B → J s B) → (∀ s A B, Jx s A → Below A.heap.size A B → Jx s B) →
    (∀ pre x W1, J pre W1 → G pre x W1 → pre.length < N → YieldAt F (n - 1) P l (encs x) W1 fun e W' =>
      (e = .returned (.bool true) ∧ J (pre ++ [x]) W' ∧ Below n₀ W1 W') ∨ (e = .returned (.bool false) ∧ Jx (pre ++ [x]) W')) →
    J [] W →
    CallsIn F n P g (#[.func (.yield l) #[] #[]] ++ lb) W fun e W' => (∃ v, e = .returned v) ∧ ((∃ xs, S xs ∧ J xs W') ∨ (∃ pre, Sp pre ∧ Jx pre W'))

/-- A turn of a block that is no cells, at B or beyond, is nothing to X. -/
def Turns (B : Nat) (X : World → Prop) : Prop := ∀ W l o o', B ≤ l → W.heap[l]? = some o → o.isCells = false → X W → X (W.putObj l o')

theorem below_put {B : Nat} (W : World) (l : Nat) (o : Obj) (h : B ≤ l) : Below B W (W.putObj l o) := ⟨rfl, rfl, rfl, by simp, fun k hk => World.putObj_heap_other (by omega)⟩

theorem wpIn_range_read {α : Type} {g : Operand} {ps : Array Tmp} {assign body : Code} {Q : Exit → Act → World → Prop} {a : Act} {w : World}
    (hro : F.round = none) (h1 : 1 ≤ n) {gf : Nat} {lb : Array Value} (hg : a.eval g = .func (.func gf) #[] lb) (hFg : F.fn gf) (eg : ∀ args w, (callFunc gf args).run P w = .ok (.enter gf args) w)
    {encs : α → Array Value} {n₀ : Nat} {G : List α → α → World → Prop} {S Sp : List α → Prop} {N : Nat} (hseq : SeqReads F (n - 1) P gf lb encs n₀ G S Sp N w) (hn : n₀ ≤ w.heap.size) (hG : ∀ pre x, Turns w.heap.size (G pre x)) (hps : ∀ x, (encs x).size = ps.size)
    (I : List α → World → Prop) (Ix : Code → List α → World → Prop)
    (hI : ∀ s A B, I s A → Below A.heap.size A B → I s B) (hIx : ∀ c s A B, Ix c s A → Below A.heap.size A B → Ix c s B) (hIt : ∀ s, Turns w.heap.size (I s)) (hIxt : ∀ c s, Turns w.heap.size (Ix c s))
    (h0 : I [] w) (a₁ : α → Act)
    (hassign : ∀ (l : Nat) (x : α) (W : World) (K : Act → World → Prop), K (a₁ x) W →
      assign.wpIn (F.inRound l) (n - 1 - 1) P (Exit.then K (fun _ _ _ => False)) { tmps := (ps.zip (encs x)).foldl (fun t (p, v) => t.setIfInBounds p v) a.tmps, defers := [] } W)
    (hbody : ∀ (l : Nat) (pre : List α) (x : α) (W : World), I pre W → G pre x W → pre.length < N → body.wpIn (F.inRound l) (n - 1 - 1) P (ownPostK (Below n₀) I Ix (pre ++ [x]) W) (a₁ x) W)
    (hdone : ∀ (D : Nat) (xs : List α) (W : World), w.heap.size ≤ D → S xs → I xs W → W.heap[D]? = some (.deferred (some [])) → Q .normal { a with defers := { target := .collected D, args := #[] } :: a.defers } W)
    (hstop : ∀ (D : Nat) (c : Code) (pre : List α) (W : World), w.heap.size ≤ D → Sp pre → Ix c pre W → W.heap[D]? = some (.deferred (some [])) → c.wpIn F n P Q { a with defers := { target := .collected D, args := #[] } :: a.defers } W) :
    (Code.rangeFunc g ps assign body).wpIn F n P Q a w := by
  refine wpIn_rangeFunc fun fn hfn => ?_
  rw [hro]
  obtain ⟨R, hR⟩ : ∃ R : LoopState → Option Code → Loop, R = fun st pe => { state := st, pending := pe, fn, tmps := a.tmps, params := ps, assign, body, defers := w.heap.size } := ⟨_, rfl⟩
  obtain ⟨D, hD⟩ : ∃ D, D = w.heap.size := ⟨_, rfl⟩
  obtain ⟨W1, hW1⟩ : ∃ W1, W1 = (w.alloc (.deferred (some []))).alloc (.loop (R .ready none)) := ⟨_, rfl⟩
  have hb1 : Below w.heap.size w W1 := by rw [hW1]; exact ((Below.refl _ w).alloc (Nat.le_refl _) _).alloc (by simp) _
  -- where the record stands, and the block for the rounds' deferred calls
  let Bk : LoopState → Option Code → World → Prop := fun st pe W => W.heap[D + 1]? = some (.loop (R st pe)) ∧ W.heap[D]? = some (.deferred (some []))
  have bk1 : Bk .ready none W1 := by
    constructor
    · rw [hW1, hD]
      have := World.alloc_heap_new (w.alloc (.deferred (some []))) (.loop (R .ready none))
      rwa [World.size_alloc] at this
    · rw [hW1, hD]
      exact (Below.heap_alloc _ _ _ (by simp)).trans (World.alloc_heap_new w _)
  have bkB : ∀ {st pe A B}, Bk st pe A → Below A.heap.size A B → Bk st pe B := fun h hb =>
    ⟨(hb.block _ (Array.getElem?_eq_some_iff.1 h.1).1).trans h.1, (hb.block _ (Array.getElem?_eq_some_iff.1 h.2).1).trans h.2⟩
  have bkP : ∀ {st pe A st' pe'}, Bk st pe A → Bk st' pe' (A.putObj (D + 1) (.loop (R st' pe'))) := fun h =>
    ⟨World.putObj_heap_same (Array.getElem?_eq_some_iff.1 h.1).1, (World.putObj_heap_other (by omega)).trans h.2⟩
  have bkO : ∀ {st pe A B}, Bk st pe A → KeepsOthers A B → Bk st pe B := fun h hk => ⟨hk.same _ _ h.1 rfl, hk.same _ _ h.2 rfl⟩
  refine ⟨D + 1, [{ target := .collected D, args := #[] }], W1, { target := .fn (.func gf) lb, args := #[.func (.yield (D + 1)) #[] #[]] }, W1, gf, #[.func (.yield (D + 1)) #[] #[]] ++ lb, W1, ?_, ?_, ?_, ?_, fun _ => h1, ?_⟩
  · rw [hW1, hR, hD]; exact run_enterLoop_outer _ _ _ _ _
  · simp only [resolve, hg]
    simp [go_sem]
  · intro f' hf'; simp [Target.leads] at hf'; subst hf'; exact hFg
  · simp [invoke, go_sem, eg]
  refine (hseq (D + 1) (fun pre W => I pre W ∧ Bk .ready none W) (fun pre W => ∃ c, Ix c pre W ∧ Bk .done (some c) W) W1 hb1 (fun s A B h hb => ⟨hI s A B h.1 hb, bkB h.2 hb⟩)
    (fun s A B ⟨c, h1, h2⟩ hb => ⟨c, hIx c s A B h1 hb, bkB h2 hb⟩) ?round ⟨?start, bk1⟩).mono ?behind
  case start => exact hI _ _ _ h0 hb1
  case behind =>
    rintro e W2 ⟨⟨v, rfl⟩, (⟨xs, hS, hi, hk⟩ | ⟨pre, hSp, c, hi, hk⟩)⟩
    · refine ⟨none, W2.putObj (D + 1) (.loop (R .exhausted none)), ?_, hdone D xs _ (by omega) hS (hIt _ _ _ _ _ (by omega) hk.1 rfl hi) (bkP hk).2⟩
      have := run_endLoop (P := P) hk.1 (by rw [hR]; simp); rw [hR] at this ⊢; exact this
    · refine ⟨some c, W2.putObj (D + 1) (.loop (R .exhausted (some c))), ?_, hstop D c pre _ (by omega) hSp (hIxt _ _ _ _ _ _ (by omega) hk.1 rfl hi) (bkP hk).2⟩
      have := run_endLoop (P := P) hk.1 (by rw [hR]; simp); rw [hR] at this ⊢; exact this
  case round =>
    rintro pre x W ⟨hi, hk⟩ hGx hlen
    have hy := run_yield (P := P) (args := encs x) hk.1 (by rw [hR]; exact hps x)
    have hbeg := run_beginRound (P := P) hk.1 (by rw [hR])
    rw [hR] at hy hbeg
    obtain ⟨Wb, hWb⟩ : ∃ Wb, Wb = W.putObj (D + 1) (.loop (R .busy none)) := ⟨_, rfl⟩
    have hkb : Bk .busy none Wb := by rw [hWb]; exact bkP hk
    have hbb : Below n₀ W Wb := by rw [hWb]; exact below_put W _ _ (by omega)
    have hib : I pre Wb := by rw [hWb]; exact hIt _ _ _ _ _ (by omega) hk.1 rfl hi
    have hgb : G pre x Wb := by rw [hWb]; exact hG _ _ _ _ _ _ (by omega) hk.1 rfl hGx
    refine ⟨fn, _, assign, body, hy, roundIn_of_wpIn hfn (hassign _ x W _ ⟨Wb, by rw [hWb, hR]; exact hbeg, ?_⟩)⟩
    refine wpIn_mono (hbody _ pre x _ hib hgb hlen) ?_
    have fin : ∀ (jump : Option Code) (W3 : World), Bk .busy none W3 → (Instr.endRound (D + 1) jump).run P W3 = .ok (.bool jump.isNone) (W3.putObj (D + 1) (.loop (R (if jump.isNone then .ready else .done) jump))) := fun jump W3 h3 => by
      have := run_endRound (P := P) jump h3.1
      rw [hR] at this ⊢
      exact this
    have out : ∀ (c : Code) (W3 : World), KeepsOthers Wb W3 → Ix c (pre ++ [x]) W3 → ∃ v W4, (Instr.endRound (D + 1) (some c)).run P W3 = .ok v W4 ∧ v = .bool false ∧ ∃ c', Ix c' (pre ++ [x]) W4 ∧ Bk .done (some c') W4 := fun c W3 hk3 hi3 =>
      ⟨_, _, fin (some c) W3 (bkO hkb hk3), rfl, c, hIxt _ _ _ _ _ _ (by omega) (bkO hkb hk3).1 rfl hi3, bkP (bkO hkb hk3)⟩
    rintro e a3 W3 hp
    cases e with
    | normal =>
      obtain ⟨hk3, hb3, hi3⟩ := hp
      have h3 := bkO hkb hk3
      exact ⟨_, _, fin none W3 h3, .inl ⟨rfl, ⟨hIt _ _ _ _ _ (by omega) h3.1 rfl hi3, bkP h3⟩, (hbb.trans (hb3.mono (Nat.le_refl _))).trans (below_put W3 _ _ (by omega))⟩⟩
    | ret =>
      obtain ⟨v, W4, h1, rfl, h2⟩ := out .ret W3 hp.1 hp.2
      exact ⟨_, _, h1, .inr ⟨rfl, h2⟩⟩
    | exit id =>
      obtain ⟨v, W4, h1, rfl, h2⟩ := out (.exit id) W3 hp.1 hp.2
      exact ⟨_, _, h1, .inr ⟨rfl, h2⟩⟩
    | goto t =>
      obtain ⟨v, W4, h1, rfl, h2⟩ := out (.goto t) W3 hp.1 hp.2
      exact ⟨_, _, h1, .inr ⟨rfl, h2⟩⟩
    | panic ch => exact hp.elim
    | outgrown => exact hp.elim
end Go.Proofs.YteieimchleioaaaDoor
/-
  A region that draws its order in a round of a range over a function: what is shown of it in plain form (wpAnyH) serves there. A range over a function in a plain walk.
-/
namespace Go.Proofs.YteieimchleioaaaDoor
open Go.RowKit
set_option linter.unusedVariables false
/-- Ends normally, and K. -/
def OnlyN (K : Act → World → Prop) : Exit → Act → World → Prop
  | .normal, a, w => K a w
  | _, _, _ => False
theorem onlyN_out {K : Act → World → Prop} (h : LetsOut (OnlyN K)) : False := by
  obtain ⟨a, w, h⟩ := h
  exact h
section
variable {P : Program} {ops : Array Oper} {n l : Nat}
theorem rowsIn_wide {row : String} {args : Array Value} {w : World} {R : Value → World → Prop} (h : Rows P row args w R) : RowsIn (Fence.wide.inRound l) n P row args w R :=
  fun c cs _ => let ⟨v, w', r, s⟩ := h c cs; ⟨v, w', r, stepsIn_wide.2 s⟩
theorem callsIn_round {f : FuncId} {args : Array Value} {w : World} {R : Ending → World → Prop} (h : Calls P f args w R) : CallsIn (Fence.wide.inRound l) n P f args w R :=
  CallsIn.inRound l (callsIn_wide.2 h)
theorem operIn_round {o : Oper} {a : Act} {w : World} {K K' : Act → World → Prop} {Q : Act → World → Prop} (hd : ∀ c, o.op ≠ .defer c) (hK : ∀ a w, K a w → K' a w) (h : o.wp P a w K (OnlyN Q)) :
    o.wpIn (Fence.wide.inRound l) n P a w K' (OnlyN Q) := by
  refine ⟨fun _ _ => trivial, ?_⟩
  rw [Oper.semAt_plain _ _ _ hd]
  unfold Oper.wp at h
  generalize (execOp a.eval o).run P w = r at *
  cases r with
  | ok x w' =>
    cases x with
    | value v => exact hK _ _ h
    | skip => exact hK _ _ h
    | defer d => exact hK _ _ h
    | enter f args =>
      refine ⟨fun e => Bool.noConfusion e, (callsIn_round h).mono fun e w'' he => ?_⟩
      cases e with
      | returned v => exact hK _ _ he
      | panicked c => exact he
      | outgrown => exact he
    | row r args => exact ⟨fun e => Bool.noConfusion e, (rowsIn_wide h).mono fun _ _ he => hK _ _ he⟩
    | _ => exact (h : False).elim
  | halt x w' => cases x <;> first | exact h | exact (h : False).elim
theorem opIn_round {i : Nat} {a : Act} {w : World} {K K' : Act → World → Prop} {Q : Act → World → Prop} (hd : ∀ o : Oper, ops[i]? = some o → ∀ c, o.op ≠ .defer c) (hK : ∀ a w, K a w → K' a w) (h : wpOp P ops (OnlyN Q) i K a w) :
    wpOpIn (Fence.wide.inRound l) n P ops (OnlyN Q) i K' a w := by
  unfold wpOp at h
  unfold wpOpIn
  cases ho : ops[i]? with
  | none => rw [ho] at h; exact hK _ _ h
  | some o =>
    rw [ho] at h
    simp only at h ⊢
    split
    · rename_i hw
      rw [if_pos hw] at h
      rcases h with h | ⟨_, h⟩
      · exact operIn_round (hd o ho) hK h
      · exact (onlyN_out h).elim
    · rename_i hw
      rw [if_neg hw] at h
      exact ⟨fun _ _ => trivial, hK _ _ h⟩
theorem anyIn_round {Q : Act → World → Prop} {md : Region.Mode} (hd : ∀ (i : Nat) (o : Oper), ops[i]? = some o → ∀ c, o.op ≠ .defer c) : ∀ (fuel : Nat) (listed : Array Bool) (a : Act) (w : World), wpAny P md ops (OnlyN Q) fuel listed a w →
    wpAnyIn (Fence.wide.inRound l) n P md ops (OnlyN Q) fuel listed a w
  | 0, _, _, _, h => h
  | fuel + 1, _, _, _, h => ⟨h.1, fun i hi => opIn_round (hd i) (fun a w hh => anyIn_round hd fuel _ a w hh) (h.2 i hi)⟩
def noDefer (ops : Array Oper) : Bool := ops.all fun o => match o.op with | .defer _ => false | _ => true
theorem noDefer_spec (h : noDefer ops = true) (i : Nat) (o : Oper) (ho : ops[i]? = some o) : ∀ c, o.op ≠ .defer c := by
  intro c e
  have hm := Array.all_eq_true'.1 h o (Array.mem_of_getElem? ho)
  rw [e] at hm
  cases hm
/-- A region that draws, in a round. -/
theorem region_round {S : World → Prop} {id : Nat} {a : Act} {w : World} {Q : Exit → Act → World → Prop} (hm : P.follows .mixedOrders = true) (hd : noDefer ops = true) (hS : S w.drew)
    (h : S w.drew → wpAnyH P .any ops (OnlyN (Q .normal)) S ops.size (Array.replicate ops.size false) a w.drew) : (Code.region id ops true).wpIn (Fence.wide.inRound l) n P Q a w := by
  refine wpIn_mono (wpIn_region_any hm (anyIn_round (fun i o => noDefer_spec hd i o) _ _ _ _ (wpAny_of_held _ _ _ _ (h hS)))) ?_
  rintro e a' w' hq
  cases e <;> first | exact hq | exact (hq : False).elim
/-- The law of a range over a function, in a plain walk. -/
theorem wp_range_read {α : Type} {g : Operand} {ps : Array Tmp} {assign body : Code} {Q : Exit → Act → World → Prop} {a : Act} {w : World}
    {gf : Nat} {lb : Array Value} (hg : a.eval g = .func (.func gf) #[] lb) (eg : ∀ args w, (callFunc gf args).run P w = .ok (.enter gf args) w)
    {encs : α → Array Value} {n₀ : Nat} {G : List α → α → World → Prop} {S Sp : List α → Prop} {N : Nat} (hseq : SeqReads Fence.wide 5 P gf lb encs n₀ G S Sp N w) (hn : n₀ ≤ w.heap.size) (hG : ∀ pre x, Turns w.heap.size (G pre x)) (hps : ∀ x, (encs x).size = ps.size)
    (I : List α → World → Prop) (Ix : Code → List α → World → Prop)
    (hI : ∀ s A B, I s A → Below A.heap.size A B → I s B) (hIx : ∀ c s A B, Ix c s A → Below A.heap.size A B → Ix c s B) (hIt : ∀ s, Turns w.heap.size (I s)) (hIxt : ∀ c s, Turns w.heap.size (Ix c s))
    (h0 : I [] w) (a₁ : α → Act)
    (hassign : ∀ (l : Nat) (x : α) (W : World) (K : Act → World → Prop), K (a₁ x) W →
      assign.wpIn (Fence.wide.inRound l) 4 P (Exit.then K (fun _ _ _ => False)) { tmps := (ps.zip (encs x)).foldl (fun t (p, v) => t.setIfInBounds p v) a.tmps, defers := [] } W)
    (hbody : ∀ (l : Nat) (pre : List α) (x : α) (W : World), I pre W → G pre x W → pre.length < N → body.wpIn (Fence.wide.inRound l) 4 P (ownPostK (Below n₀) I Ix (pre ++ [x]) W) (a₁ x) W)
    (hdone : ∀ (D : Nat) (xs : List α) (W : World), w.heap.size ≤ D → S xs → I xs W → W.heap[D]? = some (.deferred (some [])) → Q .normal { a with defers := { target := .collected D, args := #[] } :: a.defers } W)
    (hstop : ∀ (D : Nat) (c : Code) (pre : List α) (W : World), w.heap.size ≤ D → Sp pre → Ix c pre W → W.heap[D]? = some (.deferred (some [])) → c.wp P Q { a with defers := { target := .collected D, args := #[] } :: a.defers } W) :
    (Code.rangeFunc g ps assign body).wp P Q a w :=
  wpIn_wide.1 (wpIn_range_read (F := Fence.wide) (n := 6) rfl (by omega) hg trivial eg hseq hn hG hps I Ix hI hIx hIt hIxt h0 a₁ hassign hbody hdone (fun D c pre W h1 h2 h3 h4 => wpIn_wide.2 (hstop D c pre W h1 h2 h3 h4)))
end
end Go.Proofs.YteieimchleioaaaDoor
/-
  Ranges over functions in a plain walk: turns of blocks that are no cells; the law with a break alone; a function that holds a range.
-/
namespace Go.Proofs.YteieimchleioaaaDoor
open Go.ChangeShapes Go.WideShapes Go.ChangeAt Go.RowKit
set_option linter.unusedVariables false

theorem cell_turn {W : World} {l : Nat} {o o' : Obj} {a : Addr} {v : Value} (h : W.heap[l]? = some o) (ho : o.isCells = false) (hc : W.cell? a = some v) : (W.putObj l o').cell? a = some v := by
  have hne : a.block ≠ l := by
    rintro rfl
    unfold World.cell? at hc
    rw [h] at hc
    cases o <;> simp_all [Obj.isCells]
  rw [World.cell?_of_block (World.putObj_heap_other hne)]
  exact hc
theorem arr_turn {W : World} {l : Nat} {o' : Obj} {t : TypeId} {g : Nat} {cs : List Value} (hg : g ≠ l) (hA : Arr W t g cs) : Arr (W.putObj l o') t g cs := (World.putObj_heap_other hg).trans hA
theorem SeqReads.later {α : Type} {F : Fence} {n : Nat} {P : Program} {g : Nat} {lb : Array Value} {encs : α → Array Value} {n₀ : Nat} {G : List α → α → World → Prop} {S Sp : List α → Prop} {N : Nat} {w w' : World}
    (h : SeqReads F n P g lb encs n₀ G S Sp N w) (hb : Below w.heap.size w w') : SeqReads F n P g lb encs n₀ G S Sp N w' :=
  fun l J Jx W hW hJ hJx hY h0 => h l J Jx W (hb.trans (hW.mono hb.size)) hJ hJx hY h0
/-- The law with the frame of a round as a function of the frame before. -/
theorem wp_range_put {P : Program} {α : Type} {g : Operand} {ps : Array Tmp} {assign body : Code} {Q : Exit → Act → World → Prop} {a : Act} {w : World}
    {gf : Nat} {lb : Array Value} (hg : a.eval g = .func (.func gf) #[] lb) (eg : ∀ args w, (callFunc gf args).run P w = .ok (.enter gf args) w)
    {encs : α → Array Value} {n₀ : Nat} {G : List α → α → World → Prop} {S Sp : List α → Prop} {N : Nat} (hseq : SeqReads Fence.wide 5 P gf lb encs n₀ G S Sp N w) (hn : n₀ ≤ w.heap.size) (hG : ∀ pre x, Turns w.heap.size (G pre x)) (hps : ∀ x, (encs x).size = ps.size)
    (I : List α → World → Prop) (Ix : Code → List α → World → Prop)
    (hI : ∀ s A B, I s A → Below A.heap.size A B → I s B) (hIx : ∀ c s A B, Ix c s A → Below A.heap.size A B → Ix c s B) (hIt : ∀ s, Turns w.heap.size (I s)) (hIxt : ∀ c s, Turns w.heap.size (Ix c s))
    (h0 : I [] w) (f : α → Array Value → Array Value)
    (hassign : ∀ (l : Nat) (x : α) (W : World) (K : Act → World → Prop), K { tmps := f x a.tmps, defers := [] } W →
      assign.wpIn (Fence.wide.inRound l) 4 P (Exit.then K (fun _ _ _ => False)) { tmps := (ps.zip (encs x)).foldl (fun t (p, v) => t.setIfInBounds p v) a.tmps, defers := [] } W)
    (hbody : ∀ (l : Nat) (pre : List α) (x : α) (W : World), I pre W → G pre x W → pre.length < N → body.wpIn (Fence.wide.inRound l) 4 P (ownPostK (Below n₀) I Ix (pre ++ [x]) W) { tmps := f x a.tmps, defers := [] } W)
    (hdone : ∀ (D : Nat) (xs : List α) (W : World), w.heap.size ≤ D → S xs → I xs W → W.heap[D]? = some (.deferred (some [])) → Q .normal { a with defers := { target := .collected D, args := #[] } :: a.defers } W)
    (hstop : ∀ (D : Nat) (c : Code) (pre : List α) (W : World), w.heap.size ≤ D → Sp pre → Ix c pre W → W.heap[D]? = some (.deferred (some [])) → c.wp P Q { a with defers := { target := .collected D, args := #[] } :: a.defers } W) :
    (Code.rangeFunc g ps assign body).wp P Q a w :=
  wp_range_read hg eg hseq hn hG hps I Ix hI hIx hIt hIxt h0 (fun x => { tmps := f x a.tmps, defers := [] }) hassign hbody hdone hstop
theorem keeps_of_below {W W' : World} (hb : Below W.heap.size W W') : KeepsOthers W W' := ⟨hb.size, fun k o hk _ => (hb.block k (Array.getElem?_eq_some_iff.1 hk).1).trans hk⟩
/-- The law of a range whose rounds leave it by a break alone: what follows is shown once. -/
theorem wp_block_range {P : Program} {α : Type} {id : Nat} {g : Operand} {ps : Array Tmp} {assign body : Code} {Q : Exit → Act → World → Prop} {a : Act} {w : World}
    {gf : Nat} {lb : Array Value} (hg : a.eval g = .func (.func gf) #[] lb) (eg : ∀ args w, (callFunc gf args).run P w = .ok (.enter gf args) w)
    {encs : α → Array Value} {n₀ : Nat} {G : List α → α → World → Prop} {S Sp : List α → Prop} {N : Nat} (hseq : SeqReads Fence.wide 5 P gf lb encs n₀ G S Sp N w) (hn : n₀ ≤ w.heap.size) (hG : ∀ pre x, Turns w.heap.size (G pre x)) (hps : ∀ x, (encs x).size = ps.size)
    (I Ix : List α → World → Prop)
    (hI : ∀ s A B, I s A → Below A.heap.size A B → I s B) (hIx : ∀ s A B, Ix s A → Below A.heap.size A B → Ix s B) (hIt : ∀ s, Turns w.heap.size (I s)) (hIxt : ∀ s, Turns w.heap.size (Ix s))
    (h0 : I [] w) (f : α → Array Value → Array Value)
    (hassign : ∀ (l : Nat) (x : α) (W : World) (K : Act → World → Prop), K { tmps := f x a.tmps, defers := [] } W →
      assign.wpIn (Fence.wide.inRound l) 4 P (Exit.then K (fun _ _ _ => False)) { tmps := (ps.zip (encs x)).foldl (fun t (p, v) => t.setIfInBounds p v) a.tmps, defers := [] } W)
    (hbody : ∀ (l : Nat) (pre : List α) (x : α) (W : World), I pre W → G pre x W → pre.length < N → body.wpIn (Fence.wide.inRound l) 4 P (ownPostK (Below n₀) I (fun c s W => c = .exit id ∧ Ix s W) (pre ++ [x]) W) { tmps := f x a.tmps, defers := [] } W)
    (hdone : ∀ (D : Nat) (xs : List α) (W : World), w.heap.size ≤ D → (S xs ∧ I xs W) ∨ Ix xs W → W.heap[D]? = some (.deferred (some [])) → Q .normal { a with defers := { target := .collected D, args := #[] } :: a.defers } W) :
    (Code.block id (Code.rangeFunc g ps assign body)).wp P Q a w := by
  refine wp_block (wp_range_put hg eg hseq hn hG hps I (fun c s W => c = .exit id ∧ Ix s W) hI (fun c s A B h hb => ⟨h.1, hIx s A B h.2 hb⟩) hIt (fun c s W l o o' hl h ho hx => ⟨hx.1, hIxt s W l o o' hl h ho hx.2⟩) h0 f hassign hbody ?_ ?_)
  · exact fun D xs W h1 h2 h3 h4 => hdone D xs W h1 (.inl ⟨h2, h3⟩) h4
  · rintro D c pre W h1 h2 ⟨rfl, h3⟩ h4
    refine wp_exit ?_
    simp only [Exit.inBlock, if_true]
    exact hdone D pre W h1 (.inr h3) h4
theorem calls_marks {P : Program} {f : FuncId} {fn : Func} {c : Code} {args : Array Value} {w : World} {R : Ending → World → Prop} (hf : P.funcs[f]? = some fn) (hb : fn.body = some c)
    (h : c.wp P (bodyPostM Fence.wide 6 P fn R) { tmps := args ++ Array.replicate (fn.ntmps - args.size) undef, defers := [] } w) : Calls P f args w R :=
  callsIn_wide.1 (callsIn_of_wp_marks (F := Fence.wide) (n := 6) hf hb trivial (wpIn_wide.2 h) rfl)
end Go.Proofs.YteieimchleioaaaDoor
/-
  expr.yieldLeaves and the iterator that leaves makes: what it yields.
-/
namespace Go.Proofs.YteieimchleioaaaDoor
open Go.ChangeShapes Go.WideShapes Go.ChangeAt Go.RowKit
set_option linter.unusedVariables false
attribute [local go_sem] Oper.semAt_some

/-- What is handed out: a leaf, and the value that reads as it. -/
abbrev OutE := Ex × Value
def outE (x : OutE) : Array Value := #[x.2]
def fsts (l : List OutE) : List Ex := l.map Prod.fst
theorem fsts_app (a b : List OutE) : fsts (a ++ b) = fsts a ++ fsts b := List.map_append
theorem fsts_len (a : List OutE) : (fsts a).length = a.length := List.length_map _
def GoodE (P : Nat → Prop) (LV : List Ex) (pre : List OutE) (x : OutE) (W : World) : Prop := RdE P W x.1 x.2 ∧ (fsts pre ++ [x.1]) <+: LV
def YlPost (n₀ : Nat) (J Jx : List OutE → World → Prop) (ls : List Ex) (pre : List OutE) (w : World) (r : Ending) (w' : World) : Prop :=
 (r = .returned (.bool true) ∧ ∃ out, fsts out = ls ∧ J (pre ++ out) w' ∧ Below n₀ w w') ∨ (r = .returned (.bool false) ∧ ∃ out, fsts out <+: ls ∧ Jx (pre ++ out) w')
theorem prefix_app {a b c L : List Ex} (h : a ++ (b ++ c) <+: L) : a ++ b <+: L := by
 rw [← List.append_assoc] at h
 exact (List.prefix_append _ _).trans h
theorem leavesL_take : ∀ (ks : List Ex) (i : Nat), i < ks.length → leavesL (ks.take i) ++ leavesE (ks.getD i ex0) <+: leavesL ks
 | [], i, h => by simp at h
 | e :: r, 0, _ => by simp only [List.take_zero, leavesL, List.getD_cons_zero, List.nil_append]; exact List.prefix_append _ _
 | e :: r, i + 1, h => by
  have := leavesL_take r i (by simpa using h)
  simp only [List.take_succ_cons, leavesL, List.getD_cons_succ, List.append_assoc]
  exact (List.prefix_append_right_inj _).2 this
theorem prefix_mono {a b c L : List Ex} (h : a ++ b <+: L) (hc : c <+: b) : a ++ c <+: L := ((List.prefix_append_right_inj a).2 hc).trans h
theorem leaves_leaf {k : Int} {v n : List UInt8} {ks : List Ex} (h : leafK k = true) : leavesE (.mk k v n ks) = [.mk k v n ks] := by unfold leavesE; rw [if_pos h]
theorem leaves_kids {k : Int} {v n : List UInt8} {ks : List Ex} (h : ¬ leafK k = true) : leavesE (.mk k v n ks) = leavesL ks := by unfold leavesE; rw [if_neg h]
theorem drew_size (w : World) : w.drew.heap.size = w.heap.size := rfl

theorem turns_good (P : Nat → Prop) (LV : List Ex) (B : Nat) (hP : ∀ b, P b → b < B) (pre : List OutE) (x : OutE) : Turns B (GoodE P LV pre x) := fun W l o o' hl h ho hx =>
 ⟨hx.1.keep fun b hb n => World.cell?_of_block (World.putObj_heap_other (by have := hP b hb; show b ≠ l; omega)), hx.2⟩
end Go.Proofs.YteieimchleioaaaDoor
/-
  expr.Right.
-/
namespace Go.Proofs.YteieimchleioaaaDoor
open Go.ChangeShapes Go.WideShapes Go.ChangeAt Go.RowKit
set_option linter.unusedVariables false
attribute [local go_sem] Oper.semAt_some

mutual
theorem leaves_size : ∀ e : Ex, (leavesE e).length ≤ sizeE e
 | .mk k v n ks => by
  unfold leavesE sizeE
  split
  ·simp
  ·have := leavesL_size ks; omega
theorem leavesL_size : ∀ ks : List Ex, (leavesL ks).length ≤ sizeL ks
 | [] => by simp [leavesL]
 | e :: r => by
  unfold leavesL sizeL
  have := leaves_size e
  have := leavesL_size r
  simp only [List.length_append]; omega
end
def rightE (e : Ex) : Bool := decide ((leavesE e).length ≤ 32) && (decide (depthE e ≤ 16) && formE e)
def RI (w : World) (A : List Value) (pre : List OutE) (W : World) : Prop := Arr W 3 (w.heap.size + 1) [.int .i64 (pre.length : Nat)] ∧ Arr W 25 w.heap.size A ∧ Below w.heap.size w W
theorem RI.later {w : World} {A : List Value} {pre : List OutE} {W W' : World} (h : RI w A pre W) (hb : Below W.heap.size W W') : RI w A pre W' := ⟨h.1.later hb, h.2.1.later hb, h.2.2.trans (hb.mono h.2.2.size)⟩
theorem RI.turns {w : World} {A : List Value} {B : Nat} (hB : w.heap.size + 1 < B) (pre : List OutE) : Turns B (RI w A pre) := fun W l o o' hl h ho hx =>
 ⟨arr_turn (by omega) hx.1, arr_turn (by omega) hx.2.1, hx.2.2.trans (below_put W l o' (by omega))⟩
end Go.Proofs.YteieimchleioaaaDoor
/-
  What tokens are read as: types, expressions, members, definitions, or the first error. No program.
-/
namespace Go.Proofs.YteieimchleioaaaDoor
set_option linter.unusedVariables false

/-- Where reading has come to: the index of the next token, open parentheses, leaves. -/
structure PS where
 i : Nat
 o : Nat
 l : Nat
/-- What a rule gives: a value and the place behind it, or the code of an error and the index of its token. -/
inductive PR (α : Type) where
 | ok (x : α) (s : PS)
 | bad (c : Nat) (i : Nat)
def PR.then {α β : Type} (r : PR α) (f : α → PS → PR β) : PR β := match r with
 | .ok x s => f x s
 | .bad c i => .bad c i
theorem PR.then_ok {α β : Type} (x : α) (s : PS) (f : α → PS → PR β) : (PR.ok x s).then f = f x s := rfl
theorem PR.then_bad {α β : Type} (c i : Nat) (f : α → PS → PR β) : (PR.bad c i : PR α).then f = .bad c i := rfl
def PS.up (s : PS) : PS := { s with i := s.i + 1 }
def tok0 : Tok := (0, [], 0)
def txt (ts : List Tok) (i : Nat) : List UInt8 := (ts.getD i tok0).2.1
def nameF (ts : List Tok) (s : PS) : PR (List UInt8) := if isName (bstr (txt ts s.i)) = true then .ok (txt ts s.i) s.up else .bad 6 s.i
def wantF (ts : List Tok) (t : List UInt8) (s : PS) : PR Unit := if txt ts s.i = t then .ok () s.up else .bad 6 s.i
abbrev AlB := List UInt8 × List UInt8
def allowedF (ts : List Tok) (s : PS) : PR AlB := (nameF ts s).then fun a s1 => if txt ts s1.i = [35] then (nameF ts s1.up).then fun r s2 => .ok (a, r) s2 else .ok (a, []) s1
def typesF (ts : List Tok) : Nat → List AlB → PS → PR (List AlB)
 | 0, acc, s => .ok acc s
 | n + 1, acc, s => if acc.length = 32 then .bad 15 s.i else (allowedF ts s).then fun a s1 => if txt ts s1.i = [124] then typesF ts n (acc ++ [a]) s1.up else .ok (acc ++ [a]) s1
/-- A unit; U reads the inside of a group, where one may be opened. -/
def unitW (ts : List Tok) (U : Option (PS → PR Ex)) (s : PS) : PR Ex :=
 if txt ts s.i = [40] then
  match U with
  | none => .bad 7 s.i
  | some U => (U { s with i := s.i + 1, o := s.o + 1 }).then fun e s1 => (wantF ts [41] s1).then fun _ s2 => .ok e { s2 with o := s2.o - 1 }
 else if isName (bstr (txt ts s.i)) = true then
  if s.l < 32 then
   if txt ts (s.i + 1) = [45, 62] then (nameF ts { s with i := s.i + 2, l := s.l + 1 }).then fun r s2 => .ok (.mk 2 (txt ts s.i) r []) s2
   else .ok (.mk 1 [] (txt ts s.i) []) { s with i := s.i + 1, l := s.l + 1 }
  else .bad 15 s.i
 else .bad 6 s.i
/-- The kind that a sign makes, or 0. -/
def opK (t : List UInt8) : Int := if t = [43] then 3 else if t = [38] then 4 else if t = [45] then 5 else 0
def loopW (ts : List Tok) (U : PS → PR Ex) (sg : List UInt8) : Nat → List Ex → PS → PR (List Ex)
 | 0, acc, s => .ok acc s
 | n + 1, acc, s => if txt ts s.i = sg then (U s.up).then fun e s1 => if opK sg = 5 then .ok (acc ++ [e]) s1 else loopW ts U sg n (acc ++ [e]) s1 else .ok acc s
def unitsW (ts : List Tok) (U : PS → PR Ex) (s : PS) : PR Ex :=
 (U s).then fun e s1 => if opK (txt ts s1.i) = 0 then .ok e s1 else (loopW ts U (txt ts s1.i) ts.length [e] s1).then fun ks s2 => .ok (.mk (opK (txt ts s1.i)) [] [] ks) s2
/-- Units where d groups may still be opened. -/
def unitsF (ts : List Tok) : Nat → PS → PR Ex
 | 0 => unitsW ts (unitW ts none)
 | d + 1 => unitsW ts (unitW ts (some (unitsF ts d)))
def unitF (ts : List Tok) : Nat → PS → PR Ex
 | 0 => unitW ts none
 | d + 1 => unitW ts (some (unitsF ts d))
theorem unitsF_eq (ts : List Tok) (d : Nat) : unitsF ts d = unitsW ts (unitF ts d) := by cases d <;> rfl
def exprF (ts : List Tok) (s : PS) : PR Ex := unitsF ts 14 { s with o := 0, l := 0 }
/-- name, kind, types, expression -/
abbrev MemB := List UInt8 × Int × List AlB × Ex
def wRelB : List UInt8 := wRel.data.toList
def wPermB : List UInt8 := wPerm.data.toList
def wDefB : List UInt8 := wDef.data.toList
def memberF (ts : List Tok) (s : PS) : PR MemB :=
 if txt ts s.i = wRelB then (nameF ts s.up).then fun n s1 => (wantF ts [58] s1).then fun _ s2 => (typesF ts 33 [] s2).then fun l s3 => (wantF ts [59] s3).then fun _ s4 => .ok (n, 1, l, ex0) s4
 else (wantF ts wPermB s).then fun _ s0 => (nameF ts s0).then fun n s1 => (wantF ts [61] s1).then fun _ s2 => (exprF ts s2).then fun e s3 => (wantF ts [59] s3).then fun _ s4 => .ok (n, 2, [], e) s4
def membersF (ts : List Tok) : Nat → List MemB → PS → PR (List MemB)
 | 0, acc, s => .ok acc s
 | n + 1, acc, s => if txt ts s.i = wRelB ∨ txt ts s.i = wPermB then if acc.length < 64 then (memberF ts s).then fun m s1 => membersF ts n (acc ++ [m]) s1 else .bad 15 s.i else .ok acc s
abbrev DefB := List UInt8 × List MemB
def defF (ts : List Tok) (s : PS) : PR DefB :=
 (wantF ts wDefB s).then fun _ s0 => (nameF ts s0).then fun n s1 => (wantF ts [123] s1).then fun _ s2 => (membersF ts 65 [] s2).then fun l s3 => (wantF ts [125] s3).then fun _ s4 => .ok (n, l) s4
def defsF (ts : List Tok) : Nat → List DefB → PS → PR (List DefB)
 | 0, acc, s => .ok acc s
 | n + 1, acc, s => if txt ts s.i = wDefB then if acc.length < 64 then (defF ts s).then fun d s1 => defsF ts n (acc ++ [d]) s1 else .bad 15 s.i else .ok acc s
/-- All tokens must have been read. -/
def endF {α : Type} (ts : List Tok) (r : PR α) : PR α := r.then fun x s => if (ts.getD s.i tok0).1 = 3 then .ok x s else .bad 6 s.i

/-! ### The place stays within the tokens -/
theorem OkTs.step {ts : List Tok} (h : OkTs ts) {i : Nat} (ht : txt ts i ≠ []) : i + 1 < ts.length := by
 obtain ⟨us, e, rfl, he, hu⟩ := h
 rcases Nat.lt_trichotomy i us.length with h1 | h1 | h1
 ·rw [List.length_append, List.length_singleton]; omega
 ·refine absurd ?_ ht
  subst h1
  unfold txt
  rw [List.getD_eq_getElem?_getD, List.getElem?_append_right (Nat.le_refl _), Nat.sub_self]
  exact (Prod.mk.inj he).2
 ·refine absurd ?_ ht
  unfold txt
  rw [List.getD_eq_getElem?_getD, List.getElem?_eq_none (by rw [List.length_append, List.length_singleton]; omega)]
  rfl
theorem name_ne {t : List UInt8} (h : isName (bstr t) = true) : t ≠ [] := by
 rintro rfl
 exact absurd h (by decide +kernel)
/-- A rule that, where it gives a place, gives one within the tokens, and the same number of open parentheses. -/
def Keeps {α : Type} (ts : List Tok) (f : PS → PR α) : Prop := ∀ s x s', s.i < ts.length → f s = .ok x s' → s'.i < ts.length ∧ s'.o = s.o ∧ s.i ≤ s'.i ∧ s.l ≤ s'.l ∧ (s.l ≤ 32 → s'.l ≤ 32)
theorem keeps_name {ts : List Tok} (h : OkTs ts) : Keeps ts (nameF ts) := by
 intro s x s' hs e
 unfold nameF at e
 split at e
 ·rename_i hn
  cases e
  exact ⟨h.step (name_ne hn), rfl, Nat.le_succ _, Nat.le_refl _, fun h => h⟩
 ·cases e
theorem keeps_want {ts : List Tok} (h : OkTs ts) {t : List UInt8} (ht : t ≠ []) : Keeps ts (wantF ts t) := by
 intro s x s' hs e
 unfold wantF at e
 split at e
 ·rename_i hn
  cases e
  exact ⟨h.step (by rw [hn]; exact ht), rfl, Nat.le_succ _, Nat.le_refl _, fun h => h⟩
 ·cases e
theorem then_some {α β : Type} {r : PR α} {f : α → PS → PR β} {x : β} {s : PS} (h : r.then f = .ok x s) : ∃ y s1, r = .ok y s1 ∧ f y s1 = .ok x s := by
 cases r with
 | ok y s1 => exact ⟨y, s1, rfl, h⟩
 | bad c i => cases h
theorem keeps_allowed {ts : List Tok} (h : OkTs ts) : Keeps ts (allowedF ts) := by
 intro s x s' hs e
 unfold allowedF at e
 obtain ⟨a, s1, e1, e2⟩ := then_some e
 have k1 := keeps_name h s a s1 hs e1
 split at e2
 ·rename_i ht
  obtain ⟨r, s2, e3, e4⟩ := then_some e2
  have k2 := keeps_name h s1.up r s2 (h.step (by rw [ht]; simp)) e3
  cases e4
  have : s1.up.i = s1.i + 1 := rfl
  exact ⟨k2.1, k2.2.1.trans k1.2.1, by omega, Nat.le_trans k1.2.2.2.1 k2.2.2.2.1, fun h0 => k2.2.2.2.2 (k1.2.2.2.2 h0)⟩
 ·cases e2
  exact k1
theorem keeps_types {ts : List Tok} (h : OkTs ts) : ∀ (n : Nat) (acc : List AlB), Keeps ts (typesF ts n acc)
 | 0, acc => fun s x s' hs e => by unfold typesF at e; cases e; exact ⟨hs, rfl, Nat.le_refl _, Nat.le_refl _, fun h => h⟩
 | n + 1, acc => fun s x s' hs e => by
  unfold typesF at e
  split at e
  ·cases e
  obtain ⟨a, s1, e1, e2⟩ := then_some e
  have k1 := keeps_allowed h s a s1 hs e1
  split at e2
  ·rename_i ht
   have k2 := keeps_types h n _ s1.up x s' (h.step (by rw [ht]; simp)) e2
   have : s1.up.i = s1.i + 1 := rfl
   exact ⟨k2.1, k2.2.1.trans k1.2.1, by omega, Nat.le_trans k1.2.2.2.1 k2.2.2.2.1, fun h0 => k2.2.2.2.2 (k1.2.2.2.2 h0)⟩
  ·cases e2
   exact k1
theorem keeps_unitW {ts : List Tok} (h : OkTs ts) {U : Option (PS → PR Ex)} (hU : ∀ u, U = some u → Keeps ts u) : Keeps ts (unitW ts U) := by
 intro s x s' hs e
 unfold unitW at e
 split at e
 ·rename_i ht
  cases U with
  | none => cases e
  | some u =>
   obtain ⟨y, s1, e1, e2⟩ := then_some e
   have k1 := hU u rfl _ y s1 (h.step (by rw [ht]; simp)) e1
   obtain ⟨_, s2, e3, e4⟩ := then_some e2
   have k2 := keeps_want h (by simp) s1 _ s2 k1.1 e3
   cases e4
   have e5 : s1.o = s.o + 1 := k1.2.1
   have e6 : s.i + 1 ≤ s1.i := k1.2.2.1
   refine ⟨k2.1, ?_, ?_, Nat.le_trans k1.2.2.2.1 k2.2.2.2.1, fun h0 => k2.2.2.2.2 (k1.2.2.2.2 h0)⟩
   ·show s2.o - 1 = s.o
    rw [k2.2.1, e5]; rfl
   ·show s.i ≤ s2.i
    have := k2.2.2.1
    omega
 ·split at e
  ·rename_i hn
   have st := h.step (name_ne hn)
   split at e
   ·rename_i hl
    split at e
    ·rename_i ht
     obtain ⟨r, s2, e1, e2⟩ := then_some e
     have k2 := keeps_name h _ r s2 (show s.i + 2 < ts.length from h.step (i := s.i + 1) (by rw [ht]; simp)) e1
     cases e2
     have a1 : s.i + 2 ≤ s'.i := k2.2.2.1
     have a2 : s.l + 1 ≤ s'.l := k2.2.2.2.1
     exact ⟨k2.1, k2.2.1, by omega, by omega, fun _ => k2.2.2.2.2 (show s.l + 1 ≤ 32 by omega)⟩
    ·cases e
     exact ⟨st, rfl, Nat.le_succ _, Nat.le_succ _, fun _ => show s.l + 1 ≤ 32 by omega⟩
   ·cases e
  ·cases e
theorem opK_ne {t : List UInt8} (h : opK t ≠ 0) : t ≠ [] := by
 rintro rfl
 exact h rfl
theorem keeps_loopW {ts : List Tok} (h : OkTs ts) {U : PS → PR Ex} (hU : Keeps ts U) {sg : List UInt8} (hg : sg ≠ []) : ∀ (n : Nat) (acc : List Ex), Keeps ts (loopW ts U sg n acc)
 | 0, acc => fun s x s' hs e => by unfold loopW at e; cases e; exact ⟨hs, rfl, Nat.le_refl _, Nat.le_refl _, fun h => h⟩
 | n + 1, acc => fun s x s' hs e => by
  unfold loopW at e
  split at e
  ·rename_i ht
   obtain ⟨a, s1, e1, e2⟩ := then_some e
   have k1 := hU s.up a s1 (h.step (by rw [ht]; exact hg)) e1
   have a1 : s.i + 1 ≤ s1.i := k1.2.2.1
   split at e2
   ·cases e2
    exact ⟨k1.1, k1.2.1, by omega, k1.2.2.2.1, k1.2.2.2.2⟩
   ·have k2 := keeps_loopW h hU hg n _ s1 x s' k1.1 e2
    exact ⟨k2.1, k2.2.1.trans k1.2.1, by have := k2.2.2.1; omega, Nat.le_trans k1.2.2.2.1 k2.2.2.2.1, fun h0 => k2.2.2.2.2 (k1.2.2.2.2 h0)⟩
  ·cases e
   exact ⟨hs, rfl, Nat.le_refl _, Nat.le_refl _, fun h => h⟩
theorem keeps_unitsW {ts : List Tok} (h : OkTs ts) {U : PS → PR Ex} (hU : Keeps ts U) : Keeps ts (unitsW ts U) := by
 intro s x s' hs e
 unfold unitsW at e
 obtain ⟨a, s1, e1, e2⟩ := then_some e
 have k1 := hU s a s1 hs e1
 split at e2
 ·cases e2; exact k1
 ·rename_i ho
  obtain ⟨ks, s2, e3, e4⟩ := then_some e2
  have k2 := keeps_loopW h hU (opK_ne ho) _ _ s1 ks s2 k1.1 e3
  cases e4
  exact ⟨k2.1, k2.2.1.trans k1.2.1, Nat.le_trans k1.2.2.1 k2.2.2.1, Nat.le_trans k1.2.2.2.1 k2.2.2.2.1, fun h0 => k2.2.2.2.2 (k1.2.2.2.2 h0)⟩
theorem keeps_units {ts : List Tok} (h : OkTs ts) : ∀ d : Nat, Keeps ts (unitsF ts d)
 | 0 => keeps_unitsW h (keeps_unitW h fun u e => by cases e)
 | d + 1 => keeps_unitsW h (keeps_unitW h fun u e => by cases e; exact keeps_units h d)
theorem keeps_unit {ts : List Tok} (h : OkTs ts) : ∀ d : Nat, Keeps ts (unitF ts d)
 | 0 => by
  show Keeps ts (unitW ts none)
  exact keeps_unitW h fun u e => by cases e
 | d + 1 => by
  show Keeps ts (unitW ts (some (unitsF ts d)))
  exact keeps_unitW h fun u e => by cases e; exact keeps_units h d
end Go.Proofs.YteieimchleioaaaDoor
/-
  What is read as an expression is right, and small.
-/
namespace Go.Proofs.YteieimchleioaaaDoor
set_option linter.unusedVariables false

/-- What a rule gives: of depth D at most, right in form, its leaves counted, its names short. -/
def GoodU (D : Nat) (f : PS → PR Ex) : Prop := ∀ s x s', f s = .ok x s' → formE x = true ∧ depthE x ≤ D ∧ (leavesE x).length + s.l = s'.l ∧ okE 64 x ∧ sizeE x + 1 ≤ 2 * (leavesE x).length
theorem GoodU.le {D D' : Nat} {f : PS → PR Ex} (h : GoodU D f) (hd : D ≤ D') : GoodU D' f := fun s x s' e => by
 obtain ⟨h1, h2, h3⟩ := h s x s' e
 exact ⟨h1, Nat.le_trans h2 hd, h3⟩
theorem name_len {t : List UInt8} (h : isName (bstr t) = true) : t.length ≤ 64 := by
 unfold isName at h
 simp only [Bool.and_eq_true] at h
 have := of_decide_eq_true h.1.1
 have h2 := this.2.1
 rw [bstr_data] at h2
 exact h2
theorem name_some {ts : List Tok} {s : PS} {r : List UInt8} {s' : PS} (e : nameF ts s = .ok r s') : isName (bstr r) = true ∧ s' = s.up := by
 unfold nameF at e
 split at e
 ·rename_i hn
  cases e
  exact ⟨hn, rfl⟩
 ·cases e
theorem want_some {ts : List Tok} {t : List UInt8} {s : PS} {u : Unit} {s' : PS} (e : wantF ts t s = .ok u s') : s' = s.up := by
 unfold wantF at e
 split at e
 ·cases e; rfl
 ·cases e
theorem good_unitW {ts : List Tok} {D : Nat} {U : Option (PS → PR Ex)} (hD : 1 ≤ D) (hU : ∀ u, U = some u → GoodU D u) : GoodU D (unitW ts U) := by
 intro s x s' e
 unfold unitW at e
 split at e
 ·cases U with
  | none => cases e
  | some u =>
   obtain ⟨y, s1, e1, e2⟩ := then_some e
   obtain ⟨_, s2, e3, e4⟩ := then_some e2
   have := want_some e3
   subst this
   cases e4
   have g := hU u rfl _ _ _ e1
   exact g
 ·split at e
  ·rename_i hn
   split at e
   ·split at e
    ·obtain ⟨r, s2, e1, e2⟩ := then_some e
     obtain ⟨hr, rfl⟩ := name_some e1
     cases e2
     have h1 := name_len hn
     have h2 := name_len hr
     refine ⟨?_, ?_, ?_, ?_, ?_⟩
     ·simp [formE, formL, partB, hn, hr]
     ·simp only [depthE, depthL]; omega
     ·rw [leaves_leaf rfl]
      show 1 + s.l = s.l + 1
      omega
     ·exact ⟨h1, h2, trivial⟩
     ·rw [leaves_leaf rfl]; simp [sizeE, sizeL]
    ·cases e
     have h1 := name_len hn
     refine ⟨?_, ?_, ?_, ?_, ?_⟩
     ·simp [formE, formL, partB, hn]
     ·simp only [depthE, depthL]; omega
     ·rw [leaves_leaf rfl]
      show 1 + s.l = s.l + 1
      omega
     ·exact ⟨by simp, h1, trivial⟩
     ·rw [leaves_leaf rfl]; simp [sizeE, sizeL]
   ·cases e
  ·cases e
theorem sizeL_snoc : ∀ (ks : List Ex) (e : Ex), sizeL (ks ++ [e]) = sizeL ks + sizeE e
 | [], e => by simp [sizeL]
 | a :: r, e => by rw [List.cons_append, sizeL, sizeL_snoc r e, sizeL]; omega
theorem formL_snoc : ∀ (ks : List Ex) (e : Ex), formL (ks ++ [e]) = (formL ks && formE e)
 | [], e => by simp [formL]
 | a :: r, e => by rw [List.cons_append, formL, formL_snoc r e, formL, Bool.and_assoc]
theorem okL_snoc : ∀ (M : Nat) (ks : List Ex) (e : Ex), okL M ks → okE M e → okL M (ks ++ [e])
 | M, [], e, _, h => ⟨h, trivial⟩
 | M, a :: r, e, h, h2 => by
  unfold okL at h
  rw [List.cons_append]
  exact ⟨h.1, okL_snoc M r e h.2 h2⟩
/-- What the loop over units keeps. -/
def GoodL (D : Nat) (ks : List Ex) (n : Nat) : Prop := formL ks = true ∧ depthL ks ≤ D ∧ (leavesL ks).length = n ∧ okL 64 ks ∧ sizeL ks + ks.length ≤ 2 * n
theorem GoodL.snoc {D n : Nat} {ks : List Ex} {e : Ex} {m : Nat} (h : GoodL D ks n) (h1 : formE e = true) (h2 : depthE e ≤ D) (h3 : (leavesE e).length + n = m) (h4 : okE 64 e) (h5 : sizeE e + 1 ≤ 2 * (leavesE e).length) : GoodL D (ks ++ [e]) m := by
 obtain ⟨g1, g2, g3, g4, g5⟩ := h
 refine ⟨by rw [formL_snoc, g1, h1]; rfl, by rw [depthL_snoc]; omega, by rw [leavesL_snoc, List.length_append]; omega, okL_snoc _ _ _ g4 h4, ?_⟩
 rw [sizeL_snoc, List.length_append, List.length_singleton]
 omega
theorem good_loopW {ts : List Tok} {D : Nat} {U : PS → PR Ex} (hU : GoodU D U) (sg : List UInt8) (b : Nat) : ∀ (n : Nat) (acc : List Ex) (s : PS) (ks : List Ex) (s' : PS), b ≤ s.l → GoodL D acc (s.l - b) → loopW ts U sg n acc s = .ok ks s' →
  b ≤ s'.l ∧ GoodL D ks (s'.l - b) ∧ (0 < n → txt ts s.i = sg → if opK sg = 5 then ks.length = acc.length + 1 else acc.length + 1 ≤ ks.length) ∧ acc.length ≤ ks.length
 | 0, acc, s, ks, s', hb, hg, e => by
  unfold loopW at e
  cases e
  exact ⟨hb, hg, fun h => absurd h (by omega), Nat.le_refl _⟩
 | n + 1, acc, s, ks, s', hb, hg, e => by
  unfold loopW at e
  split at e
  ·rename_i ht
   obtain ⟨a, s1, e1, e2⟩ := then_some e
   obtain ⟨h1, h2, h3, h4, h5⟩ := hU s.up a s1 e1
   have h3' : (leavesE a).length + s.l = s1.l := h3
   have hg2 : GoodL D (acc ++ [a]) (s1.l - b) := hg.snoc h1 h2 (by omega) h4 h5
   split at e2
   ·rename_i h6
    cases e2
    exact ⟨by omega, hg2, fun _ _ => by rw [if_pos h6]; simp, by simp⟩
   ·rename_i h6
    obtain ⟨k1, k2, k3, k4⟩ := good_loopW hU sg b n (acc ++ [a]) s1 ks s' (by omega) hg2 e2
    rw [List.length_append, List.length_singleton] at k4
    exact ⟨k1, k2, fun _ _ => by rw [if_neg h6]; exact k4, by omega⟩
  ·rename_i ht
   cases e
   exact ⟨hb, hg, fun _ h => absurd h ht, Nat.le_refl _⟩
theorem opK_cases (t : List UInt8) (h : opK t ≠ 0) : opK t = 3 ∨ opK t = 4 ∨ opK t = 5 := by
 unfold opK at h ⊢
 split
 ·exact .inl rfl
 ·split
  ·exact .inr (.inl rfl)
  ·split
   ·exact .inr (.inr rfl)
   ·rename_i h1 h2 h3
    rw [if_neg h1, if_neg h2, if_neg h3] at h
    exact absurd rfl h
theorem good_unitsW {ts : List Tok} (ht : 0 < ts.length) {D : Nat} {U : PS → PR Ex} (hU : GoodU D U) : GoodU (D + 1) (unitsW ts U) := by
 intro s x s' e
 unfold unitsW at e
 obtain ⟨a, s1, e1, e2⟩ := then_some e
 have g1 := hU s a s1 e1
 split at e2
 ·cases e2
  exact ⟨g1.1, Nat.le_succ_of_le g1.2.1, g1.2.2⟩
 ·rename_i ho
  obtain ⟨ks, s2, e3, e4⟩ := then_some e2
  cases e4
  obtain ⟨h1, h2, h3, h4, h5⟩ := g1
  have h0 : GoodL D [a] (s1.l - s.l) := by
   have : (leavesE a).length = s1.l - s.l := by omega
   refine ⟨by simp [formL, h1], by simp [depthL]; omega, by simp [leavesL]; omega, ⟨h4, trivial⟩, by simp only [sizeL, List.length_singleton]; omega⟩
  obtain ⟨k1, k2, k3, k4⟩ := good_loopW (ts := ts) hU (txt ts s1.i) s.l ts.length [a] s1 ks s' (by omega) h0 e3
  have k5 := k3 ht rfl
  obtain ⟨q1, q2, q3, q4, q5⟩ := k2
  have hlf : leafK (opK (txt ts s1.i)) = false := by rcases opK_cases _ ho with h | h | h <;> rw [h] <;> rfl
  have hlv : leavesE (.mk (opK (txt ts s1.i)) [] [] ks) = leavesL ks := leaves_kids (by rw [hlf]; simp)
  have hlen : 2 ≤ ks.length ∧ (opK (txt ts s1.i) = 5 → ks.length = 2) := by
   split at k5
   ·rename_i h; exact ⟨by rw [k5]; simp, fun _ => by rw [k5]; rfl⟩
   ·rename_i h; exact ⟨by simpa using k5, fun h' => absurd h' h⟩
  refine ⟨?_, ?_, ?_, ⟨by simp, by simp, q4⟩, ?_⟩
  ·rw [formE, q1, Bool.and_true]
   unfold partB
   rcases opK_cases _ ho with h | h | h
   ·rw [h]; simp [hlen.1]
   ·rw [h]; simp [hlen.1]
   ·rw [h]; simp [hlen.2 h]
  ·rw [depthE]; omega
  ·rw [hlv]; omega
  ·rw [hlv, sizeE]
   have := hlen.1
   omega
theorem good_units {ts : List Tok} (ht : 0 < ts.length) : ∀ d : Nat, GoodU (d + 2) (unitsF ts d)
 | 0 => good_unitsW ht (good_unitW (by omega) fun u e => by cases e)
 | d + 1 => good_unitsW ht (good_unitW (by omega) fun u e => by cases e; exact good_units ht d)
/-- What is read as an expression is right. -/
theorem expr_right {ts : List Tok} (h : OkTs ts) {s : PS} (hs : s.i < ts.length) {e : Ex} {s' : PS} (he : exprF ts s = .ok e s') : rightE e = true ∧ okE 64 e ∧ sizeE e ≤ 64 := by
 obtain ⟨h1, h2, h3, h4, h5⟩ := good_units (by omega) 14 _ e s' he
 obtain ⟨_, _, _, _, k⟩ := keeps_units h 14 { s with o := 0, l := 0 } e s' hs he
 have k2 : s'.l ≤ 32 := k (Nat.zero_le _)
 have h3' : (leavesE e).length + 0 = s'.l := h3
 refine ⟨?_, h4, by omega⟩
 unfold rightE
 rw [h1, decide_eq_true (show (leavesE e).length ≤ 32 by omega), decide_eq_true (show depthE e ≤ 16 by omega)]
 rfl
end Go.Proofs.YteieimchleioaaaDoor
/-
  cmp.Compare and cmp.Or of ints.
-/
namespace Go.Proofs.YteieimchleioaaaDoor
open Go.ChangeShapes Go.WideShapes Go.ChangeAt Go.RowKit
set_option linter.unusedVariables false

def cmpI (a b : Int) : Int := if a < b then -1 else if b < a then 1 else 0
/-- The first that is not zero. -/
def orL : List Int → Int
 | [] => 0
 | x :: r => if x = 0 then orL r else x
theorem orL_drop : ∀ {l : List Int} {i : Nat}, (∀ j, j < i → l.getD j 0 = 0) → orL l = orL (l.drop i)
 | l, 0, _ => rfl
 | [], i + 1, _ => rfl
 | x :: r, i + 1, h => by
  have h0 := h 0 (by omega)
  simp only [List.getD_cons_zero] at h0
  rw [List.drop_succ_cons, ← orL_drop (l := r) (i := i) (fun j hj => by have := h (j + 1) (by omega); simpa using this)]
  conv => lhs; unfold orL
  rw [if_pos h0]
theorem orL_at {l : List Int} {i : Nat} (hi : i < l.length) (h : ∀ j, j < i → l.getD j 0 = 0) (hx : ¬ l.getD i 0 = 0) : orL l = l.getD i 0 := by
 rw [orL_drop h, List.drop_eq_getElem_cons hi]
 have e : l.getD i 0 = l[i] := by rw [List.getD_eq_getElem?_getD, List.getElem?_eq_getElem hi]; rfl
 rw [e] at hx ⊢
 conv => lhs; unfold orL
 rw [if_neg hx]
end Go.Proofs.YteieimchleioaaaDoor
/-
  The order of expressions; slices.CompareFunc over kids.
-/
namespace Go.Proofs.YteieimchleioaaaDoor
open Go.ChangeShapes Go.WideShapes Go.ChangeAt Go.RowKit
set_option linter.unusedVariables false

mutual
def cmpE : Ex → Ex → Int
 | .mk k v n ks, e2 => orL [Lib.compareInt k e2.kind, Lib.compareBytes v e2.via, Lib.compareBytes n e2.nm, cmpL ks e2.kids]
def cmpL : List Ex → List Ex → Int
 | [], [] => 0
 | [], _ :: _ => -1
 | _ :: _, [] => 1
 | a :: r, b :: s => orL [cmpE a b, cmpL r s]
end
theorem cmpL_step {ks ls : List Ex} {i : Nat} (h1 : i < ks.length) (h2 : i < ls.length) : cmpL (ks.drop i) (ls.drop i) = orL [cmpE (ks.getD i ex0) (ls.getD i ex0), cmpL (ks.drop (i + 1)) (ls.drop (i + 1))] := by
 rw [List.drop_eq_getElem_cons h1, List.drop_eq_getElem_cons h2, List.getD_eq_getElem?_getD, List.getElem?_eq_getElem h1, List.getD_eq_getElem?_getD, List.getElem?_eq_getElem h2]
 conv => lhs; unfold cmpL
 rfl
theorem orL2 (a b : Int) : orL [a, b] = if a = 0 then b else a := by
 unfold orL
 split
 ·unfold orL
  split
  ·rename_i h; rw [h]; rfl
  ·rfl
 ·rfl
end Go.Proofs.YteieimchleioaaaDoor
/-
  What a text is read as; the law's own texts.
-/
namespace Go.Proofs.YteieimchleioaaaDoor
set_option linter.unusedVariables false

/-- What a text is read as: a value, or a code and an offset. -/
inductive RR (α : Type) where
 | ok (x : α)
 | bad (c : Nat) (i : Nat)
def offT (ts : List Tok) (i : Nat) : Nat := (ts.getD i tok0).2.2.toNat
def ps0 : PS := ⟨0, 0, 0⟩
def offR {α : Type} (ts : List Tok) (r : PR α) : RR α := match r with
 | .ok x _ => .ok x
 | .bad c i => .bad c (offT ts i)
def readF {α : Type} (rule : List Tok → PS → PR α) (l : List UInt8) : RR α :=
 if (tokS l).2.1 = 0 then offR (tokS l).1 (endF (tokS l).1 (rule (tokS l).1 ps0)) else .bad (tokS l).2.1 (tokS l).2.2
def typesR (ts : List Tok) (s : PS) : PR (List AlB) := typesF ts 33 [] s
def schemaR (ts : List Tok) (s : PS) : PR (List DefB) := defsF ts 65 [] s
def badB {α : Type} (r : RR α) (c i : Nat) : Bool := match r with
 | .ok _ => false
 | .bad d j => decide (d = c) && decide (j = i)
theorem badB_eq {α : Type} {r : RR α} {c i : Nat} (h : badB r c i = true) : r = .bad c i := by
 cases r with
 | ok x => cases h
 | bad d j =>
  simp only [badB, Bool.and_eq_true, decide_eq_true_eq] at h
  rw [h.1, h.2]
/-- a + b & c -/
def aw1 : List UInt8 := [97, 32, 43, 32, 98, 32, 38, 32, 99]
/-- a + (b & c) -/
def aw2 : List UInt8 := [97, 32, 43, 32, 40, 98, 32, 38, 32, 99, 41]
/-- definition user {} definition doc { relation v: user | doc#v; permission w = v - v->w; } -/
def aw3 : List UInt8 := [100,101,102,105,110,105,116,105,111,110,32,117,115,101,114,32,123,125,32,100,101,102,105,110,105,116,105,111,110,32,100,111,99,32,123,32,114,101,108,97,116,105,111,110,32,118,58,32,117,115,101,114,32,124,32,100,111,99,35,118,59,32,112,101,114,109,105,115,115,105,111,110,32,119,32,61,32,118,32,45,32,118,45,62,119,59,32,125]
theorem aw1_bad : readF exprF aw1 = .bad 6 6 := badB_eq (by decide +kernel)
def aw2E : Ex := .mk 3 [] [] [.mk 1 [] [97] [], .mk 4 [] [] [.mk 1 [] [98] [], .mk 1 [] [99] []]]
def okB {α : Type} (f : α → Bool) (r : RR α) : Bool := match r with
 | .ok x => f x
 | .bad _ _ => false
theorem okB_ok {α : Type} {f : α → Bool} {r : RR α} (h : okB f r = true) : ∃ x, r = .ok x ∧ f x = true := by
 cases r with
 | ok x => exact ⟨x, rfl, h⟩
 | bad c i => cases h
theorem aw2_ok : ∃ e, readF exprF aw2 = .ok e ∧ (cmpE e aw2E == 0) = true := okB_ok (f := fun (e : Ex) => cmpE e aw2E == 0) (by decide +kernel)
theorem aw3_ok : ∃ d : List DefB, readF schemaR aw3 = .ok d ∧ (decide (d.length = 2) && decide ((d.getD 1 ([], [])).2.length = 2)) = true := okB_ok (f := fun (d : List DefB) => decide (d.length = 2) && decide ((d.getD 1 ([], [])).2.length = 2)) (by decide +kernel)
end Go.Proofs.YteieimchleioaaaDoor
/-
  lex.isSpace, isOfLine, isOfWord, sign; the run of a class of bytes (Tokens$1).
-/
namespace Go.Proofs.YteieimchleioaaaDoor
open Go.ChangeShapes Go.WideShapes Go.ChangeAt Go.RowKit
set_option linter.unusedVariables false

theorem ixc (c : UInt8) : (((c.toNat : Int)).toNat.toUInt8 = c) := by
 show UInt8.ofNat c.toNat = c
 rw [UInt8.ofNat_toNat]
theorem sp_ix (c : UInt8) : decide (0 ≤ Lib.indexByte [32, 9, 10, 13] c) = spB c := by
 have h : ∀ n : Fin 256, (decide (0 ≤ Lib.indexByte [32, 9, 10, 13] (UInt8.ofNat n.val)) == spB (UInt8.ofNat n.val)) = true := by decide +kernel
 have hc : UInt8.ofNat c.toNat = c := UInt8.ofNat_toNat
 have := h ⟨c.toNat, c.toNat_lt⟩
 simp only [hc] at this
 exact beq_iff_eq.1 this
theorem sg_ix (c : UInt8) : decide (0 ≤ Lib.indexByte sgL c) = sgB c := by
 have h : ∀ n : Fin 256, (decide (0 ≤ Lib.indexByte sgL (UInt8.ofNat n.val)) == sgB (UInt8.ofNat n.val)) = true := by decide +kernel
 have hc : UInt8.ofNat c.toNat = c := UInt8.ofNat_toNat
 have := h ⟨c.toNat, c.toNat_lt⟩
 simp only [hc] at this
 exact beq_iff_eq.1 this
theorem ln_ne (c : UInt8) : ((c.toNat : Int) != 10) = lnB c := by
 have h : ∀ n : Fin 256, ((((UInt8.ofNat n.val).toNat : Int) != 10) == lnB (UInt8.ofNat n.val)) = true := by decide +kernel
 have hc : UInt8.ofNat c.toNat = c := UInt8.ofNat_toNat
 have := h ⟨c.toNat, c.toNat_lt⟩
 simp only [hc] at this
 exact beq_iff_eq.1 this
theorem wd_eq (c : UInt8) : wdB c = decide ((97 ≤ c.toNat ∧ c.toNat ≤ 122) ∨ (65 ≤ c.toNat ∧ c.toNat ≤ 90) ∨ (48 ≤ c.toNat ∧ c.toNat ≤ 57) ∨ c.toNat = 95) := by
 have h : ∀ n : Fin 256, (wdB (UInt8.ofNat n.val) == decide ((97 ≤ (UInt8.ofNat n.val).toNat ∧ (UInt8.ofNat n.val).toNat ≤ 122) ∨ (65 ≤ (UInt8.ofNat n.val).toNat ∧ (UInt8.ofNat n.val).toNat ≤ 90) ∨ (48 ≤ (UInt8.ofNat n.val).toNat ∧ (UInt8.ofNat n.val).toNat ≤ 57) ∨ (UInt8.ofNat n.val).toNat = 95)) = true := by decide +kernel
 have hc : UInt8.ofNat c.toNat = c := UInt8.ofNat_toNat
 have := h ⟨c.toNat, c.toNat_lt⟩
 simp only [hc] at this
 exact beq_iff_eq.1 this
set_option maxRecDepth 100000 in
theorem isSpace_any (c : UInt8) (w : World) : Calls Tryd.prog 61 #[.int .u8 c.toNat] w fun e w' => e = .returned (.bool (spB c)) ∧ w = w' := by
 have HC := Lib.hid (fun w => Tryd.strings_IndexByte ⟨#[32, 9, 10, 13]⟩ (c.toNat : Int) w)
 have HI := Lib.hid (ixc c)
 have HS := Lib.hid (sp_ix c)
 go_enter Tryd.func61, Tryd.ntmps61
 go_wp2_with fail
 refine (HC.out _).mono ?_
 rintro e w2 ⟨rfl, hw⟩
 subst hw
 rw [HI.out]
 go_wp2_with fail
 go_ret
 exact ⟨by rw [← HS.out]; rfl, rfl⟩
set_option maxRecDepth 100000 in
theorem isLine_any (c : UInt8) (w : World) : Calls Tryd.prog 63 #[.int .u8 c.toNat] w fun e w' => e = .returned (.bool (lnB c)) ∧ w = w' := by
 have HS := Lib.hid (ln_ne c)
 go_enter Tryd.func63, Tryd.ntmps63
 go_wp2_with fail
 go_ret
 exact ⟨by rw [← HS.out]; rfl, rfl⟩
set_option maxRecDepth 100000 in
set_option maxHeartbeats 1000000 in
theorem isWord_any (c : UInt8) (w : World) : Calls Tryd.prog 64 #[.int .u8 c.toNat] w fun e w' => e = .returned (.bool (wdB c)) ∧ w = w' := by
 have HS := Lib.hid (wd_eq c)
 go_enter Tryd.func64, Tryd.ntmps64
 go_wp2_with fail
 all_goals
  go_ret
  refine ⟨ret_b ?_, rfl⟩
  rw [HS.out, Bool.eq_iff_iff]
  simp only [decide_eq_true_eq, beq_iff_eq]
  first | omega | (simp; omega)
/-- What strings the walk cuts out. -/
theorem ext_data (s : ByteArray) (a b : Nat) : (s.extract a b) = bstr ((s.data.toList.drop a).take (b - a)) := by
 have h : (s.extract a b).data.toList = (s.data.toList.drop a).take (b - a) := by
  simp [ByteArray.data_extract]
 rw [← bstr_back (s.extract a b), h]
theorem size_len (s : ByteArray) : s.data.toList.length = s.size := by rw [Array.length_toList]; rfl
theorem get_getD (s : ByteArray) (i : Nat) (h : i < s.size) : s[i] = s.data.toList.getD i 0 := by
 rw [List.getD_eq_getElem?_getD, List.getElem?_eq_getElem (by rw [size_len]; exact h)]; rfl
set_option maxRecDepth 100000 in
set_option maxHeartbeats 1000000 in
theorem runSp (s : ByteArray) (i : Nat) (a b : Nat) (hs : s.size ≤ 1000000) (hi : i ≤ s.size) (w : World) (ha : w.cell? ⟨a, 0, none⟩ = some (.int .i64 i)) (hb : w.cell? ⟨b, 0, none⟩ = some (.string s)) :
  Calls Tryd.prog 60 #[.func (.func 61) #[] #[], .pointer (some ⟨a, 0, none⟩), .pointer (some ⟨b, 0, none⟩)] w fun e w' => e = .returned (.string (s.extract i (i + runL spB s.data.toList i))) ∧ w = w' := by
 have hs' : (s.size : Int) ≤ 1000000 := by omega
 go_enter Tryd.func60, Tryd.ntmps60
 go_wp2_with fail
 go_loop [5] (fun jv => ∃ j : Nat, i ≤ j ∧ j ≤ s.size ∧ jv = .int .i64 j ∧ Hid (∀ k, i ≤ k → k < j → spB (s.data.toList.getD k 0) = true)) (fun jv => s.size - (intOf jv).toNat)
 case atStart => exact ⟨i, Nat.le_refl _, hi, rfl, fun k h1 h2 => by omega⟩
 case round =>
  obtain ⟨j, hij, hj, rfl, HP⟩ := hrel
  have hj0 : (0 : Int) ≤ j := by omega
  by_cases hlt : j < s.size
  ·have hlt1 : (j : Int) < s.size := by omega
   have HX := Lib.hid (get_getD s j hlt)
   go_wp2_with fail
   refine (isSpace_any s[j] _).mono ?_
   rintro e w1 ⟨rfl, rfl⟩
   cases hc : spB s[j] with
   | true =>
    have HC := Lib.hid hc
    clear hc
    go_wp2_with fail
    go_round
    case rel =>
     refine ⟨j + 1, by omega, by omega, by go_num, fun k h1 h2 => ?_⟩
     by_cases e : k = j
     ·subst e; rw [← HX.out]; exact HC.out
     ·exact HP.out k h1 (by omega)
    case measure => simp [intOf]; omega
   | false =>
    have H : Hid (j = i + runL spB s.data.toList i) := by
     show _ = _
     rw [runL_eq (k := j - i) (by rw [size_len]; omega) (fun k h1 h2 => HP.out k h1 (by omega)) (fun h => by rw [show i + (j - i) = j by omega, ← HX.out]; exact hc)]
     omega
    have h1 : (i : Int) ≤ j := by omega
    have h2 : (j : Int) ≤ s.size := by omega
    clear hc HP
    go_wp2_with fail
    go_ret
    exact ⟨by rw [← H.out]; rfl, rfl⟩
  ·obtain rfl : j = s.size := by omega
   have H : Hid (s.size = i + runL spB s.data.toList i) := by
    show _ = _
    rw [runL_eq (k := s.size - i) (by rw [size_len]; omega) (fun k h1 h2 => HP.out k h1 (by omega)) (fun h => by rw [size_len] at h; omega)]
    omega
   have h1 : (i : Int) ≤ s.size := by omega
   clear HP
   go_wp2_with fail
   go_ret
   exact ⟨by rw [← H.out]; rfl, rfl⟩
set_option maxRecDepth 100000 in
set_option maxHeartbeats 1000000 in
theorem runLn (s : ByteArray) (i : Nat) (a b : Nat) (hs : s.size ≤ 1000000) (hi : i ≤ s.size) (w : World) (ha : w.cell? ⟨a, 0, none⟩ = some (.int .i64 i)) (hb : w.cell? ⟨b, 0, none⟩ = some (.string s)) :
  Calls Tryd.prog 60 #[.func (.func 63) #[] #[], .pointer (some ⟨a, 0, none⟩), .pointer (some ⟨b, 0, none⟩)] w fun e w' => e = .returned (.string (s.extract i (i + runL lnB s.data.toList i))) ∧ w = w' := by
 have hs' : (s.size : Int) ≤ 1000000 := by omega
 go_enter Tryd.func60, Tryd.ntmps60
 go_wp2_with fail
 go_loop [5] (fun jv => ∃ j : Nat, i ≤ j ∧ j ≤ s.size ∧ jv = .int .i64 j ∧ Hid (∀ k, i ≤ k → k < j → lnB (s.data.toList.getD k 0) = true)) (fun jv => s.size - (intOf jv).toNat)
 case atStart => exact ⟨i, Nat.le_refl _, hi, rfl, fun k h1 h2 => by omega⟩
 case round =>
  obtain ⟨j, hij, hj, rfl, HP⟩ := hrel
  have hj0 : (0 : Int) ≤ j := by omega
  by_cases hlt : j < s.size
  ·have hlt1 : (j : Int) < s.size := by omega
   have HX := Lib.hid (get_getD s j hlt)
   go_wp2_with fail
   refine (isLine_any s[j] _).mono ?_
   rintro e w1 ⟨rfl, rfl⟩
   cases hc : lnB s[j] with
   | true =>
    have HC := Lib.hid hc
    clear hc
    go_wp2_with fail
    go_round
    case rel =>
     refine ⟨j + 1, by omega, by omega, by go_num, fun k h1 h2 => ?_⟩
     by_cases e : k = j
     ·subst e; rw [← HX.out]; exact HC.out
     ·exact HP.out k h1 (by omega)
    case measure => simp [intOf]; omega
   | false =>
    have H : Hid (j = i + runL lnB s.data.toList i) := by
     show _ = _
     rw [runL_eq (k := j - i) (by rw [size_len]; omega) (fun k h1 h2 => HP.out k h1 (by omega)) (fun h => by rw [show i + (j - i) = j by omega, ← HX.out]; exact hc)]
     omega
    have h1 : (i : Int) ≤ j := by omega
    have h2 : (j : Int) ≤ s.size := by omega
    clear hc HP
    go_wp2_with fail
    go_ret
    exact ⟨by rw [← H.out]; rfl, rfl⟩
  ·obtain rfl : j = s.size := by omega
   have H : Hid (s.size = i + runL lnB s.data.toList i) := by
    show _ = _
    rw [runL_eq (k := s.size - i) (by rw [size_len]; omega) (fun k h1 h2 => HP.out k h1 (by omega)) (fun h => by rw [size_len] at h; omega)]
    omega
   have h1 : (i : Int) ≤ s.size := by omega
   clear HP
   go_wp2_with fail
   go_ret
   exact ⟨by rw [← H.out]; rfl, rfl⟩
set_option maxRecDepth 100000 in
set_option maxHeartbeats 1000000 in
theorem runWd (s : ByteArray) (i : Nat) (a b : Nat) (hs : s.size ≤ 1000000) (hi : i ≤ s.size) (w : World) (ha : w.cell? ⟨a, 0, none⟩ = some (.int .i64 i)) (hb : w.cell? ⟨b, 0, none⟩ = some (.string s)) :
  Calls Tryd.prog 60 #[.func (.func 64) #[] #[], .pointer (some ⟨a, 0, none⟩), .pointer (some ⟨b, 0, none⟩)] w fun e w' => e = .returned (.string (s.extract i (i + runL wdB s.data.toList i))) ∧ w = w' := by
 have hs' : (s.size : Int) ≤ 1000000 := by omega
 go_enter Tryd.func60, Tryd.ntmps60
 go_wp2_with fail
 go_loop [5] (fun jv => ∃ j : Nat, i ≤ j ∧ j ≤ s.size ∧ jv = .int .i64 j ∧ Hid (∀ k, i ≤ k → k < j → wdB (s.data.toList.getD k 0) = true)) (fun jv => s.size - (intOf jv).toNat)
 case atStart => exact ⟨i, Nat.le_refl _, hi, rfl, fun k h1 h2 => by omega⟩
 case round =>
  obtain ⟨j, hij, hj, rfl, HP⟩ := hrel
  have hj0 : (0 : Int) ≤ j := by omega
  by_cases hlt : j < s.size
  ·have hlt1 : (j : Int) < s.size := by omega
   have HX := Lib.hid (get_getD s j hlt)
   go_wp2_with fail
   refine (isWord_any s[j] _).mono ?_
   rintro e w1 ⟨rfl, rfl⟩
   cases hc : wdB s[j] with
   | true =>
    have HC := Lib.hid hc
    clear hc
    go_wp2_with fail
    go_round
    case rel =>
     refine ⟨j + 1, by omega, by omega, by go_num, fun k h1 h2 => ?_⟩
     by_cases e : k = j
     ·subst e; rw [← HX.out]; exact HC.out
     ·exact HP.out k h1 (by omega)
    case measure => simp [intOf]; omega
   | false =>
    have H : Hid (j = i + runL wdB s.data.toList i) := by
     show _ = _
     rw [runL_eq (k := j - i) (by rw [size_len]; omega) (fun k h1 h2 => HP.out k h1 (by omega)) (fun h => by rw [show i + (j - i) = j by omega, ← HX.out]; exact hc)]
     omega
    have h1 : (i : Int) ≤ j := by omega
    have h2 : (j : Int) ≤ s.size := by omega
    clear hc HP
    go_wp2_with fail
    go_ret
    exact ⟨by rw [← H.out]; rfl, rfl⟩
  ·obtain rfl : j = s.size := by omega
   have H : Hid (s.size = i + runL wdB s.data.toList i) := by
    show _ = _
    rw [runL_eq (k := s.size - i) (by rw [size_len]; omega) (fun k h1 h2 => HP.out k h1 (by omega)) (fun h => by rw [size_len] at h; omega)]
    omega
   have h1 : (i : Int) ≤ s.size := by omega
   clear HP
   go_wp2_with fail
   go_ret
   exact ⟨by rw [← H.out]; rfl, rfl⟩
end Go.Proofs.YteieimchleioaaaDoor
/-
  errors.As at a target of type *api.Code and *api.Fault: closed facts on the model's entries for internal/reflectlite, at this program's types.
-/
namespace Go.Proofs.YteieimchleioaaaDoor.errAs
open Go.RowKit Go.Extern.Stop Go.Stop Go.Extern

theorem methodKind (h : Value) (w : World) : (Go.method 290 148 (.agg #[h]) "Kind").run Tryd.prog w = .ok (109, h) w := by kernel_rfl
theorem methodElem (h : Value) (w : World) : (Go.method 290 148 (.agg #[h]) "Elem").run Tryd.prog w = .ok (121, .agg #[h]) w := by kernel_rfl
theorem methodImplements (h : Value) (w : World) : (Go.method 290 148 (.agg #[h]) "Implements").run Tryd.prog w = .ok (122, .agg #[h]) w := by kernel_rfl
theorem methodAssignableTo (h : Value) (w : World) : (Go.method 290 148 (.agg #[h]) "AssignableTo").run Tryd.prog w = .ok (119, .agg #[h]) w := by kernel_rfl

theorem valueOfPC (a : Addr) (w : World) : (ReflectliteValue.unpack (.iface 124 (.pointer (some a)))).run Tryd.prog w
    = .ok (.agg #[.pointer (some ⟨3, 124, none⟩), .pointer (some ⟨w.heap.size, 0, none⟩), .int .u64 150]) (w.alloc (.cells #[.pointer (some a)] 124)) := by kernel_rfl
theorem typePC (a : Addr) (w : World) : (ReflectliteValue.methodAny (ReflectliteValue.valueError "reflectlite.Value.Type" 0) (fun t _ _ _ => ReflectliteType.toType t) #[.agg #[.pointer (some ⟨3, 124, none⟩), .pointer (some a), .int .u64 150]]).run Tryd.prog w
    = .ok (.iface 148 (.agg #[.pointer (some ⟨3, 124, none⟩)])) w := by kernel_rfl
theorem kindPC (w : World) : ((ReflectliteType.abiMethod fun t => (fun a : Nat => Value.int IntKind.u8 (a : Int)) <$> Rtype.kind t) #[.pointer (some ⟨3, 124, none⟩)]).run Tryd.prog w = .ok (.int .u8 22) w := by kernel_rfl
theorem kindC (w : World) : ((ReflectliteType.abiMethod fun t => (fun a : Nat => Value.int IntKind.u8 (a : Int)) <$> Rtype.kind t) #[.pointer (some ⟨3, 74, none⟩)]).run Tryd.prog w = .ok (.int .u8 2) w := by kernel_rfl
theorem partsPC (a : Addr) (w : World) : (ReflectliteValue.parts (.agg #[.pointer (some ⟨3, 124, none⟩), .pointer (some a), .int .u64 150])).run Tryd.prog w = .ok (some (124, a, 150)) w := by kernel_rfl
theorem isNilPC (a p : Addr) (W : World) (ha : W.cell? a = some (.pointer (some p))) :
    (ReflectliteValue.method (ReflectliteValue.valueError "reflectlite.Value.IsNil" 0) ReflectliteValue.isNil #[.agg #[.pointer (some ⟨3, 124, none⟩), .pointer (some a), .int .u64 150]]).run Tryd.prog W = .ok (.bool false) W := by
  change (ReflectliteValue.parts _ >>= _).run Tryd.prog W = _
  simp only [Array.getLit, List.getElem_toArray, List.getElem_cons_zero, Sem.run_bind, partsPC, Result.andThen]
  simp [ReflectliteValue.isNil, loadVar, isAgg, underlying, Tryd.underlying124, ha, Result.andThen]
theorem elemPC (w : World) : (ReflectliteType.method ReflectliteType.elem #[.agg #[.pointer (some ⟨3, 124, none⟩)]]).run Tryd.prog w = .ok (.iface 148 (.agg #[.pointer (some ⟨3, 74, none⟩)])) w := by kernel_rfl
theorem implementsC (w : World) : (ReflectliteType.relation "Implements" ReflectliteType.implements_ #[.agg #[.pointer (some ⟨3, 74, none⟩)], .iface 148 (.agg #[.pointer (some ⟨3, 27, none⟩)])]).run Tryd.prog w = .ok (.bool true) w := by kernel_rfl
theorem elemOfPC (w : World) : (Rtype.elem? 124).run Tryd.prog w = .ok (some 74) w := by kernel_rfl
theorem mkC (a : Addr) (w : World) : (ReflectliteValue.mk 74 a ReflectliteValue.flagAddr).run Tryd.prog w = .ok (.agg #[.pointer (some ⟨3, 74, none⟩), .pointer (some a), .int .u64 386]) w := by kernel_rfl
theorem elemVPC (a p : Addr) (W : World) (ha : W.cell? a = some (.pointer (some p))) :
    (ReflectliteValue.method (ReflectliteValue.valueError "reflectlite.Value.Elem" 0) ReflectliteValue.elem #[.agg #[.pointer (some ⟨3, 124, none⟩), .pointer (some a), .int .u64 150]]).run Tryd.prog W
      = .ok (.agg #[.pointer (some ⟨3, 74, none⟩), .pointer (some p), .int .u64 386]) W := by
  change (ReflectliteValue.parts _ >>= _).run Tryd.prog W = _
  simp only [Array.getLit, List.getElem_toArray, List.getElem_cons_zero, Sem.run_bind, partsPC, Result.andThen]
  simp [ReflectliteValue.elem, loadVar, isAgg, underlying, Tryd.underlying124, ha, Result.andThen, elemOfPC, mkC]
theorem partsCa (a : Addr) (w : World) : (ReflectliteValue.parts (.agg #[.pointer (some ⟨3, 74, none⟩), .pointer (some a), .int .u64 386])).run Tryd.prog w = .ok (some (74, a, 386)) w := by kernel_rfl
theorem partsC (a : Addr) (w : World) : (ReflectliteValue.parts (.agg #[.pointer (some ⟨3, 74, none⟩), .pointer (some a), .int .u64 130])).run Tryd.prog w = .ok (some (74, a, 130)) w := by kernel_rfl
theorem directC (w : World) : (Rtype.directlyAssignable 74 74).run Tryd.prog w = .ok true w := by kernel_rfl
theorem typeOfC (v : Value) (w : World) : (ReflectliteType.typeOf #[.iface 74 v]).run Tryd.prog w = .ok (.iface 148 (.agg #[.pointer (some ⟨3, 74, none⟩)])) w := by kernel_rfl
theorem assignableC (w : World) : (ReflectliteType.relation "AssignableTo" ReflectliteType.assignableTo #[.agg #[.pointer (some ⟨3, 74, none⟩)], .iface 148 (.agg #[.pointer (some ⟨3, 74, none⟩)])]).run Tryd.prog w = .ok (.bool true) w := by kernel_rfl

theorem valueOfPF (a : Addr) (w : World) : (ReflectliteValue.unpack (.iface 126 (.pointer (some a)))).run Tryd.prog w
    = .ok (.agg #[.pointer (some ⟨3, 126, none⟩), .pointer (some ⟨w.heap.size, 0, none⟩), .int .u64 150]) (w.alloc (.cells #[.pointer (some a)] 126)) := by kernel_rfl
theorem typePF (a : Addr) (w : World) : (ReflectliteValue.methodAny (ReflectliteValue.valueError "reflectlite.Value.Type" 0) (fun t _ _ _ => ReflectliteType.toType t) #[.agg #[.pointer (some ⟨3, 126, none⟩), .pointer (some a), .int .u64 150]]).run Tryd.prog w
    = .ok (.iface 148 (.agg #[.pointer (some ⟨3, 126, none⟩)])) w := by kernel_rfl
theorem kindPF (w : World) : ((ReflectliteType.abiMethod fun t => (fun a : Nat => Value.int IntKind.u8 (a : Int)) <$> Rtype.kind t) #[.pointer (some ⟨3, 126, none⟩)]).run Tryd.prog w = .ok (.int .u8 22) w := by kernel_rfl
theorem kindF (w : World) : ((ReflectliteType.abiMethod fun t => (fun a : Nat => Value.int IntKind.u8 (a : Int)) <$> Rtype.kind t) #[.pointer (some ⟨3, 98, none⟩)]).run Tryd.prog w = .ok (.int .u8 25) w := by kernel_rfl
theorem partsPF (a : Addr) (w : World) : (ReflectliteValue.parts (.agg #[.pointer (some ⟨3, 126, none⟩), .pointer (some a), .int .u64 150])).run Tryd.prog w = .ok (some (126, a, 150)) w := by kernel_rfl
theorem isNilPF (a p : Addr) (W : World) (ha : W.cell? a = some (.pointer (some p))) :
    (ReflectliteValue.method (ReflectliteValue.valueError "reflectlite.Value.IsNil" 0) ReflectliteValue.isNil #[.agg #[.pointer (some ⟨3, 126, none⟩), .pointer (some a), .int .u64 150]]).run Tryd.prog W = .ok (.bool false) W := by
  change (ReflectliteValue.parts _ >>= _).run Tryd.prog W = _
  simp only [Array.getLit, List.getElem_toArray, List.getElem_cons_zero, Sem.run_bind, partsPF, Result.andThen]
  simp [ReflectliteValue.isNil, loadVar, isAgg, underlying, Tryd.underlying126, ha, Result.andThen]
theorem elemPF (w : World) : (ReflectliteType.method ReflectliteType.elem #[.agg #[.pointer (some ⟨3, 126, none⟩)]]).run Tryd.prog w = .ok (.iface 148 (.agg #[.pointer (some ⟨3, 98, none⟩)])) w := by kernel_rfl
theorem implementsF (w : World) : (ReflectliteType.relation "Implements" ReflectliteType.implements_ #[.agg #[.pointer (some ⟨3, 98, none⟩)], .iface 148 (.agg #[.pointer (some ⟨3, 27, none⟩)])]).run Tryd.prog w = .ok (.bool true) w := by kernel_rfl
theorem elemOfPF (w : World) : (Rtype.elem? 126).run Tryd.prog w = .ok (some 98) w := by kernel_rfl
theorem mkF (a : Addr) (w : World) : (ReflectliteValue.mk 98 a ReflectliteValue.flagAddr).run Tryd.prog w = .ok (.agg #[.pointer (some ⟨3, 98, none⟩), .pointer (some a), .int .u64 409]) w := by kernel_rfl
theorem elemVPF (a p : Addr) (W : World) (ha : W.cell? a = some (.pointer (some p))) :
    (ReflectliteValue.method (ReflectliteValue.valueError "reflectlite.Value.Elem" 0) ReflectliteValue.elem #[.agg #[.pointer (some ⟨3, 126, none⟩), .pointer (some a), .int .u64 150]]).run Tryd.prog W
      = .ok (.agg #[.pointer (some ⟨3, 98, none⟩), .pointer (some p), .int .u64 409]) W := by
  change (ReflectliteValue.parts _ >>= _).run Tryd.prog W = _
  simp only [Array.getLit, List.getElem_toArray, List.getElem_cons_zero, Sem.run_bind, partsPF, Result.andThen]
  simp [ReflectliteValue.elem, loadVar, isAgg, underlying, Tryd.underlying126, ha, Result.andThen, elemOfPF, mkF]
theorem partsFa (a : Addr) (w : World) : (ReflectliteValue.parts (.agg #[.pointer (some ⟨3, 98, none⟩), .pointer (some a), .int .u64 409])).run Tryd.prog w = .ok (some (98, a, 409)) w := by kernel_rfl
theorem partsF (a : Addr) (w : World) : (ReflectliteValue.parts (.agg #[.pointer (some ⟨3, 98, none⟩), .pointer (some a), .int .u64 153])).run Tryd.prog w = .ok (some (98, a, 153)) w := by kernel_rfl
theorem directF (w : World) : (Rtype.directlyAssignable 98 98).run Tryd.prog w = .ok true w := by kernel_rfl
theorem typeOfF (v : Value) (w : World) : (ReflectliteType.typeOf #[.iface 98 v]).run Tryd.prog w = .ok (.iface 148 (.agg #[.pointer (some ⟨3, 98, none⟩)])) w := by kernel_rfl
theorem assignableF (w : World) : (ReflectliteType.relation "AssignableTo" ReflectliteType.assignableTo #[.agg #[.pointer (some ⟨3, 98, none⟩)], .iface 148 (.agg #[.pointer (some ⟨3, 98, none⟩)])]).run Tryd.prog w = .ok (.bool true) w := by kernel_rfl

theorem assignableFC (w : World) : (ReflectliteType.relation "AssignableTo" ReflectliteType.assignableTo #[.agg #[.pointer (some ⟨3, 98, none⟩)], .iface 148 (.agg #[.pointer (some ⟨3, 74, none⟩)])]).run Tryd.prog w = .ok (.bool false) w := by kernel_rfl
theorem assignableCF (w : World) : (ReflectliteType.relation "AssignableTo" ReflectliteType.assignableTo #[.agg #[.pointer (some ⟨3, 74, none⟩)], .iface 148 (.agg #[.pointer (some ⟨3, 98, none⟩)])]).run Tryd.prog w = .ok (.bool false) w := by kernel_rfl
theorem valueOfC (c : Int) (w : World) : (ReflectliteValue.unpack (.iface 74 (.int .i64 c))).run Tryd.prog w
    = .ok (.agg #[.pointer (some ⟨3, 74, none⟩), .pointer (some ⟨w.heap.size, 0, none⟩), .int .u64 130]) (w.alloc (.cells #[.int .i64 c] 74)) := by kernel_rfl
theorem valueOfF (c n : Int) (w : World) : (ReflectliteValue.unpack (.iface 98 (.agg #[.int .i64 c, .int .i64 n]))).run Tryd.prog w
    = .ok (.agg #[.pointer (some ⟨3, 98, none⟩), .pointer (some ⟨w.heap.size, 0, none⟩), .int .u64 153]) (w.alloc (.cells #[.int .i64 c, .int .i64 n] 98)) := by kernel_rfl
theorem setC (ta b : Addr) (c : Int) (old : Value) (W : World) (hb : W.cell? b = some (.int .i64 c)) (ht : W.cell? ta = some old) (hf : W.frozen? ta = false) :
    (ReflectliteValue.set #[.agg #[.pointer (some ⟨3, 74, none⟩), .pointer (some ta), .int .u64 386], .agg #[.pointer (some ⟨3, 74, none⟩), .pointer (some b), .int .u64 130]]).run Tryd.prog W
      = .ok (.tuple #[]) (W.setCell ta (.int .i64 c)) := by
  change (ReflectliteValue.parts _ >>= _).run Tryd.prog W = _
  simp only [Array.getLit, List.getElem_toArray, List.getElem_cons_zero, List.getElem_cons_succ, Sem.run_bind, partsCa, partsC, Result.andThen]
  simp [ReflectliteValue.flagAddr, loadVar, isAgg, underlying, Tryd.underlying74, hb, Result.andThen, directC, storeVar, Value.cells, storeCells, Addr.add]
  rw [run_store Tryd.prog W ta _ _ (by rfl)]
  simp [ht, hf]
theorem sizeF (w : World) : (sizeOf 98).run Tryd.prog w = .ok 2 w := by kernel_rfl
theorem aggF (w : World) : (isAgg 98).run Tryd.prog w = .ok true w := by kernel_rfl
theorem setF (ta b : Addr) (c n : Int) (o0 o1 : Value) (W : World) (hb0 : W.cell? b = some (.int .i64 c)) (hb1 : W.cell? (b.add 1) = some (.int .i64 n))
    (ht0 : W.cell? ta = some o0) (ht1 : (W.setCell ta (.int .i64 c)).cell? (ta.add 1) = some o1) (hf0 : W.frozen? ta = false) (hf1 : (W.setCell ta (.int .i64 c)).frozen? (ta.add 1) = false) :
    (ReflectliteValue.set #[.agg #[.pointer (some ⟨3, 98, none⟩), .pointer (some ta), .int .u64 409], .agg #[.pointer (some ⟨3, 98, none⟩), .pointer (some b), .int .u64 153]]).run Tryd.prog W
      = .ok (.tuple #[]) ((W.setCell ta (.int .i64 c)).setCell (ta.add 1) (.int .i64 n)) := by
  have hl : (loadCells b 2).run Tryd.prog W = .ok #[.int .i64 c, .int .i64 n] W :=
    run_loadCells_list (P := Tryd.prog) W b [.int .i64 c, .int .i64 n] (fun j v hj => by
      match j, hj with
      | 0, hj => simp at hj; subst hj; simpa [Addr.add] using hb0
      | 1, hj => simp at hj; subst hj; exact hb1)
  change (ReflectliteValue.parts _ >>= _).run Tryd.prog W = _
  simp only [Array.getLit, List.getElem_toArray, List.getElem_cons_zero, List.getElem_cons_succ, Sem.run_bind, partsFa, partsF, Result.andThen]
  simp [ReflectliteValue.flagAddr, loadVar, hl, Result.andThen, directF, storeVar, Value.cells, storeCells]
  rw [show ta.add 0 = ta from by simp [Addr.add], run_store Tryd.prog W ta _ _ (by rfl)]
  simp [ht0, hf0]
  rw [run_store Tryd.prog _ (ta.add 1) _ _ (by rfl)]
  simp [ht1, hf1]
end Go.Proofs.YteieimchleioaaaDoor.errAs
