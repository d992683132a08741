/-
  vestryref08: small, digit, Reserved, Is, IsID.
-/
import Derived.Test.YtdnmgemjhpkekaaGreatNameB
namespace Go.Proofs.YtdnmgemjhpkekaaGreat
open Go.ChangeShapes Go.WideShapes Go.ChangeAt Go.RowKit
set_option linter.unusedVariables false

set_option maxRecDepth 100000 in
theorem rsmall_any (c : UInt8) (w : World) : Calls Tryz.prog 50 #[.int .u8 c.toNat] w fun e w' => e = .returned (.bool (smallB c)) ∧ w = w' := by
  go_enter Tryz.func50, Tryz.ntmps50
  go_wp2_with fail
  all_goals
    go_ret
    refine ⟨ret_b ?_, rfl⟩
    unfold smallB
    rw [Bool.eq_iff_iff]
    simp only [decide_eq_true_eq, Bool.false_eq_true, false_iff]
    omega
set_option maxRecDepth 100000 in
theorem rdigit_any (c : UInt8) (w : World) : Calls Tryz.prog 52 #[.int .u8 c.toNat] w fun e w' => e = .returned (.bool (digitB c)) ∧ w = w' := by
  go_enter Tryz.func52, Tryz.ntmps52
  go_wp2_with fail
  all_goals
    go_ret
    refine ⟨ret_b ?_, rfl⟩
    unfold digitB
    rw [Bool.eq_iff_iff]
    simp only [decide_eq_true_eq, Bool.false_eq_true, false_iff]
    omega

theorem word_ne {s w : ByteArray} {l : List UInt8} (hw : w.data.toList = l) (h : ¬ s = w) : ¬ s.toList = l := by
  intro e
  rw [toList_data, ← hw] at e
  exact h (bytes_inj e)
theorem word_nb {s : ByteArray} {l : List UInt8} (h : ¬ s.toList = l) : (s.toList == l) = false := by rw [beq_eq_false_iff_ne]; exact h
theorem word_eq {s w : ByteArray} {l : List UInt8} (hw : w.data.toList = l) (h : s = w) : s.toList = l := by rw [h, toList_data, hw]
theorem word_eb {s : ByteArray} {l : List UInt8} (h : s.toList = l) : (s.toList == l) = true := by rw [h]; simp

set_option maxRecDepth 100000 in
theorem rres_any (s : ByteArray) (w : World) : Calls Tryz.prog 51 #[.string s] w fun e w' => e = .returned (.bool (resB s)) ∧ w = w' := by
  by_cases h0 : s = wDef
  · have H : Hid (resB s = true) := decide_eq_true (.inl h0)
    have p0 := word_eq (l := [100, 101, 102, 105, 110, 105, 116, 105, 111, 110]) rfl h0
    have t0 := word_eb p0
    clear h0
    go_enter Tryz.func51, Tryz.ntmps51
    go_wp2_with fail
    go_ret
    exact ⟨by rw [H.out]; rfl, rfl⟩
  have n0 := word_ne (l := [100, 101, 102, 105, 110, 105, 116, 105, 111, 110]) rfl h0
  have t0 := word_nb n0
  by_cases h1 : s = wRel
  · have H : Hid (resB s = true) := decide_eq_true (.inr (.inl h1))
    have p1 := word_eq (l := [114, 101, 108, 97, 116, 105, 111, 110]) rfl h1
    have t1 := word_eb p1
    clear h0 h1
    go_enter Tryz.func51, Tryz.ntmps51
    go_wp2_with fail
    go_ret
    exact ⟨by rw [H.out]; rfl, rfl⟩
  have n1 := word_ne (l := [114, 101, 108, 97, 116, 105, 111, 110]) rfl h1
  have t1 := word_nb n1
  by_cases h2 : s = wPerm
  · have H : Hid (resB s = true) := decide_eq_true (.inr (.inr h2))
    have p2 := word_eq (l := [112, 101, 114, 109, 105, 115, 115, 105, 111, 110]) rfl h2
    have t2 := word_eb p2
    clear h0 h1 h2
    go_enter Tryz.func51, Tryz.ntmps51
    go_wp2_with fail
    go_ret
    exact ⟨by rw [H.out]; rfl, rfl⟩
  have n2 := word_ne (l := [112, 101, 114, 109, 105, 115, 115, 105, 111, 110]) rfl h2
  have t2 := word_nb n2
  have H : Hid (resB s = false) := decide_eq_false (by simp [h0, h1, h2])
  clear h0 h1 h2
  go_enter Tryz.func51, Tryz.ntmps51
  go_wp2_with fail
  go_ret
  exact ⟨by rw [H.out]; rfl, rfl⟩

theorem hasN (c : UInt8) : hasB false ⟨#[95]⟩ c = (smallB c || digitB c || decide (c.toNat = 95)) := by
  have h : ∀ n : Fin 256, (hasB false ⟨#[95]⟩ (UInt8.ofNat n.val) == (smallB (UInt8.ofNat n.val) || digitB (UInt8.ofNat n.val) || decide ((UInt8.ofNat n.val).toNat = 95))) = true := by decide +kernel
  have hc : UInt8.ofNat c.toNat = c := UInt8.ofNat_toNat
  have := h ⟨c.toNat, c.toNat_lt⟩
  simp only [hc] at this
  exact beq_iff_eq.1 this
theorem hasI (c : UInt8) : hasB true ⟨#[95, 45, 46, 47, 61]⟩ c = (smallB c || digitB c || decide ((65 ≤ c.toNat ∧ c.toNat ≤ 90) ∨ c.toNat = 95 ∨ c.toNat = 45 ∨ c.toNat = 46 ∨ c.toNat = 47 ∨ c.toNat = 61)) := by
  have h : ∀ n : Fin 256, (hasB true ⟨#[95, 45, 46, 47, 61]⟩ (UInt8.ofNat n.val) == (smallB (UInt8.ofNat n.val) || digitB (UInt8.ofNat n.val) || decide ((65 ≤ (UInt8.ofNat n.val).toNat ∧ (UInt8.ofNat n.val).toNat ≤ 90) ∨ (UInt8.ofNat n.val).toNat = 95 ∨ (UInt8.ofNat n.val).toNat = 45 ∨ (UInt8.ofNat n.val).toNat = 46 ∨ (UInt8.ofNat n.val).toNat = 47 ∨ (UInt8.ofNat n.val).toNat = 61))) = true := by decide +kernel
  have hc : UInt8.ofNat c.toNat = c := UInt8.ofNat_toNat
  have := h ⟨c.toNat, c.toNat_lt⟩
  simp only [hc] at this
  exact beq_iff_eq.1 this

theorem cons_f {cap : Bool} {signs s : ByteArray} {most k : Nat} (hk : k < s.size) (h : hasB cap signs s[k] = false) : consB cap signs most s.data.toList = false := by
  have hsl : s.data.toList.length = s.size := by rw [Array.length_toList]; rfl
  refine decide_eq_false (fun h' => ?_)
  have h1 := h'.2.2 s[k] (by
    have e : s[k] = s.data.toList[k]'(by omega) := rfl
    rw [e]; exact List.getElem_mem _)
  rw [h] at h1; cases h1
theorem cons_t {cap : Bool} {signs s : ByteArray} {most : Nat} (h1 : 1 ≤ s.size) (h2 : s.size ≤ most) (h : ∀ j, (hj : j < s.size) → hasB cap signs s[j] = true) : consB cap signs most s.data.toList = true := by
  have hsl : s.data.toList.length = s.size := by rw [Array.length_toList]; rfl
  refine decide_eq_true ⟨by omega, by omega, fun c hc => ?_⟩
  obtain ⟨j, hj, rfl⟩ := List.getElem_of_mem hc
  exact h j (by omega)

theorem isName_f1 {s : ByteArray} (h : consB false ⟨#[95]⟩ 64 s.data.toList = false) : isName s = false := by unfold isName; rw [h]; rfl
theorem isName_f2 {s : ByteArray} (h : smallB (s.data.toList.getD 0 0) = false) : isName s = false := by unfold isName; rw [h]; simp
theorem isName_f3 {s : ByteArray} (h : resB s = true) : isName s = false := by unfold isName; rw [h]; simp
theorem isName_t {s : ByteArray} (h1 : consB false ⟨#[95]⟩ 64 s.data.toList = true) (h2 : smallB (s.data.toList.getD 0 0) = true) (h3 : resB s = false) : isName s = true := by unfold isName; rw [h1, h2, h3]; rfl

set_option maxRecDepth 100000 in
set_option maxHeartbeats 1000000 in
theorem risName_any (s : ByteArray) (hs : s.size ≤ 1000000) (w : World) : Calls Tryz.prog 31 #[.string s] w fun e w' => e = .returned (.bool (isName s)) ∧ w = w' := by
  have hs' : (s.size : Int) ≤ 1000000 := by omega
  have hsl : s.data.toList.length = s.size := by rw [Array.length_toList]; rfl
  have HSL := Lib.hid hsl
  by_cases h0 : s.size < 1
  · have H : Hid (isName s = false) := isName_f1 (decide_eq_false (fun h => by omega))
    have g : (s.size : Int) < 1 := by omega
    clear hsl h0
    go_enter Tryz.func31, Tryz.ntmps31
    go_wp2_with fail
    go_ret
    exact ⟨by rw [H.out]; rfl, rfl⟩
  by_cases h64 : 64 < s.size
  · have H : Hid (isName s = false) := isName_f1 (decide_eq_false (fun h => by omega))
    have g : ¬ (s.size : Int) < 1 := by omega
    have g2 : (64 : Int) < s.size := by omega
    clear hsl h0
    go_enter Tryz.func31, Tryz.ntmps31
    go_wp2_with fail
    go_ret
    exact ⟨by rw [H.out]; rfl, rfl⟩
  have g : ¬ (s.size : Int) < 1 := by omega
  have g2 : ¬ (64 : Int) < s.size := by omega
  have hpos : 0 < s.size := by omega
  have hpos' : (0 : Int) < s.size := by omega
  have hx : s[0] = s.data.toList.getD 0 0 := by
    rw [List.getD_eq_getElem?_getD, List.getElem?_eq_getElem (by omega)]; rfl
  cases hsm : smallB s[0] with
  | false =>
    have H : Hid (isName s = false) := isName_f2 (by rw [← hx]; exact hsm)
    have HS := Lib.hid hsm
    clear hsl h0 hx hsm
    go_enter Tryz.func31, Tryz.ntmps31
    go_wp2_with fail
    refine (rsmall_any s[0] _).mono ?_
    rintro e w1 ⟨rfl, rfl⟩
    rw [HS.out]
    go_wp2_with fail
    go_ret
    exact ⟨by rw [H.out]; rfl, rfl⟩
  | true =>
    have HS := Lib.hid hsm
    have HX := Lib.hid hx
    cases hrs : resB s with
    | true =>
      have H : Hid (isName s = false) := isName_f3 hrs
      have HR := Lib.hid hrs
      clear hsl h0 hx hsm hrs
      go_enter Tryz.func31, Tryz.ntmps31
      go_wp2_with fail
      refine (rsmall_any s[0] _).mono ?_
      rintro e w1 ⟨rfl, rfl⟩
      rw [HS.out]
      go_wp2_with fail
      refine (rres_any s _).mono ?_
      rintro e w1 ⟨rfl, rfl⟩
      rw [HR.out]
      go_wp2_with fail
      go_ret
      exact ⟨by rw [H.out]; rfl, rfl⟩
    | false =>
      have HR := Lib.hid hrs
      clear hsl h0 hx hsm hrs
      go_enter Tryz.func31, Tryz.ntmps31
      go_wp2_with fail
      refine (rsmall_any s[0] _).mono ?_
      rintro e w1 ⟨rfl, rfl⟩
      rw [HS.out]
      go_wp2_with fail
      refine (rres_any s _).mono ?_
      rintro e w1 ⟨rfl, rfl⟩
      rw [HR.out]
      go_wp2_with fail
      go_loop [3] (fun iv => ∃ k : Nat, k ≤ s.size ∧ iv = .int .i64 k ∧ Hid (∀ j, (hj : j < s.size) → j < k → hasB false ⟨#[95]⟩ s[j] = true)) (fun iv => s.size - (intOf iv).toNat)
      case atStart => exact ⟨0, Nat.zero_le _, rfl, fun j _ hj => by omega⟩
      case round =>
        obtain ⟨k, hk, rfl, HP⟩ := hrel
        by_cases hlt : k < s.size
        · have hk0 : (0 : Int) ≤ k := by omega
          have hk1 : (k : Int) < s.size := by omega
          have next : hasB false ⟨#[95]⟩ s[k] = true → ∀ j, (hj : j < s.size) → j < k + 1 → hasB false ⟨#[95]⟩ s[j] = true := by
            intro h j hj hlt'
            by_cases e : j = k
            · subst e; exact h
            · exact HP.out j hj (by omega)
          have NX := Lib.hid next
          have HH := Lib.hid (hasN s[k])
          have CF := Lib.hid (fun h => isName_f1 (cons_f (cap := false) (signs := ⟨#[95]⟩) (most := 64) hlt h))
          clear next
          go_wp2_with fail
          refine (rsmall_any s[k] _).mono ?_
          rintro e w1 ⟨rfl, rfl⟩
          cases hsm : smallB s[k] with
          | true =>
            have h := HH.out
            rw [hsm] at h
            have HT := Lib.hid (NX.out (h.trans (by simp)))
            clear h hsm
            go_wp2_with fail
            go_round
            case rel => exact ⟨k + 1, by omega, by go_num, HT.out⟩
            case measure => simp [intOf]; omega
          | false =>
            have HSM := Lib.hid hsm
            clear hsm
            go_wp2_with fail
            refine (rdigit_any s[k] _).mono ?_
            rintro e w1 ⟨rfl, rfl⟩
            cases hdg : digitB s[k] with
            | true =>
              have h := HH.out
              rw [hdg] at h
              have HT := Lib.hid (NX.out (h.trans (by simp)))
              clear h hdg
              go_wp2_with fail
              go_round
              case rel => exact ⟨k + 1, by omega, by go_num, HT.out⟩
              case measure => simp [intOf]; omega
            | false =>
              have h := HH.out
              rw [hdg, HSM.out, Bool.false_or, Bool.false_or] at h
              have H := Lib.hid h
              clear h hdg HSM HH
              go_wp2_with fail
              all_goals first
                | (go_round
                   case rel => exact ⟨k + 1, by omega, by go_num, NX.out (by rw [H.out]; exact decide_eq_true (by first | omega | (simp at *; omega)))⟩
                   case measure => simp [intOf]; omega)
                | (go_ret
                   refine ⟨ret_b ?_, rfl⟩
                   refine (CF.out ?_).symm
                   rw [H.out]
                   exact decide_eq_false (by simp at *; omega))
        · obtain rfl : k = s.size := by omega
          have HT : Hid (isName s = true) := isName_t (cons_t (by omega) (by omega) (fun j hj => HP.out j hj hj)) (by rw [← HX.out]; exact HS.out) HR.out
          clear HP
          go_wp2_with fail
          go_ret
          exact ⟨by rw [HT.out]; rfl, rfl⟩

/-- The place of the first byte c; the length where there is none. -/
def fnd (l : List UInt8) (c : UInt8) : Nat := l.findIdx (· == c)
end Go.Proofs.YtdnmgemjhpkekaaGreat
