/-
  container/heap: up.
-/
import Derived.Test.YtebbbiikphfjcaaMgH
namespace Go.Proofs.Ytebbbiikphfjcaa
open Go.ChangeShapes Go.WideShapes Go.ChangeAt Go.RowKit
set_option linter.unusedVariables false

theorem upL_stop {f j : Nat} {l : List (List Tu)} (h : (j - 1) / 2 = j ∨ ltH (l.getD j []) (l.getD ((j - 1) / 2) []) = false) : upL [] ltH (f + 1) l j = l := by rw [upL, if_pos h]
theorem upL_go {f j : Nat} {l : List (List Tu)} (h : ¬ ((j - 1) / 2 = j ∨ ltH (l.getD j []) (l.getD ((j - 1) / 2) []) = false)) : upL [] ltH (f + 1) l j = upL [] ltH f (swapL [] l ((j - 1) / 2) j) ((j - 1) / 2) := by rw [upL, if_neg h]
theorem swap_ne {l : List (List Tu)} {i j : Nat} (hi : i < l.length) (hj : j < l.length) (h : ∀ x ∈ l, x ≠ []) : ∀ x ∈ swapL [] l i j, x ≠ [] := fun x hx => h x ((swapL_perm hi hj).mem_iff.1 hx)
set_option maxRecDepth 100000 in
set_option maxHeartbeats 4000000 in
theorem hup_any {F : List (Nat × Obj)} {w0 w : World} {g c j : Nat} {p : Option Addr} {ls : List (List Tu)} (h : QS F w0 g p c ls w) (hj : j < ls.length) (hne : ∀ l ∈ ls, l ≠ []) (hn : ls.length ≤ 100000) :
    Calls Try.prog 45 #[.iface 51 (.pointer (some ⟨g, 0, none⟩)), .int .i64 j] w fun e w' => e = .returned (.tuple #[]) ∧ QS F w0 g p c (upL [] ltH (j + 1) ls j) w' := by
  have HQ := Lib.hid h
  have HNE := Lib.hid hne
  have HN := Lib.hid hn
  obtain ⟨n, hnl⟩ : ∃ n, n = ls.length := ⟨_, rfl⟩
  obtain ⟨R, hR⟩ : ∃ R, R = upL [] ltH (j + 1) ls j := ⟨_, rfl⟩
  rw [← hR]
  have HR := Lib.hid hR.symm
  have HL := Lib.hid hnl.symm
  clear h hne hn hR
  go_enter Try.func45, Try.ntmps45
  go_wp2_with fail
  go_loopg [1] (j + 1) (fun gg s1 wr => ∃ (k f : Nat) (l : List (List Tu)), k + 1 ≤ gg ∧ k + 1 ≤ f ∧ k < n ∧ s1 = .int .i64 k ∧ l.length = n ∧ QS F w0 g p c l wr ∧ (∀ x ∈ l, x ≠ []) ∧ upL [] ltH f l k = R)
  case atStart => exact ⟨j, j + 1, ls, Nat.le_refl _, Nat.le_refl _, by rw [hnl]; exact hj, rfl, HL.out, HQ.out, HNE.out, HR.out⟩
  case round =>
    obtain ⟨k, f, l, hg, hf, hkn, rfl, hl, hq, hx, hu⟩ := hrel
    have HLl := Lib.hid hl
    have HQl := Lib.hid hq
    have HXl := Lib.hid hx
    have HU := Lib.hid hu
    clear hl hq hx hu HQ HNE HR
    obtain ⟨f', rfl⟩ : ∃ f', f = f' + 1 := ⟨f - 1, by omega⟩
    cases k with
    | zero =>
      have HE : Hid (l = R) := by rw [← HU.out, upL_stop (.inl rfl)]; rfl
      go_wp2_with fail
      go_end0
      exact ⟨rfl, by rw [← HE.out]; exact HQl.out⟩
    | succ k =>
      obtain ⟨m, hm⟩ : ∃ m, m = k / 2 := ⟨_, rfl⟩
      have HM : Hid (((k + 1 : Nat) - 1) / 2 = m) := by show _ = _; rw [hm]; rfl
      have hmk : m ≤ k := by omega
      have hw1 : wrap64 (k : Int) = (k : Int) := by unfold wrap64; have := HN.out; have := HL.out; omega
      have hw2 : wrap64 (m : Int) = (m : Int) := by unfold wrap64; have := HN.out; have := HL.out; omega
      have htd : Int.tdiv (k : Int) 2 = (m : Int) := by rw [hm]; rfl
      have hne1 : ((m : Int) == (k : Int) + 1) = false := by rw [beq_eq_false_iff_ne]; omega
      have HMK : Hid (m < n ∧ m + 1 ≤ f' ∧ m + 1 ≤ k + 1 ∧ ¬ m = k + 1) := ⟨by omega, by omega, by omega, by omega⟩
      have HKN := Lib.hid hkn
      have hc1 := lless_any (i := k + 1) (k := m) HQl.out (by rw [HLl.out]; exact hkn) (by rw [HLl.out]; omega) HXl.out
      rw [show ((k + 1 : Nat) : Int) = (k : Int) + 1 from rfl] at hc1
      have HC := Lib.hid hc1
      have hml := m_less HQl.out.box
      obtain ⟨bt, hbt⟩ : ∃ b, b = ltH (l.getD (k + 1) []) (l.getD m []) := ⟨_, rfl⟩
      rw [← hbt] at HC
      have HBT := Lib.hid hbt
      clear hc1 hm hbt hmk hkn
      go_wp2_with fail
      refine HC.out.mono ?_
      rintro e w2 ⟨rfl, b2⟩
      have HQ2 := Lib.hid (HQl.out.later b2)
      clear b2 HC hml HQl
      cases bt with
      | false =>
        have HE : Hid (l = R) := by
          rw [← HU.out, upL_stop (.inr _)]
          rfl
          rw [show k + 1 - 1 = k from rfl, show k / 2 = m from HM.out]; exact HBT.out.symm
        go_wp2_with fail
        go_end0
        exact ⟨rfl, by rw [← HE.out]; exact HQ2.out⟩
      | true =>
        have HE : Hid (upL [] ltH f' (swapL [] l m (k + 1)) m = R) := by
          show _ = _
          rw [← HU.out, upL_go]
          · rw [show k + 1 - 1 = k from rfl, show k / 2 = m from HM.out]
          · rw [show k + 1 - 1 = k from rfl, show k / 2 = m from HM.out]
            rintro (h | h)
            · exact HMK.out.2.2.2 h
            · rw [← HBT.out] at h; cases h
        have hc2 := lswap_any (i := m) (k := k + 1) HQ2.out (by rw [HLl.out]; exact HMK.out.1) (by rw [HLl.out]; exact HKN.out)
        rw [show ((k + 1 : Nat) : Int) = (k : Int) + 1 from rfl] at hc2
        have HC2 := Lib.hid hc2
        have hms := m_swap HQ2.out.box
        clear hc2
        go_wp2_with fail
        refine HC2.out.mono ?_
        rintro e w3 ⟨rfl, q3⟩
        have HQ3 := Lib.hid q3
        clear q3 HC2 hms HQ2
        go_wp2_with fail
        go_roundg (m + 1)
        case measure => have := HMK.out; omega
        case rel => exact ⟨m, f', swapL [] l m (k + 1), Nat.le_refl _, HMK.out.2.1, HMK.out.1, rfl, by rw [swapL_len]; exact HLl.out, HQ3.out, swap_ne (by rw [HLl.out]; exact HMK.out.1) (by rw [HLl.out]; exact HKN.out) HXl.out, HE.out⟩
end Go.Proofs.Ytebbbiikphfjcaa
