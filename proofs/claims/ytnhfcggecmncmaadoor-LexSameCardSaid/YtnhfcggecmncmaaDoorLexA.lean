/-
  lex.isSpace, isOfLine, isOfWord, sign; the run of a class of bytes (Tokens$1).
-/
import Derived.Test.YtnhfcggecmncmaaDoorLexM
import Derived.Deep.QuietTactic
namespace Go.Proofs.YtnhfcggecmncmaaDoor
open Go.ChangeShapes Go.WideShapes Go.ChangeAt Go.RowKit
set_option linter.unusedVariables false

theorem ixc (c : UInt8) : (((c.toNat : Int)).toNat.toUInt8 = c) := by
  show UInt8.ofNat c.toNat = c
  rw [UInt8.ofNat_toNat]
theorem sp_ix (c : UInt8) : decide (0 ≤ Lib.indexByte [32, 9, 10, 13] c) = spB c := by
  have h : ∀ n : Fin 256, (decide (0 ≤ Lib.indexByte [32, 9, 10, 13] (UInt8.ofNat n.val)) == spB (UInt8.ofNat n.val)) = true := by decide +kernel
  have hc : UInt8.ofNat c.toNat = c := UInt8.ofNat_toNat
  have := h ⟨c.toNat, c.toNat_lt⟩
  simp only [hc] at this
  exact beq_iff_eq.1 this
theorem sg_ix (c : UInt8) : decide (0 ≤ Lib.indexByte sgL c) = sgB c := by
  have h : ∀ n : Fin 256, (decide (0 ≤ Lib.indexByte sgL (UInt8.ofNat n.val)) == sgB (UInt8.ofNat n.val)) = true := by decide +kernel
  have hc : UInt8.ofNat c.toNat = c := UInt8.ofNat_toNat
  have := h ⟨c.toNat, c.toNat_lt⟩
  simp only [hc] at this
  exact beq_iff_eq.1 this
theorem ln_ne (c : UInt8) : ((c.toNat : Int) != 10) = lnB c := by
  have h : ∀ n : Fin 256, ((((UInt8.ofNat n.val).toNat : Int) != 10) == lnB (UInt8.ofNat n.val)) = true := by decide +kernel
  have hc : UInt8.ofNat c.toNat = c := UInt8.ofNat_toNat
  have := h ⟨c.toNat, c.toNat_lt⟩
  simp only [hc] at this
  exact beq_iff_eq.1 this
theorem wd_eq (c : UInt8) : wdB c = decide ((97 ≤ c.toNat ∧ c.toNat ≤ 122) ∨ (65 ≤ c.toNat ∧ c.toNat ≤ 90) ∨ (48 ≤ c.toNat ∧ c.toNat ≤ 57) ∨ c.toNat = 95) := by
  have h : ∀ n : Fin 256, (wdB (UInt8.ofNat n.val) == decide ((97 ≤ (UInt8.ofNat n.val).toNat ∧ (UInt8.ofNat n.val).toNat ≤ 122) ∨ (65 ≤ (UInt8.ofNat n.val).toNat ∧ (UInt8.ofNat n.val).toNat ≤ 90) ∨ (48 ≤ (UInt8.ofNat n.val).toNat ∧ (UInt8.ofNat n.val).toNat ≤ 57) ∨ (UInt8.ofNat n.val).toNat = 95)) = true := by decide +kernel
  have hc : UInt8.ofNat c.toNat = c := UInt8.ofNat_toNat
  have := h ⟨c.toNat, c.toNat_lt⟩
  simp only [hc] at this
  exact beq_iff_eq.1 this
set_option maxRecDepth 100000 in
theorem isSpace_any (c : UInt8) (w : World) : Calls Tryd.prog 21 #[.int .u8 c.toNat] w fun e w' => e = .returned (.bool (spB c)) ∧ w = w' := by
  have HC := Lib.hid (fun w => Tryd.strings_IndexByte ⟨#[32, 9, 10, 13]⟩ (c.toNat : Int) w)
  have HI := Lib.hid (ixc c)
  have HS := Lib.hid (sp_ix c)
  go_enter Tryd.func21, Tryd.ntmps21
  go_wp2_with fail
  refine (HC.out _).mono ?_
  rintro e w2 ⟨rfl, hw⟩
  subst hw
  rw [HI.out]
  go_wp2_with fail
  go_ret
  exact ⟨by rw [← HS.out]; rfl, rfl⟩
set_option maxRecDepth 100000 in
theorem isLine_any (c : UInt8) (w : World) : Calls Tryd.prog 23 #[.int .u8 c.toNat] w fun e w' => e = .returned (.bool (lnB c)) ∧ w = w' := by
  have HS := Lib.hid (ln_ne c)
  go_enter Tryd.func23, Tryd.ntmps23
  go_wp2_with fail
  go_ret
  exact ⟨by rw [← HS.out]; rfl, rfl⟩
set_option maxRecDepth 100000 in
set_option maxHeartbeats 1000000 in
theorem isWord_any (c : UInt8) (w : World) : Calls Tryd.prog 24 #[.int .u8 c.toNat] w fun e w' => e = .returned (.bool (wdB c)) ∧ w = w' := by
  have HS := Lib.hid (wd_eq c)
  go_enter Tryd.func24, Tryd.ntmps24
  go_wp2_with fail
  all_goals
    go_ret
    refine ⟨ret_b ?_, rfl⟩
    rw [HS.out, Bool.eq_iff_iff]
    simp only [decide_eq_true_eq, beq_iff_eq]
    first | omega | (simp; omega)
/-- What strings the walk cuts out. -/
theorem ext_data (s : ByteArray) (a b : Nat) : (s.extract a b) = bstr ((s.data.toList.drop a).take (b - a)) := by
  have h : (s.extract a b).data.toList = (s.data.toList.drop a).take (b - a) := by
    simp [ByteArray.data_extract]
  rw [← bstr_back (s.extract a b), h]
theorem size_len (s : ByteArray) : s.data.toList.length = s.size := by rw [Array.length_toList]; rfl
theorem get_getD (s : ByteArray) (i : Nat) (h : i < s.size) : s[i] = s.data.toList.getD i 0 := by
  rw [List.getD_eq_getElem?_getD, List.getElem?_eq_getElem (by rw [size_len]; exact h)]; rfl
set_option maxRecDepth 100000 in
set_option maxHeartbeats 1000000 in
theorem runSp (s : ByteArray) (i : Nat) (a b : Nat) (hs : s.size ≤ 1000000) (hi : i ≤ s.size) (w : World) (ha : w.cell? ⟨a, 0, none⟩ = some (.int .i64 i)) (hb : w.cell? ⟨b, 0, none⟩ = some (.string s)) :
    Calls Tryd.prog 20 #[.func (.func 21) #[] #[], .pointer (some ⟨a, 0, none⟩), .pointer (some ⟨b, 0, none⟩)] w fun e w' => e = .returned (.string (s.extract i (i + runL spB s.data.toList i))) ∧ w = w' := by
  have hs' : (s.size : Int) ≤ 1000000 := by omega
  go_enter Tryd.func20, Tryd.ntmps20
  go_wp2_with fail
  go_loop [5] (fun jv => ∃ j : Nat, i ≤ j ∧ j ≤ s.size ∧ jv = .int .i64 j ∧ Hid (∀ k, i ≤ k → k < j → spB (s.data.toList.getD k 0) = true)) (fun jv => s.size - (intOf jv).toNat)
  case atStart => exact ⟨i, Nat.le_refl _, hi, rfl, fun k h1 h2 => by omega⟩
  case round =>
    obtain ⟨j, hij, hj, rfl, HP⟩ := hrel
    have hj0 : (0 : Int) ≤ j := by omega
    by_cases hlt : j < s.size
    · have hlt1 : (j : Int) < s.size := by omega
      have HX := Lib.hid (get_getD s j hlt)
      go_wp2_with fail
      refine (isSpace_any s[j] _).mono ?_
      rintro e w1 ⟨rfl, rfl⟩
      cases hc : spB s[j] with
      | true =>
        have HC := Lib.hid hc
        clear hc
        go_wp2_with fail
        go_round
        case rel =>
          refine ⟨j + 1, by omega, by omega, by go_num, fun k h1 h2 => ?_⟩
          by_cases e : k = j
          · subst e; rw [← HX.out]; exact HC.out
          · exact HP.out k h1 (by omega)
        case measure => simp [intOf]; omega
      | false =>
        have H : Hid (j = i + runL spB s.data.toList i) := by
          show _ = _
          rw [runL_eq (k := j - i) (by rw [size_len]; omega) (fun k h1 h2 => HP.out k h1 (by omega)) (fun h => by rw [show i + (j - i) = j by omega, ← HX.out]; exact hc)]
          omega
        have h1 : (i : Int) ≤ j := by omega
        have h2 : (j : Int) ≤ s.size := by omega
        clear hc HP
        go_wp2_with fail
        go_ret
        exact ⟨by rw [← H.out]; rfl, rfl⟩
    · obtain rfl : j = s.size := by omega
      have H : Hid (s.size = i + runL spB s.data.toList i) := by
        show _ = _
        rw [runL_eq (k := s.size - i) (by rw [size_len]; omega) (fun k h1 h2 => HP.out k h1 (by omega)) (fun h => by rw [size_len] at h; omega)]
        omega
      have h1 : (i : Int) ≤ s.size := by omega
      clear HP
      go_wp2_with fail
      go_ret
      exact ⟨by rw [← H.out]; rfl, rfl⟩
set_option maxRecDepth 100000 in
set_option maxHeartbeats 1000000 in
theorem runLn (s : ByteArray) (i : Nat) (a b : Nat) (hs : s.size ≤ 1000000) (hi : i ≤ s.size) (w : World) (ha : w.cell? ⟨a, 0, none⟩ = some (.int .i64 i)) (hb : w.cell? ⟨b, 0, none⟩ = some (.string s)) :
    Calls Tryd.prog 20 #[.func (.func 23) #[] #[], .pointer (some ⟨a, 0, none⟩), .pointer (some ⟨b, 0, none⟩)] w fun e w' => e = .returned (.string (s.extract i (i + runL lnB s.data.toList i))) ∧ w = w' := by
  have hs' : (s.size : Int) ≤ 1000000 := by omega
  go_enter Tryd.func20, Tryd.ntmps20
  go_wp2_with fail
  go_loop [5] (fun jv => ∃ j : Nat, i ≤ j ∧ j ≤ s.size ∧ jv = .int .i64 j ∧ Hid (∀ k, i ≤ k → k < j → lnB (s.data.toList.getD k 0) = true)) (fun jv => s.size - (intOf jv).toNat)
  case atStart => exact ⟨i, Nat.le_refl _, hi, rfl, fun k h1 h2 => by omega⟩
  case round =>
    obtain ⟨j, hij, hj, rfl, HP⟩ := hrel
    have hj0 : (0 : Int) ≤ j := by omega
    by_cases hlt : j < s.size
    · have hlt1 : (j : Int) < s.size := by omega
      have HX := Lib.hid (get_getD s j hlt)
      go_wp2_with fail
      refine (isLine_any s[j] _).mono ?_
      rintro e w1 ⟨rfl, rfl⟩
      cases hc : lnB s[j] with
      | true =>
        have HC := Lib.hid hc
        clear hc
        go_wp2_with fail
        go_round
        case rel =>
          refine ⟨j + 1, by omega, by omega, by go_num, fun k h1 h2 => ?_⟩
          by_cases e : k = j
          · subst e; rw [← HX.out]; exact HC.out
          · exact HP.out k h1 (by omega)
        case measure => simp [intOf]; omega
      | false =>
        have H : Hid (j = i + runL lnB s.data.toList i) := by
          show _ = _
          rw [runL_eq (k := j - i) (by rw [size_len]; omega) (fun k h1 h2 => HP.out k h1 (by omega)) (fun h => by rw [show i + (j - i) = j by omega, ← HX.out]; exact hc)]
          omega
        have h1 : (i : Int) ≤ j := by omega
        have h2 : (j : Int) ≤ s.size := by omega
        clear hc HP
        go_wp2_with fail
        go_ret
        exact ⟨by rw [← H.out]; rfl, rfl⟩
    · obtain rfl : j = s.size := by omega
      have H : Hid (s.size = i + runL lnB s.data.toList i) := by
        show _ = _
        rw [runL_eq (k := s.size - i) (by rw [size_len]; omega) (fun k h1 h2 => HP.out k h1 (by omega)) (fun h => by rw [size_len] at h; omega)]
        omega
      have h1 : (i : Int) ≤ s.size := by omega
      clear HP
      go_wp2_with fail
      go_ret
      exact ⟨by rw [← H.out]; rfl, rfl⟩
set_option maxRecDepth 100000 in
set_option maxHeartbeats 1000000 in
theorem runWd (s : ByteArray) (i : Nat) (a b : Nat) (hs : s.size ≤ 1000000) (hi : i ≤ s.size) (w : World) (ha : w.cell? ⟨a, 0, none⟩ = some (.int .i64 i)) (hb : w.cell? ⟨b, 0, none⟩ = some (.string s)) :
    Calls Tryd.prog 20 #[.func (.func 24) #[] #[], .pointer (some ⟨a, 0, none⟩), .pointer (some ⟨b, 0, none⟩)] w fun e w' => e = .returned (.string (s.extract i (i + runL wdB s.data.toList i))) ∧ w = w' := by
  have hs' : (s.size : Int) ≤ 1000000 := by omega
  go_enter Tryd.func20, Tryd.ntmps20
  go_wp2_with fail
  go_loop [5] (fun jv => ∃ j : Nat, i ≤ j ∧ j ≤ s.size ∧ jv = .int .i64 j ∧ Hid (∀ k, i ≤ k → k < j → wdB (s.data.toList.getD k 0) = true)) (fun jv => s.size - (intOf jv).toNat)
  case atStart => exact ⟨i, Nat.le_refl _, hi, rfl, fun k h1 h2 => by omega⟩
  case round =>
    obtain ⟨j, hij, hj, rfl, HP⟩ := hrel
    have hj0 : (0 : Int) ≤ j := by omega
    by_cases hlt : j < s.size
    · have hlt1 : (j : Int) < s.size := by omega
      have HX := Lib.hid (get_getD s j hlt)
      go_wp2_with fail
      refine (isWord_any s[j] _).mono ?_
      rintro e w1 ⟨rfl, rfl⟩
      cases hc : wdB s[j] with
      | true =>
        have HC := Lib.hid hc
        clear hc
        go_wp2_with fail
        go_round
        case rel =>
          refine ⟨j + 1, by omega, by omega, by go_num, fun k h1 h2 => ?_⟩
          by_cases e : k = j
          · subst e; rw [← HX.out]; exact HC.out
          · exact HP.out k h1 (by omega)
        case measure => simp [intOf]; omega
      | false =>
        have H : Hid (j = i + runL wdB s.data.toList i) := by
          show _ = _
          rw [runL_eq (k := j - i) (by rw [size_len]; omega) (fun k h1 h2 => HP.out k h1 (by omega)) (fun h => by rw [show i + (j - i) = j by omega, ← HX.out]; exact hc)]
          omega
        have h1 : (i : Int) ≤ j := by omega
        have h2 : (j : Int) ≤ s.size := by omega
        clear hc HP
        go_wp2_with fail
        go_ret
        exact ⟨by rw [← H.out]; rfl, rfl⟩
    · obtain rfl : j = s.size := by omega
      have H : Hid (s.size = i + runL wdB s.data.toList i) := by
        show _ = _
        rw [runL_eq (k := s.size - i) (by rw [size_len]; omega) (fun k h1 h2 => HP.out k h1 (by omega)) (fun h => by rw [size_len] at h; omega)]
        omega
      have h1 : (i : Int) ≤ s.size := by omega
      clear HP
      go_wp2_with fail
      go_ret
      exact ⟨by rw [← H.out]; rfl, rfl⟩
end Go.Proofs.YtnhfcggecmncmaaDoor
