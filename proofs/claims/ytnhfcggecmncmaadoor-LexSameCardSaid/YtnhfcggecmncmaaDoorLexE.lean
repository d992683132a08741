/-
  lex.Same and vestryref09.Same.
-/
import Derived.Test.YtnhfcggecmncmaaDoorLexD
import Derived.Deep.QuietTactic
import Derived.BigQuiet
namespace Go.Proofs.YtnhfcggecmncmaaDoor
open Go.ChangeShapes Go.WideShapes Go.ChangeAt Go.RowKit
set_option linter.unusedVariables false

def kt (t : Tok) : Int × List UInt8 := (t.1, t.2.1)
def sameT (a b : List Tok) : Bool := decide (a.map kt = b.map kt)
theorem sameT_len {a b : List Tok} (h : a.length ≠ b.length) : sameT a b = false := decide_eq_false fun e => h (by have := congrArg List.length e; simpa using this)
theorem sameT_f {a b : List Tok} {k : Nat} (hk : k < a.length) (h : kt (a.getD k (0, [], 0)) ≠ kt (b.getD k (0, [], 0))) (hb : k < b.length) : sameT a b = false := decide_eq_false fun e => by
  have := congrArg (fun l => l[k]?) e
  simp only [List.getElem?_map] at this
  rw [List.getElem?_eq_getElem hk, List.getElem?_eq_getElem hb] at this
  apply h
  simpa [List.getD_eq_getElem?_getD, hk, hb] using this
theorem sameT_t {a b : List Tok} (hl : a.length = b.length) (h : ∀ i, i < a.length → kt (a.getD i (0, [], 0)) = kt (b.getD i (0, [], 0))) : sameT a b = true := decide_eq_true (by
  apply List.ext_getElem?
  intro i
  simp only [List.getElem?_map]
  by_cases hi : i < a.length
  · have := h i hi
    rw [List.getElem?_eq_getElem hi, List.getElem?_eq_getElem (by omega)]
    simpa [List.getD_eq_getElem?_getD, hi, show i < b.length by omega] using this
  · rw [List.getElem?_eq_none (by omega), List.getElem?_eq_none (by omega)])
theorem bstr_ne {a b : List UInt8} (h : a ≠ b) : ((bstr a).toList == (bstr b).toList) = false := by rw [toList_data, toList_data, bstr_data, bstr_data]; simpa using h
theorem bstr_eqv {a b : List UInt8} (h : a = b) : ((bstr a).toList == (bstr b).toList) = true := by rw [h]; simp
set_option maxRecDepth 100000 in
set_option maxHeartbeats 2000000 in
theorem lsame {A B : Nat} {w : World} {va vb : Value} {a b : List Tok} (ha : RdT A w va a) (hb : RdT B w vb b) (hla : a.length ≤ 1000000) (hlb : b.length ≤ 1000000) :
    Calls Tryd.prog 16 #[va, vb] w fun e w' => e = .returned (.bool (sameT a b)) ∧ ∃ n, w' = w.drewN n := by
  obtain ⟨qa, ca, rfl, _, ha⟩ := ha
  obtain ⟨qb, cb, rfl, _, hb⟩ := hb
  by_cases hl : a.length = b.length
  · have hne : ((a.length : Int) != (b.length : Int)) = false := by simp [hl]
    have HL := Lib.hid hl
    clear hl
    go_enter Tryd.func16, Tryd.ntmps16
    go_wp2_with fail
    go_loopw [13] (fun iv wr => ∃ k : Nat, k ≤ a.length ∧ iv = .int .i64 k ∧ Hid (∃ n, wr = w.drewN n) ∧ Hid (∀ i, i < k → kt (a.getD i (0, [], 0)) = kt (b.getD i (0, [], 0)))) (fun iv _ => a.length - (intOf iv).toNat)
    case atStart => exact ⟨0, Nat.zero_le _, rfl, ⟨0, rfl⟩, fun i hi => absurd hi (by omega)⟩
    case round =>
      obtain ⟨k, hk, rfl, HW, HP⟩ := hrel
      have hi0 : (0 : Int) ≤ k := by omega
      by_cases hlt : k < a.length
      · have hltb : k < b.length := by have := HL.out; omega
        have hi1 : (k : Int) < a.length := by omega
        have hi2 : (k : Int) < b.length := by omega
        obtain ⟨ba, oa, rfl, _, hca⟩ := ha (by omega)
        obtain ⟨bb, ob, rfl, _, hcb⟩ := hb (by omega)
        obtain ⟨x, hx⟩ : ∃ x, x = a.getD k (0, [], 0) := ⟨_, rfl⟩
        obtain ⟨y, hy⟩ : ∃ y, y = b.getD k (0, [], 0) := ⟨_, rfl⟩
        obtain ⟨xk, xt, xo⟩ := x
        obtain ⟨yk, yt, yo⟩ := y
        have x0 := hca k hlt 0 (by omega)
        have x1 := hca k hlt 1 (by omega)
        have y0 := hcb k hltb 0 (by omega)
        have y1 := hcb k hltb 1 (by omega)
        rw [← hx] at x0 x1
        rw [← hy] at y0 y1
        have X0 : wr.cell? ⟨ba, oa + k * 3, none⟩ = some (.int .i64 xk) := by obtain ⟨n, rfl⟩ := HW.out; rw [show oa + k * 3 = oa + (3 * k + 0) by omega]; exact x0
        have X1 : wr.cell? ⟨ba, oa + k * 3 + 1, none⟩ = some (.string (bstr xt)) := by obtain ⟨n, rfl⟩ := HW.out; rw [show oa + k * 3 + 1 = oa + (3 * k + 1) by omega]; exact x1
        have Y0 : wr.cell? ⟨bb, ob + k * 3, none⟩ = some (.int .i64 yk) := by obtain ⟨n, rfl⟩ := HW.out; rw [show ob + k * 3 = ob + (3 * k + 0) by omega]; exact y0
        have Y1 : wr.cell? ⟨bb, ob + k * 3 + 1, none⟩ = some (.string (bstr yt)) := by obtain ⟨n, rfl⟩ := HW.out; rw [show ob + k * 3 + 1 = ob + (3 * k + 1) by omega]; exact y1
        have HX := Lib.hid hx
        have HY := Lib.hid hy
        clear hx hy hca hcb hne x0 x1 y0 y1 ha hb
        by_cases hk1 : xk = yk
        · have b1 : (xk != yk) = false := by simp [hk1]
          by_cases ht1 : xt = yt
          · have b2 := bstr_eqv ht1
            have HKT : Hid (kt (a.getD k (0, [], 0)) = kt (b.getD k (0, [], 0))) := by show _ = _; rw [← HX.out, ← HY.out]; unfold kt; rw [hk1, ht1]
            clear hk1 ht1
            go_wp2_with fail

            go_quiet (fail)
            go_wp2_with fail
            go_roundw
            case rel =>
              refine ⟨k + 1, by omega, by go_num, ?_, fun i hi => ?_⟩
              · obtain ⟨n, hn⟩ := HW.out; exact ⟨_, by rw [hn, World.drewN_drewN]⟩
              · by_cases e : i = k
                · subst e; exact HKT.out
                · exact HP.out i (by omega)
            case measure => simp [intOf]; omega
          · have b2 := bstr_ne ht1
            have HF : Hid (sameT a b = false) := sameT_f hlt (fun e => ht1 (by rw [← HX.out, ← HY.out] at e; exact congrArg Prod.snd e)) hltb
            clear hk1 ht1
            go_wp2_with fail
            go_quiet (fail)
            go_wp2_with fail
            go_ret
            obtain ⟨n, hn⟩ := HW.out
            exact ⟨by rw [HF.out]; rfl, _, by rw [hn, World.drewN_drewN]⟩
        · have b1 : (xk != yk) = true := by simp [hk1]
          have HF : Hid (sameT a b = false) := sameT_f hlt (fun e => hk1 (by rw [← HX.out, ← HY.out] at e; exact congrArg Prod.fst e)) hltb
          clear hk1
          go_wp2_with fail
          go_quiet (fail)
          go_wp2_with fail
          go_ret
          obtain ⟨n, hn⟩ := HW.out
          exact ⟨by rw [HF.out]; rfl, _, by rw [hn, World.drewN_drewN]⟩
      · have HF : Hid (sameT a b = true) := sameT_t HL.out (fun i hi => HP.out i (by omega))
        have hi1 : ¬ (k : Int) < a.length := by omega
        clear ha hb
        go_wp2_with fail
        go_ret
        exact ⟨by rw [HF.out]; rfl, HW.out⟩
  · have hne : ((a.length : Int) != (b.length : Int)) = true := by simp; omega
    have HF := Lib.hid (sameT_len hl)
    clear ha hb hl
    go_enter Tryd.func16, Tryd.ntmps16
    go_wp2_with fail
    go_ret
    exact ⟨by rw [HF.out]; rfl, 0, rfl⟩
set_option maxRecDepth 100000 in
set_option maxHeartbeats 2000000 in
theorem rsameT {A B : Nat} {w : World} {va vb : Value} {a b : List Tok} (ha : RdT A w va a) (hb : RdT B w vb b) (hla : a.length ≤ 1000000) (hlb : b.length ≤ 1000000) :
    Calls Tryd.prog 12 #[va, vb] w fun e w' => e = .returned (.bool (sameT a b)) ∧ ∃ n, w' = w.drewN n := by
  obtain ⟨qa, ca, rfl, _, ha⟩ := ha
  obtain ⟨qb, cb, rfl, _, hb⟩ := hb
  by_cases hl : a.length = b.length
  · have hne : ((a.length : Int) != (b.length : Int)) = false := by simp [hl]
    have HL := Lib.hid hl
    clear hl
    go_enter Tryd.func12, Tryd.ntmps12
    go_wp2_with fail
    go_loopw [5] (fun iv wr => ∃ k : Nat, k ≤ a.length ∧ iv = .int .i64 k ∧ Hid (∃ n, wr = w.drewN n) ∧ Hid (∀ i, i < k → kt (a.getD i (0, [], 0)) = kt (b.getD i (0, [], 0)))) (fun iv _ => a.length - (intOf iv).toNat)
    case atStart => exact ⟨0, Nat.zero_le _, rfl, ⟨0, rfl⟩, fun i hi => absurd hi (by omega)⟩
    case round =>
      obtain ⟨k, hk, rfl, HW, HP⟩ := hrel
      have hi0 : (0 : Int) ≤ k := by omega
      by_cases hlt : k < a.length
      · have hltb : k < b.length := by have := HL.out; omega
        have hi1 : (k : Int) < a.length := by omega
        have hi2 : (k : Int) < b.length := by omega
        obtain ⟨ba, oa, rfl, _, hca⟩ := ha (by omega)
        obtain ⟨bb, ob, rfl, _, hcb⟩ := hb (by omega)
        obtain ⟨x, hx⟩ : ∃ x, x = a.getD k (0, [], 0) := ⟨_, rfl⟩
        obtain ⟨y, hy⟩ : ∃ y, y = b.getD k (0, [], 0) := ⟨_, rfl⟩
        obtain ⟨xk, xt, xo⟩ := x
        obtain ⟨yk, yt, yo⟩ := y
        have x0 := hca k hlt 0 (by omega)
        have x1 := hca k hlt 1 (by omega)
        have y0 := hcb k hltb 0 (by omega)
        have y1 := hcb k hltb 1 (by omega)
        rw [← hx] at x0 x1
        rw [← hy] at y0 y1
        have X0 : wr.cell? ⟨ba, oa + k * 3, none⟩ = some (.int .i64 xk) := by obtain ⟨n, rfl⟩ := HW.out; rw [show oa + k * 3 = oa + (3 * k + 0) by omega]; exact x0
        have X1 : wr.cell? ⟨ba, oa + k * 3 + 1, none⟩ = some (.string (bstr xt)) := by obtain ⟨n, rfl⟩ := HW.out; rw [show oa + k * 3 + 1 = oa + (3 * k + 1) by omega]; exact x1
        have Y0 : wr.cell? ⟨bb, ob + k * 3, none⟩ = some (.int .i64 yk) := by obtain ⟨n, rfl⟩ := HW.out; rw [show ob + k * 3 = ob + (3 * k + 0) by omega]; exact y0
        have Y1 : wr.cell? ⟨bb, ob + k * 3 + 1, none⟩ = some (.string (bstr yt)) := by obtain ⟨n, rfl⟩ := HW.out; rw [show ob + k * 3 + 1 = ob + (3 * k + 1) by omega]; exact y1
        have HX := Lib.hid hx
        have HY := Lib.hid hy
        clear hx hy hca hcb hne x0 x1 y0 y1 ha hb
        by_cases hk1 : xk = yk
        · have b1 : (xk != yk) = false := by simp [hk1]
          by_cases ht1 : xt = yt
          · have b2 := bstr_eqv ht1
            have HKT : Hid (kt (a.getD k (0, [], 0)) = kt (b.getD k (0, [], 0))) := by show _ = _; rw [← HX.out, ← HY.out]; unfold kt; rw [hk1, ht1]
            clear hk1 ht1
            go_wp2_with fail

            go_quiet (fail)
            go_wp2_with fail
            go_roundw
            case rel =>
              refine ⟨k + 1, by omega, by go_num, ?_, fun i hi => ?_⟩
              · obtain ⟨n, hn⟩ := HW.out; exact ⟨_, by rw [hn, World.drewN_drewN]⟩
              · by_cases e : i = k
                · subst e; exact HKT.out
                · exact HP.out i (by omega)
            case measure => simp [intOf]; omega
          · have b2 := bstr_ne ht1
            have HF : Hid (sameT a b = false) := sameT_f hlt (fun e => ht1 (by rw [← HX.out, ← HY.out] at e; exact congrArg Prod.snd e)) hltb
            clear hk1 ht1
            go_wp2_with fail
            go_quiet (fail)
            go_wp2_with fail
            go_ret
            obtain ⟨n, hn⟩ := HW.out
            exact ⟨by rw [HF.out]; rfl, _, by rw [hn, World.drewN_drewN]⟩
        · have b1 : (xk != yk) = true := by simp [hk1]
          have HF : Hid (sameT a b = false) := sameT_f hlt (fun e => hk1 (by rw [← HX.out, ← HY.out] at e; exact congrArg Prod.fst e)) hltb
          clear hk1
          go_wp2_with fail
          go_quiet (fail)
          go_wp2_with fail
          go_ret
          obtain ⟨n, hn⟩ := HW.out
          exact ⟨by rw [HF.out]; rfl, _, by rw [hn, World.drewN_drewN]⟩
      · have HF : Hid (sameT a b = true) := sameT_t HL.out (fun i hi => HP.out i (by omega))
        have hi1 : ¬ (k : Int) < a.length := by omega
        clear ha hb
        go_wp2_with fail
        go_ret
        exact ⟨by rw [HF.out]; rfl, HW.out⟩
  · have hne : ((a.length : Int) != (b.length : Int)) = true := by simp; omega
    have HF := Lib.hid (sameT_len hl)
    clear ha hb hl
    go_enter Tryd.func12, Tryd.ntmps12
    go_wp2_with fail
    go_ret
    exact ⟨by rw [HF.out]; rfl, 0, rfl⟩
end Go.Proofs.YtnhfcggecmncmaaDoor
