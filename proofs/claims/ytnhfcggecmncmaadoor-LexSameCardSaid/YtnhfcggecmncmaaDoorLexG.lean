/-
  lex.Join and vestryref09.Join.
-/
import Derived.Test.YtnhfcggecmncmaaDoorLexF
namespace Go.Proofs.YtnhfcggecmncmaaDoor
open Go.ChangeShapes Go.WideShapes Go.ChangeAt Go.RowKit
set_option linter.unusedVariables false

theorem StrRow.form {base : Nat} {w : World} {v : Value} {xs : List (List UInt8)} (h : StrRow base w v xs) : ∃ q c, v = .slice q xs.length c := by
  rcases h.2 with ⟨h, hn⟩ | ⟨g, cap, cur, hv, _⟩
  · exact ⟨none, 0, by rw [hn]; exact h⟩
  · exact ⟨_, _, hv⟩
theorem txts_len (ts : List Tok) : (txts ts).length ≤ ts.length := by
  unfold txts
  rw [List.length_map]
  exact List.length_filter_le _ _
set_option maxRecDepth 100000 in
set_option maxHeartbeats 2000000 in
theorem ljoin_any {B : Nat} {w : World} {va : Value} {ts : List Tok} (ha : RdT B w va ts) (hB : B ≤ w.heap.size) (hl : ts.length ≤ 900000) (hf : Fits ts 900000) :
    Calls Tryd.prog 14 #[va] w fun e w' => e = .returned (.string (bstr (joinT ts))) ∧ Below w.heap.size w w' := by
  obtain ⟨qa, ca, rfl, _, ha⟩ := ha
  have HF := Lib.hid hf
  clear hf
  go_enter Tryd.func14, Tryd.ntmps14
  go_wp2_with fail
  go_loopw [3, 8] (fun v iv wr => ∃ k : Nat, k ≤ ts.length ∧ iv = .int .i64 k ∧ Hid (StrRow w.heap.size wr v (txts (ts.take k)) ∧ Below w.heap.size w wr)) (fun _ iv _ => ts.length - (intOf iv).toNat)
  case atStart => exact ⟨0, Nat.zero_le _, rfl, World.ownsRow_nil _ _ _ _, Below.refl _ _⟩
  case round =>
    obtain ⟨k, hk, rfl, HI⟩ := hrel
    obtain ⟨qv, cv, rfl⟩ := HI.out.1.form
    have hi0 : (0 : Int) ≤ k := by omega
    by_cases hlt : k < ts.length
    · have hi1 : (k : Int) < ts.length := by omega
      obtain ⟨ba, oa, rfl, hba, hca⟩ := ha (by omega)
      obtain ⟨x, hx⟩ : ∃ x, x = ts.getD k (0, [], 0) := ⟨_, rfl⟩
      obtain ⟨xk, xt, xo⟩ := x
      have x0 := hca k hlt 0 (by omega)
      have x1 := hca k hlt 1 (by omega)
      have x2 := hca k hlt 2 (by omega)
      rw [← hx] at x0 x1 x2
      have X0 : wr.cell? ⟨ba, oa + k * 3, none⟩ = some (.int .i64 xk) := by rw [show oa + k * 3 = oa + (3 * k + 0) by omega]; exact (HI.out.2.cell (by show ba < w.heap.size; omega)).trans x0
      have X1 : wr.cell? ⟨ba, oa + k * 3 + 1, none⟩ = some (.string (bstr xt)) := by rw [show oa + k * 3 + 1 = oa + (3 * k + 1) by omega]; exact (HI.out.2.cell (by show ba < w.heap.size; omega)).trans x1
      have X2 : wr.cell? ⟨ba, oa + k * 3 + 2, none⟩ = some (.int .i64 xo) := by rw [show oa + k * 3 + 2 = oa + (3 * k + 2) by omega]; exact (HI.out.2.cell (by show ba < w.heap.size; omega)).trans x2
      have HX := Lib.hid hx
      have HBA : Hid (Below wr.heap.size wr (wr.alloc (.cells #[.int .i64 xk, .string (bstr xt), .int .i64 xo] 36))) := (Below.refl _ _).alloc (Nat.le_refl _) _
      have HTX : Hid (ts.take (k + 1) = ts.take k ++ [(xk, xt, xo)]) := by show _ = _; rw [take_snoc' hlt, hx]
      clear hx hca x0 x1 x2 ha
      by_cases h3 : xk = 3
      · have b3 : (xk != 3) = false := by rw [h3]; rfl
        have HT3 : Hid (txts (ts.take (k + 1)) = txts (ts.take k)) := by show _ = _; rw [HTX.out, txts_end _ _ h3]
        clear h3
        go_wp2_with fail
        go_roundw
        case rel => exact ⟨k + 1, by omega, by go_num, by rw [HT3.out]; exact HI.out.1.later HBA.out, HI.out.2.trans (HBA.out.mono HI.out.2.size)⟩
        case measure => simp [intOf]; omega
      · have b3 : (xk != 3) = true := by simp [h3]
        have HT3 : Hid (txts (ts.take (k + 1)) = txts (ts.take k) ++ [xt]) := by show _ = _; rw [HTX.out, txts_more _ _ h3]
        have hb2 : Below wr.heap.size wr ((wr.alloc (.cells #[.int .i64 xk, .string (bstr xt), .int .i64 xo] 36)).alloc (.cells #[.string (bstr xt)] 9)) := HBA.out.alloc (by simp) _
        have HB2 := Lib.hid hb2
        have HAB : Hid (Arr ((wr.alloc (.cells #[.int .i64 xk, .string (bstr xt), .int .i64 xo] 36)).alloc (.cells #[.string (bstr xt)] 9)) 9 (wr.heap.size + 1) [.string (bstr xt)]) := Arr.new2 wr _ _ _ _ rfl
        have HTR := Lib.hid (HI.out.1.later hb2)
        have HAC : Hid ((txts (ts.take k)).length + 1 ≤ 1000000) := by have := txts_len (ts.take k); have := List.length_take_le k ts; show _ ≤ _; omega
        have HBS : Hid (w.heap.size ≤ ((wr.alloc (.cells #[.int .i64 xk, .string (bstr xt), .int .i64 xo] 36)).alloc (.cells #[.string (bstr xt)] 9)).heap.size) := Nat.le_trans HI.out.2.size hb2.size
        clear h3 hb2
        go_wp2_with (at_builtin; refine app_str rfl _ _ rfl rfl HTR.out rfl HAB.out HAC.out HBS.out ?_; intro v5 w5 h5 b5)
        go_roundw
        case rel => exact ⟨k + 1, by omega, by go_num, by rw [HT3.out]; exact h5, HI.out.2.trans ((HB2.out.mono HI.out.2.size).trans b5)⟩
        case measure => simp [intOf]; omega
    · have hi1 : ¬ (k : Int) < ts.length := by omega
      have HK : Hid (ts.take k = ts) := List.take_of_length_le (by omega)
      have HJ : Hid (Calls Tryd.prog 33 #[.slice qv (txts (ts.take k)).length cv, .string ⟨#[32]⟩] wr fun e w' => e = .returned (.string (bstr (joinT ts))) ∧ Below wr.heap.size wr w') := by
        have h := HI.out.1.join (by have := HF.out.join k hk; unfold joinT at this; omega) (by have := txts_len (ts.take k); have := List.length_take_le k ts; omega)
        have e : Lib.join (txts (ts.take k)) [32] = joinT ts := by rw [HK.out]; rfl
        rw [e] at h
        exact h
      clear ha
      go_wp2_with fail
      refine HJ.out.mono ?_
      rintro e w5 ⟨rfl, b5⟩
      have HB5 := Lib.hid (HI.out.2.trans (b5.mono HI.out.2.size))
      clear b5
      go_wp2_with fail
      go_ret
      exact ⟨rfl, HB5.out⟩
set_option maxRecDepth 100000 in
set_option maxHeartbeats 2000000 in
theorem rjoin_any {B : Nat} {w : World} {va : Value} {ts : List Tok} (ha : RdT B w va ts) (hl : ts.length ≤ 900000) (hf : Fits ts 900000) :
    Calls Tryd.prog 15 #[va] w fun e w' => e = .returned (.string (bstr (joinT ts))) ∧ w = w' := by
  obtain ⟨qa, ca, rfl, _, ha⟩ := ha
  have HF := Lib.hid hf
  clear hf
  go_enter Tryd.func15, Tryd.ntmps15
  go_wp2_with fail
  go_loop [3, 4, 5] (fun v bv iv => ∃ k : Nat, k ≤ ts.length ∧ iv = .int .i64 k ∧ v = .string (bstr (joinT (ts.take k))) ∧ bv = .bool (decide (txts (ts.take k) = []))) (fun _ _ iv => ts.length - (intOf iv).toNat)
  case atStart => exact ⟨0, Nat.zero_le _, rfl, rfl, rfl⟩
  case round =>
    obtain ⟨k, hk, rfl, rfl, rfl⟩ := hrel
    have hi0 : (0 : Int) ≤ k := by omega
    by_cases hlt : k < ts.length
    · have hi1 : (k : Int) < ts.length := by omega
      obtain ⟨ba, oa, rfl, hba, hca⟩ := ha (by omega)
      obtain ⟨x, hx⟩ : ∃ x, x = ts.getD k (0, [], 0) := ⟨_, rfl⟩
      have HLT : Hid (x.2.1.length ≤ 900000) := by have := HF.out.text hlt; rw [← hx] at this; exact this
      obtain ⟨xk, xt, xo⟩ := x
      have x0 := hca k hlt 0 (by omega)
      have x1 := hca k hlt 1 (by omega)
      rw [← hx] at x0 x1
      have X0 : w.cell? ⟨ba, oa + k * 3, none⟩ = some (.int .i64 xk) := by rw [show oa + k * 3 = oa + (3 * k + 0) by omega]; exact x0
      have X1 : w.cell? ⟨ba, oa + k * 3 + 1, none⟩ = some (.string (bstr xt)) := by rw [show oa + k * 3 + 1 = oa + (3 * k + 1) by omega]; exact x1
      have HTX : Hid (ts.take (k + 1) = ts.take k ++ [(xk, xt, xo)]) := by show _ = _; rw [take_snoc' hlt, hx]
      have HLJ := Lib.hid (HF.out.join k hk)
      obtain ⟨J, hJ⟩ : ∃ J, J = joinT (ts.take k) := ⟨_, rfl⟩
      rw [← hJ] at HLJ ⊢
      have HJ := Lib.hid hJ
      obtain ⟨sJ, hsJ⟩ : ∃ s, s = bstr J := ⟨_, rfl⟩
      have z1 : (sJ.size : Int) ≤ 900000 := by rw [hsJ, bstr_size]; have := HLJ.out; omega
      rw [← hsJ]
      have HSJ := Lib.hid hsJ
      obtain ⟨sx, hsx⟩ : ∃ s, s = bstr xt := ⟨_, rfl⟩
      have z2 : (sx.size : Int) ≤ 900000 := by rw [hsx, bstr_size]; have := HLT.out; simp only at this; omega
      rw [← hsx] at X1
      have HSX := Lib.hid hsx
      clear hx hca x0 x1 ha hJ hsJ hsx
      by_cases h3 : xk = 3
      · have b3 : (xk == 3) = true := by rw [h3]; rfl
        have HT3 : Hid (txts (ts.take (k + 1)) = txts (ts.take k)) := by show _ = _; rw [HTX.out, txts_end _ _ h3]
        clear h3
        go_wp2_with fail
        go_round
        case rel => exact ⟨k + 1, by omega, by go_num, by rw [HSJ.out, HJ.out]; unfold joinT; rw [HT3.out], by rw [HT3.out]⟩
        case measure => simp [intOf]; omega
      · have b3 : (xk == 3) = false := by simp [h3]
        have HT3 : Hid (txts (ts.take (k + 1)) = txts (ts.take k) ++ [xt]) := by show _ = _; rw [HTX.out, txts_more _ _ h3]
        have HN : Hid (decide (txts (ts.take (k + 1)) = []) = false) := by show _ = _; rw [HT3.out]; simp
        clear h3
        by_cases hn : txts (ts.take k) = []
        · have hd : decide (txts (ts.take k) = []) = true := decide_eq_true hn
          rw [hd]
          have HE : Hid (bstr (joinT (ts.take (k + 1))) = sJ ++ sx) := by
            show _ = _
            rw [HSJ.out, HSX.out, bstr_app, HJ.out]
            unfold joinT
            rw [HT3.out, hn, join_snoc1]; rfl
          clear hn hd
          go_wp2_with fail
          go_round
          case rel => exact ⟨k + 1, by omega, by go_num, by rw [HE.out], by rw [HN.out]⟩
          case measure => simp [intOf]; omega
        · have hd : decide (txts (ts.take k) = []) = false := decide_eq_false hn
          rw [hd]
          have HE : Hid (bstr (joinT (ts.take (k + 1))) = sJ ++ ⟨#[32]⟩ ++ sx) := by
            show _ = _
            rw [HSJ.out, HSX.out, show (⟨#[32]⟩ : ByteArray) = bstr [32] from rfl, bstr_app, bstr_app, HJ.out]
            unfold joinT
            rw [HT3.out, join_snoc hn]
          have z3 : (((sJ ++ ⟨#[32]⟩ : ByteArray).size : Nat) : Int) ≤ 900001 := by rw [ByteArray.size_append]; have h1 : (⟨#[32]⟩ : ByteArray).size = 1 := rfl; omega
          clear hn hd
          go_wp2_with fail
          go_round
          case rel => exact ⟨k + 1, by omega, by go_num, by rw [HE.out], by rw [HN.out]⟩
          case measure => simp [intOf]; omega
    · have hi1 : ¬ (k : Int) < ts.length := by omega
      have HK : Hid (ts.take k = ts) := List.take_of_length_le (by omega)
      clear ha
      go_wp2_with fail
      go_ret
      exact ⟨by rw [HK.out]; rfl, rfl⟩
end Go.Proofs.YtnhfcggecmncmaaDoor
