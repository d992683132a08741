/-
  vestrylaw09.LexSame.
-/
import Derived.Test.YtnhfcggecmncmaaDoorLexN
namespace Go.Proofs.YtnhfcggecmncmaaDoor
open Go.ChangeShapes Go.WideShapes Go.ChangeAt Go.RowKit
open errAs (ErrT)
set_option linter.unusedVariables false

/-- How long the texts are together. -/
def lenS (ts : List Tok) : Nat := (ts.map fun t => t.2.1.length).sum
theorem lenS_snoc (ts : List Tok) (t : Tok) : lenS (ts ++ [t]) = lenS ts + t.2.1.length := by unfold lenS; simp
theorem lenS_take (ts : List Tok) (B : Nat) (h : ∀ i, i < ts.length → (ts.getD i (0, [], 0)).2.1.length ≤ B) : ∀ k, k ≤ ts.length → lenS (ts.take k) ≤ k * B
  | 0, _ => by simp [lenS]
  | k + 1, hk => by
    rw [take_snoc' (by omega), lenS_snoc, Nat.add_mul]
    have := lenS_take ts B h k (by omega)
    have := h k (by omega)
    omega
theorem fits_of {ts : List Tok} {m : Nat} (h : lenS ts + ts.length ≤ m) : Fits ts m := by
  have e : (ts.map fun t => t.2.1.length + 1).sum = lenS ts + ts.length := by
    unfold lenS
    induction ts with
    | nil => rfl
    | cons t r ih =>
      have := ih (by simp only [lenS, List.map_cons, List.sum_cons, List.length_cons] at h ⊢; omega)
      simp only [List.map_cons, List.sum_cons, List.length_cons]; omega
  unfold Fits
  omega
theorem RdT.row {B C : Nat} {w w' : World} {v : Value} {ts : List Tok} (h : RdT B w v ts) (hb : Below C w w') (hC : B ≤ C) : RdT B w' v ts := h.below hb hC
set_option maxRecDepth 100000 in
set_option maxHeartbeats 8000000 in
theorem same_walk (a b : List Tok) (va vb : Value) (w : World) (hza : ∀ i, i < a.length → (a.getD i (0, [], 0)).2.1.length ≤ 140737488355328) (hzb : ∀ i, i < b.length → (b.getD i (0, [], 0)).2.1.length ≤ 140737488355328)
    (hla : a.length ≤ 50) (hlb : b.length ≤ 50) (ha : RdT w.heap.size w va a) (hb : RdT w.heap.size w vb b) (h : Env w) : Calls Tryd.prog 5 #[va, vb] w fun e w' => e = .returned (.bool true) ∧ Below w.heap.size w w' := by
  have HE := Lib.hid h
  have HZA := Lib.hid hza
  have HZB := Lib.hid hzb
  have HA := Lib.hid ha
  have HB := Lib.hid hb
  obtain ⟨qa, ca, rfl, hca, _⟩ := ha
  obtain ⟨qb, cb, rfl, hcb, _⟩ := hb
  have g1 : ¬ (50 : Int) < a.length := by omega
  have g2 : ¬ (50 : Int) < b.length := by omega
  clear h hza hzb
  go_enter Tryd.func5, Tryd.ntmps5
  go_wp2_with fail
  refine (awake_any _ HE.out).mono ?_
  rintro e w1 ⟨rfl, b1⟩
  have HE1 := Lib.hid (HE.out.below b1)
  have HB1 := Lib.hid b1
  have HA1 := Lib.hid (HA.out.later b1)
  have HBB1 := Lib.hid (HB.out.later b1)
  clear b1 HE HA HB
  go_wp2_with fail
  go_loopw [5, 7, 8] (fun v nv iv wr => ∃ k : Nat, k ≤ a.length ∧ iv = .int .i64 k ∧ nv = .int .i64 ((lenS (a.take k) : Nat) : Int) ∧ Hid (TokRow w1.heap.size 36 wr v (a.take k) ∧ Below w1.heap.size w1 wr)) (fun _ _ iv _ => a.length - (intOf iv).toNat)
  case atStart => exact ⟨0, Nat.zero_le _, rfl, by simp [lenS], TokRow.nil _ _ _, Below.refl _ _⟩
  case round =>
    obtain ⟨k, hk, rfl, rfl, HI⟩ := hrel
    obtain ⟨qv, cv, rfl, _⟩ := HI.out.1.form
    have hi0 : (0 : Int) ≤ k := by omega
    have htl : (a.take k).length = k := by rw [List.length_take]; omega
    rw [htl]
    obtain ⟨N, hN⟩ : ∃ N, N = lenS (a.take k) := ⟨_, rfl⟩
    have hNB : N ≤ 0 + k * 140737488355328 := by have := lenS_take a _ HZA.out k hk; omega
    rw [← hN]
    have HN := Lib.hid hN
    by_cases hlt : k < a.length
    · have hi1 : (k : Int) < a.length := by omega
      obtain ⟨q2, c2, e2, _, ha⟩ := HA1.out
      simp only [Value.slice.injEq] at e2
      obtain ⟨rfl, _, rfl⟩ := e2
      obtain ⟨ba, oa, rfl, hba, hca⟩ := ha (by omega)
      obtain ⟨x, hx⟩ : ∃ x, x = a.getD k (0, [], 0) := ⟨_, rfl⟩
      have hzx := HZA.out k hlt
      rw [← hx] at hzx
      obtain ⟨xk, xt, xo⟩ := x
      simp only at hzx
      have x0 := hca k hlt 0 (by omega)
      have x1 := hca k hlt 1 (by omega)
      have x2 := hca k hlt 2 (by omega)
      rw [← hx] at x0 x1 x2
      have X0 : wr.cell? ⟨ba, oa + k * 3, none⟩ = some (.int .i64 xk) := by rw [show oa + k * 3 = oa + (3 * k + 0) by omega]; exact (HI.out.2.cell (by show ba < _; omega)).trans x0
      have X1 : wr.cell? ⟨ba, oa + k * 3 + 1, none⟩ = some (.string (bstr xt)) := by rw [show oa + k * 3 + 1 = oa + (3 * k + 1) by omega]; exact (HI.out.2.cell (by show ba < _; omega)).trans x1
      have X2 : wr.cell? ⟨ba, oa + k * 3 + 2, none⟩ = some (.int .i64 xo) := by rw [show oa + k * 3 + 2 = oa + (3 * k + 2) by omega]; exact (HI.out.2.cell (by show ba < _; omega)).trans x2
      have HX := Lib.hid hx
      have HTK := Lib.hid htl
      have HLN : Hid (lenS (a.take (k + 1)) = N + xt.length) := by show _ = _; rw [take_snoc' hlt, ← hx, lenS_snoc, hN]
      have zx : ((bstr xt).size : Int) ≤ 140737488355328 := by rw [bstr_size]; omega
      have zn : (N : Int) ≤ 14073748835532800 := by have h1 : k ≤ 50 := by omega
                                                    omega
      have hzl : (bstr xt).size = xt.length := bstr_size xt
      obtain ⟨sx, hsx⟩ : ∃ s, s = bstr xt := ⟨_, rfl⟩
      rw [← hsx] at X1 zx hzl
      have HSX := Lib.hid hsx
      have HZL := Lib.hid hzl
      have HAB : Hid (Arr (wr.alloc (.cells #[.int .i64 xk, .string sx, .int .i64 xo] 36)) 36 wr.heap.size (tkv (xk, xt, xo))) := by rw [hsx]; exact Arr.new' _ _ _ _ rfl
      have HBA : Hid (Below wr.heap.size wr (wr.alloc (.cells #[.int .i64 xk, .string sx, .int .i64 xo] 36))) := (Below.refl _ _).alloc (Nat.le_refl _) _
      have HTR := HI.out.1.later HBA.out
      rw [htl] at HTR
      have HTR := Lib.hid HTR
      have HAC : Hid ((a.take k).length + 1 ≤ 1000000) := by show _ ≤ _; omega
      have HBS : Hid (w1.heap.size ≤ (wr.alloc (.cells #[.int .i64 xk, .string sx, .int .i64 xo] 36)).heap.size) := Nat.le_trans HI.out.2.size HBA.out.size
      have HBAB : Hid (ba < w1.heap.size) := hba
      have HX1 := Lib.hid X1
      clear hx hca x0 x1 x2 ha htl hsx hzl hN hNB hzx hba
      go_wp2_with (at_builtin; refine app_tokL rfl _ _ rfl rfl HTR.out rfl HAB.out HAC.out HBS.out ?_; intro v5 w5 h5 b5 g5; have X5 := (((HBA.out.mono HI.out.2.size).trans b5).cell (p := ⟨ba, oa + k * 3 + 1, none⟩) HBAB.out).trans HX1.out)
      go_roundw
      case rel => exact ⟨k + 1, by omega, by go_num, by rw [HLN.out, ← HZL.out]; go_num, by rw [take_snoc' hlt, ← HX.out]; exact h5, HI.out.2.trans ((HBA.out.mono HI.out.2.size).trans b5)⟩
      case measure => simp [intOf]; omega
    · have hi1 : ¬ (k : Int) < a.length := by omega
      have HK : Hid (a.take k = a) := List.take_of_length_le (by omega)
      have HI2 := HI.out.1
      rw [HK.out] at HI2
      have HNN : Hid (N = lenS a) := by show _ = _; rw [hN, HK.out]
      obtain rfl : k = a.length := by omega
      have HBa := Lib.hid HI.out.2
      have HBar := Lib.hid HI2.rd
      clear htl HI2 hN HI HK HN
      generalize hw5 : wr = w5 at HBa HBar ⊢
      have HA5 := Lib.hid (HA1.out.row HBa.out (Nat.le_refl _))
      have HB5 := Lib.hid (HBB1.out.row HBa.out (Nat.le_refl _))
      have HA5 := Lib.hid (HA5.out.mono HBa.out.size)
      have HB5 := Lib.hid (HB5.out.mono HBa.out.size)
      have HE5 := Lib.hid (HE1.out.below HBa.out)
      have HBL5 := Lib.hid (HB1.out.trans (HBa.out.mono HB1.out.size))
      clear hw5 HA1 HBB1 HE1 HB1 HBa
      go_wp2_with fail
      obtain ⟨M, hM⟩ : ∃ M, M = N := ⟨_, rfl⟩
      rw [← hM] at HNN ⊢
      have HMM := Lib.hid HNN.out
      have hMB : M ≤ 7036874417766400 := by rw [hM]; omega
      clear hM HNN hNB
      go_loopw [6, 7, 9] (fun v nv iv wr => ∃ k : Nat, k ≤ b.length ∧ iv = .int .i64 k ∧ nv = .int .i64 ((M + lenS (b.take k) : Nat) : Int) ∧ Hid (TokRow w5.heap.size 36 wr v (b.take k) ∧ Below w5.heap.size w5 wr)) (fun _ _ iv _ => b.length - (intOf iv).toNat)
      case atStart => exact ⟨0, Nat.zero_le _, rfl, by simp [lenS], TokRow.nil _ _ _, Below.refl _ _⟩
      case round =>
        obtain ⟨k, hk, rfl, rfl, HI⟩ := hrel
        obtain ⟨qv, cv, rfl, _⟩ := HI.out.1.form
        have hi0 : (0 : Int) ≤ k := by omega
        have htl : (b.take k).length = k := by rw [List.length_take]; omega
        rw [htl]
        obtain ⟨N, hN⟩ : ∃ N, N = M + lenS (b.take k) := ⟨_, rfl⟩
        have hNB : N ≤ 7036874417766400 + k * 140737488355328 := by have := lenS_take b _ HZB.out k hk; omega
        rw [← hN]
        have HN := Lib.hid hN
        by_cases hlt : k < b.length
        · have hi1 : (k : Int) < b.length := by omega
          obtain ⟨q2, c2, e2, _, ha⟩ := HB5.out
          simp only [Value.slice.injEq] at e2
          obtain ⟨rfl, _, rfl⟩ := e2
          obtain ⟨ba, oa, rfl, hba, hca⟩ := ha (by omega)
          obtain ⟨x, hx⟩ : ∃ x, x = b.getD k (0, [], 0) := ⟨_, rfl⟩
          have hzx := HZB.out k hlt
          rw [← hx] at hzx
          obtain ⟨xk, xt, xo⟩ := x
          simp only at hzx
          have x0 := hca k hlt 0 (by omega)
          have x1 := hca k hlt 1 (by omega)
          have x2 := hca k hlt 2 (by omega)
          rw [← hx] at x0 x1 x2
          have X0 : wr.cell? ⟨ba, oa + k * 3, none⟩ = some (.int .i64 xk) := by rw [show oa + k * 3 = oa + (3 * k + 0) by omega]; exact (HI.out.2.cell (by show ba < _; omega)).trans x0
          have X1 : wr.cell? ⟨ba, oa + k * 3 + 1, none⟩ = some (.string (bstr xt)) := by rw [show oa + k * 3 + 1 = oa + (3 * k + 1) by omega]; exact (HI.out.2.cell (by show ba < _; omega)).trans x1
          have X2 : wr.cell? ⟨ba, oa + k * 3 + 2, none⟩ = some (.int .i64 xo) := by rw [show oa + k * 3 + 2 = oa + (3 * k + 2) by omega]; exact (HI.out.2.cell (by show ba < _; omega)).trans x2
          have HX := Lib.hid hx
          have HTK := Lib.hid htl
          have HLN : Hid (M + lenS (b.take (k + 1)) = N + xt.length) := by show _ = _; rw [take_snoc' hlt, ← hx, lenS_snoc, hN]; rw [Nat.add_assoc]
          have zx : ((bstr xt).size : Int) ≤ 140737488355328 := by rw [bstr_size]; omega
          have zn : (N : Int) ≤ 14073748835532800 := by have h1 : k ≤ 50 := by omega
                                                        omega
          have hzl : (bstr xt).size = xt.length := bstr_size xt
          obtain ⟨sx, hsx⟩ : ∃ s, s = bstr xt := ⟨_, rfl⟩
          rw [← hsx] at X1 zx hzl
          have HSX := Lib.hid hsx
          have HZL := Lib.hid hzl
          have HAB : Hid (Arr (wr.alloc (.cells #[.int .i64 xk, .string sx, .int .i64 xo] 36)) 36 wr.heap.size (tkv (xk, xt, xo))) := by rw [hsx]; exact Arr.new' _ _ _ _ rfl
          have HBA : Hid (Below wr.heap.size wr (wr.alloc (.cells #[.int .i64 xk, .string sx, .int .i64 xo] 36))) := (Below.refl _ _).alloc (Nat.le_refl _) _
          have HTR := HI.out.1.later HBA.out
          rw [htl] at HTR
          have HTR := Lib.hid HTR
          have HAC : Hid ((b.take k).length + 1 ≤ 1000000) := by show _ ≤ _; omega
          have HBS : Hid (w5.heap.size ≤ (wr.alloc (.cells #[.int .i64 xk, .string sx, .int .i64 xo] 36)).heap.size) := Nat.le_trans HI.out.2.size HBA.out.size
          have HBAB : Hid (ba < w5.heap.size) := hba
          have HX1 := Lib.hid X1
          clear hx hca x0 x1 x2 ha htl hsx hzl hN hNB hzx hba
          go_wp2_with (at_builtin; refine app_tokL rfl _ _ rfl rfl HTR.out rfl HAB.out HAC.out HBS.out ?_; intro v5 w5 h5 b5 g5; have X5 := (((HBA.out.mono HI.out.2.size).trans b5).cell (p := ⟨ba, oa + k * 3 + 1, none⟩) HBAB.out).trans HX1.out)
          go_roundw
          case rel => exact ⟨k + 1, by omega, by go_num, by rw [HLN.out, ← HZL.out]; go_num, by rw [take_snoc' hlt, ← HX.out]; exact h5, HI.out.2.trans ((HBA.out.mono HI.out.2.size).trans b5)⟩
          case measure => simp [intOf]; omega
        · have hi1 : ¬ (k : Int) < b.length := by omega
          have HK : Hid (b.take k = b) := List.take_of_length_le (by omega)
          have HI2 := HI.out.1
          rw [HK.out] at HI2
          have HNN : Hid (N = M + lenS b) := by show _ = _; rw [hN, HK.out]
          obtain rfl : k = b.length := by omega
          have HBb := Lib.hid HI.out.2
          have HBbr := Lib.hid HI2.rd
          clear htl HI2 hN HI HK HN
          generalize hw6 : wr = w6 at HBb HBbr ⊢
          have HX6 := Lib.hid ((HBar.out.row HBb.out (Nat.le_refl _)).mono HBb.out.size)
          have HA6 := Lib.hid ((HA5.out.row HBb.out (Nat.le_refl _)).mono HBb.out.size)
          have HB6 := Lib.hid ((HB5.out.row HBb.out (Nat.le_refl _)).mono HBb.out.size)
          have HBL6 := Lib.hid (HBL5.out.trans (HBb.out.mono HBL5.out.size))
          clear hw6 HBar HA5 HB5 HBL5 HBb
          have hnn := HNN.out
          have hmm := HMM.out
          by_cases hn : (5000 : Int) < (N : Int)
          · clear hnn hmm
            go_wp2_with fail
            go_ret
            exact ⟨rfl, HBL6.out⟩
          · have HFA : Hid (Fits a 900000) := fits_of (by omega)
            clear hnn hmm
            go_wp2_with fail
            refine (lsame HX6.out HBbr.out (by omega) (by omega)).mono ?_
            rintro e w7 ⟨rfl, n7, rfl⟩
            have hb7 := Joins.below_draws w6.heap.size w6 n7
            have HX7 := Lib.hid (HX6.out.later hb7)
            have HA7 := Lib.hid (HA6.out.later hb7)
            have HB7 := Lib.hid (HB6.out.later hb7)
            have HBL7 := Lib.hid (HBL6.out.trans (hb7.mono HBL6.out.size))
            clear hb7
            obtain ⟨Sb, hSb⟩ : ∃ Sb, Sb = sameT a b := ⟨_, rfl⟩
            rw [← hSb]
            have HSB := Lib.hid hSb
            clear hSb
            have hss : (Sb == Sb) = true := by simp
            generalize w6.drewN n7 = w7 at HX7 HA7 HB7 HBL7 ⊢
            go_wp2_with fail
            refine (rsameT HA7.out HB7.out (by omega) (by omega)).mono ?_
            rintro e w8 ⟨rfl, n8, rfl⟩
            rw [← HSB.out]
            have hb8 := Joins.below_draws w7.heap.size w7 n8
            have HX8 := Lib.hid (HX7.out.later hb8)
            have HA8 := Lib.hid (HA7.out.later hb8)
            have HBL8 := Lib.hid (HBL7.out.trans (hb8.mono HBL7.out.size))
            clear hb8
            generalize w7.drewN n8 = w8 at HX8 HA8 HBL8 ⊢
            go_wp2_with fail
            refine (ljoin_any HX8.out (Nat.le_refl _) (by omega) HFA.out).mono ?_
            rintro e w9 ⟨rfl, b9⟩
            have HA9 := Lib.hid (HA8.out.later b9)
            have HBL9 := Lib.hid (HBL8.out.trans (b9.mono HBL8.out.size))
            clear b9
            go_wp2_with fail
            refine (rjoin_any HA9.out (by omega) HFA.out).mono ?_
            rintro e w10 ⟨rfl, rfl⟩
            have hjj := bstr_eqv (a := joinT a) rfl
            go_wp2_with fail
            go_ret
            exact ⟨rfl, HBL9.out⟩
set_option maxRecDepth 100000 in
set_option maxHeartbeats 2000000 in
theorem same_any (a b : List Tok) (va vb : Value) (w : World) (hza : ∀ i, i < a.length → (a.getD i (0, [], 0)).2.1.length ≤ 140737488355328) (hzb : ∀ i, i < b.length → (b.getD i (0, [], 0)).2.1.length ≤ 140737488355328)
    (ha : RdT w.heap.size w va a) (hb : RdT w.heap.size w vb b) (h : Env w) : Calls Tryd.prog 5 #[va, vb] w fun e w' => e = .returned (.bool true) ∧ Below w.heap.size w w' := by
  by_cases g : a.length ≤ 50 ∧ b.length ≤ 50
  · exact same_walk a b va vb w hza hzb g.1 g.2 ha hb h
  · have HE := Lib.hid h
    have HG := Lib.hid g
    obtain ⟨qa, ca, rfl, hca, _⟩ := ha
    obtain ⟨qb, cb, rfl, hcb, _⟩ := hb
    clear h g hza hzb
    go_enter Tryd.func5, Tryd.ntmps5
    go_wp2_with fail
    refine (awake_any _ HE.out).mono ?_
    rintro e w1 ⟨rfl, b1⟩
    have HB1 := Lib.hid b1
    have HE1 := Lib.hid (HE.out.below b1)
    clear b1
    by_cases g1 : (50 : Int) < a.length
    · go_wp2_with fail
      refine (awake_any _ HE1.out).mono ?_
      rintro e w2 ⟨rfl, b2⟩
      have HB2 := Lib.hid (HB1.out.trans (b2.mono HB1.out.size))
      clear b2
      go_wp2_with fail
      go_ret
      exact ⟨rfl, HB2.out⟩
    · have g2 : (50 : Int) < b.length := by have := HG.out; omega
      go_wp2_with fail
      refine (awake_any _ HE1.out).mono ?_
      rintro e w2 ⟨rfl, b2⟩
      have HB2 := Lib.hid (HB1.out.trans (b2.mono HB1.out.size))
      clear b2
      go_wp2_with fail
      go_ret
      exact ⟨rfl, HB2.out⟩
end Go.Proofs.YtnhfcggecmncmaaDoor
