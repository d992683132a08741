/-
  vestrylaw09.LexComments.
-/
import Derived.Test.YtnhfcggecmncmaaDoorLexQ
import Derived.Test.YtnhfcggecmncmaaDoorLexN
namespace Go.Proofs.YtnhfcggecmncmaaDoor
open Go.ChangeShapes Go.WideShapes Go.ChangeAt Go.RowKit
open errAs (ErrT)
set_option linter.unusedVariables false

theorem tokF_off : ∀ (n i : Nat) (l : List UInt8), (tokF n i l).2.2 ≤ i + l.length
  | 0, _, _ => Nat.zero_le _
  | n + 1, i, [] => by simp [tokF]
  | n + 1, i, c :: r => by
    have hc : ∀ (t : Tok) (R : Toks) (m : Nat), R.2.2 ≤ m → (consT t R).2.2 ≤ m := fun t R m h => by unfold consT; split; exact Nat.zero_le _; exact h
    have hw := tw_le wdB (c :: r)
    have hl := tw_le lnB (c :: r)
    simp only [List.length_cons] at hw hl
    unfold tokF
    simp only [List.length_cons]
    repeat' split
    · exact hc _ _ _ (Nat.le_trans (tokF_off n _ _) (by rw [List.length_drop, List.length_cons]; omega))
    · simp
    · exact Nat.le_trans (tokF_off n _ _) (by omega)
    · exact Nat.le_trans (tokF_off n _ _) (by rw [List.length_drop, List.length_cons]; omega)
    · rename_i ha
      refine hc _ _ _ (Nat.le_trans (tokF_off n _ _) ?_)
      have hr : 1 ≤ r.length := by
        cases r with
        | nil => cases ha.2
        | cons => simp
      rw [List.length_drop]; omega
    · exact hc _ _ _ (Nat.le_trans (tokF_off n _ _) (by omega))
    · simp
theorem tokS_off (l : List UInt8) : (tokS l).2.2 ≤ l.length := by have := tokF_off (l.length + 1) 0 l; unfold tokS; omega
theorem byte_eq {x : UInt8} {n : Nat} (hn : n < 256) : ((x.toNat : Int) == (n : Int)) = decide (x = UInt8.ofNat n) := by
  rw [Bool.eq_iff_iff, beq_iff_eq, decide_eq_true_eq]
  constructor
  · intro h
    refine UInt8.toNat_inj.1 ?_
    rw [UInt8.toNat_ofNat_of_lt' hn]; omega
  · intro h
    rw [h, UInt8.toNat_ofNat_of_lt' hn]
theorem all_of {l : List UInt8} {p : UInt8 → Prop} (h : ∀ j, j < l.length → p (l.getD j 0)) : ∀ y ∈ l, p y := by
  intro y hy
  obtain ⟨j, hj, rfl⟩ := List.mem_iff_getElem.1 hy
  have := h j hj
  rwa [List.getD_eq_getElem?_getD, List.getElem?_eq_getElem hj] at this
theorem app_list (a b : ByteArray) : (a ++ b).data.toList = a.data.toList ++ b.data.toList := by simp
theorem front_data (bl c : ByteArray) : (bl ++ ⟨#[47, 47]⟩ ++ c ++ ⟨#[10]⟩ : ByteArray).data.toList = frontL bl.data.toList c.data.toList := by
  rw [app_list, app_list, app_list]; unfold frontL; simp
theorem full_data (bl c s : ByteArray) : (bl ++ ⟨#[47, 47]⟩ ++ c ++ ⟨#[10]⟩ ++ s ++ ⟨#[10, 47, 47]⟩ ++ c ++ bl : ByteArray).data.toList = fullL bl.data.toList c.data.toList s.data.toList := by
  rw [app_list, app_list, app_list, app_list, front_data]; unfold fullL; simp
/-- What a law's regions keep: the reference's result in its cells; the tokens of both, each its own. -/
def SK (w0 : World) (T : Nat) (vl vr : Value) (R' R : Toks) (W : World) : Prop :=
  Arr W 30 T [vr, .int .i64 (R.2.1 : Nat), .int .i64 (R.2.2 : Nat)] ∧ RdT W.heap.size W vl R'.1 ∧ RdT W.heap.size W vr R.1 ∧ Env W ∧ Below w0.heap.size w0 W
theorem SK.later {w0 w w' : World} {T : Nat} {vl vr : Value} {R' R : Toks} (h : SK w0 T vl vr R' R w) (hb : Below w.heap.size w w') : SK w0 T vl vr R' R w' :=
  ⟨h.1.later hb, h.2.1.later hb, h.2.2.1.later hb, h.2.2.2.1.below hb, h.2.2.2.2.trans (hb.mono h.2.2.2.2.size)⟩
set_option maxRecDepth 100000 in
set_option maxHeartbeats 8000000 in
theorem comments_walk (s c bl : ByteArray) (w : World) (hs : s.size ≤ 1000) (hc : c.size ≤ 300) (hbl : bl.size ≤ 100) (h : Env w) : Calls Tryd.prog 7 #[.string s, .string c, .string bl] w fun e w' => e = .returned (.bool true) ∧ Below w.heap.size w w' := by
  have HE := Lib.hid h
  have g1 : ¬ (1000 : Int) < s.size := by omega
  have g2 : ¬ (300 : Int) < c.size := by omega
  have g3 : ¬ (100 : Int) < bl.size := by omega
  clear h
  go_enter Tryd.func7, Tryd.ntmps7
  go_wp2_with fail
  refine (awake_any _ HE.out).mono ?_
  rintro e w1 ⟨rfl, b1⟩
  have HE1 := Lib.hid (HE.out.below b1)
  have HB1 := Lib.hid b1
  clear b1 HE
  go_wp2_with fail
  go_loop [7] (fun iv => ∃ k : Nat, k ≤ c.size ∧ iv = .int .i64 k ∧ Hid (∀ j, j < k → c.data.toList.getD j 0 ≠ 10)) (fun iv => c.size - (intOf iv).toNat)
  case atStart => exact ⟨0, Nat.zero_le _, rfl, fun j hj => absurd hj (Nat.not_lt_zero _)⟩
  case round =>
    obtain ⟨k, hk, rfl, HP⟩ := hrel
    have hi0 : (0 : Int) ≤ k := by omega
    by_cases hlt : k < c.size
    · have hi1 : (k : Int) < c.size := by omega
      have HX := Lib.hid (get_getD c k hlt)
      by_cases hx : c[k] = 10
      · have b0 : ((c[k].toNat : Int) == 10) = true := by rw [hx]; rfl
        clear hx
        go_wp2_with fail
        go_ret
        exact ⟨rfl, HB1.out⟩
      · have b0 : ((c[k].toNat : Int) == 10) = false := (byte_eq (x := c[k]) (n := 10) (by decide)).trans (decide_eq_false hx)
        have HN := Lib.hid hx
        clear hx
        go_wp2_with fail
        go_round
        case rel =>
          refine ⟨k + 1, by omega, by go_num, fun j hj => ?_⟩
          by_cases e : j = k
          · subst e; rw [← HX.out]; exact HN.out
          · exact HP.out j (by omega)
        case measure => simp [intOf]; omega
    · have hi1 : ¬ (k : Int) < c.size := by omega
      have HC : Hid (∀ y ∈ c.data.toList, y ≠ 10) := all_of fun j hj => HP.out j (by rw [size_len] at hj; omega)
      clear HP
      go_wp2_with fail
      go_loop [8] (fun iv => ∃ m : Nat, m ≤ bl.size ∧ iv = .int .i64 m ∧ Hid (∀ j, j < m → spB (bl.data.toList.getD j 0) = true)) (fun iv => bl.size - (intOf iv).toNat)
      case atStart => exact ⟨0, Nat.zero_le _, rfl, fun j hj => absurd hj (Nat.not_lt_zero _)⟩
      case round =>
        obtain ⟨m, hm, rfl, HP⟩ := hrel
        have hm0 : (0 : Int) ≤ m := by omega
        by_cases hlt2 : m < bl.size
        · have hm1 : (m : Int) < bl.size := by omega
          have HX := Lib.hid (get_getD bl m hlt2)
          have h32 : ((bl[m].toNat : Int) == 32) = decide (bl[m] = 32) := byte_eq (x := bl[m]) (n := 32) (by decide)
          have h9 : ((bl[m].toNat : Int) == 9) = decide (bl[m] = 9) := byte_eq (x := bl[m]) (n := 9) (by decide)
          have h10 : ((bl[m].toNat : Int) == 10) = decide (bl[m] = 10) := byte_eq (x := bl[m]) (n := 10) (by decide)
          have h13 : ((bl[m].toNat : Int) == 13) = decide (bl[m] = 13) := byte_eq (x := bl[m]) (n := 13) (by decide)
          by_cases hx : bl[m] = 32
          · have b32 : ((bl[m].toNat : Int) != 32) = false := by show (!(_ == _)) = false; rw [h32.trans (decide_eq_true hx)]; rfl
            have HN : Hid (spB (bl.data.toList.getD m 0) = true) := by show _ = _; rw [← HX.out, hx]; rfl
            clear hx h32 h9 h10 h13
            go_wp2_with fail
            go_round
            case rel =>
              refine ⟨m + 1, by omega, by go_num, fun j hj => ?_⟩
              by_cases e : j = m
              · subst e; exact HN.out
              · exact HP.out j (by omega)
            case measure => simp [intOf]; omega
          · have b32 : ((bl[m].toNat : Int) != 32) = true := by show (!(_ == _)) = true; rw [h32.trans (decide_eq_false hx)]; rfl
            clear hx
            by_cases hx : bl[m] = 9
            · have b9 : ((bl[m].toNat : Int) != 9) = false := by show (!(_ == _)) = false; rw [h9.trans (decide_eq_true hx)]; rfl
              have HN : Hid (spB (bl.data.toList.getD m 0) = true) := by show _ = _; rw [← HX.out, hx]; rfl
              clear hx h32 h9 h10 h13
              go_wp2_with fail
              go_round
              case rel =>
                refine ⟨m + 1, by omega, by go_num, fun j hj => ?_⟩
                by_cases e : j = m
                · subst e; exact HN.out
                · exact HP.out j (by omega)
              case measure => simp [intOf]; omega
            · have b9 : ((bl[m].toNat : Int) != 9) = true := by show (!(_ == _)) = true; rw [h9.trans (decide_eq_false hx)]; rfl
              clear hx
              by_cases hx : bl[m] = 10
              · have b10 : ((bl[m].toNat : Int) != 10) = false := by show (!(_ == _)) = false; rw [h10.trans (decide_eq_true hx)]; rfl
                have HN : Hid (spB (bl.data.toList.getD m 0) = true) := by show _ = _; rw [← HX.out, hx]; rfl
                clear hx h32 h9 h10 h13
                go_wp2_with fail
                go_round
                case rel =>
                  refine ⟨m + 1, by omega, by go_num, fun j hj => ?_⟩
                  by_cases e : j = m
                  · subst e; exact HN.out
                  · exact HP.out j (by omega)
                case measure => simp [intOf]; omega
              · have b10 : ((bl[m].toNat : Int) != 10) = true := by show (!(_ == _)) = true; rw [h10.trans (decide_eq_false hx)]; rfl
                clear hx
                by_cases hx : bl[m] = 13
                · have b13 : ((bl[m].toNat : Int) != 13) = false := by show (!(_ == _)) = false; rw [h13.trans (decide_eq_true hx)]; rfl
                  have HN : Hid (spB (bl.data.toList.getD m 0) = true) := by show _ = _; rw [← HX.out, hx]; rfl
                  clear hx h32 h9 h10 h13
                  go_wp2_with fail
                  go_round
                  case rel =>
                    refine ⟨m + 1, by omega, by go_num, fun j hj => ?_⟩
                    by_cases e : j = m
                    · subst e; exact HN.out
                    · exact HP.out j (by omega)
                  case measure => simp [intOf]; omega
                · have b13 : ((bl[m].toNat : Int) != 13) = true := by show (!(_ == _)) = true; rw [h13.trans (decide_eq_false hx)]; rfl
                  clear hx
                  clear h32 h9 h10 h13
                  go_wp2_with fail
                  go_ret
                  exact ⟨rfl, HB1.out⟩
        · have hm1 : ¬ (m : Int) < bl.size := by omega
          have HBL : Hid (∀ y ∈ bl.data.toList, spB y = true) := all_of fun j hj => HP.out j (by rw [size_len] at hj; omega)
          clear HP
          obtain ⟨hr1, hr2, hr3⟩ := commented bl.data.toList c.data.toList s.data.toList HBL.out HC.out
          obtain ⟨f, hf⟩ : ∃ f, f = bl ++ ⟨#[47, 47]⟩ ++ c ++ ⟨#[10]⟩ := ⟨_, rfl⟩
          have hfl : (frontL bl.data.toList c.data.toList).length = f.size := by rw [← size_len, hf, front_data]
          obtain ⟨u, hu⟩ : ∃ u, u = f ++ s ++ ⟨#[10, 47, 47]⟩ ++ c ++ bl := ⟨_, rfl⟩
          have hul : fullL bl.data.toList c.data.toList s.data.toList = u.data.toList := by rw [hu, hf, full_data]
          have y1 : (⟨#[47, 47]⟩ : ByteArray).size = 2 := rfl
          have y2 : (⟨#[10]⟩ : ByteArray).size = 1 := rfl
          have y3 : (⟨#[10, 47, 47]⟩ : ByteArray).size = 3 := rfl
          have z1 : (((bl ++ ⟨#[47, 47]⟩ : ByteArray).size : Nat) : Int) ≤ 102 := by rw [ByteArray.size_append]; omega
          have z2 : (((bl ++ ⟨#[47, 47]⟩ ++ c : ByteArray).size : Nat) : Int) ≤ 402 := by rw [ByteArray.size_append]; omega
          have z3 : (f.size : Int) ≤ 403 := by rw [hf, ByteArray.size_append]; omega
          have z4 : (((f ++ s : ByteArray).size : Nat) : Int) ≤ 1403 := by rw [ByteArray.size_append]; omega
          have z5 : (((f ++ s ++ ⟨#[10, 47, 47]⟩ : ByteArray).size : Nat) : Int) ≤ 1406 := by rw [ByteArray.size_append]; omega
          have z6 : (((f ++ s ++ ⟨#[10, 47, 47]⟩ ++ c : ByteArray).size : Nat) : Int) ≤ 1706 := by rw [ByteArray.size_append]; omega
          have z7 : (u.size : Int) ≤ 1806 := by rw [hu, ByteArray.size_append]; omega
          rw [hul, hfl] at hr3
          rw [hul] at hr1 hr2
          obtain ⟨R, hR⟩ : ∃ R, R = tokS s.data.toList := ⟨_, rfl⟩
          obtain ⟨R', hR'⟩ : ∃ R', R' = tokS u.data.toList := ⟨_, rfl⟩
          have HRL := Lib.hid (show R.1.length ≤ 1001 by rw [hR]; have := tokS_len s.data.toList; rw [size_len] at this; omega)
          have HRO := Lib.hid (show (R.2.2 : Int) ≤ 1001 by rw [hR]; have := tokS_off s.data.toList; rw [size_len] at this; omega)
          have HRL' := Lib.hid (show R'.1.length ≤ 1900 by rw [hR']; have := tokS_len u.data.toList; rw [size_len] at this; omega)
          rw [← hR, ← hR'] at hr1 hr2 hr3
          have H1 := Lib.hid hr1
          have H2 := Lib.hid hr2
          have H3 := Lib.hid hr3
          have HRR := Lib.hid hR
          have HRR' := Lib.hid hR'
          have HU := Lib.hid hu
          have HF := Lib.hid hf
          have HLX := Lib.hid (fun W (h : Env W) => lex_any u (by omega) W h.1)
          have HRX := Lib.hid (fun W => rlex_any s (by omega) W)
          clear hr1 hr2 hr3 hR hR' hu hf hfl hul HC HBL
          go_wp2_with fail
          refine (HRX.out _).mono ?_
          rintro e w2 ⟨vr, rfl, t2, b2⟩
          rw [← HRR.out] at t2 ⊢
          obtain ⟨qr, cr, rfl, _⟩ := t2.form
          have hb3 : Below w2.heap.size w2 (w2.alloc (.cells #[.slice qr R.1.length cr, .int .i64 (R.2.1 : Nat), .int .i64 (R.2.2 : Nat)] 30)) := (Below.refl _ _).alloc (Nat.le_refl _) _
          have HA3 : Hid (Arr (w2.alloc (.cells #[.slice qr R.1.length cr, .int .i64 (R.2.1 : Nat), .int .i64 (R.2.2 : Nat)] 30)) 30 w2.heap.size [.slice qr R.1.length cr, .int .i64 (R.2.1 : Nat), .int .i64 (R.2.2 : Nat)]) := Arr.new' w2 _ _ _ rfl
          have HT3 := Lib.hid (t2.rd.later hb3)
          have HE3 := Lib.hid ((HE1.out.below b2).below hb3)
          have HB3 := Lib.hid ((HB1.out.trans (b2.mono HB1.out.size)).trans (hb3.mono (Nat.le_trans HB1.out.size b2.size)))
          clear b2 t2 hb3 HE1 HB1
          go_upto_region 14 with (fail)
          generalize w2.alloc (.cells #[.slice qr R.1.length cr, .int .i64 (R.2.1 : Nat), .int .i64 (R.2.2 : Nat)] 30) = w3 at HA3 HT3 HE3 HB3 ⊢
          generalize w2.heap.size = T at HA3 ⊢
          go_upto_region 15 with (fail)
          rw [← HF.out]
          go_wp2_with fail
          rw [← HU.out]
          refine (HLX.out _ HE3.out).mono ?_
          rintro e w4 ⟨vl, rfl, t4, b4⟩
          have HL4 := t4.rd
          rw [← HRR'.out] at HL4 ⊢
          have HS4 : Hid (SK w T vl (.slice qr R.1.length cr) R' R w4) := ⟨HA3.out.later b4, HL4, HT3.out.later b4, HE3.out.below b4, HB3.out.trans (b4.mono HB3.out.size)⟩
          obtain ⟨ql, cl, rfl, _⟩ := HL4
          clear b4 t4 HA3 HT3 HE3 HB3 HLX HRX
          have hq1 := HS4.out.1.cell 1
          simp only [List.getElem?_cons_zero, List.getElem?_cons_succ] at hq1
          by_cases h0 : R.2.1 = 0
          · have hcb : ((R.2.1 : Int) != 0) = false := by rw [h0]; rfl
            have HSM := Lib.hid (H2.out h0)
            rw [show errF R'.2.1 R'.2.2 = .nilIface by unfold errF; rw [if_pos (H1.out.trans h0)]]
            clear h0
            go_wp2_with fail
            refine wp_region_noPanic ?_
            refine wp_region_held_drew (S := SK w T (.slice ql R'.1.length cl) (.slice qr R.1.length cr) R' R) (by kernel_rfl) (HS4.out.later (Below.refl _ _).drew) (fun hHeld => ?_)
            try simp only [Act.put]
            generalize w4.drew = w5 at hHeld ⊢
            clear HS4 hq1
            refine wpAnyH_take (i := 0) (oi := ⟨some 100, _, _, _, _, _⟩) (v := .nilIface) rfl (by kernel_rfl) (by kernel_rfl) (by kernel_rfl) (fun _ _ _ h => h) (.inl ⟨by rfl, fun w' hSw => ?_⟩) hHeld ?_
            focus (skip; clear hHeld; go_simp)
            try simp only [Act.put, List.setIfInBounds_toArray, List.set_cons_zero, List.set_cons_succ]
            refine wpAnyH_take (i := 1) (oi := ⟨some 101, _, _, _, _, _⟩) (v := .bool true) rfl (by kernel_rfl) (by kernel_rfl) (by kernel_rfl) (fun _ _ _ h => h) (.inl ⟨by rfl, fun w' hSw => ?_⟩) hHeld ?_
            focus (skip; clear hHeld; go_simp)
            try simp only [Act.put, List.setIfInBounds_toArray, List.set_cons_zero, List.set_cons_succ]
            refine wpAnyH_take (i := 2) (oi := ⟨some 102, _, _, _, _, _⟩) (v := .bool true) rfl (by kernel_rfl) (by kernel_rfl) (by kernel_rfl) (fun _ _ _ h => h) (.inl ⟨by rfl, fun w' hSw => ?_⟩) hHeld ?_
            focus (skip; clear hHeld; go_simp)
            try simp only [Act.put, List.setIfInBounds_toArray, List.set_cons_zero, List.set_cons_succ]
            refine wpAnyH_take (i := 3) (oi := ⟨some 103, _, _, _, _, _⟩) (v := .slice ql R'.1.length cl) rfl (by kernel_rfl) (by kernel_rfl) (by kernel_rfl) (fun _ _ _ h => h) (.inl ⟨by rfl, fun w' hSw => ?_⟩) hHeld ?_
            focus (skip; clear hHeld; go_simp)
            try simp only [Act.put, List.setIfInBounds_toArray, List.set_cons_zero, List.set_cons_succ]
            refine wpAnyH_take (i := 5) (oi := ⟨some 105, _, _, _, _, _⟩) (v := .pointer (some ⟨T, 0, none⟩)) rfl (by kernel_rfl) (by kernel_rfl) (by kernel_rfl) (fun _ _ _ h => h) (.inl ⟨by rfl, fun w' hSw => ?_⟩) hHeld ?_
            focus (skip; clear hHeld; go_simp)
            try simp only [Act.put, List.setIfInBounds_toArray, List.set_cons_zero, List.set_cons_succ]
            refine wpAnyH_take (i := 6) (oi := ⟨some 106, _, _, _, _, _⟩) (v := .slice qr R.1.length cr) rfl (by kernel_rfl) (by kernel_rfl) (by kernel_rfl) (fun _ _ _ h => h) (.inl ⟨by rfl, fun w' hSw => ?_⟩) hHeld ?_
            focus (have hq := hSw.1.cell 0; simp only [List.getElem?_cons_zero] at hq; clear hHeld; go_simp)
            try simp only [Act.put, List.setIfInBounds_toArray, List.set_cons_zero, List.set_cons_succ]
            refine wpAnyH_ready (rs := [4]) (by kernel_rfl) (by simp) ?_
            refine AllReadyH.cons (o := ⟨some 104, _, _, _, _, _⟩) rfl (fun K' hK' => ?_) AllReadyH.nil
            refine stepw_call (R := fun v w'' => RdT w''.heap.size w'' v R'.1 ∧ SK w T (.slice ql R'.1.length cl) (.slice qr R.1.length cr) R' R w'') (by rfl) ?_ ((back_any hHeld.2.1 (Nat.le_refl _) (by have := HRL'.out; omega)).mono fun e w'' ⟨v', h1, h2, h3⟩ => ⟨v', h1, h2.rd, hHeld.later h3⟩) ?_
            focus go_simp
            rintro v w7 ⟨R31, hkn⟩
            refine hK'.out _ _ hkn (fun _ => ?_)
            clear hK' K' hHeld
            have hHeld := hkn
            clear hkn
            try simp only [Act.put, List.setIfInBounds_toArray, List.set_cons_zero, List.set_cons_succ]
            refine wpAnyH_ready (rs := [7]) (by kernel_rfl) (by simp) ?_
            refine AllReadyH.cons (o := ⟨some 107, _, _, _, _, _⟩) rfl (fun K' hK' => ?_) AllReadyH.nil
            refine stepw_call (R := fun v w'' => v = .bool true ∧ SK w T (.slice ql R'.1.length cl) (.slice qr R.1.length cr) R' R w'') (by rfl) ?_ ((rsameT R31 hHeld.2.2.1 (by have := HRL'.out; omega) (by have := HRL.out; omega)).mono fun e w'' ⟨h1, d, h2⟩ => ⟨_, h1, by rw [HSM.out], hHeld.later (h2 ▸ Joins.below_draws _ _ d)⟩) ?_
            focus go_simp
            rintro v w8 ⟨rfl, hkn⟩
            refine hK'.out _ _ hkn (fun _ => ?_)
            clear hK' K' hHeld
            have hHeld := hkn
            clear hkn
            try simp only [Act.put, List.setIfInBounds_toArray, List.set_cons_zero, List.set_cons_succ]
            clear R31
            refine wpAnyH_take (i := 8) (oi := ⟨some 108, _, _, _, _, _⟩) (v := .bool true) rfl (by kernel_rfl) (by kernel_rfl) (by kernel_rfl) (fun _ _ _ h => h) (.inl ⟨by rfl, fun w' hSw => ?_⟩) hHeld ?_
            focus (skip; clear hHeld; go_simp)
            try simp only [Act.put, List.setIfInBounds_toArray, List.set_cons_zero, List.set_cons_succ]
            refine wpAnyH_take (i := 9) (oi := ⟨some 6, _, _, _, _, _⟩) (v := .bool true) rfl (by kernel_rfl) (by kernel_rfl) (by kernel_rfl) (fun _ _ _ h => h) (.inl ⟨by rfl, fun w' hSw => ?_⟩) hHeld ?_
            focus (skip; clear hHeld; go_simp)
            try simp only [Act.put, List.setIfInBounds_toArray, List.set_cons_zero, List.set_cons_succ]
            refine wpAnyH_done (by kernel_rfl) ?_ _
            refine NoPanic.normal ?_
            have HM := Lib.hid hHeld
            clear hHeld
            go_wp2_with fail
            go_ret
            exact ⟨rfl, HM.out.2.2.2.2⟩
          · have hq2 := HS4.out.1.cell 2
            simp only [List.getElem?_cons_zero, List.getElem?_cons_succ] at hq2
            have hcb : ((R.2.1 : Int) != 0) = true := by rw [bne_iff_ne]; omega
            rw [show errF R'.2.1 R'.2.2 = errF R.2.1 (R.2.2 + f.size) by rw [H1.out, H3.out h0]]
            have hro := HRO.out
            have HTD := Lib.hid (told_any R.2.1 (R.2.2 + f.size) w4 HS4.out.2.2.2.1.2)
            rw [Int.natCast_add] at HTD
            clear h0
            go_wp2_with fail
            refine HTD.out.mono ?_
            rintro e w5 ⟨rfl, b5⟩
            have HB5 := Lib.hid (HS4.out.2.2.2.2.trans (b5.mono HS4.out.2.2.2.2.size))
            clear b5
            go_wp2_with fail
            go_ret
            exact ⟨rfl, HB5.out⟩
set_option maxRecDepth 100000 in
set_option maxHeartbeats 2000000 in
theorem comments_any (s c bl : ByteArray) (w : World) (hs : s.size ≤ maxLen) (hc : c.size ≤ maxLen) (hbl : bl.size ≤ maxLen) (h : Env w) : Calls Tryd.prog 7 #[.string s, .string c, .string bl] w fun e w' => e = .returned (.bool true) ∧ Below w.heap.size w w' := by
  unfold maxLen at hs hc hbl
  by_cases g : s.size ≤ 1000 ∧ c.size ≤ 300 ∧ bl.size ≤ 100
  · exact comments_walk s c bl w g.1 g.2.1 g.2.2 h
  · have HE := Lib.hid h
    have HG := Lib.hid g
    clear h g
    go_enter Tryd.func7, Tryd.ntmps7
    go_wp2_with fail
    refine (awake_any _ HE.out).mono ?_
    rintro e w1 ⟨rfl, b1⟩
    have HB1 := Lib.hid b1
    have HE1 := Lib.hid (HE.out.below b1)
    clear b1
    by_cases g1 : (1000 : Int) < s.size
    · go_wp2_with fail
      refine (awake_any _ HE1.out).mono ?_
      rintro e w2 ⟨rfl, b2⟩
      have HB2 := Lib.hid (HB1.out.trans (b2.mono HB1.out.size))
      clear b2
      go_wp2_with fail
      go_ret
      exact ⟨rfl, HB2.out⟩
    · by_cases g2 : (300 : Int) < c.size
      · go_wp2_with fail
        refine (awake_any _ HE1.out).mono ?_
        rintro e w2 ⟨rfl, b2⟩
        have HB2 := Lib.hid (HB1.out.trans (b2.mono HB1.out.size))
        clear b2
        go_wp2_with fail
        go_ret
        exact ⟨rfl, HB2.out⟩
      · have g3 : (100 : Int) < bl.size := by have := HG.out; omega
        go_wp2_with fail
        refine (awake_any _ HE1.out).mono ?_
        rintro e w2 ⟨rfl, b2⟩
        have HB2 := Lib.hid (HB1.out.trans (b2.mono HB1.out.size))
        clear b2
        go_wp2_with fail
        go_ret
        exact ⟨rfl, HB2.out⟩
end Go.Proofs.YtnhfcggecmncmaaDoor
