/-
  vestrylaw09.LexMatchesReference.
-/
import Derived.Test.YtnhfcggecmncmaaDoorLexI
import Derived.Test.YtnhfcggecmncmaaDoorStepC
namespace Go.Proofs.YtnhfcggecmncmaaDoor
open Go.ChangeShapes Go.WideShapes Go.ChangeAt Go.RowKit
open errAs (ErrT)
set_option linter.unusedVariables false

theorem tokF_len : ∀ (n i : Nat) (l : List UInt8), (tokF n i l).1.length ≤ n
  | 0, _, _ => Nat.zero_le _
  | n + 1, i, [] => by simp [tokF]
  | n + 1, i, c :: r => by
    unfold tokF
    have hc : ∀ (t : Tok) (R : Toks), R.1.length ≤ n → (consT t R).1.length ≤ n + 1 := fun t R h => by unfold consT; split <;> simp <;> omega
    repeat' split
    · exact hc _ _ (tokF_len n _ _)
    · simp
    · exact Nat.le_succ_of_le (tokF_len n _ _)
    · exact Nat.le_succ_of_le (tokF_len n _ _)
    · exact hc _ _ (tokF_len n _ _)
    · exact hc _ _ (tokF_len n _ _)
    · simp
theorem tokS_len (l : List UInt8) : (tokS l).1.length ≤ l.length + 1 := tokF_len _ _ _
/-- What a law's regions keep: the reference's result in its cells; the tokens of both. -/
def SM (w0 : World) (T : Nat) (vl vr : Value) (R : Toks) (W : World) : Prop :=
  Arr W 30 T [vr, .int .i64 (R.2.1 : Nat), .int .i64 (R.2.2 : Nat)] ∧ RdT W.heap.size W vl R.1 ∧ RdT W.heap.size W vr R.1 ∧ Env W ∧ Below w0.heap.size w0 W
theorem RdT.later {w w' : World} {v : Value} {ts : List Tok} (h : RdT w.heap.size w v ts) (hb : Below w.heap.size w w') : RdT w'.heap.size w' v ts := (h.below hb (Nat.le_refl _)).mono hb.size
theorem SM.later {w0 w w' : World} {T : Nat} {vl vr : Value} {R : Toks} (h : SM w0 T vl vr R w) (hb : Below w.heap.size w w') : SM w0 T vl vr R w' :=
  ⟨h.1.later hb, h.2.1.later hb, h.2.2.1.later hb, h.2.2.2.1.below hb, h.2.2.2.2.trans (hb.mono h.2.2.2.2.size)⟩
set_option maxRecDepth 100000 in
set_option maxHeartbeats 4000000 in
theorem matches_walk (s : ByteArray) (w : World) (hl : s.size ≤ 2000) (h : Env w) : Calls Tryd.prog 3 #[.string s] w fun e w' => e = .returned (.bool true) ∧ Below w.heap.size w w' := by
  have HE := Lib.hid h
  have g : ¬ (2000 : Int) < s.size := by omega
  have HS := Lib.hid hl
  clear h
  go_enter Tryd.func3, Tryd.ntmps3
  go_wp2_with fail
  refine (awake_any _ HE.out).mono ?_
  rintro e w1 ⟨rfl, b1⟩
  have HE1 := Lib.hid (HE.out.below b1)
  have HB1 := Lib.hid b1
  clear b1
  go_wp2_with fail
  refine (lex_any s (by omega) w1 HE1.out.1).mono ?_
  rintro e w2 ⟨vl, rfl, t2, b2⟩
  have HE2 := Lib.hid (HE1.out.below b2)
  have HB2 := Lib.hid (HB1.out.trans (b2.mono HB1.out.size))
  have HT2 := Lib.hid t2.rd
  clear b2 t2
  obtain ⟨R, hR⟩ : ∃ R, R = tokS s.data.toList := ⟨_, rfl⟩
  have HRL := tokS_len s.data.toList
  rw [← hR, size_len] at HRL
  have HRR := Lib.hid hR
  rw [← hR] at HT2 ⊢
  have HRL := Lib.hid HRL
  clear hR
  go_wp2_with fail
  refine (rlex_any s (by omega) w2).mono ?_
  rintro e w3 ⟨vr, rfl, t3, b3⟩
  rw [← HRR.out] at t3 ⊢
  obtain ⟨qr, cr, rfl, _⟩ := t3.form
  have hb4 : Below w3.heap.size w3 (w3.alloc (.cells #[.slice qr R.1.length cr, .int .i64 (R.2.1 : Nat), .int .i64 (R.2.2 : Nat)] 30)) := (Below.refl _ _).alloc (Nat.le_refl _) _
  have HM : Hid (SM w w3.heap.size vl (.slice qr R.1.length cr) R (w3.alloc (.cells #[.slice qr R.1.length cr, .int .i64 (R.2.1 : Nat), .int .i64 (R.2.2 : Nat)] 30))) :=
    ⟨Arr.new' w3 _ _ _ rfl, (HT2.out.later b3).later hb4, t3.rd.later hb4, (HE2.out.below b3).below hb4, (HB2.out.trans (b3.mono HB2.out.size)).trans (hb4.mono (Nat.le_trans HB2.out.size b3.size))⟩
  obtain ⟨ql, cl, rfl, _⟩ := HT2.out
  have HT0 := trivial
  clear b3 t3 hb4
  go_upto_region 5 with (fail)
  generalize w3.alloc (.cells #[.slice qr R.1.length cr, .int .i64 (R.2.1 : Nat), .int .i64 (R.2.2 : Nat)] 30) = w4 at HM ⊢
  generalize w3.heap.size = T at HM ⊢
  refine wp_region_noPanic ?_
  refine wp_region_held_drew (S := SM w T (.slice ql R.1.length cl) (.slice qr R.1.length cr) R) (by kernel_rfl) (HM.out.later (Below.refl _ _).drew) (fun hHeld => ?_)
  try simp only [Act.put]
  generalize w4.drew = w5 at hHeld ⊢
  clear HM
  refine wpAnyH_take (i := 0) (oi := ⟨some 22, _, _, _, _, _⟩) (v := errF R.2.1 R.2.2) rfl (by kernel_rfl) (by kernel_rfl) (by kernel_rfl) (fun _ _ _ h => h) (.inl ⟨by rfl, fun w' hSw => ?_⟩) hHeld ?_
  focus (skip; clear hHeld; go_simp)
  try simp only [Act.put, List.setIfInBounds_toArray, List.set_cons_zero, List.set_cons_succ]
  refine wpAnyH_take (i := 1) (oi := ⟨some 23, _, _, _, _, _⟩) (v := .pointer (some ⟨T, 1, none⟩)) rfl (by kernel_rfl) (by kernel_rfl) (by kernel_rfl) (fun _ _ _ h => h) (.inl ⟨by rfl, fun w' hSw => ?_⟩) hHeld ?_
  focus (skip; clear hHeld; go_simp)
  try simp only [Act.put, List.setIfInBounds_toArray, List.set_cons_zero, List.set_cons_succ]
  refine wpAnyH_take (i := 2) (oi := ⟨some 24, _, _, _, _, _⟩) (v := .int .i64 (R.2.1 : Nat)) rfl (by kernel_rfl) (by kernel_rfl) (by kernel_rfl) (fun _ _ _ h => h) (.inl ⟨by rfl, fun w' hSw => ?_⟩) hHeld ?_
  focus (have hq := hSw.1.cell 1; simp only [List.getElem?_cons_zero, List.getElem?_cons_succ] at hq; clear hHeld; go_simp)
  try simp only [Act.put, List.setIfInBounds_toArray, List.set_cons_zero, List.set_cons_succ]
  refine wpAnyH_take (i := 3) (oi := ⟨some 25, _, _, _, _, _⟩) (v := .pointer (some ⟨T, 2, none⟩)) rfl (by kernel_rfl) (by kernel_rfl) (by kernel_rfl) (fun _ _ _ h => h) (.inl ⟨by rfl, fun w' hSw => ?_⟩) hHeld ?_
  focus (skip; clear hHeld; go_simp)
  try simp only [Act.put, List.setIfInBounds_toArray, List.set_cons_zero, List.set_cons_succ]
  refine wpAnyH_take (i := 4) (oi := ⟨some 26, _, _, _, _, _⟩) (v := .int .i64 (R.2.2 : Nat)) rfl (by kernel_rfl) (by kernel_rfl) (by kernel_rfl) (fun _ _ _ h => h) (.inl ⟨by rfl, fun w' hSw => ?_⟩) hHeld ?_
  focus (have hq := hSw.1.cell 2; simp only [List.getElem?_cons_zero, List.getElem?_cons_succ] at hq; clear hHeld; go_simp)
  try simp only [Act.put, List.setIfInBounds_toArray, List.set_cons_zero, List.set_cons_succ]
  refine wpAnyH_ready (rs := [5]) (by kernel_rfl) (by simp) ?_
  refine AllReadyH.cons (o := ⟨some 27, _, _, _, _, _⟩) rfl (fun K' hK' => ?_) AllReadyH.nil
  refine stepw_call (R := fun v w'' => v = .bool true ∧ SM w T (.slice ql R.1.length cl) (.slice qr R.1.length cr) R w'') (by rfl) ?_ ((told_any R.2.1 R.2.2 _ hHeld.2.2.2.1.2).mono fun e w'' ⟨h1, h2⟩ => ⟨_, h1, rfl, hHeld.later h2⟩) ?_
  focus go_simp
  rintro v w6 ⟨rfl, hkn⟩
  refine hK'.out _ _ hkn (fun _ => ?_)
  clear hK' K' hHeld
  have hHeld := hkn
  clear hkn
  try simp only [Act.put, List.setIfInBounds_toArray, List.set_cons_zero, List.set_cons_succ]
  refine wpAnyH_take (i := 6) (oi := ⟨some 28, _, _, _, _, _⟩) (v := .bool false) rfl (by kernel_rfl) (by kernel_rfl) (by kernel_rfl) (fun _ _ _ h => h) (.inl ⟨by rfl, fun w' hSw => ?_⟩) hHeld ?_
  focus (skip; clear hHeld; go_simp)
  try simp only [Act.put, List.setIfInBounds_toArray, List.set_cons_zero, List.set_cons_succ]
  refine wpAnyH_take (i := 7) (oi := ⟨some 29, _, _, _, _, _⟩) (v := .bool false) rfl (by kernel_rfl) (by kernel_rfl) (by kernel_rfl) (fun _ _ _ h => h) (.inl ⟨by rfl, fun w' hSw => ?_⟩) hHeld ?_
  focus (skip; clear hHeld; go_simp)
  try simp only [Act.put, List.setIfInBounds_toArray, List.set_cons_zero, List.set_cons_succ]
  refine wpAnyH_take (i := 8) (oi := ⟨some 30, _, _, _, _, _⟩) (v := .slice ql R.1.length cl) rfl (by kernel_rfl) (by kernel_rfl) (by kernel_rfl) (fun _ _ _ h => h) (.inl ⟨by rfl, fun w' hSw => ?_⟩) hHeld ?_
  focus (skip; clear hHeld; go_simp)
  try simp only [Act.put, List.setIfInBounds_toArray, List.set_cons_zero, List.set_cons_succ]
  refine wpAnyH_take (i := 10) (oi := ⟨some 32, _, _, _, _, _⟩) (v := .pointer (some ⟨T, 0, none⟩)) rfl (by kernel_rfl) (by kernel_rfl) (by kernel_rfl) (fun _ _ _ h => h) (.inl ⟨by rfl, fun w' hSw => ?_⟩) hHeld ?_
  focus (skip; clear hHeld; go_simp)
  try simp only [Act.put, List.setIfInBounds_toArray, List.set_cons_zero, List.set_cons_succ]
  refine wpAnyH_take (i := 11) (oi := ⟨some 33, _, _, _, _, _⟩) (v := .slice qr R.1.length cr) rfl (by kernel_rfl) (by kernel_rfl) (by kernel_rfl) (fun _ _ _ h => h) (.inl ⟨by rfl, fun w' hSw => ?_⟩) hHeld ?_
  focus (have hq := hSw.1.cell 0; simp only [List.getElem?_cons_zero] at hq; clear hHeld; go_simp)
  try simp only [Act.put, List.setIfInBounds_toArray, List.set_cons_zero, List.set_cons_succ]
  refine wpAnyH_ready (rs := [9]) (by kernel_rfl) (by simp) ?_
  refine AllReadyH.cons (o := ⟨some 31, _, _, _, _, _⟩) rfl (fun K' hK' => ?_) AllReadyH.nil
  refine stepw_call (R := fun v w'' => RdT w''.heap.size w'' v R.1 ∧ SM w T (.slice ql R.1.length cl) (.slice qr R.1.length cr) R w'') (by rfl) ?_ ((back_any hHeld.2.1 (Nat.le_refl _) (by have := HRL.out; omega)).mono fun e w'' ⟨v', h1, h2, h3⟩ => ⟨v', h1, h2.rd, hHeld.later h3⟩) ?_
  focus go_simp
  rintro v w7 ⟨R31, hkn⟩
  refine hK'.out _ _ hkn (fun _ => ?_)
  clear hK' K' hHeld
  have hHeld := hkn
  clear hkn
  try simp only [Act.put, List.setIfInBounds_toArray, List.set_cons_zero, List.set_cons_succ]
  refine wpAnyH_ready (rs := [12]) (by kernel_rfl) (by simp) ?_
  refine AllReadyH.cons (o := ⟨some 34, _, _, _, _, _⟩) rfl (fun K' hK' => ?_) AllReadyH.nil
  refine stepw_call (R := fun v w'' => v = .bool true ∧ SM w T (.slice ql R.1.length cl) (.slice qr R.1.length cr) R w'') (by rfl) ?_ ((rsameT R31 hHeld.2.2.1 (by have := HRL.out; omega) (by have := HRL.out; omega)).mono fun e w'' ⟨h1, d, h2⟩ => ⟨_, h1, by rw [sameT_refl], hHeld.later (h2 ▸ Joins.below_draws _ _ d)⟩) ?_
  focus go_simp
  rintro v w8 ⟨rfl, hkn⟩
  refine hK'.out _ _ hkn (fun _ => ?_)
  clear hK' K' hHeld
  have hHeld := hkn
  clear hkn
  try simp only [Act.put, List.setIfInBounds_toArray, List.set_cons_zero, List.set_cons_succ]
  clear R31
  refine wpAnyH_take (i := 13) (oi := ⟨some 35, _, _, _, _, _⟩) (v := .bool false) rfl (by kernel_rfl) (by kernel_rfl) (by kernel_rfl) (fun _ _ _ h => h) (.inl ⟨by rfl, fun w' hSw => ?_⟩) hHeld ?_
  focus (skip; clear hHeld; go_simp)
  try simp only [Act.put, List.setIfInBounds_toArray, List.set_cons_zero, List.set_cons_succ]
  refine wpAnyH_take (i := 14) (oi := ⟨some 36, _, _, _, _, _⟩) (v := .bool false) rfl (by kernel_rfl) (by kernel_rfl) (by kernel_rfl) (fun _ _ _ h => h) (.inl ⟨by rfl, fun w' hSw => ?_⟩) hHeld ?_
  focus (skip; clear hHeld; go_simp)
  try simp only [Act.put, List.setIfInBounds_toArray, List.set_cons_zero, List.set_cons_succ]
  refine wpAnyH_done (by kernel_rfl) ?_ _
  refine NoPanic.normal ?_
  have HM := Lib.hid hHeld
  clear hHeld
  go_wp2_with fail
  go_loopw [6] (fun iv wr => ∃ k : Nat, k ≤ R.1.length ∧ iv = .int .i64 k ∧ Hid (SM w T (.slice ql R.1.length cl) (.slice qr R.1.length cr) R wr)) (fun iv _ => R.1.length - (intOf iv).toNat)
  case atStart => exact ⟨0, Nat.zero_le _, rfl, HM.out⟩
  case round =>
    obtain ⟨k, hk, rfl, HK⟩ := hrel
    clear HM
    have hi0 : (0 : Int) ≤ k := by omega
    by_cases hlt : k < R.1.length
    · have hi1 : (k : Int) < R.1.length := by omega
      obtain ⟨q1, c1, e1, _, h1⟩ := HK.out.2.1
      obtain ⟨q2, c2, e2, _, h2⟩ := HK.out.2.2.1
      simp only [Value.slice.injEq] at e1 e2
      obtain ⟨rfl, _, rfl⟩ := e1
      obtain ⟨rfl, _, rfl⟩ := e2
      obtain ⟨bl, ol, rfl, _, hcl⟩ := h1 (by omega)
      obtain ⟨br, orr, rfl, _, hcr⟩ := h2 (by omega)
      obtain ⟨x, hx⟩ : ∃ x, x = R.1.getD k (0, [], 0) := ⟨_, rfl⟩
      have x2 := hcl k hlt 2 (by omega)
      have y2 := hcr k hlt 2 (by omega)
      rw [← hx] at x2 y2
      obtain ⟨xk, xt, xo⟩ := x
      have X2 : wr.cell? ⟨bl, ol + k * 3 + 2, none⟩ = some (.int .i64 xo) := by rw [show ol + k * 3 + 2 = ol + (3 * k + 2) by omega]; exact x2
      have Y2 : wr.cell? ⟨br, orr + k * 3 + 2, none⟩ = some (.int .i64 xo) := by rw [show orr + k * 3 + 2 = orr + (3 * k + 2) by omega]; exact y2
      have hr0 := HK.out.1.cell 0
      simp only [List.getElem?_cons_zero] at hr0
      clear hcl hcr x2 y2 h1 h2 hx
      go_wp2_with fail
      go_quiet (fail)
      go_wp2_with fail
      go_roundw
      case rel => exact ⟨k + 1, by omega, by go_num, HK.out.later (Joins.below_draws _ _ _)⟩
      case measure => simp [intOf]; omega
    · have hi1 : ¬ (k : Int) < R.1.length := by omega
      go_wp2_with fail
      go_ret
      exact ⟨rfl, HK.out.2.2.2.2⟩
set_option maxRecDepth 100000 in
set_option maxHeartbeats 2000000 in
theorem matches_any (s : ByteArray) (w : World) (hs : s.size ≤ maxLen) (h : Env w) : Calls Tryd.prog 3 #[.string s] w fun e w' => e = .returned (.bool true) ∧ Below w.heap.size w w' := by
  unfold maxLen at hs
  by_cases hl : s.size ≤ 2000
  · exact matches_walk s w hl h
  · have HE := Lib.hid h
    have g : (2000 : Int) < s.size := by omega
    clear h
    go_enter Tryd.func3, Tryd.ntmps3
    go_wp2_with fail
    refine (awake_any _ HE.out).mono ?_
    rintro e w1 ⟨rfl, b1⟩
    have HB1 := Lib.hid b1
    have HE1 := Lib.hid (HE.out.below b1)
    clear b1
    go_wp2_with fail
    refine (awake_any _ HE1.out).mono ?_
    rintro e w2 ⟨rfl, b2⟩
    have HB2 := Lib.hid (HB1.out.trans (b2.mono HB1.out.size))
    clear b2
    go_wp2_with fail
    go_ret
    exact ⟨rfl, HB2.out⟩
end Go.Proofs.YtnhfcggecmncmaaDoor
