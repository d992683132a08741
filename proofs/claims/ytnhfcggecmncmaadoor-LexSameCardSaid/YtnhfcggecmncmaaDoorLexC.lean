/-
  lex.Tokens.
-/
import Derived.Test.YtnhfcggecmncmaaDoorLexB
import Derived.WalkMore
import Derived.StillTailTactics
import Derived.Deep.Cut
namespace Go.Proofs.YtnhfcggecmncmaaDoor
open Go.ChangeShapes Go.WideShapes Go.ChangeAt Go.RowKit
set_option linter.unusedVariables false

theorem pre2 {l : List UInt8} {i : Nat} (hi : i < l.length) (x y : UInt8) : Lib.hasPrefix (l.drop i) [x, y] = decide (l.getD i 0 = x ∧ i + 1 < l.length ∧ l.getD (i + 1) 0 = y) := by
  unfold Lib.hasPrefix
  rw [drop_cons' hi, Bool.eq_iff_iff, decide_eq_true_eq]
  by_cases h : i + 1 < l.length
  · rw [drop_cons' h]
    simp only [List.isPrefixOf, Bool.and_true, Bool.and_eq_true, beq_iff_eq]
    constructor
    · rintro ⟨rfl, rfl⟩; exact ⟨rfl, h, rfl⟩
    · rintro ⟨rfl, _, rfl⟩; exact ⟨rfl, rfl⟩
  · rw [List.drop_eq_nil_of_le (by omega)]
    simp [List.isPrefixOf, h]
theorem pre_t {l : List UInt8} {i : Nat} (hi : i < l.length) {x y : UInt8} (h : Lib.hasPrefix (l.drop i) [x, y] = true) : l.getD i 0 = x ∧ i + 1 < l.length ∧ l.getD (i + 1) 0 = y := by
  rw [pre2 hi] at h; exact of_decide_eq_true h
theorem pre_f {l : List UInt8} {i : Nat} (hi : i < l.length) {x y : UInt8} (h : Lib.hasPrefix (l.drop i) [x, y] = false) : notNext l i x y := by
  rw [pre2 hi] at h
  have := of_decide_eq_false h
  intro h1 h2 h3
  exact this ⟨h1, h2, h3⟩
theorem ext_list (s : ByteArray) (i : Nat) (hi : i ≤ s.size) : (s.extract i s.size).data.toList = s.data.toList.drop i := by
  rw [ext_data, bstr_data, List.take_of_length_le (by rw [List.length_drop, size_len]; exact Nat.le_refl _)]
theorem Arr.grown {w w' : World} {t : TypeId} {g : Nat} {cs : List Value} {row : Option Nat} (h : Arr w t g cs) (hg : w.grownBy w' row) (hne : ∀ b, row = some b → b ≠ g) : Arr w' t g cs :=
  (hg.block g h.lt (fun e => hne g e.symm rfl)).trans h
/-- What lex.Tokens keeps. -/
def LX (w : World) (s : ByteArray) (i : Nat) (acc : List Tok) (v : Value) (W : World) : Prop :=
  Arr W 9 w.heap.size [.string s] ∧ Arr W 3 (w.heap.size + 1) [.int .i64 (i : Nat)] ∧ TokRow (w.heap.size + 2) 36 W v acc ∧ Below w.heap.size w W ∧ ResT W ∧ w.heap.size + 2 ≤ W.heap.size
theorem LX.later {w W W' : World} {s : ByteArray} {i : Nat} {acc : List Tok} {v : Value} (h : LX w s i acc v W) (hb : Below W.heap.size W W') : LX w s i acc v W' :=
  ⟨h.1.later hb, h.2.1.later hb, h.2.2.1.later hb, h.2.2.2.1.trans (hb.mono h.2.2.2.1.size), h.2.2.2.2.1.below hb h.2.2.2.2.1.lt, Nat.le_trans h.2.2.2.2.2 hb.size⟩
theorem LX.put {w W : World} {s : ByteArray} {i : Nat} {acc : List Tok} {v : Value} (h : LX w s i acc v W) (hr : ResT w) {j : Nat} {x : Int} (hx : x = (j : Nat)) : LX w s j acc v (W.setCell ⟨w.heap.size + 1, 0, none⟩ (.int .i64 x)) := by
  subst hx
  have hb := h.2.2.2.1.setCell (p := ⟨w.heap.size + 1, 0, none⟩) (by simp) (.int .i64 (j : Nat))
  exact ⟨h.1.setCell (by simp) _, h.2.1.set 0 _, h.2.2.1.set (by simp) _, hb, hr.below hb hr.lt, by simpa [World.setCell] using h.2.2.2.2.2⟩
theorem LX.row {w W W' : World} {s : ByteArray} {i : Nat} {acc acc' : List Tok} {v v' : Value} (h : LX w s i acc v W) (hr : ResT w) (hT : TokRow (w.heap.size + 2) 36 W' v' acc') (hb : Below (w.heap.size + 2) W W') : LX w s i acc' v' W' :=
  have hb' := h.2.2.2.1.trans (hb.mono (by omega))
  ⟨h.1.below hb (by omega), h.2.1.below hb (by omega), hT, hb', hr.below hb' hr.lt, Nat.le_trans h.2.2.2.2.2 hb.size⟩
def LexPost (w : World) (R : Toks) (e : Ending) (w' : World) : Prop := ∃ v, e = .returned (.tuple #[v, errF R.2.1 R.2.2]) ∧ TokRow w.heap.size 36 w' v R.1 ∧ Below w.heap.size w w'
theorem TokRow.le {b b' : Nat} {e : TypeId} {w : World} {v : Value} {ts : List Tok} (h : TokRow b e w v ts) (hb : b' ≤ b) : TokRow b' e w v ts := Joins.ownsRow_le h hb

set_option maxRecDepth 100000 in
set_option maxHeartbeats 8000000 in
theorem lex_any (s : ByteArray) (hs : s.size ≤ 65536) (w : World) (hr : ResT w) : Calls Tryd.prog 9 #[.string s] w (LexPost w (tokS s.data.toList)) := by
  obtain ⟨R, hR⟩ : ∃ R, R = tokS s.data.toList := ⟨_, rfl⟩
  have HST : Hid (LexAt s.data.toList R 0 []) := by show LexAt _ _ _ _; rw [hR]; exact lx_start _
  rw [← hR]
  obtain ⟨l, hl⟩ : ∃ l, l = s.data.toList := ⟨_, rfl⟩
  rw [← hl] at HST
  have HL := Lib.hid hl
  have HSZ : Hid (l.length = s.size) := by show _ = _; rw [hl]; exact size_len s
  have HR := Lib.hid hr
  have hs1 : ¬ (65536 : Int) < s.size := by omega
  have hs2 : (s.size : Int) ≤ 100000 := by omega
  have HS := Lib.hid hs
  clear hR hl hr hs
  go_enter Tryd.func9, Tryd.ntmps9
  go_wp2_with fail
  have hb0 : Below w.heap.size w ((w.alloc (.cells #[.string s] 9)).alloc (.cells #[.int .i64 0] 3)) := ((Below.refl _ _).alloc (Nat.le_refl _) _).alloc (by simp) _
  have H0 : Hid (LX w s 0 [] (.slice none 0 0) ((w.alloc (.cells #[.string s] 9)).alloc (.cells #[.int .i64 0] 3))) :=
    ⟨(Arr.new' w _ _ _ rfl).alloc _, Arr.new2 w _ _ _ _ rfl, TokRow.nil _ _ _, hb0, HR.out.below hb0 HR.out.lt, by simp⟩
  clear hb0
  go_step3
  go_wp2_with fail
  go_step3
  go_wp2_with fail
  generalize (w.alloc (.cells #[.string s] 9)).alloc (.cells #[.int .i64 0] 3) = w0 at H0 ⊢
  go_loopw [4] (fun v wr => ∃ (i : Nat) (acc : List Tok), Hid (LexAt l R i acc ∧ LX w s i acc v wr)) (fun _ wr => s.size - (intOf ((wr.cell? ⟨w.heap.size + 1, 0, none⟩).getD undef)).toNat)
  case atStart => exact ⟨0, [], HST.out, H0.out⟩
  case round =>
    obtain ⟨i, acc, HI⟩ := hrel
    clear HST H0
    obtain ⟨qv, cv, rfl, _⟩ := HI.out.2.2.2.1.form
    have hil : i ≤ s.size := by have := HI.out.1.1; have := HSZ.out; omega
    have i0 : (0 : Int) ≤ i := by omega
    have c1 := HI.out.2.2.1.cell 0
    have cS := HI.out.2.1.cell 0
    simp only [List.getElem?_cons_zero] at c1 cS
    by_cases hi : i < s.size
    · have i1 : (i : Int) < s.size := by omega
      have hil2 : i < l.length := by have := HSZ.out; omega
      have HX : Hid (s[i] = l.getD i 0) := by show _ = _; rw [HL.out]; exact get_getD s i hi
      have HTB0 : wr.heap.size = wr.heap.size := rfl
      have HT0 : Hid (Arr (wr.alloc (.cells #[.int .i64 0, .string ⟨#[]⟩, .int .i64 i] 36)) 36 wr.heap.size [.int .i64 0, .string ⟨#[]⟩, .int .i64 i]) := Arr.new' wr _ _ _ rfl
      have HBT : Hid (Below wr.heap.size wr (wr.alloc (.cells #[.int .i64 0, .string ⟨#[]⟩, .int .i64 i] 36))) := (Below.refl _ _).alloc (Nat.le_refl _) _
      have HI1 := Lib.hid (HI.out.2.later HBT.out)
      have HLX := Lib.hid HI.out.1
      have HTS : Hid (w.heap.size + 2 ≤ wr.heap.size) := HI.out.2.2.2.2.2.2
      have HC0 := Lib.hid c1
      clear HTB0
      go_upto_region 11 with (fail)
      generalize wr.alloc (.cells #[.int .i64 0, .string ⟨#[]⟩, .int .i64 i] 36) = w1 at HT0 HBT HI1 ⊢
      obtain ⟨TB, hTB⟩ : ∃ TB, TB = wr.heap.size := ⟨_, rfl⟩
      rw [← hTB] at HT0 HTS ⊢
      have HTB := Lib.hid hTB
      clear hTB c1 cS
      have c1 := HI1.out.2.1.cell 0
      have cS := HI1.out.1.cell 0
      have f1 := HI1.out.2.1.free 0
      simp only [List.getElem?_cons_zero] at c1 cS
      cases hsp : spB s[i] with
      | true =>
        have HSP := Lib.hid hsp
        have HN1 : Hid (1 ≤ runL spB l i) := runL_pos hil2 (by rw [← HX.out]; exact hsp)
        have HNX := Lib.hid (lx_spaces (runL spB l i) HLX.out (runL_le spB l i (by omega)) (fun j h1 h2 => runL_all spB (by omega) j h1 h2))
        clear hsp
        have HRUN := Lib.hid (fun W h1 h2 => runSp s i (w.heap.size + 1) w.heap.size (by omega) (by omega) W h1 h2)
        rw [← HL.out] at HRUN
        obtain ⟨k, hk⟩ : ∃ k, k = runL spB l i := ⟨_, rfl⟩
        have HLE : Hid (i + k ≤ s.size) := by have := runL_le spB l i (by omega); have := HSZ.out; show _ ≤ _; omega
        rw [← hk] at HRUN HN1 HNX
        have HTX : Hid (s.extract i (i + k) = bstr ((l.drop i).take k)) := by show _ = _; rw [ext_data, ← HL.out]; congr 2; omega
        have HTZ : Hid ((s.extract i (i + k)).size = k) := by
          show _ = _
          rw [ByteArray.size_extract]; have := HLE.out; omega
        obtain ⟨t, ht⟩ : ∃ t, t = s.extract i (i + k) := ⟨_, rfl⟩
        rw [← ht] at HRUN HTZ HTX
        have tb : (t.size : Int) ≤ 100000 := by have := HTZ.out; have := HLE.out; omega
        have tb0 : (0 : Int) ≤ t.size := by omega
        clear ht hk
        go_wp2_with fail
        refine (isSpace_any s[i] _).mono ?_
        rintro e w2 ⟨rfl, rfl⟩
        rw [HSP.out]
        go_wp2_with fail
        refine region_tail 5 (by kernel_rfl) (by kernel_rfl) ?_
        simp only [List.take_succ_cons, List.take_zero, List.drop_succ_cons, List.drop_zero]
        still_step
        still_step
        refine wpStill_step (fun K hK => ?_)
        go_simp
        refine ⟨_, (HRUN.out w1.drew c1 cS).mono fun _ _ ⟨h1, h2⟩ => ⟨h1, h2.symm⟩, hK _ ?_⟩
        clear hK K
        still_step
        still_step
        refine wpStill_nil ?_
        try change wpList _ _ _ _ _ w1.drew
        have HI2 := Lib.hid (HI1.out.later (Below.refl _ _).drew)
        clear c1 cS f1 HI1 HRUN HT0
        generalize w1.drew = w2 at HI2 ⊢
        have c1 := HI2.out.2.1.cell 0
        have f1 := HI2.out.2.1.free 0
        simp only [List.getElem?_cons_zero] at c1
        have HC1 := Lib.hid c1
        go_wp2_with fail
        go_roundw
        case rel => exact ⟨i + k, acc, HNX.out, HI2.out.put HR.out (by rw [HTZ.out]; omega)⟩
        case measure => rw [World.cell?_setCell_same _ _ _ HC1.out, HC0.out]; simp [intOf]; have := HTZ.out; have := HN1.out; omega
      | false =>
        have HSP := Lib.hid hsp
        clear hsp
        have HPC : Hid (∀ W, Calls Tryd.prog 22 #[.string (s.extract i s.size), .string ⟨#[47, 47]⟩] W fun e w' => e = .returned (.bool (Lib.hasPrefix (l.drop i) [47, 47])) ∧ W = w') := fun W => by
          have h := Tryd.strings_HasPrefix (s.extract i s.size) ⟨#[47, 47]⟩ W
          rw [ext_list s i (by omega), ← HL.out] at h
          exact h.mono fun _ _ ⟨h1, h2⟩ => ⟨h1, h2.symm⟩
        have i2 : (i : Int) ≤ s.size := by omega
        cases hcm : Lib.hasPrefix (l.drop i) [47, 47] with
        | true =>
          have hpt := pre_t hil2 hcm
          have HNN := Lib.hid (lx_comment HLX.out hpt.2.1 hpt.1 hpt.2.2)
          have HN1 : Hid (1 ≤ runL lnB l i) := by show _ ≤ _; have := HNN.out.2; omega
          have HNX := Lib.hid HNN.out.1
          rw [hcm] at HPC
          clear hcm hpt HNN
          have HRUN := Lib.hid (fun W h1 h2 => runLn s i (w.heap.size + 1) w.heap.size (by omega) (by omega) W h1 h2)
          rw [← HL.out] at HRUN
          obtain ⟨k, hk⟩ : ∃ k, k = runL lnB l i := ⟨_, rfl⟩
          have HLE : Hid (i + k ≤ s.size) := by have := runL_le lnB l i (by omega); have := HSZ.out; show _ ≤ _; omega
          rw [← hk] at HRUN HN1 HNX
          have HTX : Hid (s.extract i (i + k) = bstr ((l.drop i).take k)) := by show _ = _; rw [ext_data, ← HL.out]; congr 2; omega
          have HTZ : Hid ((s.extract i (i + k)).size = k) := by
            show _ = _
            rw [ByteArray.size_extract]; have := HLE.out; omega
          obtain ⟨t, ht⟩ : ∃ t, t = s.extract i (i + k) := ⟨_, rfl⟩
          rw [← ht] at HRUN HTZ HTX
          have tb : (t.size : Int) ≤ 100000 := by have := HTZ.out; have := HLE.out; omega
          have tb0 : (0 : Int) ≤ t.size := by omega
          clear ht hk
          go_wp2_with fail
          refine (isSpace_any s[i] _).mono ?_
          rintro e w2 ⟨rfl, rfl⟩
          rw [HSP.out]
          go_wp2_with fail
          refine (HPC.out _).mono ?_
          rintro e w2 ⟨rfl, rfl⟩
          go_wp2_with fail
          refine region_tail 5 (by kernel_rfl) (by kernel_rfl) ?_
          simp only [List.take_succ_cons, List.take_zero, List.drop_succ_cons, List.drop_zero]
          still_step
          still_step
          refine wpStill_step (fun K hK => ?_)
          go_simp
          refine ⟨_, (HRUN.out w1.drew c1 cS).mono fun _ _ ⟨h1, h2⟩ => ⟨h1, h2.symm⟩, hK _ ?_⟩
          clear hK K
          still_step
          still_step
          refine wpStill_nil ?_
          try change wpList _ _ _ _ _ w1.drew
          have HI2 := Lib.hid (HI1.out.later (Below.refl _ _).drew)
          clear c1 cS f1 HI1 HRUN HT0
          generalize w1.drew = w2 at HI2 ⊢
          have c1 := HI2.out.2.1.cell 0
          have f1 := HI2.out.2.1.free 0
          simp only [List.getElem?_cons_zero] at c1
          have HC1 := Lib.hid c1
          go_wp2_with fail
          go_roundw
          case rel => exact ⟨i + k, acc, HNX.out, HI2.out.put HR.out (by rw [HTZ.out]; omega)⟩
          case measure => rw [World.cell?_setCell_same _ _ _ HC1.out, HC0.out]; simp [intOf]; have := HTZ.out; have := HN1.out; omega
        | false =>
          have HNT := Lib.hid (pre_f hil2 hcm)
          rw [hcm] at HPC
          clear hcm
          have ft0 := HT0.out.free 0
          have ft1 := HT0.out.free 1
          have ct0 := HT0.out.cell 0
          have ct1 := HT0.out.cell 1
          have ct2 := HT0.out.cell 2
          simp only [List.getElem?_cons_zero, List.getElem?_cons_succ] at ct0 ct1 ct2
          cases hwd : wdB s[i] with
          | true =>
            have HWD := Lib.hid hwd
            have HN1 : Hid (1 ≤ runL wdB l i) := runL_pos hil2 (by rw [← HX.out]; exact hwd)
            have HOK := Lib.hid (fun h => (lx_word HLX.out hil2 (by rw [← HX.out]; exact hwd) h).1)
            have HER := Lib.hid (fun h => lx_word_err HLX.out hil2 (by rw [← HX.out]; exact hwd) h)
            clear hwd
            have HRUN := Lib.hid (fun W h1 h2 => runWd s i (w.heap.size + 1) w.heap.size (by omega) (by omega) W h1 h2)
            rw [← HL.out] at HRUN
            obtain ⟨k, hk⟩ : ∃ k, k = runL wdB l i := ⟨_, rfl⟩
            have HLE : Hid (i + k ≤ s.size) := by have := runL_le wdB l i (by omega); have := HSZ.out; show _ ≤ _; omega
            rw [← hk] at HRUN HN1 HOK HER
            have HTX : Hid (s.extract i (i + k) = bstr ((l.drop i).take k)) := by show _ = _; rw [ext_data, ← HL.out]; congr 2; omega
            have HTZ : Hid ((s.extract i (i + k)).size = k) := by
              show _ = _
              rw [ByteArray.size_extract]; have := HLE.out; omega
            obtain ⟨t, ht⟩ : ∃ t, t = s.extract i (i + k) := ⟨_, rfl⟩
            rw [← ht] at HRUN HTZ HTX
            have tb : (t.size : Int) ≤ 100000 := by have := HTZ.out; have := HLE.out; omega
            have tb0 : (0 : Int) ≤ t.size := by omega
            clear ht hk
            have HOKW : Hid (okW ((l.drop i).take k) = (isName t || resB t)) := by show _ = _; unfold okW; rw [← HTX.out]
            go_wp2_with fail
            refine (isSpace_any s[i] _).mono ?_
            rintro e w2 ⟨rfl, rfl⟩
            rw [HSP.out]
            go_wp2_with fail
            refine (HPC.out _).mono ?_
            rintro e w2 ⟨rfl, rfl⟩
            go_wp2_with fail
            refine (isWord_any s[i] _).mono ?_
            rintro e w3 ⟨rfl, rfl⟩
            rw [HWD.out]
            go_wp2_with fail
            refine (HRUN.out _ c1 cS).mono ?_
            rintro e w3 ⟨rfl, rfl⟩
            go_wp2_with fail
            have HBW0 : Hid (Below wr.heap.size wr ((w1.setCell ⟨TB, 0, none⟩ (.int .i64 1)).setCell ⟨TB, 1, none⟩ (.string t))) :=
              (HBT.out.setCell (p := ⟨TB, 0, none⟩) (by rw [HTB.out]; exact Nat.le_refl _) _).setCell (p := ⟨TB, 1, none⟩) (by rw [HTB.out]; exact Nat.le_refl _) _
            have HTW0 : Hid (Arr ((w1.setCell ⟨TB, 0, none⟩ (.int .i64 1)).setCell ⟨TB, 1, none⟩ (.string t)) 36 TB [.int .i64 1, .string t, .int .i64 i]) := (HT0.out.set 0 _).set 1 _
            generalize (w1.setCell ⟨TB, 0, none⟩ (.int .i64 1)).setCell ⟨TB, 1, none⟩ (.string t) = w4 at HBW0 HTW0 ⊢
            have HR4 : Hid (ResT w4) := (HI.out.2.later HBW0.out).2.2.2.2.1
            clear ft0 ft1 ct0 ct1 ct2 c1 cS f1 HT0 HBT HI1 HRUN HPC
            refine (isName_any t w4 HR4.out).mono ?_
            rintro e w5 ⟨rfl, b5⟩
            have HBW := Lib.hid (HBW0.out.trans (b5.mono HBW0.out.size))
            have HTW := Lib.hid (HTW0.out.later b5)
            have HR5 := Lib.hid (HR4.out.below b5 HR4.out.lt)
            clear b5 HBW0 HTW0 HR4
            have g1 := HTW.out.cell 1
            simp only [List.getElem?_cons_zero, List.getElem?_cons_succ] at g1
            cases hnm : isName t with
            | true =>
              have HGO : Hid (okW ((l.drop i).take k) = true) := by show _ = _; rw [HOKW.out, hnm]; rfl
              clear hnm g1
              have HIW := Lib.hid (HI.out.2.later HBW.out)
              have HAB : Hid (Arr (w5.alloc (.cells #[.int .i64 1, .string t, .int .i64 i] 36)) 36 w5.heap.size (tkv (mkT 1 ((l.drop i).take k) i))) := by
                show Arr _ _ _ [.int .i64 1, .string (bstr ((l.drop i).take k)), .int .i64 i]
                rw [← HTX.out]; exact Arr.new' _ _ _ _ rfl
              have HBA : Hid (Below w5.heap.size w5 (w5.alloc (.cells #[.int .i64 1, .string t, .int .i64 i] 36))) := (Below.refl _ _).alloc (Nat.le_refl _) _
              have HIA := Lib.hid (HIW.out.later HBA.out)
              have HTA := Lib.hid (HTW.out.later HBA.out)
              have HOB : Hid (∀ b, (Value.slice qv acc.length cv).ownBlock = some b → b ≠ TB) := fun b hb => by have := HI.out.2.2.2.1.blk hb; have := HTB.out; omega
              have HAC : Hid (acc.length + 1 ≤ 1000000) := by have := HLX.out.2.1; have := HS.out; show _ ≤ _; omega
              have m0 := HTW.out.cell 0
              have m1 := HTW.out.cell 1
              have m2 := HTW.out.cell 2
              simp only [List.getElem?_cons_zero, List.getElem?_cons_succ] at m0 m1 m2
              clear HBA HIW
              go_wp2_with (at_builtin; refine app_tokL rfl _ _ rfl rfl HIA.out.2.2.1 rfl HAB.out HAC.out HIA.out.2.2.2.2.2 ?_; intro v5 w6 h5 b5 g5; have HI6 := Lib.hid (HIA.out.row HR.out h5 b5); have HT6 := Lib.hid (HTA.out.grown g5 HOB.out); have c1 := HI6.out.2.1.cell 0; have f1 := HI6.out.2.1.free 0; have n1 := HT6.out.cell 1; simp only [List.getElem?_cons_zero, List.getElem?_cons_succ] at c1 n1; have HC1 := Lib.hid c1; clear h5 b5 g5 m0 m1 m2)
              go_roundw
              case rel => exact ⟨_, _, HOK.out HGO.out, HI6.out.put HR.out (by rw [HTZ.out]; omega)⟩
              case measure => rw [World.cell?_setCell_same _ _ _ HC1.out, HC0.out]; simp [intOf]; have := HTZ.out; have := HN1.out; have := HLE.out; omega
            | false =>
              go_wp2_with fail
              refine (res_any t w5 HR5.out).mono ?_
              rintro e w6 ⟨rfl, rfl⟩
              cases hrs : resB t with
              | true =>
                have HGO : Hid (okW ((l.drop i).take k) = true) := by show _ = _; rw [HOKW.out, hnm, hrs]; rfl
                clear hnm hrs g1
                have HIW := Lib.hid (HI.out.2.later HBW.out)
                have HAB : Hid (Arr (w5.alloc (.cells #[.int .i64 1, .string t, .int .i64 i] 36)) 36 w5.heap.size (tkv (mkT 1 ((l.drop i).take k) i))) := by
                  show Arr _ _ _ [.int .i64 1, .string (bstr ((l.drop i).take k)), .int .i64 i]
                  rw [← HTX.out]; exact Arr.new' _ _ _ _ rfl
                have HBA : Hid (Below w5.heap.size w5 (w5.alloc (.cells #[.int .i64 1, .string t, .int .i64 i] 36))) := (Below.refl _ _).alloc (Nat.le_refl _) _
                have HIA := Lib.hid (HIW.out.later HBA.out)
                have HTA := Lib.hid (HTW.out.later HBA.out)
                have HOB : Hid (∀ b, (Value.slice qv acc.length cv).ownBlock = some b → b ≠ TB) := fun b hb => by have := HI.out.2.2.2.1.blk hb; have := HTB.out; omega
                have HAC : Hid (acc.length + 1 ≤ 1000000) := by have := HLX.out.2.1; have := HS.out; show _ ≤ _; omega
                have m0 := HTW.out.cell 0
                have m1 := HTW.out.cell 1
                have m2 := HTW.out.cell 2
                simp only [List.getElem?_cons_zero, List.getElem?_cons_succ] at m0 m1 m2
                clear HBA HIW
                go_wp2_with (at_builtin; refine app_tokL rfl _ _ rfl rfl HIA.out.2.2.1 rfl HAB.out HAC.out HIA.out.2.2.2.2.2 ?_; intro v5 w6 h5 b5 g5; have HI6 := Lib.hid (HIA.out.row HR.out h5 b5); have HT6 := Lib.hid (HTA.out.grown g5 HOB.out); have c1 := HI6.out.2.1.cell 0; have f1 := HI6.out.2.1.free 0; have n1 := HT6.out.cell 1; simp only [List.getElem?_cons_zero, List.getElem?_cons_succ] at c1 n1; have HC1 := Lib.hid c1; clear h5 b5 g5 m0 m1 m2)
                go_roundw
                case rel => exact ⟨_, _, HOK.out HGO.out, HI6.out.put HR.out (by rw [HTZ.out]; omega)⟩
                case measure => rw [World.cell?_setCell_same _ _ _ HC1.out, HC0.out]; simp [intOf]; have := HTZ.out; have := HN1.out; have := HLE.out; omega
              | false =>
                have HRR := Lib.hid (HER.out (by rw [HOKW.out, hnm, hrs]; rfl))
                have HIW := Lib.hid (HI.out.2.later HBW.out)
                have c1 := HIW.out.2.1.cell 0
                simp only [List.getElem?_cons_zero] at c1
                clear hnm hrs g1
                go_wp2_with fail
                refine (fnew_any _ _ _).mono ?_
                rintro e w6 ⟨rfl, rfl⟩
                go_wp2_with fail
                try rw [Exit.noGoto_ret]
                refine bodyPost_ret (results_tmp2 rfl _ _ _) rfl ?_
                rw [HRR.out]
                exact ⟨_, rfl, TokRow.nil _ _ _, HIW.out.2.2.2.1⟩
          | false =>
            have HWD := Lib.hid hwd
            have HSG : Hid (∀ W, Calls Tryd.prog 27 #[.string (s.extract i s.size)] W fun e w' => e = .returned (.string (bstr (signF (l.drop i)))) ∧ W = w') := fun W => by
              have h := sign_any (s.extract i s.size) (by rw [ByteArray.size_extract]; omega) (by rw [ByteArray.size_extract]; omega) W
              rw [ext_list s i (by omega), ← HL.out] at h
              exact h
            have hwd' : wdB (l.getD i 0) = false := by rw [← HX.out]; exact hwd
            have hsp' : spB (l.getD i 0) = false := by rw [← HX.out]; exact HSP.out
            obtain ⟨t, ht⟩ : ∃ t, t = bstr (signF (l.drop i)) := ⟨_, rfl⟩
            rw [← ht] at HSG
            have HTT := Lib.hid ht
            clear hwd ht
            go_wp2_with fail
            refine (isSpace_any s[i] _).mono ?_
            rintro e w2 ⟨rfl, rfl⟩
            rw [HSP.out]
            go_wp2_with fail
            refine (HPC.out _).mono ?_
            rintro e w2 ⟨rfl, rfl⟩
            go_wp2_with fail
            refine (isWord_any s[i] _).mono ?_
            rintro e w3 ⟨rfl, rfl⟩
            rw [HWD.out]
            go_wp2_with fail
            refine (HSG.out _).mono ?_
            rintro e w3 ⟨rfl, rfl⟩
            have HBW : Hid (Below wr.heap.size wr ((w1.setCell ⟨TB, 0, none⟩ (.int .i64 2)).setCell ⟨TB, 1, none⟩ (.string t))) :=
              (HBT.out.setCell (p := ⟨TB, 0, none⟩) (by rw [HTB.out]; exact Nat.le_refl _) _).setCell (p := ⟨TB, 1, none⟩) (by rw [HTB.out]; exact Nat.le_refl _) _
            have HTW : Hid (Arr ((w1.setCell ⟨TB, 0, none⟩ (.int .i64 2)).setCell ⟨TB, 1, none⟩ (.string t)) 36 TB [.int .i64 2, .string t, .int .i64 i]) := (HT0.out.set 0 _).set 1 _
            go_upto_region 9 with (fail)
            generalize (w1.setCell ⟨TB, 0, none⟩ (.int .i64 2)).setCell ⟨TB, 1, none⟩ (.string t) = w5 at HBW HTW ⊢
            clear ft0 ft1 ct0 ct1 ct2 c1 cS f1 HT0 HBT HI1 HPC HSG
            have ht := HTT.out
            cases har : Lib.hasPrefix (l.drop i) [45, 62] with
            | true =>
              have hpt := pre_t hil2 har
              have HNX := Lib.hid (lx_arrow HLX.out hpt.2.1 hpt.1 hpt.2.2)
              have HLE : Hid (i + 2 ≤ s.size) := by show _ ≤ _; have := HSZ.out; omega
              have ht2 : t = bstr [45, 62] := by rw [ht]; unfold signF; rw [if_pos har]
              clear har hpt ht hwd' hsp'
              have HTX : Hid (t = bstr [45, 62]) := ht2
              have HTZ : Hid (t.size = 2) := by show _ = _; rw [ht2, bstr_size]; rfl
              have HN1 : Hid (1 ≤ 2) := by show _ ≤ _; omega
              have tb : (t.size : Int) ≤ 100000 := by have := HTZ.out; omega
              have tb0 : (0 : Int) ≤ t.size := by omega
              have tb1 : (0 : Int) < t.size := by have := HTZ.out; omega
              have hne : ¬ t.data.toList = [] := by rw [ht2, bstr_data]; simp
              have he2 : ¬ t.toList = [] := by rw [toList_data]; exact hne
              have he1 : t.toList.isEmpty = false := by rw [toList_data, ht2, bstr_data]; rfl
              have he0 : t.data.toList.isEmpty = false := by rw [ht2, bstr_data]; rfl
              have he3 : (t.toList == []) = false := by rw [beq_eq_false_iff_ne]; exact he2
              clear ht2
              have HIW := Lib.hid (HI.out.2.later HBW.out)
              have HAB : Hid (Arr (w5.alloc (.cells #[.int .i64 2, .string t, .int .i64 i] 36)) 36 w5.heap.size (tkv (mkT 2 ([45, 62]) i))) := by
                show Arr _ _ _ [.int .i64 2, .string (bstr ([45, 62])), .int .i64 i]
                rw [← HTX.out]; exact Arr.new' _ _ _ _ rfl
              have HBA : Hid (Below w5.heap.size w5 (w5.alloc (.cells #[.int .i64 2, .string t, .int .i64 i] 36))) := (Below.refl _ _).alloc (Nat.le_refl _) _
              have HIA := Lib.hid (HIW.out.later HBA.out)
              have HTA := Lib.hid (HTW.out.later HBA.out)
              have HOB : Hid (∀ b, (Value.slice qv acc.length cv).ownBlock = some b → b ≠ TB) := fun b hb => by have := HI.out.2.2.2.1.blk hb; have := HTB.out; omega
              have HAC : Hid (acc.length + 1 ≤ 1000000) := by have := HLX.out.2.1; have := HS.out; show _ ≤ _; omega
              have m0 := HTW.out.cell 0
              have m1 := HTW.out.cell 1
              have m2 := HTW.out.cell 2
              simp only [List.getElem?_cons_zero, List.getElem?_cons_succ] at m0 m1 m2
              clear HBA HIW
              go_wp2_with (at_builtin; refine app_tokL rfl _ _ rfl rfl HIA.out.2.2.1 rfl HAB.out HAC.out HIA.out.2.2.2.2.2 ?_; intro v5 w6 h5 b5 g5; have HI6 := Lib.hid (HIA.out.row HR.out h5 b5); have HT6 := Lib.hid (HTA.out.grown g5 HOB.out); have c1 := HI6.out.2.1.cell 0; have f1 := HI6.out.2.1.free 0; have n1 := HT6.out.cell 1; simp only [List.getElem?_cons_zero, List.getElem?_cons_succ] at c1 n1; have HC1 := Lib.hid c1; clear h5 b5 g5 m0 m1 m2)
              go_roundw
              case rel => exact ⟨_, _, HNX.out, HI6.out.put HR.out (by rw [HTZ.out]; omega)⟩
              case measure => rw [World.cell?_setCell_same _ _ _ HC1.out, HC0.out]; simp [intOf]; have := HTZ.out; have := HN1.out; have := HLE.out; omega
            | false =>
              have hpt := pre_f hil2 har
              cases hsg : sgB (l.getD i 0) with
              | true =>
                have HNX := Lib.hid (lx_sign HLX.out hil2 hwd' hsp' HNT.out hpt hsg)
                have HLE : Hid (i + 1 ≤ s.size) := by show _ ≤ _; omega
                have hgd : (l.drop i).getD 0 0 = l.getD i 0 := by rw [drop_cons' hil2]; rfl
                have ht2 : t = bstr [l.getD i 0] := by rw [ht]; unfold signF; rw [if_neg (by rw [har]; simp), hgd, if_pos hsg]
                clear har hpt ht hwd' hsp' hsg hgd
                have HTX : Hid (t = bstr [l.getD i 0]) := ht2
                have HTZ : Hid (t.size = 1) := by show _ = _; rw [ht2, bstr_size]; rfl
                have HN1 : Hid (1 ≤ 1) := by show _ ≤ _; omega
                have tb : (t.size : Int) ≤ 100000 := by have := HTZ.out; omega
                have tb0 : (0 : Int) ≤ t.size := by omega
                have tb1 : (0 : Int) < t.size := by have := HTZ.out; omega
                have hne : ¬ t.data.toList = [] := by rw [ht2, bstr_data]; simp
                have he2 : ¬ t.toList = [] := by rw [toList_data]; exact hne
                have he1 : t.toList.isEmpty = false := by rw [toList_data, ht2, bstr_data]; rfl
                have he0 : t.data.toList.isEmpty = false := by rw [ht2, bstr_data]; rfl
                have he3 : (t.toList == []) = false := by rw [beq_eq_false_iff_ne]; exact he2
                clear ht2
                have HIW := Lib.hid (HI.out.2.later HBW.out)
                have HAB : Hid (Arr (w5.alloc (.cells #[.int .i64 2, .string t, .int .i64 i] 36)) 36 w5.heap.size (tkv (mkT 2 [l.getD i 0] i))) := by
                  show Arr _ _ _ [.int .i64 2, .string (bstr ([l.getD i 0])), .int .i64 i]
                  rw [← HTX.out]; exact Arr.new' _ _ _ _ rfl
                have HBA : Hid (Below w5.heap.size w5 (w5.alloc (.cells #[.int .i64 2, .string t, .int .i64 i] 36))) := (Below.refl _ _).alloc (Nat.le_refl _) _
                have HIA := Lib.hid (HIW.out.later HBA.out)
                have HTA := Lib.hid (HTW.out.later HBA.out)
                have HOB : Hid (∀ b, (Value.slice qv acc.length cv).ownBlock = some b → b ≠ TB) := fun b hb => by have := HI.out.2.2.2.1.blk hb; have := HTB.out; omega
                have HAC : Hid (acc.length + 1 ≤ 1000000) := by have := HLX.out.2.1; have := HS.out; show _ ≤ _; omega
                have m0 := HTW.out.cell 0
                have m1 := HTW.out.cell 1
                have m2 := HTW.out.cell 2
                simp only [List.getElem?_cons_zero, List.getElem?_cons_succ] at m0 m1 m2
                clear HBA HIW
                go_wp2_with (at_builtin; refine app_tokL rfl _ _ rfl rfl HIA.out.2.2.1 rfl HAB.out HAC.out HIA.out.2.2.2.2.2 ?_; intro v5 w6 h5 b5 g5; have HI6 := Lib.hid (HIA.out.row HR.out h5 b5); have HT6 := Lib.hid (HTA.out.grown g5 HOB.out); have c1 := HI6.out.2.1.cell 0; have f1 := HI6.out.2.1.free 0; have n1 := HT6.out.cell 1; simp only [List.getElem?_cons_zero, List.getElem?_cons_succ] at c1 n1; have HC1 := Lib.hid c1; clear h5 b5 g5 m0 m1 m2)
                go_roundw
                case rel => exact ⟨_, _, HNX.out, HI6.out.put HR.out (by rw [HTZ.out]; omega)⟩
                case measure => rw [World.cell?_setCell_same _ _ _ HC1.out, HC0.out]; simp [intOf]; have := HTZ.out; have := HN1.out; have := HLE.out; omega
              | false =>
                have HRR := Lib.hid (lx_sign_err HLX.out hil2 hwd' hsp' HNT.out hpt hsg)
                have hgd : (l.drop i).getD 0 0 = l.getD i 0 := by rw [drop_cons' hil2]; rfl
                obtain rfl : t = ⟨#[]⟩ := by rw [ht]; unfold signF; rw [if_neg (by rw [har]; simp), hgd, if_neg (by rw [hsg]; simp)]; rfl
                have HIW := Lib.hid (HI.out.2.later HBW.out)
                have c1 := HIW.out.2.1.cell 0
                have m1 := HTW.out.cell 1
                simp only [List.getElem?_cons_zero, List.getElem?_cons_succ] at c1 m1
                clear har hpt ht hwd' hsp' hsg hgd
                go_wp2_with fail
                refine (fnew_any _ _ _).mono ?_
                rintro e w6 ⟨rfl, rfl⟩
                go_wp2_with fail
                try rw [Exit.noGoto_ret]
                refine bodyPost_ret (results_tmp2 rfl _ _ _) rfl ?_
                rw [HRR.out]
                exact ⟨_, rfl, TokRow.nil _ _ _, HIW.out.2.2.2.1⟩
    · obtain ⟨hRR, hie⟩ := lx_end HI.out.1 (by have := HSZ.out; omega)
      have i1 : ¬ (i : Int) < s.size := by omega
      have HRR : Hid (R = (acc ++ [mkT 3 [] s.size], 0, 0)) := by show _ = _; rw [hRR, HSZ.out]
      have HAR : Hid (Arr (wr.alloc (.cells #[.int .i64 3, .string ⟨#[]⟩, .int .i64 s.size] 36)) 36 wr.heap.size (tkv (mkT 3 [] s.size))) := Arr.new' wr _ _ _ rfl
      have HBA : Hid (Below wr.heap.size wr (wr.alloc (.cells #[.int .i64 3, .string ⟨#[]⟩, .int .i64 s.size] 36))) := (Below.refl _ _).alloc (Nat.le_refl _) _
      have HTR := Lib.hid (HI.out.2.2.2.1.later HBA.out)
      have HAC : Hid (acc.length + 1 ≤ 1000000) := by have := HI.out.1.2.1; have := HS.out; show _ ≤ _; omega
      have HBS : Hid (w.heap.size + 2 ≤ (wr.alloc (.cells #[.int .i64 3, .string ⟨#[]⟩, .int .i64 s.size] 36)).heap.size) := Nat.le_trans HI.out.2.2.2.2.2.2 HBA.out.size
      have HB1 : Hid (Below w.heap.size w (wr.alloc (.cells #[.int .i64 3, .string ⟨#[]⟩, .int .i64 s.size] 36))) := HI.out.2.2.2.2.1.trans (HBA.out.mono HI.out.2.2.2.2.1.size)
      clear hRR hie HI
      go_wp2_with (at_builtin; refine app_tokL rfl _ _ rfl rfl HTR.out rfl HAR.out HAC.out HBS.out ?_; intro v5 w5 h5 b5 g5)
      try rw [Exit.noGoto_ret]
      refine bodyPost_ret (results_tmp2 rfl _ _ _) rfl ?_
      rw [HRR.out]
      exact ⟨_, rfl, h5.le (by omega), HB1.out.trans (b5.mono (by omega))⟩
end Go.Proofs.YtnhfcggecmncmaaDoor
