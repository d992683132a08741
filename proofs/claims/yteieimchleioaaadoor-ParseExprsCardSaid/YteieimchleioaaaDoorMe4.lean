/-
  vestryref09.in, Tokens.
-/
import Derived.Test.YteieimchleioaaaDoorMg2
import Derived.Deep.CutBlock
import Derived.Deep.CutRange
import Derived.IntWalk
import Derived.Deep.RegionLaw
import Derived.Test.YteieimchleioaaaDoorMe1
import Derived.Test.YteieimchleioaaaDoorMe3
import Derived.Test.YteieimchleioaaaDoorMg7
import Derived.Test.YteieimchleioaaaDoorMg1
import Derived.Laws.AppendOwnNone
namespace Go.Proofs.YteieimchleioaaaDoor
open Go.ChangeShapes Go.WideShapes Go.ChangeAt Go.RowKit
set_option linter.unusedVariables false

def ltL : List UInt8 := [97, 98, 99, 100, 101, 102, 103, 104, 105, 106, 107, 108, 109, 110, 111, 112, 113, 114, 115, 116, 117, 118, 119, 120, 121, 122, 65, 66, 67, 68, 69, 70, 71, 72, 73, 74, 75, 76, 77, 78, 79, 80, 81, 82, 83, 84, 85, 86, 87, 88, 89, 90, 48, 49, 50, 51, 52, 53, 54, 55, 56, 57, 95]
set_option maxRecDepth 100000 in
theorem in_any (s : ByteArray) (c : UInt8) (hs : s.size ≤ 1000000) (w : World) : Calls Tryd.prog 43 #[.string s, .int .u8 c.toNat] w fun e w' => e = .returned (.bool (decide (fnd s.data.toList c < s.size))) ∧ w = w' := by
  by_cases h : fnd s.data.toList c < s.size
  · have HD : Hid (decide (fnd s.data.toList c < s.size) = true) := decide_eq_true h
    have HC := Lib.hid (find_any s c hs w)
    rw [if_pos h] at HC
    have h1 : (0 : Int) ≤ (fnd s.data.toList c : Nat) := by omega
    clear h
    go_enter Tryd.func43, Tryd.ntmps43
    go_wp2_with fail
    refine HC.out.mono ?_
    rintro e w2 ⟨rfl, rfl⟩
    go_wp2_with fail
    go_ret
    exact ⟨by rw [HD.out]; rfl, rfl⟩
  · have HD : Hid (decide (fnd s.data.toList c < s.size) = false) := decide_eq_false h
    have HC := Lib.hid (find_any s c hs w)
    rw [if_neg h] at HC
    clear h
    go_enter Tryd.func43, Tryd.ntmps43
    go_wp2_with fail
    refine HC.out.mono ?_
    rintro e w2 ⟨rfl, rfl⟩
    go_wp2_with fail
    go_ret
    exact ⟨by rw [HD.out]; rfl, rfl⟩
theorem lt_fnd (c : UInt8) : decide (fnd ltL c < (bstr ltL).size) = wdB c := by
  have h : ∀ n : Fin 256, (decide (fnd ltL (UInt8.ofNat n.val) < (bstr ltL).size) == wdB (UInt8.ofNat n.val)) = true := by decide +kernel
  have hc : UInt8.ofNat c.toNat = c := UInt8.ofNat_toNat
  have := h ⟨c.toNat, c.toNat_lt⟩
  simp only [hc] at this
  exact beq_iff_eq.1 this
theorem in_lt (c : UInt8) (w : World) : Calls Tryd.prog 43 #[.string (bstr ltL), .int .u8 c.toNat] w fun e w' => e = .returned (.bool (wdB c)) ∧ w = w' := by
  have h := in_any (bstr ltL) c (by decide) w
  rw [bstr_data, lt_fnd] at h
  exact h
theorem sp_fnd (c : UInt8) : decide (fnd [32, 9, 10, 13] c < (bstr [32, 9, 10, 13]).size) = spB c := by
  have h : ∀ n : Fin 256, (decide (fnd [32, 9, 10, 13] (UInt8.ofNat n.val) < (bstr [32, 9, 10, 13]).size) == spB (UInt8.ofNat n.val)) = true := by decide +kernel
  have hc : UInt8.ofNat c.toNat = c := UInt8.ofNat_toNat
  have := h ⟨c.toNat, c.toNat_lt⟩
  simp only [hc] at this
  exact beq_iff_eq.1 this
theorem in_sp (c : UInt8) (w : World) : Calls Tryd.prog 43 #[.string (bstr [32, 9, 10, 13]), .int .u8 c.toNat] w fun e w' => e = .returned (.bool (spB c)) ∧ w = w' := by
  have h := in_any (bstr [32, 9, 10, 13]) c (by decide) w
  rw [bstr_data, sp_fnd] at h
  exact h
theorem sg_fnd (c : UInt8) : decide (fnd sgL c < (bstr sgL).size) = sgB c := by
  have h : ∀ n : Fin 256, (decide (fnd sgL (UInt8.ofNat n.val) < (bstr sgL).size) == sgB (UInt8.ofNat n.val)) = true := by decide +kernel
  have hc : UInt8.ofNat c.toNat = c := UInt8.ofNat_toNat
  have := h ⟨c.toNat, c.toNat_lt⟩
  simp only [hc] at this
  exact beq_iff_eq.1 this
theorem in_sg (c : UInt8) (w : World) : Calls Tryd.prog 43 #[.string (bstr sgL), .int .u8 c.toNat] w fun e w' => e = .returned (.bool (sgB c)) ∧ w = w' := by
  have h := in_any (bstr sgL) c (by decide) w
  rw [bstr_data, sg_fnd] at h
  exact h

/-- What the reference's Tokens keeps. -/
def RX (w : World) (v : Value) (acc : List Tok) (W : World) : Prop :=
  Arr W 65 w.heap.size [.slice none 0 0, .int .i64 0, .int .i64 0] ∧ Arr W 65 (w.heap.size + 1) [v, .int .i64 0, .int .i64 0] ∧ TokRow (w.heap.size + 2) 107 W v acc ∧ Below w.heap.size w W ∧ w.heap.size + 2 ≤ W.heap.size
theorem RX.later {w W W' : World} {v : Value} {acc : List Tok} (h : RX w v acc W) (hb : Below W.heap.size W W') : RX w v acc W' :=
  ⟨h.1.later hb, h.2.1.later hb, h.2.2.1.later hb, h.2.2.2.1.trans (hb.mono h.2.2.2.1.size), Nat.le_trans h.2.2.2.2 hb.size⟩
theorem RX.row {w W W' : World} {v v' : Value} {acc acc' : List Tok} (h : RX w v acc W) (hT : TokRow (w.heap.size + 2) 107 W' v' acc') (hb : Below (w.heap.size + 2) W W') : RX w v' acc' (W'.setCell ⟨w.heap.size + 1, 0, none⟩ v') :=
  have hb' := h.2.2.2.1.trans (hb.mono (by omega))
  ⟨(h.1.below hb (by omega)).setCell (by simp) _, (h.2.1.below hb (by omega)).set 0 v', hT.set (by simp) _, hb'.setCell (p := ⟨w.heap.size + 1, 0, none⟩) (by simp) _, by simpa [World.setCell] using Nat.le_trans h.2.2.2.2 hb.size⟩
def RLexPost (w : World) (R : Toks) (e : Ending) (w' : World) : Prop := ∃ v, e = .returned (.agg #[v, .int .i64 (R.2.1 : Nat), .int .i64 (R.2.2 : Nat)]) ∧ TokRow w.heap.size 107 w' v R.1 ∧ Below w.heap.size w w'
theorem resr {fn : Func} {p : Tmp} (h : fn.results = #[.cell p 65]) {tmps : Array Value} {w : World} {g : Nat} {a b c : Value} (hA : Arr w 65 g [a, b, c]) (hp : tmps.getD p undef = .pointer (some ⟨g, 0, none⟩)) :
    (results fn tmps).run Tryd.prog w = .ok (.agg #[a, b, c]) w :=
  results_cell_row h tmps w g 65 #[a, b, c] (0, 0) _ hp hA Tryd.underlying65 rfl (by kernel_rfl)
theorem Arr.set3 {w : World} {t : TypeId} {g : Nat} {a b c : Value} (h : Arr w t g [a, b, c]) (x0 x1 x2 : Value) : Arr (((w.setCell ⟨g, 0, none⟩ x0).setCell ⟨g, 1, none⟩ x1).setCell ⟨g, 2, none⟩ x2) t g [x0, x1, x2] := ((h.set 0 x0).set 1 x1).set 2 x2
theorem below_set3 {B : Nat} {w0 w : World} {g : Nat} (h : Below B w0 w) (hg : B ≤ g) (x0 x1 x2 : Value) : Below B w0 (((w.setCell ⟨g, 0, none⟩ x0).setCell ⟨g, 1, none⟩ x1).setCell ⟨g, 2, none⟩ x2) :=
  ((h.setCell (p := ⟨g, 0, none⟩) hg _).setCell (p := ⟨g, 1, none⟩) hg _).setCell (p := ⟨g, 2, none⟩) hg _

theorem step_tokR {ops : Array Oper} {o : Oper} {a : Act} {w : World} {K : Act → World → Prop} {Q : Exit → Act → World → Prop} {E : Prop} (hgd : o.guard = none) (s x : Operand)
    (ho : o.op = .call { callee := .builtin .append, args := #[s, x], argTypes := #[63, 63] })
    {base n : Nat} {v : Value} {ts : List Tok} {t : Tok} (hs : a.eval s = v) (hown : TokRow base 107 w v ts) (hx : a.eval x = .slice (some ⟨n, 0, none⟩) 1 1) (hc : Arr w 107 n (tkv t))
    (hlen : ts.length + 1 ≤ 1000000) (hbase : base ≤ w.heap.size)
    (hK : ∀ v' w', TokRow base 107 w' v' (ts ++ [t]) → Below base w w' → K (a.put o.dst v') w') : if Region.wanted o (yielded ops a.tmps) = true then Oper.wp Tryd.prog o a w K Q else E := by
  have hw : Region.wanted o (yielded ops a.tmps) = true := by simp [Region.wanted, hgd]
  rw [if_pos hw]
  obtain ⟨i0, hi, hz0, hz1, hz2⟩ := info_parts Tryd.infoTR
  obtain ⟨v', w', hrun, r1, r2, _⟩ := run_append_own (P := Tryd.prog) w base 63 o.type 107 i0 _ 3 32 Tryd.underlying63 hi hz0 hz1 hz2 rfl (by decide) v ts.length (tks ts) hown ⟨n, 0, none⟩ 1 1 (tkv t) rfl
    (fun j u hu => by
      have := hc.cell j
      rw [hu] at this
      cases j <;> simpa [Addr.add] using this) (fun u hu => tks_one [t] u (by simpa [tks] using hu)) (by unfold maxLen; omega) (by omega) hbase
  unfold Oper.wp
  simp [execOp, ho, resolve, invoke, builtin, hs, hx, hrun, Result.andThen]
  refine hK v' w' ?_ ((Below.refl _ _).grown r2 hbase (fun k hk => (hown.lt k hk).1))
  show w'.ownsRow base 107 3 v' (ts ++ [t]).length (tks (ts ++ [t]))
  rw [tks_snoc, List.length_append]
  exact r1
set_option maxRecDepth 100000 in
set_option maxHeartbeats 8000000 in
theorem rlex_any (s : ByteArray) (hs : s.size ≤ 65536) (w : World) : Calls Tryd.prog 21 #[.string s] w (RLexPost w (tokS s.data.toList)) := by
  obtain ⟨R, hR⟩ : ∃ R, R = tokS s.data.toList := ⟨_, rfl⟩
  have HST : Hid (LexAt s.data.toList R 0 []) := by show LexAt _ _ _ _; rw [hR]; exact lx_start _
  rw [← hR]
  obtain ⟨l, hl⟩ : ∃ l, l = s.data.toList := ⟨_, rfl⟩
  rw [← hl] at HST
  have HL := Lib.hid hl
  have HSZ : Hid (l.length = s.size) := by show _ = _; rw [hl]; exact size_len s
  have hs1 : ¬ (65536 : Int) < s.size := by omega
  have hs2 : (s.size : Int) ≤ 100000 := by omega
  have HS := Lib.hid hs
  clear hR hl hs
  go_enter Tryd.func21, Tryd.ntmps21
  go_wp2_with fail
  have hb0 : Below w.heap.size w ((w.alloc (.cells #[.slice none 0 0, .int .i64 0, .int .i64 0] 65)).alloc (.cells #[.slice none 0 0, .int .i64 0, .int .i64 0] 65)) := ((Below.refl _ _).alloc (Nat.le_refl _) _).alloc (by simp) _
  have H0 : Hid (RX w (.slice none 0 0) [] ((w.alloc (.cells #[.slice none 0 0, .int .i64 0, .int .i64 0] 65)).alloc (.cells #[.slice none 0 0, .int .i64 0, .int .i64 0] 65))) :=
    ⟨(Arr.new' w _ _ _ rfl).alloc _, Arr.new2 w _ _ _ _ rfl, TokRow.nil _ _ _, hb0, by simp⟩
  clear hb0
  generalize (w.alloc (.cells #[.slice none 0 0, .int .i64 0, .int .i64 0] 65)).alloc (.cells #[.slice none 0 0, .int .i64 0, .int .i64 0] 65) = w0 at H0 ⊢
  go_loopw [5] (fun iv wr => ∃ (i : Nat) (acc : List Tok) (v : Value), iv = .int .i64 i ∧ i ≤ s.size ∧ Hid (LexAt l R i acc ∧ RX w v acc wr)) (fun iv _ => s.size - (intOf iv).toNat)
  case atStart => exact ⟨0, [], _, rfl, Nat.zero_le _, HST.out, H0.out⟩
  case round =>
    obtain ⟨i, acc, v, rfl, hil, HI⟩ := hrel
    clear HST H0
    have i0 : (0 : Int) ≤ i := by omega
    by_cases hi : i < s.size
    · have i1 : (i : Int) < s.size := by omega
      have hil2 : i < l.length := by have := HSZ.out; omega
      have HX : Hid (s[i] = l.getD i 0) := by show _ = _; rw [HL.out]; exact get_getD s i hi
      go_upto_block 2 with fail
      have HLE : Hid (i + runL wdB l i ≤ s.size) := by have := runL_le wdB l i (by omega); have := HSZ.out; show _ ≤ _; omega
      go_cut [7] from 15 to 126 (fun x W => x = .int .i64 ((i + runL wdB l i : Nat) : Int) ∧ wr = W)
      case first =>
        go_wp2_with fail
        go_loop [7] (fun jv => ∃ j : Nat, i ≤ j ∧ j ≤ s.size ∧ jv = .int .i64 j ∧ Hid (∀ m, i ≤ m → m < j → wdB (l.getD m 0) = true)) (fun jv => s.size - (intOf jv).toNat)
        case atStart => exact ⟨i, Nat.le_refl _, by omega, rfl, fun k h1 h2 => by omega⟩
        case round =>
          obtain ⟨j, hij, hj, rfl, HP⟩ := hrel
          have hj0 : (0 : Int) ≤ j := by omega
          by_cases hlt : j < s.size
          · have hlt1 : (j : Int) < s.size := by omega
            have HXj : Hid (s[j] = l.getD j 0) := by show _ = _; rw [HL.out]; exact get_getD s j hlt
            go_wp2_with fail
            refine (in_lt s[j] _).mono ?_
            rintro e w1 ⟨rfl, rfl⟩
            cases hc : wdB s[j] with
            | true =>
              have HC := Lib.hid hc
              clear hc
              go_wp2_with fail
              go_round
              case rel =>
                refine ⟨j + 1, by omega, by omega, by go_num, fun m h1 h2 => ?_⟩
                by_cases e : m = j
                · subst e; rw [← HXj.out]; exact HC.out
                · exact HP.out m h1 (by omega)
              case measure => simp [intOf]; omega
            | false =>
              have H : Hid (i + runL wdB l i = j) := by
                show _ = _
                rw [runL_eq (k := j - i) (by have := HSZ.out; omega) (fun m h1 h2 => HP.out m h1 (by omega)) (fun h => by rw [show i + (j - i) = j by omega, ← HXj.out]; exact hc)]
                omega
              clear hc HP
              go_wp2_with fail
              go_meet
              case rel => exact ⟨by rw [H.out], rfl⟩
          · obtain rfl : j = s.size := by omega
            have H : Hid (i + runL wdB l i = s.size) := by
              show _ = _
              rw [runL_eq (k := s.size - i) (by have := HSZ.out; omega) (fun m h1 h2 => HP.out m h1 (by omega)) (fun h => by have := HSZ.out; omega)]
              omega
            clear HP
            go_wp2_with fail
            go_meet
            case rel => exact ⟨by rw [H.out], rfl⟩
      case rest =>
        obtain ⟨rfl, rfl⟩ := hcut
        cases hwd : wdB s[i] with
        | true =>
          have hr1 := runL_pos hil2 (by rw [← HX.out]; exact hwd)
          have hgt : (i : Int) < ((i + runL wdB l i : Nat) : Int) := by omega
          have HOK := Lib.hid (fun h => (lx_word HI.out.1 hil2 (by rw [← HX.out]; exact hwd) h).1)
          have HER := Lib.hid (fun h => lx_word_err HI.out.1 hil2 (by rw [← HX.out]; exact hwd) h)
          obtain ⟨k, hk⟩ : ∃ k, k = runL wdB l i := ⟨_, rfl⟩
          rw [← hk] at HOK HER HLE hgt hr1 ⊢
          have hle : ((i + k : Nat) : Int) ≤ s.size := by have := HLE.out; omega
          have hle2 : (i : Int) ≤ ((i + k : Nat) : Int) := by omega
          have HTX : Hid (s.extract i (i + k) = bstr ((l.drop i).take k)) := by show _ = _; rw [ext_data, ← HL.out]; congr 2; omega
          have HTZ : Hid ((s.extract i (i + k)).size ≤ 1000000) := by
            show _ ≤ _
            rw [ByteArray.size_extract]; omega
          have HN1 := Lib.hid hr1
          obtain ⟨j, hj⟩ : ∃ j, j = i + k := ⟨_, rfl⟩
          rw [← hj] at HOK HTX HTZ hgt hle hle2 ⊢
          have HJ := Lib.hid hj
          have HTE : Hid (∃ t, t = s.extract i j) := ⟨_, rfl⟩
          obtain ⟨t, ht⟩ := HTE.out
          rw [← ht] at HTX HTZ
          have HT := Lib.hid ht
          have HOKW : Hid (okW ((l.drop i).take k) = (isName t || resB t)) := by show _ = _; unfold okW; rw [← HTX.out]
          clear hwd hk hj hr1 ht HTE
          go_upto_region 12 with (fail)
          rw [← HT.out]
          go_wp2_with fail
          refine (risName_any t HTZ.out _).mono ?_
          rintro e w3 ⟨rfl, rfl⟩
          cases hnm : isName t with
          | true =>
            have HGO : Hid (okW ((l.drop i).take k) = true) := by show _ = _; rw [HOKW.out, hnm]; rfl
            clear hnm
            have HI1 := Lib.hid (HI.out.2.later (show Below wr.heap.size wr (wr.alloc (.cells #[.int .i64 1, .string t, .int .i64 i] 107)) from (Below.refl _ _).alloc (Nat.le_refl _) _))
            have HAB : Hid (Arr (wr.alloc (.cells #[.int .i64 1, .string t, .int .i64 i] 107)) 107 wr.heap.size (tkv (mkT 1 ((l.drop i).take k) i))) := by
              show Arr _ _ _ [.int .i64 1, .string (bstr ((l.drop i).take k)), .int .i64 i]
              rw [← HTX.out]; exact Arr.new' _ _ _ _ rfl
            have HAC : Hid (acc.length + 1 ≤ 1000000) := by have := HI.out.1.2.1; have := HS.out; show _ ≤ _; omega
            have c4 := HI.out.2.2.1.cell 0
            simp only [List.getElem?_cons_zero] at c4
            go_wp2_with (at_builtin; refine app_tokR rfl _ _ rfl rfl HI1.out.2.2.1 rfl HAB.out HAC.out HI1.out.2.2.2.2 ?_; intro v5 w6 h5 b5 g5; have HI6 := Lib.hid (HI1.out.row h5 b5); obtain ⟨q5, c5, hv5, _⟩ := h5.form; rw [List.length_append, List.length_singleton] at hv5; subst hv5; have f4 := (HI1.out.2.1.below b5 (by omega)).free 0; have d4 := (HI1.out.2.1.below b5 (by omega)).cell 0; simp only [List.getElem?_cons_zero] at d4; clear h5 b5 g5 c4)
            go_roundw
            case rel => exact ⟨j, _, _, rfl, by have := HLE.out; have := HJ.out; omega, HOK.out HGO.out, HI6.out⟩
            case measure => simp [intOf]; have := HJ.out; have := HN1.out; have := HLE.out; omega
          | false =>
            go_wp2_with fail
            refine (rres_any t _).mono ?_
            rintro e w3 ⟨rfl, rfl⟩
            cases hrs : resB t with
            | true =>
              have HGO : Hid (okW ((l.drop i).take k) = true) := by show _ = _; rw [HOKW.out, hnm, hrs]; rfl
              clear hnm hrs
              have HI1 := Lib.hid (HI.out.2.later (show Below wr.heap.size wr (wr.alloc (.cells #[.int .i64 1, .string t, .int .i64 i] 107)) from (Below.refl _ _).alloc (Nat.le_refl _) _))
              have HAB : Hid (Arr (wr.alloc (.cells #[.int .i64 1, .string t, .int .i64 i] 107)) 107 wr.heap.size (tkv (mkT 1 ((l.drop i).take k) i))) := by
                show Arr _ _ _ [.int .i64 1, .string (bstr ((l.drop i).take k)), .int .i64 i]
                rw [← HTX.out]; exact Arr.new' _ _ _ _ rfl
              have HAC : Hid (acc.length + 1 ≤ 1000000) := by have := HI.out.1.2.1; have := HS.out; show _ ≤ _; omega
              have c4 := HI.out.2.2.1.cell 0
              simp only [List.getElem?_cons_zero] at c4
              go_wp2_with (at_builtin; refine app_tokR rfl _ _ rfl rfl HI1.out.2.2.1 rfl HAB.out HAC.out HI1.out.2.2.2.2 ?_; intro v5 w6 h5 b5 g5; have HI6 := Lib.hid (HI1.out.row h5 b5); obtain ⟨q5, c5, hv5, _⟩ := h5.form; rw [List.length_append, List.length_singleton] at hv5; subst hv5; have f4 := (HI1.out.2.1.below b5 (by omega)).free 0; have d4 := (HI1.out.2.1.below b5 (by omega)).cell 0; simp only [List.getElem?_cons_zero] at d4; clear h5 b5 g5 c4)
              go_roundw
              case rel => exact ⟨j, _, _, rfl, by have := HLE.out; have := HJ.out; omega, HOK.out HGO.out, HI6.out⟩
              case measure => simp [intOf]; have := HJ.out; have := HN1.out; have := HLE.out; omega
            | false =>
              have HRR := Lib.hid (HER.out (by rw [HOKW.out, hnm, hrs]; rfl))
              clear hnm hrs
              have c2 := HI.out.2.1.cell
              have f2 := HI.out.2.1.free
              have c20 := c2 0
              have c21 := c2 1
              have c22 := c2 2
              have f20 := f2 0
              have f21 := f2 1
              have f22 := f2 2
              simp only [List.getElem?_cons_zero, List.getElem?_cons_succ] at c20 c21 c22
              clear c2 f2
              go_wp2_with fail
              have hA := HI.out.2.1.set3 (.slice none 0 0) (.int .i64 5) (.int .i64 i)
              refine bodyPost_ret (resr rfl hA rfl) rfl ?_
              rw [HRR.out]
              exact ⟨_, rfl, TokRow.nil _ _ _, below_set3 HI.out.2.2.2.2.1 (Nat.le_refl _) _ _ _⟩
        | false =>
          have HWD : Hid (wdB (l.getD i 0) = false) := by rw [← HX.out]; exact hwd
          have H0 : Hid (i + runL wdB l i = i) := by
            show _ = _
            rw [runL_eq (k := 0) (by omega) (fun m h1 h2 => by omega) (fun h => HWD.out)]; rfl
          rw [H0.out]
          clear hwd HLE H0
          go_wp2_with fail
          refine (in_sp s[i] _).mono ?_
          rintro e w3 ⟨rfl, rfl⟩
          cases hsp : spB s[i] with
          | true =>
            have HNX := Lib.hid (lx_space HI.out.1 hil2 HWD.out (by rw [← HX.out]; exact hsp))
            clear hsp
            go_wp2_with fail
            go_roundw
            case rel => exact ⟨i + 1, _, _, by go_num, by omega, HNX.out, HI.out.2⟩
            case measure => simp [intOf]; omega
          | false =>
            have HSP : Hid (spB (l.getD i 0) = false) := by rw [← HX.out]; exact hsp
            clear hsp
            obtain ⟨nx, hnx⟩ : ∃ nx : UInt8, nx = if i + 1 < s.size then l.getD (i + 1) 0 else 0 := ⟨_, rfl⟩
            have HNC : Hid (l.getD i 0 = 47 ∧ nx = 47 → i + 1 < l.length ∧ l.getD (i + 1) 0 = 47) := fun h => by
              by_cases hb : i + 1 < s.size
              · rw [if_pos hb] at hnx; exact ⟨by have := HSZ.out; omega, by rw [← hnx]; exact h.2⟩
              · rw [if_neg hb] at hnx; rw [hnx] at h; exact absurd h.2 (by decide)
            have HNA : Hid (l.getD i 0 = 45 ∧ nx = 62 → i + 1 < l.length ∧ l.getD (i + 1) 0 = 62) := fun h => by
              by_cases hb : i + 1 < s.size
              · rw [if_pos hb] at hnx; exact ⟨by have := HSZ.out; omega, by rw [← hnx]; exact h.2⟩
              · rw [if_neg hb] at hnx; rw [hnx] at h; exact absurd h.2 (by decide)
            have HNO : Hid (∀ x y : UInt8, ¬ (l.getD i 0 = x ∧ nx = y) → notNext l i x y) := fun x y h h1 h2 h3 => h ⟨h1, by rw [hnx, if_pos (by have := HSZ.out; omega)]; exact h3⟩
            have HNXX := Lib.hid hnx
            clear hnx
            go_upto_if 70 with (fail)
            go_cut [9] from 15 to 126 (fun x W => x = .int .u8 nx.toNat ∧ wr = W)
            case first =>
              by_cases h2 : i + 1 < s.size
              · have h3 : (i : Int) + 1 < s.size := by omega
                have HXn : Hid (nx = s[i + 1]) := by show _ = _; rw [HNXX.out, if_pos h2, HL.out]; exact (get_getD s (i + 1) h2).symm
                go_wp2_with fail
                go_meet
                case rel => exact ⟨by rw [HXn.out], rfl⟩
              · have h3 : ¬ (i : Int) + 1 < s.size := by omega
                have HXn : Hid (nx = 0) := by show _ = _; rw [HNXX.out, if_neg h2]
                go_wp2_with fail
                go_meet
                case rel => exact ⟨by rw [HXn.out]; rfl, rfl⟩
            case rest =>
              obtain ⟨rfl, rfl⟩ := hcut
              go_upto_region 22 with (fail)
              go_cut [80] from 15 to 126 (fun u W => u = .bool (decide (l.getD i 0 = 47 ∧ nx = 47)) ∧ wr = W)
              case first =>
                by_cases ha : l.getD i 0 = 47
                · have b1 : ((s[i].toNat : Int) == 47) = true := by rw [HX.out, ha]; rfl
                  by_cases hb : nx = 47
                  · have b2 : ((nx.toNat : Int) == 47) = true := by rw [hb]; rfl
                    have HD : Hid (decide (l.getD i 0 = 47 ∧ nx = 47) = true) := decide_eq_true ⟨ha, hb⟩
                    clear ha hb
                    go_wp2_with fail
                    go_meet
                    case rel => exact ⟨by rw [HD.out], rfl⟩
                  · have b2 : ((nx.toNat : Int) == 47) = false := by
                      rw [beq_eq_false_iff_ne]; intro e; exact hb (UInt8.toNat_inj.1 (by have h0 : (((47 : UInt8).toNat : Nat) : Int) = 47 := rfl; omega))
                    have HD : Hid (decide (l.getD i 0 = 47 ∧ nx = 47) = false) := decide_eq_false fun h => hb h.2
                    clear ha hb
                    go_wp2_with fail
                    go_meet
                    case rel => exact ⟨by rw [HD.out], rfl⟩
                · have b1 : ((s[i].toNat : Int) == 47) = false := by
                    rw [beq_eq_false_iff_ne]; intro e; rw [HX.out] at e; exact ha (UInt8.toNat_inj.1 (by have h0 : (((47 : UInt8).toNat : Nat) : Int) = 47 := rfl; omega))
                  have HD : Hid (decide (l.getD i 0 = 47 ∧ nx = 47) = false) := decide_eq_false fun h => ha h.1
                  clear ha
                  go_wp2_with fail
                  go_meet
                  case rel => exact ⟨by rw [HD.out], rfl⟩
              case rest =>
                obtain ⟨rfl, rfl⟩ := hcut
                by_cases hcm : l.getD i 0 = 47 ∧ nx = 47
                · have hpt := HNC.out hcm
                  have HNN := Lib.hid (lx_comment HI.out.1 hpt.1 hcm.1 hpt.2)
                  have HN1 : Hid (1 ≤ runL lnB l i) := by show _ ≤ _; have := HNN.out.2; omega
                  have HLC : Hid (i + runL lnB l i ≤ s.size) := by have := runL_le lnB l i (by omega); have := HSZ.out; show _ ≤ _; omega
                  rw [decide_eq_true hcm]
                  clear hcm hpt
                  go_upto_block 4 with fail
                  go_cut [5] from 15 to 126 (fun x W => x = .int .i64 ((i + runL lnB l i : Nat) : Int) ∧ wr = W)
                  case first =>
                    go_wp2_with fail
                    go_loop [5] (fun jv => ∃ j : Nat, i ≤ j ∧ j ≤ s.size ∧ jv = .int .i64 j ∧ Hid (∀ m, i ≤ m → m < j → lnB (l.getD m 0) = true)) (fun jv => s.size - (intOf jv).toNat)
                    case atStart => exact ⟨i, Nat.le_refl _, by omega, rfl, fun k h1 h2 => by omega⟩
                    case round =>
                      obtain ⟨j, hij, hj, rfl, HP⟩ := hrel
                      have hj0 : (0 : Int) ≤ j := by omega
                      by_cases hlt : j < s.size
                      · have hlt1 : (j : Int) < s.size := by omega
                        have HXj : Hid (s[j] = l.getD j 0) := by show _ = _; rw [HL.out]; exact get_getD s j hlt
                        have hln := ln_ne s[j]
                        cases hc : lnB s[j] with
                        | true =>
                          have HC := Lib.hid hc
                          rw [hc] at hln
                          clear hc
                          go_wp2_with fail
                          go_round
                          case rel =>
                            refine ⟨j + 1, by omega, by omega, by go_num, fun m h1 h2 => ?_⟩
                            by_cases e : m = j
                            · subst e; rw [← HXj.out]; exact HC.out
                            · exact HP.out m h1 (by omega)
                          case measure => simp [intOf]; omega
                        | false =>
                          have H : Hid (i + runL lnB l i = j) := by
                            show _ = _
                            rw [runL_eq (k := j - i) (by have := HSZ.out; omega) (fun m h1 h2 => HP.out m h1 (by omega)) (fun h => by rw [show i + (j - i) = j by omega, ← HXj.out]; exact hc)]
                            omega
                          rw [hc] at hln
                          clear hc HP
                          go_wp2_with fail
                          go_meet
                          case rel => exact ⟨by rw [H.out], rfl⟩
                      · obtain rfl : j = s.size := by omega
                        have H : Hid (i + runL lnB l i = s.size) := by
                          show _ = _
                          rw [runL_eq (k := s.size - i) (by have := HSZ.out; omega) (fun m h1 h2 => HP.out m h1 (by omega)) (fun h => by have := HSZ.out; omega)]
                          omega
                        clear HP
                        go_wp2_with fail
                        go_meet
                        case rel => exact ⟨by rw [H.out], rfl⟩
                  case rest =>
                    obtain ⟨rfl, rfl⟩ := hcut
                    go_wp2_with fail
                    go_roundw
                    case rel => exact ⟨i + runL lnB l i, _, _, rfl, HLC.out, HNN.out.1, HI.out.2⟩
                    case measure => simp [intOf]; have := HN1.out; have := HLC.out; omega
                · have HNT := Lib.hid (HNO.out 47 47 hcm)
                  rw [decide_eq_false hcm]
                  clear hcm
                  go_upto_region 25 with (fail)
                  go_cut [98] from 15 to 126 (fun u W => u = .bool (decide (l.getD i 0 = 45 ∧ nx = 62)) ∧ wr = W)
                  case first =>
                    by_cases ha : l.getD i 0 = 45
                    · have b1 : ((s[i].toNat : Int) == 45) = true := by rw [HX.out, ha]; rfl
                      by_cases hb : nx = 62
                      · have b2 : ((nx.toNat : Int) == 62) = true := by rw [hb]; rfl
                        have HD : Hid (decide (l.getD i 0 = 45 ∧ nx = 62) = true) := decide_eq_true ⟨ha, hb⟩
                        clear ha hb
                        go_wp2_with fail
                        go_meet
                        case rel => exact ⟨by rw [HD.out], rfl⟩
                      · have b2 : ((nx.toNat : Int) == 62) = false := by
                          rw [beq_eq_false_iff_ne]; intro e; exact hb (UInt8.toNat_inj.1 (by have h0 : (((62 : UInt8).toNat : Nat) : Int) = 62 := rfl; omega))
                        have HD : Hid (decide (l.getD i 0 = 45 ∧ nx = 62) = false) := decide_eq_false fun h => hb h.2
                        clear ha hb
                        go_wp2_with fail
                        go_meet
                        case rel => exact ⟨by rw [HD.out], rfl⟩
                    · have b1 : ((s[i].toNat : Int) == 45) = false := by
                        rw [beq_eq_false_iff_ne]; intro e; rw [HX.out] at e; exact ha (UInt8.toNat_inj.1 (by have h0 : (((45 : UInt8).toNat : Nat) : Int) = 45 := rfl; omega))
                      have HD : Hid (decide (l.getD i 0 = 45 ∧ nx = 62) = false) := decide_eq_false fun h => ha h.1
                      clear ha
                      go_wp2_with fail
                      go_meet
                      case rel => exact ⟨by rw [HD.out], rfl⟩
                  case rest =>
                    obtain ⟨rfl, rfl⟩ := hcut
                    by_cases har : l.getD i 0 = 45 ∧ nx = 62
                    · have hpt := HNA.out har
                      have HNX := Lib.hid (lx_arrow HI.out.1 hpt.1 har.1 hpt.2)
                      have HTX : Hid ((⟨#[45, 62]⟩ : ByteArray) = bstr [45, 62]) := rfl
                      have HLE2 : Hid (i + 2 ≤ s.size) := by show _ ≤ _; have := hpt.1; have := HSZ.out; omega
                      rw [decide_eq_true har]
                      clear har hpt
                      have HI1 := Lib.hid (HI.out.2.later (show Below wr.heap.size wr (wr.alloc (.cells #[.int .i64 2, .string ⟨#[45, 62]⟩, .int .i64 i] 107)) from (Below.refl _ _).alloc (Nat.le_refl _) _))
                      have HAB : Hid (Arr (wr.alloc (.cells #[.int .i64 2, .string ⟨#[45, 62]⟩, .int .i64 i] 107)) 107 wr.heap.size (tkv (mkT 2 ([45, 62]) i))) := by
                        show Arr _ _ _ [.int .i64 2, .string (bstr ([45, 62])), .int .i64 i]
                        rw [← HTX.out]; exact Arr.new' _ _ _ _ rfl
                      have HAC : Hid (acc.length + 1 ≤ 1000000) := by have := HI.out.1.2.1; have := HS.out; show _ ≤ _; omega
                      have c4 := HI.out.2.2.1.cell 0
                      simp only [List.getElem?_cons_zero] at c4
                      go_wp2_with (at_builtin; refine app_tokR rfl _ _ rfl rfl HI1.out.2.2.1 rfl HAB.out HAC.out HI1.out.2.2.2.2 ?_; intro v5 w6 h5 b5 g5; have HI6 := Lib.hid (HI1.out.row h5 b5); obtain ⟨q5, c5, hv5, _⟩ := h5.form; rw [List.length_append, List.length_singleton] at hv5; subst hv5; have f4 := (HI1.out.2.1.below b5 (by omega)).free 0; have d4 := (HI1.out.2.1.below b5 (by omega)).cell 0; simp only [List.getElem?_cons_zero] at d4; clear h5 b5 g5 c4)
                      go_roundw
                      case rel => exact ⟨i + 2, _, _, by go_num, by have := HLE2.out; omega, HNX.out, HI6.out⟩
                      case measure => simp [intOf]; omega
                    · have HAR := Lib.hid (HNO.out 45 62 har)
                      rw [decide_eq_false har]
                      clear har
                      go_wp2_with fail
                      refine (in_sg s[i] _).mono ?_
                      rintro e w3 ⟨rfl, rfl⟩
                      cases hsg : sgB s[i] with
                      | false =>
                        have HRR := Lib.hid (lx_sign_err HI.out.1 hil2 HWD.out HSP.out HNT.out HAR.out (by rw [← HX.out]; exact hsg))
                        clear hsg
                        have c2 := HI.out.2.1.cell
                        have f2 := HI.out.2.1.free
                        have c20 := c2 0
                        have c21 := c2 1
                        have c22 := c2 2
                        have f20 := f2 0
                        have f21 := f2 1
                        have f22 := f2 2
                        simp only [List.getElem?_cons_zero, List.getElem?_cons_succ] at c20 c21 c22
                        clear c2 f2
                        go_wp2_with fail
                        have hA := HI.out.2.1.set3 (.slice none 0 0) (.int .i64 6) (.int .i64 i)
                        refine bodyPost_ret (resr rfl hA rfl) rfl ?_
                        rw [HRR.out]
                        exact ⟨_, rfl, TokRow.nil _ _ _, below_set3 HI.out.2.2.2.2.1 (Nat.le_refl _) _ _ _⟩
                      | true =>
                        have HNX := Lib.hid (lx_sign HI.out.1 hil2 HWD.out HSP.out HNT.out HAR.out (by rw [← HX.out]; exact hsg))
                        clear hsg
                        have HTX : Hid (s.extract i (i + 1) = bstr [l.getD i 0]) := by
                          show _ = _
                          rw [ext_data, ← HL.out, drop_cons' hil2]
                          congr 1
                          rw [show i + 1 - i = 1 by omega]; rfl
                        have e1 : (i : Int) + 1 ≤ s.size := by omega
                        have e2 : (i : Int) ≤ (i : Int) + 1 := by omega
                        obtain ⟨t, ht⟩ : ∃ t, t = s.extract i (i + 1) := ⟨_, rfl⟩
                        rw [← ht] at HTX
                        have HTT := Lib.hid ht
                        clear ht
                        have c4 := HI.out.2.2.1.cell 0
                        simp only [List.getElem?_cons_zero] at c4
                        go_wp2_with fail
                        have HAC : Hid (acc.length + 1 ≤ 1000000) := by have := HI.out.1.2.1; have := HS.out; show _ ≤ _; omega
                        have HI1 : Hid (RX w v acc ((wr.alloc (.cells #[.int .i64 2, .string t, .int .i64 i] 107)).drew)) := HI.out.2.later (((Below.refl _ _).alloc (Nat.le_refl _) _).drew)
                        have HAB : Hid (Arr ((wr.alloc (.cells #[.int .i64 2, .string t, .int .i64 i] 107)).drew) 107 wr.heap.size (tkv (mkT 2 [l.getD i 0] i))) := by
                          show Arr (wr.alloc _) _ _ [.int .i64 2, .string (bstr [l.getD i 0]), .int .i64 i]
                          rw [← HTX.out]; exact Arr.new' _ _ _ _ rfl
                        have hw1 : IntKind.i64.wrap ((i : Int) + 1) = (i : Int) + 1 := IntWalk.i64_in _ (by omega)
                        have hw2 : (0 : Int) ≤ (i : Int) + 1 := by omega
                        have hw3 : ((i : Int) + 1).toNat = i + 1 := by omega
                        have htt := HTT.out.symm
                        have c5 : (wr.alloc (.cells #[.int .i64 2, .string t, .int .i64 i] 107)).cell? ⟨w.heap.size + 1, 0, none⟩ = some v := HI1.out.2.1.cell 0
                        go_region_law ((refine step_tokR rfl (.tmp 114) (.tmp 122) rfl rfl HI1.out.2.2.1 rfl HAB.out HAC.out HI1.out.2.2.2.2 ?_); intro v5 w6 h5 b5; have HI6 := Lib.hid (HI1.out.row h5 b5); obtain ⟨q5, c5, hv5, _⟩ := h5.form; rw [List.length_append, List.length_singleton] at hv5; subst hv5; have f4 := (HI1.out.2.1.below b5 (by omega)).free 0; have d4 := (HI1.out.2.1.below b5 (by omega)).cell 0; simp only [List.getElem?_cons_zero] at d4; clear h5 b5)
                        all_goals
                          clear hw1 hw2 hw3 htt c4
                          go_wp2_with fail
                          go_roundw
                          case rel => exact ⟨i + 1, _, _, by go_num, by omega, HNX.out, HI6.out⟩
                          case measure => simp [intOf]; omega
    · obtain ⟨hRR, hie⟩ := lx_end HI.out.1 (by have := HSZ.out; omega)
      have hie2 : i = s.size := by omega
      have i1 : ¬ (i : Int) < s.size := by omega
      have HRR : Hid (R = (acc ++ [mkT 3 [] i], 0, 0)) := by show _ = _; rw [hRR, hie]
      have HI1 := Lib.hid (HI.out.2.later (show Below wr.heap.size wr (wr.alloc (.cells #[.int .i64 3, .string ⟨#[]⟩, .int .i64 i] 107)) from (Below.refl _ _).alloc (Nat.le_refl _) _))
      have HAB : Hid (Arr (wr.alloc (.cells #[.int .i64 3, .string ⟨#[]⟩, .int .i64 i] 107)) 107 wr.heap.size (tkv (mkT 3 [] i))) := Arr.new' _ _ _ _ rfl
      have HAC : Hid (acc.length + 1 ≤ 1000000) := by have := HI.out.1.2.1; have := HS.out; show _ ≤ _; omega
      have c4 := HI.out.2.2.1.cell 0
      simp only [List.getElem?_cons_zero] at c4
      clear hRR hie hie2
      go_wp2_with (at_builtin; refine app_tokR rfl _ _ rfl rfl HI1.out.2.2.1 rfl HAB.out HAC.out HI1.out.2.2.2.2 ?_; intro v5 w6 h5 b5 g5; have HI6 := Lib.hid (HI1.out.row h5 b5); obtain ⟨q5, c5, hv5, _⟩ := h5.form; rw [List.length_append, List.length_singleton] at hv5; subst hv5; have f4 := (HI1.out.2.1.below b5 (by omega)).free 0; have d4 := (HI1.out.2.1.below b5 (by omega)).cell 0; have d40 := HI6.out.2.1.cell 0; have d41 := HI6.out.2.1.cell 1; have d42 := HI6.out.2.1.cell 2; have e0 := HI6.out.1.cell 0; have e1 := HI6.out.1.cell 1; have e2 := HI6.out.1.cell 2; have x0 := HI6.out.1.free 0; have x1 := HI6.out.1.free 1; have x2 := HI6.out.1.free 2; simp only [List.getElem?_cons_zero, List.getElem?_cons_succ] at d4 d40 d41 d42 e0 e1 e2; clear h5 b5 g5 c4)
      have hA := HI6.out.1.set3 (.slice q5 (acc.length + 1) c5) (.int .i64 0) (.int .i64 0)
      refine bodyPost_ret (resr rfl hA rfl) rfl ?_
      rw [HRR.out]
      refine ⟨_, rfl, ?_, below_set3 HI6.out.2.2.2.1 (Nat.le_refl _) _ _ _⟩
      exact ((((HI6.out.2.2.1).set (a := ⟨w.heap.size, 0, none⟩) (by simp) _).set (a := ⟨w.heap.size, 1, none⟩) (by simp) _).set (a := ⟨w.heap.size, 2, none⟩) (by simp) _).le (by omega)
end Go.Proofs.YteieimchleioaaaDoor
/-
  The reference's Allowed.
-/
namespace Go.Proofs.YteieimchleioaaaDoor
open Go.ChangeShapes Go.WideShapes Go.ChangeAt Go.RowKit
set_option linter.unusedVariables false

/-- What the reference hands back of a text. -/
def RefPost {α : Type} (val : Nat → α → World → Value → Prop) (zero : Value) (w : World) (r : RR α) (e : Ending) (w' : World) : Prop :=
  Below w.heap.size w w' ∧ ((∃ x v, r = .ok x ∧ e = .returned (.tuple #[v, .int .i64 0, .int .i64 0]) ∧ val w.heap.size x w' v) ∨ (∃ a b : Nat, a ≠ 0 ∧ r = .bad a b ∧ e = .returned (.tuple #[zero, .int .i64 (a : Nat), .int .i64 (b : Nat)])))
/-- The reference's tokens in memory, from the row that Tokens makes. -/
theorem rt_of {w : World} {base : Nat} {v : Value} {ts : List Tok} (ho : OkTs ts) (hl : ts.length ≤ 100000) (hr : TokRow base 107 w v ts) :
    ∃ tb c, v = .slice (some ⟨tb, 0, none⟩) ts.length c ∧ RT w tb ts := by
  have hp := okTs_pos ho
  have h1 := hr.1
  rcases hr.2 with ⟨h, hn⟩ | ⟨g, cap, cur, rfl, h0, hg, hcap, _, hcz, htk⟩
  · omega
  · have hgl := (Array.getElem?_eq_some_iff.1 hg).1
    refine ⟨g, cap, rfl, hgl, hl, fun i hi j hj => ?_⟩
    rw [cell_of_row w g _ cur _ (0, 0) hg, ← Array.getElem?_toList]
    have h2 := tks_at ts i j hi hj
    rw [show (0, [], 0) = tok0 from rfl] at h2
    rw [← h2, ← htk, List.getElem?_take, if_pos (by omega), Nat.mul_comm]
theorem offs_nat (l : List UInt8) (i : Nat) : offs (tokS l).1 i = ((offT (tokS l).1 i : Nat) : Int) := tokS_offs l i
set_option maxRecDepth 100000 in
set_option maxHeartbeats 4000000 in
theorem refA_any (s : ByteArray) (hs : s.size ≤ 65536) (w : World) : Calls Tryd.prog 14 #[.string s] w (RefPost VA (.slice none 0 0) w (readF typesR s.data.toList)) := by
  have HLX := Lib.hid (rlex_any s hs w)
  obtain ⟨l, hl⟩ : ∃ l, l = s.data.toList := ⟨_, rfl⟩
  have HLS : Hid (l.length ≤ 65536) := by show _ ≤ _; rw [hl, Array.length_toList]; exact hs
  rw [← hl] at HLX ⊢
  clear hl hs
  go_enter Tryd.func14, Tryd.ntmps14
  go_wp2_with fail
  refine HLX.out.mono ?_
  rintro r w1 ⟨v, rfl, r1, b1⟩
  have HB1 := Lib.hid b1
  by_cases h0 : (tokS l).2.1 = 0
  · have HE0 := Lib.hid h0
    have HE1 : Hid ((tokS l).2.2 = 0) := tokF_code _ _ _ h0
    have HOB := Lib.hid (tokS_okB h0 HLS.out)
    obtain ⟨tb, c, rfl, hrt⟩ := rt_of HOB.out.1 (Nat.le_trans (tokS_len l) (by have := HLS.out; omega)) r1
    rw [show ((tokS l).2.1 : Int) = 0 from by rw [h0]; rfl, show ((tokS l).2.2 : Int) = 0 from by rw [HE1.out]; rfl]
    have hb2 : Below w1.heap.size w1 (w1.alloc (.cells #[.slice (some ⟨tb, 0, none⟩) (tokS l).1.length c, .int .i64 0, .int .i64 0] 65)) := (Below.refl _ _).alloc (Nat.le_refl _) _
    have HX : Hid (Arr (w1.alloc (.cells #[.slice (some ⟨tb, 0, none⟩) (tokS l).1.length c, .int .i64 0, .int .i64 0] 65)) 65 w1.heap.size [.slice (some ⟨tb, 0, none⟩) (tokS l).1.length c, .int .i64 0, .int .i64 0]) := Arr.new' _ _ _ _ rfl
    have HT := Lib.hid (hrt.later hb2)
    have HB := Lib.hid (b1.trans (hb2.mono b1.size))
    have HSZ : Hid (w.heap.size ≤ (w1.alloc (.cells #[.slice (some ⟨tb, 0, none⟩) (tokS l).1.length c, .int .i64 0, .int .i64 0] 65)).heap.size) := HB.out.size
    clear h0 r1 b1 hb2 hrt HLX
    have HTY : Hid (Calls Tryd.prog 31 #[.agg #[.slice (some ⟨tb, 0, none⟩) (tokS l).1.length c, .int .i64 0, .int .i64 0, .int .i64 0, .int .i64 0]] (w1.alloc (.cells #[.slice (some ⟨tb, 0, none⟩) (tokS l).1.length c, .int .i64 0, .int .i64 0] 65)) fun e w' => ∃ i' k' x v, Go1 (tokS l).1 k' i' 0 0 x (st 0 0 (typesR (tokS l).1 ps0)) ∧ e = .returned (.tuple #[.agg #[.slice (some ⟨tb, 0, none⟩) (tokS l).1.length c, .int .i64 (i' : Nat), .int .i64 (k' : Nat), .int .i64 (0 : Nat), .int .i64 (0 : Nat)], v]) ∧ RdA (Bt (w1.alloc (.cells #[.slice (some ⟨tb, 0, none⟩) (tokS l).1.length c, .int .i64 0, .int .i64 0] 65)).heap.size w'.heap.size) w' x v ∧ Below (w1.alloc (.cells #[.slice (some ⟨tb, 0, none⟩) (tokS l).1.length c, .int .i64 0, .int .i64 0] 65)).heap.size (w1.alloc (.cells #[.slice (some ⟨tb, 0, none⟩) (tokS l).1.length c, .int .i64 0, .int .i64 0] 65)) w') :=
      rtypes_any (s := ps0) (k := 0) (c := c) HOB.out HT.out (okTs_pos HOB.out.1) ⟨by decide, fun _ => by decide⟩
    go_upto_region 2 with (fail)
    generalize w1.alloc (.cells #[.slice (some ⟨tb, 0, none⟩) (tokS l).1.length c, .int .i64 0, .int .i64 0] 65) = w2 at HX HT HB HTY HSZ ⊢
    obtain ⟨g, hg⟩ : ∃ g, g = w1.heap.size := ⟨_, rfl⟩
    rw [← hg] at HX ⊢
    clear hg
    have x0 := HX.out.cell 0
    have y0 := HX.out.free 0
    have x1 := HX.out.cell 1
    have y1 := HX.out.free 1
    have x2 := HX.out.cell 2
    have y2 := HX.out.free 2
    simp only [List.getElem?_cons_zero, List.getElem?_cons_succ] at x0 x1 x2
    go_wp2_with fail
    refine HTY.out.mono ?_
    rintro r w3 ⟨i6, k6, xs, v, hg6, rfl, hr3, b3⟩
    have HG := Lib.hid hg6
    have HV := Lib.hid hr3
    obtain ⟨q, cc, rfl, _⟩ := hr3
    have HB3 := Lib.hid (HB.out.trans (b3.mono HB.out.size))
    have HT3 := Lib.hid (HT.out.later b3)
    have hb4 : Below w3.heap.size w3 (w3.alloc (.cells #[.slice (some ⟨tb, 0, none⟩) (tokS l).1.length c, .int .i64 (i6 : Nat), .int .i64 (k6 : Nat), .int .i64 (0 : Nat), .int .i64 (0 : Nat)] 68)) := (Below.refl _ _).alloc (Nat.le_refl _) _
    have HP : Hid (Arr (w3.alloc (.cells #[.slice (some ⟨tb, 0, none⟩) (tokS l).1.length c, .int .i64 (i6 : Nat), .int .i64 (k6 : Nat), .int .i64 (0 : Nat), .int .i64 (0 : Nat)] 68)) 68 w3.heap.size [.slice (some ⟨tb, 0, none⟩) (tokS l).1.length c, .int .i64 (i6 : Nat), .int .i64 (k6 : Nat), .int .i64 (0 : Nat), .int .i64 (0 : Nat)]) := Arr.new' _ _ _ _ rfl
    have HT4 := Lib.hid (HT3.out.later hb4)
    have HB4 := Lib.hid (HB3.out.trans (hb4.mono HB3.out.size))
    have HV4 : Hid (VA w.heap.size xs (w3.alloc (.cells #[.slice (some ⟨tb, 0, none⟩) (tokS l).1.length c, .int .i64 (i6 : Nat), .int .i64 (k6 : Nat), .int .i64 (0 : Nat), .int .i64 (0 : Nat)] 68)) (.slice q xs.length cc)) := VA.low (VA.later (B := w2.heap.size) HV.out hb4) HSZ.out
    have HFN := Lib.hid (rfin_any (c := c) (k := k6) (s := ⟨i6, 0, 0⟩) HT4.out hg6.1)
    have hg7 : Go1 (tokS l).1 k6 i6 0 0 xs (typesR (tokS l).1 ps0) := by
      have h := hg6
      rw [st_0 rfl] at h
      exact h
    have HRF := Lib.hid (fin_read HE0.out hg7)
    clear hg6 hg7 b3 hb4 HB HT HT3 HB3 HTY HV
    clear x0 y0 x1 y1 x2 y2
    have HFO : Hid (finO (tokS l).1 k6 i6 = if finK (tokS l).1 k6 i6 = 0 then 0 else ((offT (tokS l).1 i6 : Nat) : Int)) := by
      show _ = _
      unfold finO
      rw [offs_nat]
    obtain ⟨kf, hkf⟩ : ∃ x, x = finK (tokS l).1 k6 i6 := ⟨_, rfl⟩
    obtain ⟨ko, hko⟩ : ∃ x, x = finO (tokS l).1 k6 i6 := ⟨_, rfl⟩
    have HFN : Hid (Calls Tryd.prog 23 #[.agg #[.slice (some ⟨tb, 0, none⟩) (tokS l).1.length c, .int .i64 (i6 : Nat), .int .i64 (k6 : Nat), .int .i64 (0 : Nat), .int .i64 (0 : Nat)]] (w3.alloc (.cells #[.slice (some ⟨tb, 0, none⟩) (tokS l).1.length c, .int .i64 (i6 : Nat), .int .i64 (k6 : Nat), .int .i64 (0 : Nat), .int .i64 (0 : Nat)] 68)) fun e w' => e = .returned (.tuple #[.int .i64 (kf : Nat), .int .i64 ko]) ∧ Below (w3.alloc (.cells #[.slice (some ⟨tb, 0, none⟩) (tokS l).1.length c, .int .i64 (i6 : Nat), .int .i64 (k6 : Nat), .int .i64 (0 : Nat), .int .i64 (0 : Nat)] 68)).heap.size (w3.alloc (.cells #[.slice (some ⟨tb, 0, none⟩) (tokS l).1.length c, .int .i64 (i6 : Nat), .int .i64 (k6 : Nat), .int .i64 (0 : Nat), .int .i64 (0 : Nat)] 68)) w') := by rw [hkf, hko]; exact HFN.out
    rw [← hkf] at HRF HFO
    rw [← hko] at HFO
    clear hkf hko
    have p0 := HP.out.cell 0
    have z0 := HP.out.free 0
    have p1 := HP.out.cell 1
    have z1 := HP.out.free 1
    have p2 := HP.out.cell 2
    have z2 := HP.out.free 2
    have p3 := HP.out.cell 3
    have z3 := HP.out.free 3
    have p4 := HP.out.cell 4
    have z4 := HP.out.free 4
    simp only [List.getElem?_cons_zero, List.getElem?_cons_succ] at p0 p1 p2 p3 p4
    go_wp2_with fail
    refine HFN.out.mono ?_
    rintro r w5 ⟨rfl, b5⟩
    have HB5 := Lib.hid (HB4.out.trans (b5.mono HB4.out.size))
    have HV5 := Lib.hid (HV4.out.later b5)
    clear b5 HFN
    clear p0 z0 p1 z1 p2 z2 p3 z3 p4 z4
    by_cases hK : kf = 0
    · have hk7 : ((kf : Int) != 0) = false := by rw [hK]; rfl
      have HRE : Hid (readF typesR l = .ok xs) := by
        have h := HRF.out
        rw [if_pos hK] at h
        exact h
      clear hK HRF HFO
      go_wp2_with fail
      refine bodyPost_ret (v := .tuple #[.slice q xs.length cc, .int .i64 0, .int .i64 0]) ?_ rfl ⟨HB5.out, .inl ⟨xs, _, HRE.out, rfl, HV5.out⟩⟩
      simp [results, Tryd.results14, go_sem]
    · have hk7 : ((kf : Int) != 0) = true := bne_iff_ne.2 (by omega)
      have HRE : Hid (readF typesR l = .bad kf (offT (tokS l).1 i6) ∧ kf ≠ 0 ∧ ko = ((offT (tokS l).1 i6 : Nat) : Int)) := by
        have h := HRF.out
        have h2 := HFO.out
        rw [if_neg hK] at h h2
        exact ⟨h, hK, h2⟩
      clear hK HRF HFO
      go_wp2_with fail
      refine bodyPost_ret (v := .tuple #[.slice none 0 0, .int .i64 (kf : Nat), .int .i64 ko]) ?_ rfl ⟨HB5.out, .inr ⟨kf, offT (tokS l).1 i6, HRE.out.2.1, HRE.out.1, by rw [HRE.out.2.2]⟩⟩
      simp [results, Tryd.results14, go_sem]
  · have HRE := Lib.hid (readF_lex (rule := typesR) h0)
    obtain ⟨q, c, rfl, _⟩ := r1.form
    have hb2 : Below w1.heap.size w1 (w1.alloc (.cells #[.slice q ((tokS l).1).length c, .int .i64 ((tokS l).2.1 : Nat), .int .i64 ((tokS l).2.2 : Nat)] 65)) := (Below.refl _ _).alloc (Nat.le_refl _) _
    have HX : Hid (Arr (w1.alloc (.cells #[.slice q ((tokS l).1).length c, .int .i64 ((tokS l).2.1 : Nat), .int .i64 ((tokS l).2.2 : Nat)] 65)) 65 w1.heap.size [.slice q ((tokS l).1).length c, .int .i64 ((tokS l).2.1 : Nat), .int .i64 ((tokS l).2.2 : Nat)]) := Arr.new' _ _ _ _ rfl
    have HB := Lib.hid (b1.trans (hb2.mono b1.size))
    have h0' : (((tokS l).2.1 : Int) != 0) = true := bne_iff_ne.2 (by omega)
    clear r1 b1 hb2 HLX
    go_upto_region 2 with (fail)
    generalize w1.alloc (.cells #[.slice q ((tokS l).1).length c, .int .i64 ((tokS l).2.1 : Nat), .int .i64 ((tokS l).2.2 : Nat)] 65) = w2 at HX HB ⊢
    obtain ⟨g, hg⟩ : ∃ g, g = w1.heap.size := ⟨_, rfl⟩
    rw [← hg] at HX ⊢
    clear hg
    have x0 := HX.out.cell 0
    have y0 := HX.out.free 0
    have x1 := HX.out.cell 1
    have y1 := HX.out.free 1
    have x2 := HX.out.cell 2
    have y2 := HX.out.free 2
    simp only [List.getElem?_cons_zero, List.getElem?_cons_succ] at x0 x1 x2
    go_upto_region 3 with (fail)
    clear x0 y0 x1 y1 x2 y2
    clear h0'
    refine wp_region_held_drew (S := fun W' => Arr W' 65 g [.slice q ((tokS l).1).length c, .int .i64 ((tokS l).2.1 : Nat), .int .i64 ((tokS l).2.2 : Nat)]) (by kernel_rfl) (HX.out.later (Below.refl _ _).drew) (fun hHeld => ?_)
    try simp only [Act.put]
    have HB := Lib.hid (HB.out.trans ((Below.refl w2.heap.size w2).drew.mono HB.out.size))
    generalize w2.drew = w3 at hHeld HB ⊢
    refine wpAnyH_take (i := 0) (oi := ⟨some 15, _, _, _, _, _⟩) (v := .pointer (some ⟨g, 1, none⟩)) rfl (by kernel_rfl) (by kernel_rfl) (by kernel_rfl) (fun _ _ _ h => h) (.inl ⟨by rfl, fun w' hSw => ?_⟩) hHeld ?_
    focus (skip; clear hHeld; go_simp)
    try simp only [Act.put, List.setIfInBounds_toArray, List.set_cons_zero, List.set_cons_succ]
    refine wpAnyH_take (i := 1) (oi := ⟨some 16, _, _, _, _, _⟩) (v := .int .i64 ((tokS l).2.1 : Nat)) rfl (by kernel_rfl) (by kernel_rfl) (by kernel_rfl) (fun _ _ _ h => h) (.inl ⟨by rfl, fun w' hSw => ?_⟩) hHeld ?_
    focus (have q := hSw; have q0 := q.cell 0; have q1 := q.cell 1; have q2 := q.cell 2; simp only [List.getElem?_cons_zero, List.getElem?_cons_succ] at q0 q1 q2; clear hHeld; go_simp)
    try simp only [Act.put, List.setIfInBounds_toArray, List.set_cons_zero, List.set_cons_succ]
    refine wpAnyH_take (i := 2) (oi := ⟨some 17, _, _, _, _, _⟩) (v := .pointer (some ⟨g, 2, none⟩)) rfl (by kernel_rfl) (by kernel_rfl) (by kernel_rfl) (fun _ _ _ h => h) (.inl ⟨by rfl, fun w' hSw => ?_⟩) hHeld ?_
    focus (skip; clear hHeld; go_simp)
    try simp only [Act.put, List.setIfInBounds_toArray, List.set_cons_zero, List.set_cons_succ]
    refine wpAnyH_take (i := 3) (oi := ⟨some 18, _, _, _, _, _⟩) (v := .int .i64 ((tokS l).2.2 : Nat)) rfl (by kernel_rfl) (by kernel_rfl) (by kernel_rfl) (fun _ _ _ h => h) (.inl ⟨by rfl, fun w' hSw => ?_⟩) hHeld ?_
    focus (have q := hSw; have q0 := q.cell 0; have q1 := q.cell 1; have q2 := q.cell 2; simp only [List.getElem?_cons_zero, List.getElem?_cons_succ] at q0 q1 q2; clear hHeld; go_simp)
    try simp only [Act.put, List.setIfInBounds_toArray, List.set_cons_zero, List.set_cons_succ]
    refine wpAnyH_take (i := 4) (oi := ⟨some 2, _, _, _, _, _⟩) (v := .slice none 0 0) rfl (by kernel_rfl) (by kernel_rfl) (by kernel_rfl) (fun _ _ _ h => h) (.inl ⟨by rfl, fun w' hSw => ?_⟩) hHeld ?_
    focus (skip; clear hHeld; go_simp)
    try simp only [Act.put, List.setIfInBounds_toArray, List.set_cons_zero, List.set_cons_succ]
    refine wpAnyH_take (i := 5) (oi := ⟨some 3, _, _, _, _, _⟩) (v := .int .i64 ((tokS l).2.1 : Nat)) rfl (by kernel_rfl) (by kernel_rfl) (by kernel_rfl) (fun _ _ _ h => h) (.inl ⟨by rfl, fun w' hSw => ?_⟩) hHeld ?_
    focus (skip; clear hHeld; go_simp)
    try simp only [Act.put, List.setIfInBounds_toArray, List.set_cons_zero, List.set_cons_succ]
    refine wpAnyH_take (i := 6) (oi := ⟨some 4, _, _, _, _, _⟩) (v := .int .i64 ((tokS l).2.2 : Nat)) rfl (by kernel_rfl) (by kernel_rfl) (by kernel_rfl) (fun _ _ _ h => h) (.inl ⟨by rfl, fun w' hSw => ?_⟩) hHeld ?_
    focus (skip; clear hHeld; go_simp)
    try simp only [Act.put, List.setIfInBounds_toArray, List.set_cons_zero, List.set_cons_succ]
    refine wpAnyH_done (by kernel_rfl) ?_ _
    go_wp2_with fail
    refine bodyPost_ret (v := .tuple #[.slice none 0 0, .int .i64 ((tokS l).2.1 : Nat), .int .i64 ((tokS l).2.2 : Nat)]) ?_ rfl ⟨HB.out, .inr ⟨_, _, h0, HRE.out, rfl⟩⟩
    simp [results, Tryd.results14, go_sem]
end Go.Proofs.YteieimchleioaaaDoor
/-
  The reference's expr to any depth, and its Expr.
-/
namespace Go.Proofs.YteieimchleioaaaDoor
open Go.ChangeShapes Go.WideShapes Go.ChangeAt Go.RowKit
set_option linter.unusedVariables false

theorem rexpr_all {tb c : Nat} {ts : List Tok} (ho : OkB ts) : ∀ (d : Nat) (W : World) (s : PS) (k : Nat), RT W tb ts → s.i < ts.length → Lk k s.l → s.l ≤ 32 → s.o + d = 14 → Calls Tryd.prog 22 #[.agg #[.slice (some ⟨tb, 0, none⟩) ts.length c, .int .i64 (s.i : Nat), .int .i64 (k : Nat), .int .i64 (s.o : Nat), .int .i64 (s.l : Nat)]] W (GE tb c ts s.o (st k s.i (unitsF ts d s)) W)
  | 0, W, s, k, h, hi, hl, hl2, hd => by
    rw [unitsF_eq]
    exact rexpr_any ho (keeps_unit ho.1 0) h hi hl hl2 fun W' s' k' h' hi' hl' hl2' ho' => runit_any (U := none) ho h' hi' hl' hl2' (by omega) (fun _ => by omega) (fun u hu => by cases hu)
  | d + 1, W, s, k, h, hi, hl, hl2, hd => by
    rw [unitsF_eq]
    exact rexpr_any ho (keeps_unit ho.1 (d + 1)) h hi hl hl2 fun W' s' k' h' hi' hl' hl2' ho' => runit_any (U := some (unitsF ts d)) ho h' hi' hl' hl2' (by omega) (fun hu => by cases hu) (fun u hu => by
      cases hu
      exact ⟨by omega, fun W2 h2 hi2 => rexpr_all ho d W2 ⟨s'.i + 1, s'.o + 1, s'.l⟩ k' h2 hi2 hl' hl2' (by show s'.o + 1 + d = 14; omega)⟩)
set_option maxRecDepth 100000 in
set_option maxHeartbeats 4000000 in
theorem refE_any (s : ByteArray) (hs : s.size ≤ 65536) (w : World) : Calls Tryd.prog 9 #[.string s] w (RefPost VE (.agg #[.int .i64 0, .string ⟨#[]⟩, .string ⟨#[]⟩, .slice none 0 0]) w (readF exprF s.data.toList)) := by
  have HLX := Lib.hid (rlex_any s hs (w.alloc (.cells #[.int .i64 0, .string ⟨#[]⟩, .string ⟨#[]⟩, .slice none 0 0] 25)))
  obtain ⟨l, hl⟩ : ∃ l, l = s.data.toList := ⟨_, rfl⟩
  have HLS : Hid (l.length ≤ 65536) := by show _ ≤ _; rw [hl, Array.length_toList]; exact hs
  rw [← hl] at HLX ⊢
  have hb0 : Below w.heap.size w (w.alloc (.cells #[.int .i64 0, .string ⟨#[]⟩, .string ⟨#[]⟩, .slice none 0 0] 25)) := (Below.refl _ _).alloc (Nat.le_refl _) _
  have HB0 := Lib.hid hb0
  have HR : Hid (Arr (w.alloc (.cells #[.int .i64 0, .string ⟨#[]⟩, .string ⟨#[]⟩, .slice none 0 0] 25)) 25 w.heap.size [.int .i64 0, .string ⟨#[]⟩, .string ⟨#[]⟩, .slice none 0 0]) := Arr.new' _ _ _ _ rfl
  clear hl hs hb0
  go_enter Tryd.func9, Tryd.ntmps9
  go_upto_region 1 with (fail)
  have HSW : Hid (w.heap.size < (w.alloc (.cells #[.int .i64 0, .string ⟨#[]⟩, .string ⟨#[]⟩, .slice none 0 0] 25)).heap.size) := HR.out.lt
  generalize w.alloc (.cells #[.int .i64 0, .string ⟨#[]⟩, .string ⟨#[]⟩, .slice none 0 0] 25) = w0 at HLX HB0 HR HSW ⊢
  go_wp2_with fail
  refine HLX.out.mono ?_
  rintro r w1 ⟨v, rfl, r1, b1⟩
  have HR := Lib.hid (HR.out.later b1)
  have HB := Lib.hid (HB0.out.trans (b1.mono HB0.out.size))
  clear HB0
  by_cases h0 : (tokS l).2.1 = 0
  · have HE0 := Lib.hid h0
    have HE1 : Hid ((tokS l).2.2 = 0) := tokF_code _ _ _ h0
    have HOB := Lib.hid (tokS_okB h0 HLS.out)
    obtain ⟨tb, c, rfl, hrt⟩ := rt_of HOB.out.1 (Nat.le_trans (tokS_len l) (by have := HLS.out; omega)) r1
    rw [show ((tokS l).2.1 : Int) = 0 from by rw [h0]; rfl, show ((tokS l).2.2 : Int) = 0 from by rw [HE1.out]; rfl]
    have hb2 : Below w1.heap.size w1 (w1.alloc (.cells #[.slice (some ⟨tb, 0, none⟩) (tokS l).1.length c, .int .i64 0, .int .i64 0] 65)) := (Below.refl _ _).alloc (Nat.le_refl _) _
    have HX : Hid (Arr (w1.alloc (.cells #[.slice (some ⟨tb, 0, none⟩) (tokS l).1.length c, .int .i64 0, .int .i64 0] 65)) 65 w1.heap.size [.slice (some ⟨tb, 0, none⟩) (tokS l).1.length c, .int .i64 0, .int .i64 0]) := Arr.new' _ _ _ _ rfl
    have HT := Lib.hid (hrt.later hb2)
    have HR := Lib.hid (HR.out.later hb2)
    have HB := Lib.hid (HB.out.trans (hb2.mono HB.out.size))
    have hsz : w.heap.size < (w1.alloc (.cells #[.slice (some ⟨tb, 0, none⟩) (tokS l).1.length c, .int .i64 0, .int .i64 0] 65)).heap.size := HR.out.lt
    clear h0 r1 b1 hb2 hrt HLX
    have HTY : Hid (Calls Tryd.prog 22 #[.agg #[.slice (some ⟨tb, 0, none⟩) (tokS l).1.length c, .int .i64 0, .int .i64 0, .int .i64 0, .int .i64 0]] (w1.alloc (.cells #[.slice (some ⟨tb, 0, none⟩) (tokS l).1.length c, .int .i64 0, .int .i64 0] 65)) fun e w' => ∃ i' k' l' x v, Go1 (tokS l).1 k' i' 0 l' x (st 0 0 (exprF (tokS l).1 ps0)) ∧ e = .returned (.tuple #[.agg #[.slice (some ⟨tb, 0, none⟩) (tokS l).1.length c, .int .i64 (i' : Nat), .int .i64 (k' : Nat), .int .i64 (0 : Nat), .int .i64 (l' : Nat)], v]) ∧ VE (w1.alloc (.cells #[.slice (some ⟨tb, 0, none⟩) (tokS l).1.length c, .int .i64 0, .int .i64 0] 65)).heap.size x w' v ∧ Below (w1.alloc (.cells #[.slice (some ⟨tb, 0, none⟩) (tokS l).1.length c, .int .i64 0, .int .i64 0] 65)).heap.size (w1.alloc (.cells #[.slice (some ⟨tb, 0, none⟩) (tokS l).1.length c, .int .i64 0, .int .i64 0] 65)) w') :=
      rexpr_all (s := ps0) (k := 0) (c := c) HOB.out 14 _ HT.out (okTs_pos HOB.out.1) ⟨by decide, fun _ => by decide⟩ (by decide) rfl
    go_upto_region 2 with (fail)
    generalize w1.alloc (.cells #[.slice (some ⟨tb, 0, none⟩) (tokS l).1.length c, .int .i64 0, .int .i64 0] 65) = w2 at HX HT HB HR HTY hsz ⊢
    obtain ⟨g, hg⟩ : ∃ g, g = w1.heap.size := ⟨_, rfl⟩
    rw [← hg] at HX ⊢
    clear hg
    have x0 := HX.out.cell 0
    have y0 := HX.out.free 0
    have x1 := HX.out.cell 1
    have y1 := HX.out.free 1
    have x2 := HX.out.cell 2
    have y2 := HX.out.free 2
    simp only [List.getElem?_cons_zero, List.getElem?_cons_succ] at x0 x1 x2
    go_wp2_with fail
    refine HTY.out.mono ?_
    rintro r w3 ⟨i6, k6, l6, x6, v, hg6, rfl, hr3, b3⟩
    obtain ⟨mk, mv, mn, ms⟩ := x6
    have HV := Lib.hid hr3
    obtain ⟨q4, c4, rfl⟩ := VE.form hr3
    have HB := Lib.hid (HB.out.trans (b3.mono HB.out.size))
    have HT := Lib.hid (HT.out.later b3)
    have HR := Lib.hid (HR.out.later b3)
    have hb4 : Below w3.heap.size w3 ((w3.alloc (.cells #[.slice (some ⟨tb, 0, none⟩) (tokS l).1.length c, .int .i64 (i6 : Nat), .int .i64 (k6 : Nat), .int .i64 (0 : Nat), .int .i64 (l6 : Nat)] 68)).alloc (.cells #[.int .i64 mk, .string (bstr mv), .string (bstr mn), .slice q4 ms.length c4] 25)) := ((Below.refl _ _).alloc (Nat.le_refl _) _).alloc (by simp) _
    have HP : Hid (Arr ((w3.alloc (.cells #[.slice (some ⟨tb, 0, none⟩) (tokS l).1.length c, .int .i64 (i6 : Nat), .int .i64 (k6 : Nat), .int .i64 (0 : Nat), .int .i64 (l6 : Nat)] 68)).alloc (.cells #[.int .i64 mk, .string (bstr mv), .string (bstr mn), .slice q4 ms.length c4] 25)) 68 w3.heap.size [.slice (some ⟨tb, 0, none⟩) (tokS l).1.length c, .int .i64 (i6 : Nat), .int .i64 (k6 : Nat), .int .i64 (0 : Nat), .int .i64 (l6 : Nat)]) := (Arr.new' _ _ _ _ rfl).alloc _
    have HE : Hid (Arr ((w3.alloc (.cells #[.slice (some ⟨tb, 0, none⟩) (tokS l).1.length c, .int .i64 (i6 : Nat), .int .i64 (k6 : Nat), .int .i64 (0 : Nat), .int .i64 (l6 : Nat)] 68)).alloc (.cells #[.int .i64 mk, .string (bstr mv), .string (bstr mn), .slice q4 ms.length c4] 25)) 25 (w3.heap.size + 1) [.int .i64 mk, .string (bstr mv), .string (bstr mn), .slice q4 ms.length c4]) := Arr.new2 _ _ _ _ _ rfl
    have HT := Lib.hid (HT.out.later hb4)
    have HR := Lib.hid (HR.out.later hb4)
    have HB := Lib.hid (HB.out.trans (hb4.mono HB.out.size))
    have HV := Lib.hid (HV.out.later hb4)
    have HFN := Lib.hid (rfin_any (c := c) (k := k6) (s := ⟨i6, 0, l6⟩) HT.out hg6.1)
    have hg7 : Go1 (tokS l).1 k6 i6 0 l6 (Ex.mk mk mv mn ms) (exprF (tokS l).1 ps0) := by
      have h := hg6
      rw [st_0 rfl] at h
      exact h
    have HRF := Lib.hid (fin_read HE0.out hg7)
    have hge : w.heap.size < w3.heap.size + 1 := by have := b3.size; omega
    clear hg6 hg7 hr3 b3 hb4 HTY
    clear x0 y0 x1 y1 x2 y2
    have HFO : Hid (finO (tokS l).1 k6 i6 = if finK (tokS l).1 k6 i6 = 0 then 0 else ((offT (tokS l).1 i6 : Nat) : Int)) := by
      show _ = _
      unfold finO
      rw [offs_nat]
    obtain ⟨kf, hkf⟩ : ∃ x, x = finK (tokS l).1 k6 i6 := ⟨_, rfl⟩
    obtain ⟨ko, hko⟩ : ∃ x, x = finO (tokS l).1 k6 i6 := ⟨_, rfl⟩
    have HFN : Hid (Calls Tryd.prog 23 #[.agg #[.slice (some ⟨tb, 0, none⟩) (tokS l).1.length c, .int .i64 (i6 : Nat), .int .i64 (k6 : Nat), .int .i64 (0 : Nat), .int .i64 (l6 : Nat)]] ((w3.alloc (.cells #[.slice (some ⟨tb, 0, none⟩) (tokS l).1.length c, .int .i64 (i6 : Nat), .int .i64 (k6 : Nat), .int .i64 (0 : Nat), .int .i64 (l6 : Nat)] 68)).alloc (.cells #[.int .i64 mk, .string (bstr mv), .string (bstr mn), .slice q4 ms.length c4] 25)) fun e w' => e = .returned (.tuple #[.int .i64 (kf : Nat), .int .i64 ko]) ∧ Below ((w3.alloc (.cells #[.slice (some ⟨tb, 0, none⟩) (tokS l).1.length c, .int .i64 (i6 : Nat), .int .i64 (k6 : Nat), .int .i64 (0 : Nat), .int .i64 (l6 : Nat)] 68)).alloc (.cells #[.int .i64 mk, .string (bstr mv), .string (bstr mn), .slice q4 ms.length c4] 25)).heap.size ((w3.alloc (.cells #[.slice (some ⟨tb, 0, none⟩) (tokS l).1.length c, .int .i64 (i6 : Nat), .int .i64 (k6 : Nat), .int .i64 (0 : Nat), .int .i64 (l6 : Nat)] 68)).alloc (.cells #[.int .i64 mk, .string (bstr mv), .string (bstr mn), .slice q4 ms.length c4] 25)) w') := by rw [hkf, hko]; exact HFN.out
    rw [← hkf] at HRF HFO
    rw [← hko] at HFO
    clear hkf hko
    go_upto_region 5 with (fail)
    obtain ⟨gp, hgp⟩ : ∃ x, x = w3.heap.size := ⟨_, rfl⟩
    obtain ⟨ge, hge2⟩ : ∃ x, x = w3.heap.size + 1 := ⟨_, rfl⟩
    rw [← hge2] at HE hge ⊢
    rw [← hgp] at HP ⊢
    generalize (w3.alloc (.cells #[.slice (some ⟨tb, 0, none⟩) (tokS l).1.length c, .int .i64 (i6 : Nat), .int .i64 (k6 : Nat), .int .i64 (0 : Nat), .int .i64 (l6 : Nat)] 68)).alloc (.cells #[.int .i64 mk, .string (bstr mv), .string (bstr mn), .slice q4 ms.length c4] 25) = w4 at HP HE HT HR HB HV HFN ⊢
    clear hgp hge2
    have p0 := HP.out.cell 0
    have z0 := HP.out.free 0
    have p1 := HP.out.cell 1
    have z1 := HP.out.free 1
    have p2 := HP.out.cell 2
    have z2 := HP.out.free 2
    have p3 := HP.out.cell 3
    have z3 := HP.out.free 3
    have p4 := HP.out.cell 4
    have z4 := HP.out.free 4
    simp only [List.getElem?_cons_zero, List.getElem?_cons_succ] at p0 p1 p2 p3 p4
    go_wp2_with fail
    refine HFN.out.mono ?_
    rintro r w5 ⟨rfl, b5⟩
    have HB := Lib.hid (HB.out.trans (b5.mono HB.out.size))
    have HV := Lib.hid (HV.out.later b5)
    have HR := Lib.hid (HR.out.later b5)
    have HE := Lib.hid (HE.out.later b5)
    have HV := Lib.hid HV.out.vg
    clear b5 HFN
    clear p0 z0 p1 z1 p2 z2 p3 z3 p4 z4
    by_cases hK : kf = 0
    · have hk7 : ((kf : Int) != 0) = false := by rw [hK]; rfl
      have HRE : Hid (readF exprF l = .ok (.mk mk mv mn ms)) := by
        have h := HRF.out
        rw [if_pos hK] at h
        exact h
      clear hK HRF HFO
      have ea0 := HE.out.cell 0
      have eb0 := HE.out.free 0
      have ea1 := HE.out.cell 1
      have eb1 := HE.out.free 1
      have ea2 := HE.out.cell 2
      have eb2 := HE.out.free 2
      have ea3 := HE.out.cell 3
      have eb3 := HE.out.free 3
      simp only [List.getElem?_cons_zero, List.getElem?_cons_succ] at ea0 ea1 ea2 ea3
      have u0 := HR.out.cell 0
      have v0 := HR.out.free 0
      have u1 := HR.out.cell 1
      have v1 := HR.out.free 1
      have u2 := HR.out.cell 2
      have v2 := HR.out.free 2
      have u3 := HR.out.cell 3
      have v3 := HR.out.free 3
      simp only [List.getElem?_cons_zero, List.getElem?_cons_succ] at u0 u1 u2 u3
      go_wp2_with fail
      clear ea0 eb0 ea1 eb1 ea2 eb2 ea3 eb3
      clear u0 v0 u1 v1 u2 v2 u3 v3
      have hkp := kp_set4 w5 (w.heap.size) (.int .i64 mk) (.string (bstr mv)) (.string (bstr mn)) (.slice q4 ms.length c4)
      have HR : Hid (Arr ((((w5.setCell ⟨w.heap.size, 0, none⟩ (.int .i64 mk)).setCell ⟨w.heap.size, 1, none⟩ (.string (bstr mv))).setCell ⟨w.heap.size, 2, none⟩ (.string (bstr mn))).setCell ⟨w.heap.size, 3, none⟩ (.slice q4 ms.length c4)) 25 w.heap.size [.int .i64 mk, .string (bstr mv), .string (bstr mn), .slice q4 ms.length c4]) := HR.out.set4 (.int .i64 mk) (.string (bstr mv)) (.string (bstr mn)) (.slice q4 ms.length c4)
      have HV := Lib.hid (HV.out.kp hkp (by omega))
      have HB := Lib.hid (HB.out.trans (hkp.below (B := w.heap.size) (Nat.le_refl _) HB.out.size))
      clear hkp
      generalize ((((w5.setCell ⟨w.heap.size, 0, none⟩ (.int .i64 mk)).setCell ⟨w.heap.size, 1, none⟩ (.string (bstr mv))).setCell ⟨w.heap.size, 2, none⟩ (.string (bstr mn))).setCell ⟨w.heap.size, 3, none⟩ (.slice q4 ms.length c4)) = w6 at HR HB HV ⊢
      have d0 := HR.out.cell 0
      have d1 := HR.out.cell 1
      have d2 := HR.out.cell 2
      have d3 := HR.out.cell 3
      simp only [List.getElem?_cons_zero, List.getElem?_cons_succ] at d0 d1 d2 d3
      refine bodyPost_ret (v := .tuple #[.agg #[.int .i64 mk, .string (bstr mv), .string (bstr mn), .slice q4 ms.length c4], .int .i64 0, .int .i64 0]) ?_ rfl ⟨HB.out, .inl ⟨_, _, HRE.out, rfl, HV.out.ve.low (by omega)⟩⟩
      simp [results, Tryd.results9, go_sem, d0, d1, d2, d3]
    · have hk7 : ((kf : Int) != 0) = true := bne_iff_ne.2 (by omega)
      have HRE : Hid (readF exprF l = .bad kf (offT (tokS l).1 i6) ∧ kf ≠ 0 ∧ ko = ((offT (tokS l).1 i6 : Nat) : Int)) := by
        have h := HRF.out
        have h2 := HFO.out
        rw [if_neg hK] at h h2
        exact ⟨h, hK, h2⟩
      clear hK HRF HFO
      have u0 := HR.out.cell 0
      have v0 := HR.out.free 0
      have u1 := HR.out.cell 1
      have v1 := HR.out.free 1
      have u2 := HR.out.cell 2
      have v2 := HR.out.free 2
      have u3 := HR.out.cell 3
      have v3 := HR.out.free 3
      simp only [List.getElem?_cons_zero, List.getElem?_cons_succ] at u0 u1 u2 u3
      go_wp2_with fail
      clear u0 v0 u1 v1 u2 v2 u3 v3
      have hkp := kp_set4 w5 (w.heap.size) (.int .i64 0) (.string ⟨#[]⟩) (.string ⟨#[]⟩) (.slice none 0 0)
      have HR : Hid (Arr ((((w5.setCell ⟨w.heap.size, 0, none⟩ (.int .i64 0)).setCell ⟨w.heap.size, 1, none⟩ (.string ⟨#[]⟩)).setCell ⟨w.heap.size, 2, none⟩ (.string ⟨#[]⟩)).setCell ⟨w.heap.size, 3, none⟩ (.slice none 0 0)) 25 w.heap.size [.int .i64 0, .string ⟨#[]⟩, .string ⟨#[]⟩, .slice none 0 0]) := HR.out.set4 (.int .i64 0) (.string ⟨#[]⟩) (.string ⟨#[]⟩) (.slice none 0 0)
      have HB := Lib.hid (HB.out.trans (hkp.below (B := w.heap.size) (Nat.le_refl _) HB.out.size))
      clear hkp
      generalize ((((w5.setCell ⟨w.heap.size, 0, none⟩ (.int .i64 0)).setCell ⟨w.heap.size, 1, none⟩ (.string ⟨#[]⟩)).setCell ⟨w.heap.size, 2, none⟩ (.string ⟨#[]⟩)).setCell ⟨w.heap.size, 3, none⟩ (.slice none 0 0)) = w6 at HR HB  ⊢
      have d0 := HR.out.cell 0
      have d1 := HR.out.cell 1
      have d2 := HR.out.cell 2
      have d3 := HR.out.cell 3
      simp only [List.getElem?_cons_zero, List.getElem?_cons_succ] at d0 d1 d2 d3
      refine bodyPost_ret (v := .tuple #[.agg #[.int .i64 0, .string ⟨#[]⟩, .string ⟨#[]⟩, .slice none 0 0], .int .i64 (kf : Nat), .int .i64 ko]) ?_ rfl ⟨HB.out, .inr ⟨kf, offT (tokS l).1 i6, HRE.out.2.1, HRE.out.1, by rw [HRE.out.2.2]⟩⟩
      simp [results, Tryd.results9, go_sem, d0, d1, d2, d3]
  · have HRE := Lib.hid (readF_lex (rule := exprF) h0)
    obtain ⟨q, c, rfl, _⟩ := r1.form
    have hb2 : Below w1.heap.size w1 (w1.alloc (.cells #[.slice q ((tokS l).1).length c, .int .i64 ((tokS l).2.1 : Nat), .int .i64 ((tokS l).2.2 : Nat)] 65)) := (Below.refl _ _).alloc (Nat.le_refl _) _
    have HX : Hid (Arr (w1.alloc (.cells #[.slice q ((tokS l).1).length c, .int .i64 ((tokS l).2.1 : Nat), .int .i64 ((tokS l).2.2 : Nat)] 65)) 65 w1.heap.size [.slice q ((tokS l).1).length c, .int .i64 ((tokS l).2.1 : Nat), .int .i64 ((tokS l).2.2 : Nat)]) := Arr.new' _ _ _ _ rfl
    have HB := Lib.hid (HB.out.trans (hb2.mono HB.out.size))
    have HR := Lib.hid (HR.out.later hb2)
    have hsz : w.heap.size < w1.heap.size := Nat.lt_of_lt_of_le HSW.out b1.size
    have h0' : (((tokS l).2.1 : Int) != 0) = true := bne_iff_ne.2 (by omega)
    clear r1 b1 hb2 HLX
    go_upto_region 2 with (fail)
    generalize w1.alloc (.cells #[.slice q ((tokS l).1).length c, .int .i64 ((tokS l).2.1 : Nat), .int .i64 ((tokS l).2.2 : Nat)] 65) = w2 at HX HB HR ⊢
    obtain ⟨g, hg⟩ : ∃ g, g = w1.heap.size := ⟨_, rfl⟩
    rw [← hg] at HX hsz ⊢
    clear hg
    have x0 := HX.out.cell 0
    have y0 := HX.out.free 0
    have x1 := HX.out.cell 1
    have y1 := HX.out.free 1
    have x2 := HX.out.cell 2
    have y2 := HX.out.free 2
    simp only [List.getElem?_cons_zero, List.getElem?_cons_succ] at x0 x1 x2
    go_upto_region 3 with (fail)
    clear x0 y0 x1 y1 x2 y2
    clear h0'
    have HB := Lib.hid (HB.out.trans ((Below.refl w2.heap.size w2).drew.mono HB.out.size))
    have HR := Lib.hid (HR.out.later ((Below.refl w2.heap.size w2).drew))
    refine wp_region_held_drew (S := fun W' => Arr W' 65 g [.slice q ((tokS l).1).length c, .int .i64 ((tokS l).2.1 : Nat), .int .i64 ((tokS l).2.2 : Nat)]) (by kernel_rfl) (HX.out.later (Below.refl _ _).drew) (fun hHeld => ?_)
    try simp only [Act.put]
    generalize w2.drew = w3 at hHeld HB HR ⊢
    refine wpAnyH_take (i := 0) (oi := ⟨some 15, _, _, _, _, _⟩) (v := .agg #[.int .i64 0, .string ⟨#[]⟩, .string ⟨#[]⟩, .slice none 0 0]) rfl (by kernel_rfl) (by kernel_rfl) (by kernel_rfl) (fun _ _ _ h => h) (.inl ⟨by rfl, fun w' hSw => ?_⟩) hHeld ?_
    focus (skip; clear hHeld; go_simp)
    try simp only [Act.put, List.setIfInBounds_toArray, List.set_cons_zero, List.set_cons_succ]
    refine wpAnyH_take (i := 1) (oi := ⟨some 16, _, _, _, _, _⟩) (v := .pointer (some ⟨g, 1, none⟩)) rfl (by kernel_rfl) (by kernel_rfl) (by kernel_rfl) (fun _ _ _ h => h) (.inl ⟨by rfl, fun w' hSw => ?_⟩) hHeld ?_
    focus (skip; clear hHeld; go_simp)
    try simp only [Act.put, List.setIfInBounds_toArray, List.set_cons_zero, List.set_cons_succ]
    refine wpAnyH_take (i := 2) (oi := ⟨some 17, _, _, _, _, _⟩) (v := .int .i64 ((tokS l).2.1 : Nat)) rfl (by kernel_rfl) (by kernel_rfl) (by kernel_rfl) (fun _ _ _ h => h) (.inl ⟨by rfl, fun w' hSw => ?_⟩) hHeld ?_
    focus (have q := hSw; have q0 := q.cell 0; have q1 := q.cell 1; have q2 := q.cell 2; simp only [List.getElem?_cons_zero, List.getElem?_cons_succ] at q0 q1 q2; clear hHeld; go_simp)
    try simp only [Act.put, List.setIfInBounds_toArray, List.set_cons_zero, List.set_cons_succ]
    refine wpAnyH_take (i := 3) (oi := ⟨some 18, _, _, _, _, _⟩) (v := .pointer (some ⟨g, 2, none⟩)) rfl (by kernel_rfl) (by kernel_rfl) (by kernel_rfl) (fun _ _ _ h => h) (.inl ⟨by rfl, fun w' hSw => ?_⟩) hHeld ?_
    focus (skip; clear hHeld; go_simp)
    try simp only [Act.put, List.setIfInBounds_toArray, List.set_cons_zero, List.set_cons_succ]
    refine wpAnyH_take (i := 4) (oi := ⟨some 19, _, _, _, _, _⟩) (v := .int .i64 ((tokS l).2.2 : Nat)) rfl (by kernel_rfl) (by kernel_rfl) (by kernel_rfl) (fun _ _ _ h => h) (.inl ⟨by rfl, fun w' hSw => ?_⟩) hHeld ?_
    focus (have q := hSw; have q0 := q.cell 0; have q1 := q.cell 1; have q2 := q.cell 2; simp only [List.getElem?_cons_zero, List.getElem?_cons_succ] at q0 q1 q2; clear hHeld; go_simp)
    try simp only [Act.put, List.setIfInBounds_toArray, List.set_cons_zero, List.set_cons_succ]
    refine wpAnyH_ready (rs := [5]) (by kernel_rfl) (by simp) ?_
    refine AllReadyH.cons (o := ⟨none, _, _, _, _, _⟩) rfl (fun K' hK' => ?_) AllReadyH.nil
    have u0 := HR.out.cell 0
    have v0 := HR.out.free 0
    have u1 := HR.out.cell 1
    have v1 := HR.out.free 1
    have u2 := HR.out.cell 2
    have v2 := HR.out.free 2
    have u3 := HR.out.cell 3
    have v3 := HR.out.free 3
    simp only [List.getElem?_cons_zero, List.getElem?_cons_succ] at u0 u1 u2 u3
    have hkn := ((((hHeld.setCell (a := ⟨w.heap.size, 0, none⟩) (by simp only [ne_eq]; omega) (.int .i64 0)).setCell (a := ⟨w.heap.size, 1, none⟩) (by simp only [ne_eq]; omega) (.string ⟨#[]⟩)).setCell (a := ⟨w.heap.size, 2, none⟩) (by simp only [ne_eq]; omega) (.string ⟨#[]⟩)).setCell (a := ⟨w.heap.size, 3, none⟩) (by simp only [ne_eq]; omega) (.slice none 0 0))
    clear hHeld
    go_simp
    clear u0 v0 u1 v1 u2 v2 u3 v3
    refine hK'.out _ _ hkn (fun hHeld => ?_)
    clear hK' K' hkn
    try simp only [Act.put, List.setIfInBounds_toArray, List.set_cons_zero, List.set_cons_succ]
    have hkp := kp_set4 w3 (w.heap.size) (.int .i64 0) (.string ⟨#[]⟩) (.string ⟨#[]⟩) (.slice none 0 0)
    have HR : Hid (Arr ((((w3.setCell ⟨w.heap.size, 0, none⟩ (.int .i64 0)).setCell ⟨w.heap.size, 1, none⟩ (.string ⟨#[]⟩)).setCell ⟨w.heap.size, 2, none⟩ (.string ⟨#[]⟩)).setCell ⟨w.heap.size, 3, none⟩ (.slice none 0 0)) 25 w.heap.size [.int .i64 0, .string ⟨#[]⟩, .string ⟨#[]⟩, .slice none 0 0]) := HR.out.set4 (.int .i64 0) (.string ⟨#[]⟩) (.string ⟨#[]⟩) (.slice none 0 0)
    have HB := Lib.hid (HB.out.trans (hkp.below (B := w.heap.size) (Nat.le_refl _) HB.out.size))
    clear hkp
    generalize ((((w3.setCell ⟨w.heap.size, 0, none⟩ (.int .i64 0)).setCell ⟨w.heap.size, 1, none⟩ (.string ⟨#[]⟩)).setCell ⟨w.heap.size, 2, none⟩ (.string ⟨#[]⟩)).setCell ⟨w.heap.size, 3, none⟩ (.slice none 0 0)) = w4 at HR HB hHeld ⊢
    refine wpAnyH_take (i := 6) (oi := ⟨some 3, _, _, _, _, _⟩) (v := .int .i64 ((tokS l).2.1 : Nat)) rfl (by kernel_rfl) (by kernel_rfl) (by kernel_rfl) (fun _ _ _ h => h) (.inl ⟨by rfl, fun w' hSw => ?_⟩) hHeld ?_
    focus (skip; clear hHeld; go_simp)
    try simp only [Act.put, List.setIfInBounds_toArray, List.set_cons_zero, List.set_cons_succ]
    refine wpAnyH_take (i := 7) (oi := ⟨some 4, _, _, _, _, _⟩) (v := .int .i64 ((tokS l).2.2 : Nat)) rfl (by kernel_rfl) (by kernel_rfl) (by kernel_rfl) (fun _ _ _ h => h) (.inl ⟨by rfl, fun w' hSw => ?_⟩) hHeld ?_
    focus (skip; clear hHeld; go_simp)
    try simp only [Act.put, List.setIfInBounds_toArray, List.set_cons_zero, List.set_cons_succ]
    refine wpAnyH_done (by kernel_rfl) ?_ _
    go_wp2_with fail
    clear hHeld
    have d0 := HR.out.cell 0
    have d1 := HR.out.cell 1
    have d2 := HR.out.cell 2
    have d3 := HR.out.cell 3
    simp only [List.getElem?_cons_zero, List.getElem?_cons_succ] at d0 d1 d2 d3
    refine bodyPost_ret (v := .tuple #[.agg #[.int .i64 0, .string ⟨#[]⟩, .string ⟨#[]⟩, .slice none 0 0], .int .i64 ((tokS l).2.1 : Nat), .int .i64 ((tokS l).2.2 : Nat)]) ?_ rfl ⟨HB.out, .inr ⟨_, _, h0, HRE.out, rfl⟩⟩
    simp [results, Tryd.results9, go_sem, d0, d1, d2, d3]
end Go.Proofs.YteieimchleioaaaDoor
/-
  The order of expressions: one order, in which only the same ones are equal.
-/
namespace Go.Proofs.YteieimchleioaaaDoor
open Go.ChangeShapes Go.WideShapes Go.ChangeAt Go.RowKit
set_option linter.unusedVariables false

def T3 (x : Int) : Prop := x = -1 ∨ x = 0 ∨ x = 1
theorem ci_three (a b : Int) : T3 (Lib.compareInt a b) := by
  unfold T3 Lib.compareInt
  by_cases h : a < b
  · simp [h]
  · by_cases h2 : b < a
    · simp [h, h2]
    · have : a = b := by omega
      simp [this]
theorem ci_flip (a b : Int) : Lib.compareInt b a = - Lib.compareInt a b := by
  unfold Lib.compareInt
  by_cases h : a < b
  · have h2 : ¬ b < a := by omega
    simp [h, h2]
  · by_cases h2 : b < a
    · simp [h, h2]
    · have : a = b := by omega
      simp [this]
theorem orL_three : ∀ (l : List Int), (∀ x ∈ l, T3 x) → T3 (orL l)
  | [], _ => .inr (.inl rfl)
  | x :: r, h => by
    have hr := orL_three r fun y hy => h y (List.mem_cons_of_mem _ hy)
    have hx := h x (List.mem_cons_self)
    unfold orL
    split <;> assumption
theorem orL_flip : ∀ (l : List Int), orL (l.map fun x => -x) = - orL l
  | [] => rfl
  | x :: r => by
    have hr := orL_flip r
    simp only [List.map_cons]
    unfold orL
    by_cases h : x = 0
    · simp [h, hr]
    · have h2 : ¬ -x = 0 := by omega
      simp [h]
mutual
theorem cmpE_three : ∀ a b : Ex, T3 (cmpE a b)
  | .mk k v n ks, .mk k2 v2 n2 ls => by
    have := cmpL_three ks ls
    unfold cmpE
    refine orL_three _ fun x hx => ?_
    simp only [List.mem_cons, List.not_mem_nil, or_false] at hx
    rcases hx with rfl | rfl | rfl | rfl
    · exact ci_three _ _
    · exact cb_three _ _
    · exact cb_three _ _
    · exact this
theorem cmpL_three : ∀ a b : List Ex, T3 (cmpL a b)
  | [], [] => .inr (.inl (by unfold cmpL; rfl))
  | [], _ :: _ => .inl (by unfold cmpL; rfl)
  | _ :: _, [] => .inr (.inr (by unfold cmpL; rfl))
  | a :: r, b :: s => by
    have h1 := cmpE_three a b
    have h2 := cmpL_three r s
    unfold cmpL
    refine orL_three _ fun x hx => ?_
    simp only [List.mem_cons, List.not_mem_nil, or_false] at hx
    rcases hx with rfl | rfl
    · exact h1
    · exact h2
end
mutual
theorem cmpE_flip : ∀ a b : Ex, cmpE b a = - cmpE a b
  | .mk k v n ks, .mk k2 v2 n2 ls => by
    have h := cmpL_flip ks ls
    unfold cmpE
    simp only [Ex.kind, Ex.via, Ex.nm, Ex.kids]
    rw [ci_flip k k2, cb_flip v v2, cb_flip n n2, h, ← orL_flip]; rfl
theorem cmpL_flip : ∀ a b : List Ex, cmpL b a = - cmpL a b
  | [], [] => by unfold cmpL; rfl
  | [], _ :: _ => by unfold cmpL; rfl
  | _ :: _, [] => by unfold cmpL; rfl
  | a :: r, b :: s => by
    have h1 := cmpE_flip a b
    have h2 := cmpL_flip r s
    unfold cmpL
    rw [h1, h2, ← orL_flip]; rfl
end
mutual
theorem cmpE_self : ∀ a : Ex, cmpE a a = 0
  | .mk k v n ks => by
    rw [cmpE_kids (cb_self v) (cb_self n)]
    exact cmpL_self ks
theorem cmpL_self : ∀ a : List Ex, cmpL a a = 0
  | [] => by unfold cmpL; rfl
  | a :: r => by
    have h1 := cmpE_self a
    have h2 := cmpL_self r
    unfold cmpL
    rw [h1, h2]; rfl
end
theorem cmp_cases (k k2 : Int) (v n v2 n2 : List UInt8) (ks ls : List Ex) :
    (k < k2 ∧ cmpE (.mk k v n ks) (.mk k2 v2 n2 ls) = -1) ∨ (k2 < k ∧ cmpE (.mk k v n ks) (.mk k2 v2 n2 ls) = 1) ∨
    (k = k2 ∧ Lib.compareBytes v v2 ≠ 0 ∧ cmpE (.mk k v n ks) (.mk k2 v2 n2 ls) = Lib.compareBytes v v2) ∨
    (k = k2 ∧ v = v2 ∧ Lib.compareBytes n n2 ≠ 0 ∧ cmpE (.mk k v n ks) (.mk k2 v2 n2 ls) = Lib.compareBytes n n2) ∨
    (k = k2 ∧ v = v2 ∧ n = n2 ∧ cmpE (.mk k v n ks) (.mk k2 v2 n2 ls) = cmpL ks ls) := by
  by_cases h1 : k < k2
  · exact .inl ⟨h1, cmpE_lt h1⟩
  by_cases h2 : k2 < k
  · exact .inr (.inl ⟨h2, cmpE_gt h2⟩)
  obtain rfl : k = k2 := by omega
  by_cases h3 : Lib.compareBytes v v2 = 0
  · by_cases h4 : Lib.compareBytes n n2 = 0
    · exact .inr (.inr (.inr (.inr ⟨rfl, cb_eq _ _ h3, cb_eq _ _ h4, cmpE_kids h3 h4⟩)))
    · exact .inr (.inr (.inr (.inl ⟨rfl, cb_eq _ _ h3, h4, cmpE_nm h3 h4⟩)))
  · exact .inr (.inr (.inl ⟨rfl, h3, cmpE_via h3⟩))
mutual
theorem cmpE_eq : ∀ {a b : Ex}, cmpE a b = 0 → a = b
  | .mk k v n ks, .mk k2 v2 n2 ls, h => by
    have hl := @cmpL_eq ks ls
    rcases cmp_cases k k2 v n v2 n2 ks ls with ⟨_, e⟩ | ⟨_, e⟩ | ⟨_, g, e⟩ | ⟨_, _, g, e⟩ | ⟨rfl, rfl, rfl, e⟩
    · rw [e] at h; cases h
    · rw [e] at h; cases h
    · rw [e] at h; exact absurd h g
    · rw [e] at h; exact absurd h g
    · rw [e] at h; rw [hl h]
theorem cmpL_eq : ∀ {a b : List Ex}, cmpL a b = 0 → a = b
  | [], [], _ => rfl
  | [], _ :: _, h => by unfold cmpL at h; cases h
  | _ :: _, [], h => by unfold cmpL at h; cases h
  | a :: r, b :: s, h => by
    have h1 := @cmpE_eq a b
    have h2 := @cmpL_eq r s
    unfold cmpL at h
    rw [orL2] at h
    by_cases hz : cmpE a b = 0
    · rw [if_pos hz] at h; rw [h1 hz, h2 h]
    · rw [if_neg hz] at h; exact absurd h hz
end
mutual
theorem cmpE_up : ∀ {a b c : Ex}, cmpE a b < 0 → cmpE b c < 0 → cmpE a c < 0
  | .mk k v n ks, .mk k2 v2 n2 ls, .mk k3 v3 n3 ms, h1, h2 => by
    have hl := @cmpL_up ks ls ms
    rcases cmp_cases k k2 v n v2 n2 ks ls with ⟨g, e⟩ | ⟨_, e⟩ | ⟨rfl, g, e⟩ | ⟨rfl, rfl, g, e⟩ | ⟨rfl, rfl, rfl, e⟩
    · rcases cmp_cases k2 k3 v2 n2 v3 n3 ls ms with ⟨g2, e2⟩ | ⟨_, e2⟩ | ⟨rfl, g2, e2⟩ | ⟨rfl, rfl, g2, e2⟩ | ⟨rfl, rfl, rfl, e2⟩
      · rw [cmpE_lt (by omega)]; omega
      · rw [e2] at h2; omega
      · rw [cmpE_lt g]; omega
      · rw [cmpE_lt g]; omega
      · rw [cmpE_lt g]; omega
    · rw [e] at h1; omega
    · rw [e] at h1
      rcases cmp_cases k k3 v2 n2 v3 n3 ls ms with ⟨g2, e2⟩ | ⟨_, e2⟩ | ⟨rfl, g2, e2⟩ | ⟨rfl, rfl, g2, e2⟩ | ⟨rfl, rfl, rfl, e2⟩
      · rw [cmpE_lt g2]; omega
      · rw [e2] at h2; omega
      · rw [e2] at h2
        have h3 := cb_up _ _ _ h1 h2
        rw [cmpE_via (by omega)]; exact h3
      · rw [cmpE_via g]; exact h1
      · rw [cmpE_via g]; exact h1
    · rw [e] at h1
      rcases cmp_cases k k3 v n2 v3 n3 ls ms with ⟨g2, e2⟩ | ⟨_, e2⟩ | ⟨rfl, g2, e2⟩ | ⟨rfl, rfl, g2, e2⟩ | ⟨rfl, rfl, rfl, e2⟩
      · rw [cmpE_lt g2]; omega
      · rw [e2] at h2; omega
      · rw [e2] at h2
        rw [cmpE_via g2]; exact h2
      · rw [e2] at h2
        have h3 := cb_up _ _ _ h1 h2
        rw [cmpE_nm (cb_self _) (by omega)]; exact h3
      · rw [cmpE_nm (cb_self _) g]; exact h1
    · rw [e] at h1
      rcases cmp_cases k k3 v n v3 n3 ls ms with ⟨g2, e2⟩ | ⟨_, e2⟩ | ⟨rfl, g2, e2⟩ | ⟨rfl, rfl, g2, e2⟩ | ⟨rfl, rfl, rfl, e2⟩
      · rw [cmpE_lt g2]; omega
      · rw [e2] at h2; omega
      · rw [e2] at h2
        rw [cmpE_via g2]; exact h2
      · rw [e2] at h2
        rw [cmpE_nm (cb_self _) g2]; exact h2
      · rw [e2] at h2
        rw [cmpE_kids (cb_self _) (cb_self _)]; exact hl h1 h2
theorem cmpL_up : ∀ {a b c : List Ex}, cmpL a b < 0 → cmpL b c < 0 → cmpL a c < 0
  | [], [], _, h1, _ => by unfold cmpL at h1; omega
  | [], _ :: _, [], _, h2 => by unfold cmpL at h2; omega
  | [], _ :: _, _ :: _, _, _ => by unfold cmpL; omega
  | _ :: _, [], _, h1, _ => by unfold cmpL at h1; omega
  | _ :: _, _ :: _, [], _, h2 => by unfold cmpL at h2; omega
  | a :: r, b :: s, c :: u, h1, h2 => by
    have he := @cmpE_up a b c
    have hr := @cmpL_up r s u
    have q1 := @cmpE_eq a b
    have q2 := @cmpE_eq b c
    unfold cmpL at h1 h2 ⊢
    rw [orL2] at h1 h2 ⊢
    by_cases z1 : cmpE a b = 0
    · obtain rfl := q1 z1
      rw [if_pos z1] at h1
      by_cases z2 : cmpE a c = 0
      · rw [if_pos z2] at h2 ⊢; exact hr h1 h2
      · rw [if_neg z2] at h2 ⊢; exact h2
    · rw [if_neg z1] at h1
      by_cases z2 : cmpE b c = 0
      · obtain rfl := q2 z2
        rw [if_neg z1]; exact h1
      · rw [if_neg z2] at h2
        have := he h1 h2
        rw [if_neg (by omega)]; exact this
end
theorem cmpE_le {a b c : Ex} (h1 : ¬ 0 < cmpE a b) (h2 : ¬ 0 < cmpE b c) : cmpE a c ≤ 0 := by
  by_cases z1 : cmpE a b = 0
  · rw [cmpE_eq z1]; omega
  · by_cases z2 : cmpE b c = 0
    · rw [← cmpE_eq z2]; omega
    · have := cmpE_up (a := a) (b := b) (c := c) (by omega) (by omega); omega
end Go.Proofs.YteieimchleioaaaDoor
/-
  vestryref10.Leaves, Right.
-/
namespace Go.Proofs.YteieimchleioaaaDoor
open Go.ChangeShapes Go.WideShapes Go.ChangeAt Go.RowKit
set_option linter.unusedVariables false

/-- v is a slice of the call's own of expressions whose kids lie in blocks of P. -/
def LvRow (P : Nat → Prop) (base : Nat) (w : World) (v : Value) (ks : List Ex) : Prop := ∃ cs, w.ownsRow base 25 4 v ks.length cs ∧ CellsL P w ks cs
theorem LvRow.nil (P : Nat → Prop) (base : Nat) (w : World) : LvRow P base w (.slice none 0 0) [] := ⟨[], World.ownsRow_nil _ _ _ _, trivial⟩
theorem LvRow.form {P : Nat → Prop} {base : Nat} {w : World} {v : Value} {ks : List Ex} (h : LvRow P base w v ks) : ∃ q c, v = .slice q ks.length c := by
  obtain ⟨cs, h1, _⟩ := h
  rcases h1.2 with ⟨h, hn⟩ | ⟨g, cap, cur, hv, _⟩
  · exact ⟨none, 0, by rw [hn]; exact h⟩
  · exact ⟨_, _, hv⟩
theorem LvRow.later {P : Nat → Prop} {base : Nat} {w w' : World} {v : Value} {ks : List Ex} (h : LvRow P base w v ks) (hb : Below w.heap.size w w') (hP : ∀ b, P b → b < w.heap.size) : LvRow P base w' v ks := by
  obtain ⟨cs, h1, h2⟩ := h
  refine ⟨cs, ⟨h1.1, ?_⟩, h2.keep (cells_below hb hP)⟩
  rcases h1.2 with h | ⟨g, cap, cur, rfl, h0, hg, r⟩
  · exact .inl h
  · exact .inr ⟨g, cap, cur, rfl, h0, (hb.block g (Array.getElem?_eq_some_iff.1 hg).1).trans hg, r⟩
theorem CellsL.app {P : Nat → Prop} {w : World} : ∀ {ks : List Ex} {cs : List Value} {ls : List Ex} {ds : List Value}, CellsL P w ks cs → CellsL P w ls ds → CellsL P w (ks ++ ls) (cs ++ ds)
  | [], [], _, _, _, h2 => h2
  | e :: r, v0 :: v1 :: v2 :: v3 :: cs, _, _, h, h2 => ⟨h.1, CellsL.app h.2 h2⟩
  | [], _ :: _, _, _, h, _ => h.elim
  | _ :: _, [], _, _, h, _ => h.elim
  | _ :: _, [_], _, _, h, _ => h.elim
  | _ :: _, [_, _], _, _, h, _ => h.elim
  | _ :: _, [_, _, _], _, _, h, _ => h.elim
/-- The row read as a slice. -/
theorem LvRow.rdL {P : Nat → Prop} {base : Nat} {w : World} {q : Option Addr} {n c : Nat} {ks : List Ex} (h : LvRow P base w (.slice q n c) ks) : n = ks.length ∧ ks.length ≤ c ∧ (0 < ks.length → ∃ b, q = some ⟨b, 0, none⟩ ∧ base ≤ b ∧ b < w.heap.size ∧ RdL P w ks b 0) := by
  obtain ⟨cs, h1, h2⟩ := h
  rcases h1.2 with ⟨hv, hn⟩ | ⟨g, cap, cur, hv, h0, hg, hcap, _, hcz, htk⟩
  · simp only [Value.slice.injEq] at hv
    obtain ⟨rfl, rfl, rfl⟩ := hv
    exact ⟨hn.symm, by omega, fun h => by omega⟩
  · simp only [Value.slice.injEq] at hv
    obtain ⟨rfl, rfl, rfl⟩ := hv
    refine ⟨rfl, hcap, fun _ => ⟨g, rfl, h0, (Array.getElem?_eq_some_iff.1 hg).1, ?_⟩⟩
    refine h2.rdL fun j u hj => ?_
    rw [Nat.zero_add]
    have hjl : j < cs.length := (List.getElem?_eq_some_iff.1 hj).1
    rw [cell_of_row w g _ cur _ (0, 0) hg, ← Array.getElem?_toList]
    rw [← htk, List.getElem?_take, if_pos (by rw [h1.1] at hjl; exact hjl)] at hj
    exact hj
theorem app_lv {ops : Array Oper} {rest : List Oper} {o : Oper} {a : Act} {Q : Exit → Act → World → Prop} {w : World} (hgd : o.guard = none) (s x : Operand) (ho : o.op = .call { callee := .builtin .append, args := #[s, x], argTypes := #[23, 23] })
    {P : Nat → Prop} {base base2 : Nat} {v vx : Value} {ks ls : List Ex} (hs : a.eval s = v) (hown : LvRow P base w v ks) (hx : a.eval x = vx) (h2 : LvRow P base2 w vx ls) (hP : ∀ b, P b → b < base)
    (hlen : ks.length + ls.length ≤ 1000000) (hbase : base ≤ w.heap.size)
    (h : ∀ v' w', LvRow P base w' v' (ks ++ ls) → Below base w w' → wpList Tryd.prog ops Q rest (a.put o.dst v') w') : wpList Tryd.prog ops Q (o :: rest) a w := by
  obtain ⟨i0, hi, hz0, hz1, hz2⟩ := info_parts Tryd.infoEx
  obtain ⟨cs, h1, hc1⟩ := hown
  obtain ⟨ds, h3, hc3⟩ := h2
  rcases h3.2 with ⟨hv, hn⟩ | ⟨g, cap, cur, hv, h0, hg, hcap, _, hcz, htk⟩
  · obtain rfl : ls = [] := List.eq_nil_of_length_eq_zero hn
    rw [hv] at hx
    refine wpList_append_own_none hgd s x 23 ho base 25 i0 4 Tryd.underlying23 hi v ks.length cs hs h1 hx ?_
    refine h v w ⟨cs, by rw [List.append_nil]; exact h1, by rw [List.append_nil]; exact hc1⟩ (Below.refl _ _)
  · rw [hv] at hx
    refine wpList_append_own w hgd s x 23 ho base 25 i0 _ 4 64 Tryd.underlying23 hi hz0 hz1 hz2 rfl (by decide) v ks.length cs hs h1 ⟨g, 0, none⟩ ls.length cap ds hx h3.1 ?_ hc3.ones (by unfold maxLen; omega) (by omega) hbase ?_
    · intro j u hj
      have hjl : j < ds.length := (List.getElem?_eq_some_iff.1 hj).1
      rw [show (Addr.add ⟨g, 0, none⟩ j) = ⟨g, j, none⟩ by cases j <;> simp [Addr.add], cell_of_row w g _ cur _ (0, 0) hg, ← Array.getElem?_toList]
      rw [← htk, List.getElem?_take, if_pos (by rw [h3.1] at hjl; exact hjl)] at hj
      exact hj
    · intro v' w' r1 r2 _
      have hb : Below base w w' := (Below.refl _ _).grown r2 hbase (fun k hk => (h1.lt k hk).1)
      exact h v' w' ⟨cs ++ ds, by rw [List.length_append]; exact r1, (hc1.app hc3).keep (cells_below hb hP)⟩ hb

set_option maxRecDepth 100000 in
set_option maxHeartbeats 4000000 in
theorem rleaves_any : ∀ (n : Nat) (e : Ex) (v : Value) (P : Nat → Prop) (w : World), sizeE e ≤ n → sizeE e ≤ 900000 → RdE P w e v → (∀ b, P b → b < w.heap.size) → Calls Tryd.prog 28 #[v] w fun r w' => ∃ v', r = .returned v' ∧ LvRow P w.heap.size w' v' (leavesE e) ∧ Below w.heap.size w w' := by
  intro n
  induction n with
  | zero => intro e v P w h; have := sizeE_pos e; omega
  | succ n ih =>
    intro e v P w hn hm h hP
    have H := Lib.hid h
    obtain ⟨q, c, rfl, hc, hk⟩ := h.form
    obtain ⟨k, xv, xn, ks⟩ := e
    unfold exv
    show Calls _ _ #[.agg #[.int .i64 k, .string (bstr xv), .string (bstr xn), .slice q ks.length c]] _ _
    have HK : Hid (0 < ks.length → ∃ b o, q = some ⟨b, o, none⟩ ∧ P b ∧ RdL P w ks b o) := hk
    have hks : sizeL ks ≤ n := by unfold sizeE at hn; omega
    have hkm : sizeL ks ≤ 900000 := by unfold sizeE at hm; omega
    have hlen := sizeL_len ks
    have HIH := Lib.hid ih
    have HP := Lib.hid hP
    have HB0 : Hid (Below w.heap.size w (w.alloc (.cells #[.int .i64 k, .string (bstr xv), .string (bstr xn), .slice q ks.length c] 25))) := (Below.refl _ _).alloc (Nat.le_refl _) _
    have HA0 : Hid (Arr (w.alloc (.cells #[.int .i64 k, .string (bstr xv), .string (bstr xn), .slice q ks.length c] 25)) 25 w.heap.size [.int .i64 k, .string (bstr xv), .string (bstr xn), .slice q ks.length c]) := Arr.new' _ _ _ _ rfl
    have HP0 : Hid (∀ b, P b → b < (w.alloc (.cells #[.int .i64 k, .string (bstr xv), .string (bstr xn), .slice q ks.length c] 25)).heap.size) := fun b hb => Nat.lt_of_lt_of_le (hP b hb) HB0.out.size
    have HLF : Hid (Calls Tryd.prog 49 #[.agg #[.int .i64 k, .string (bstr xv), .string (bstr xn), .slice q ks.length c]] (w.alloc (.cells #[.int .i64 k, .string (bstr xv), .string (bstr xn), .slice q ks.length c] 25)) fun r w' => r = .returned (.bool (leafK k)) ∧ Below (w.alloc (.cells #[.int .i64 k, .string (bstr xv), .string (bstr xn), .slice q ks.length c] 25)).heap.size (w.alloc (.cells #[.int .i64 k, .string (bstr xv), .string (bstr xn), .slice q ks.length c] 25)) w') := rleaf_any (e := .mk k xv xn ks) (H.out.below HB0.out hP)
    obtain ⟨lf, hlf⟩ : ∃ lf, lf = leafK k := ⟨_, rfl⟩
    rw [← hlf] at HLF
    have HLK := Lib.hid hlf
    clear h ih hc hk hn hm hlf hP
    go_enter Tryd.func28, Tryd.ntmps28
    go_wp2_with fail
    refine HLF.out.mono ?_
    rintro r w2 ⟨rfl, b2⟩
    have HA2 := Lib.hid (HA0.out.later b2)
    have HB2 := Lib.hid (HB0.out.trans (b2.mono HB0.out.size))
    clear b2 HA0 HB0 HLF HP0
    have a0 := HA2.out.cell 0
    have a1 := HA2.out.cell 1
    have a2 := HA2.out.cell 2
    have a3 := HA2.out.cell 3
    simp only [List.getElem?_cons_zero, List.getElem?_cons_succ] at a0 a1 a2 a3
    cases lf with
    | true =>
      have HL : Hid (leavesE (.mk k xv xn ks) = [.mk k xv xn ks]) := leaves_leaf HLK.out.symm
      go_wp2_with fail
      go_ret
      have hB : Below w.heap.size w (w2.alloc (.cells #[.int .i64 k, .string (bstr xv), .string (bstr xn), .slice q ks.length c] 25)) := HB2.out.alloc HB2.out.size _
      refine ⟨_, rfl, ⟨[.int .i64 k, .string (bstr xv), .string (bstr xn), .slice q ks.length c], ?_, ?_⟩, hB⟩
      · rw [HL.out]
        exact World.ownsRow_lit w2 #[.int .i64 k, .string (bstr xv), .string (bstr xn), .slice q ks.length c] 1 HB2.out.size (by decide) rfl
      · rw [HL.out]
        exact ⟨H.out.below hB HP.out, trivial⟩
    | false =>
      have HL : Hid (leavesE (.mk k xv xn ks) = leavesL ks) := leaves_kids (by rw [← HLK.out]; exact Bool.false_ne_true)
      have HSZ : Hid (w.heap.size + 1 ≤ w2.heap.size) := HA2.out.lt
      go_wp2_with fail
      go_loopw [3, 4] (fun ov iv wr => ∃ i : Nat, i ≤ ks.length ∧ iv = .int .i64 i ∧ Hid (LvRow P (w.heap.size + 1) wr ov (leavesL (ks.take i)) ∧ Below w.heap.size w wr ∧ Arr wr 25 w.heap.size [.int .i64 k, .string (bstr xv), .string (bstr xn), .slice q ks.length c] ∧ w.heap.size + 1 ≤ wr.heap.size)) (fun _ iv _ => ks.length - (intOf iv).toNat)
      case atStart => exact ⟨0, Nat.zero_le _, rfl, LvRow.nil _ _ _, HB2.out, HA2.out, HSZ.out⟩
      case round =>
        obtain ⟨i, hi, rfl, HI2⟩ := hrel
        clear a0 a1 a2 a3
        have HI := Lib.hid HI2.out.2.1
        have HAI := Lib.hid HI2.out.2.2.1
        have HS := Lib.hid HI2.out.2.2.2
        have HRW := Lib.hid HI2.out.1
        obtain ⟨qv, cv, rfl⟩ := HI2.out.1.form
        clear HI2
        have hi0 : (0 : Int) ≤ i := by omega
        have a0 := HAI.out.cell 0
        have a1 := HAI.out.cell 1
        have a2 := HAI.out.cell 2
        have a3 := HAI.out.cell 3
        simp only [List.getElem?_cons_zero, List.getElem?_cons_succ] at a0 a1 a2 a3
        by_cases hlt : i < ks.length
        · have hi1 : (i : Int) < ks.length := by omega
          have hP := HP.out
          obtain ⟨ba, oa, rfl, hba, hl⟩ := HK.out (by omega)
          obtain ⟨x, hx⟩ : ∃ x, x = ks.getD i ex0 := ⟨_, rfl⟩
          obtain ⟨q2, c2, x0, x1, x2, x3, hr⟩ := hl.at hlt
          have hxs := sizeL_get ks i hlt
          have hxd := depthL_get ks i hlt
          rw [← hx] at x0 x1 x2 x3 hr hxs hxd
          have HX := Lib.hid hx
          obtain ⟨xk, xv2, xn2, xs⟩ := x
          have cc : ∀ n, wr.cell? ⟨ba, n, none⟩ = w.cell? ⟨ba, n, none⟩ := fun n => (HI.out).cell (p := ⟨ba, n, none⟩) (hP _ hba)
          have X0 : wr.cell? ⟨ba, oa + i * 4, none⟩ = some (.int .i64 xk) := (cc _).trans x0
          have X1 : wr.cell? ⟨ba, oa + i * 4 + 1, none⟩ = some (.string (bstr xv2)) := (cc _).trans x1
          have X2 : wr.cell? ⟨ba, oa + i * 4 + 2, none⟩ = some (.string (bstr xn2)) := (cc _).trans x2
          have X3 : wr.cell? ⟨ba, oa + i * 4 + 3, none⟩ = some (.slice q2 xs.length c2) := (cc _).trans x3
          clear x0 x1 x2 x3 cc hx
          have HR : Hid (RdE P wr (.mk xk xv2 xn2 xs) (.agg #[.int .i64 xk, .string (bstr xv2), .string (bstr xn2), .slice q2 xs.length c2])) := hr.below (HI.out) hP
          have HC := Lib.hid (HIH.out (.mk xk xv2 xn2 xs) _ P _ (by omega) (by omega) HR.out (fun b hb => Nat.lt_of_lt_of_le (hP b hb) HI.out.size))
          have HTK : Hid (leavesL (ks.take (i + 1)) = leavesL (ks.take i) ++ leavesE (.mk xk xv2 xn2 xs)) := by show _ = _; rw [take_snocE hlt, ← HX.out, leavesL_snoc]
          have HLN : Hid ((leavesL (ks.take i)).length + (leavesE (.mk xk xv2 xn2 xs)).length ≤ 1000000) := by
            show _ ≤ _
            have h2 := (leavesL_take ks i hlt).length_le
            rw [← HX.out, List.length_append] at h2
            have := leavesL_size ks
            omega
          clear hl hr hxs hxd hba hP
          go_wp2_with fail
          refine HC.out.mono ?_
          rintro r w5 ⟨v5, rfl, r5, b5⟩
          have HR5 := Lib.hid r5
          have HW5 := Lib.hid (HRW.out.later b5 (fun b hb => Nat.lt_of_lt_of_le (HP.out b hb) HI.out.size))
          have HB5 := Lib.hid (HI.out.trans (b5.mono HI.out.size))
          have HA5 := Lib.hid (HAI.out.later b5)
          have HS5 : Hid (w.heap.size + 1 ≤ w5.heap.size) := Nat.le_trans HS.out b5.size
          have HPS : Hid (∀ b, P b → b < w.heap.size + 1) := fun b hb => Nat.lt_succ_of_lt (HP.out b hb)
          obtain ⟨q5, c5, rfl⟩ := r5.form
          clear r5 b5 HC
          go_wp2_with (at_builtin; refine app_lv rfl _ _ rfl rfl HW5.out rfl HR5.out HPS.out HLN.out HS5.out ?_; intro v7 w7 h7 b7)
          go_roundw
          case rel => exact ⟨i + 1, by omega, by go_num, by rw [HTK.out]; exact h7, HB5.out.trans (b7.mono (by omega)), HA5.out.below b7 (by omega), Nat.le_trans HS5.out b7.size⟩
          case measure => simp [intOf]; omega
        · have hi1 : ¬ (i : Int) < ks.length := by omega
          have HK2 : Hid (ks.take i = ks) := List.take_of_length_le (by omega)
          rw [HK2.out] at HRW
          go_wp2_with fail
          go_ret
          obtain ⟨cs, h1, h2⟩ := HRW.out
          refine ⟨_, rfl, ⟨cs, ?_, ?_⟩, HI.out⟩
          · rw [HL.out, HK2.out]
            refine ⟨h1.1, ?_⟩
            rcases h1.2 with h | ⟨g, cap, cur, hv, h0, r⟩
            · exact .inl h
            · exact .inr ⟨g, cap, cur, hv, by omega, r⟩
          · rw [HL.out]; exact h2
set_option maxRecDepth 100000 in
set_option maxHeartbeats 4000000 in
theorem rRight_any (e : Ex) (v : Value) (P : Nat → Prop) (w : World) (hok : okE 100000 e) (hm : sizeE e ≤ 900000) (h : RdE P w e v) (hP : ∀ b, P b → b < w.heap.size) : Calls Tryd.prog 12 #[v] w fun r w' => r = .returned (.bool (rightE e)) ∧ Below w.heap.size w w' := by
  have H := Lib.hid h
  have HP := Lib.hid hP
  have HM := Lib.hid hm
  obtain ⟨q, c, rfl, hc, hk⟩ := h.form
  obtain ⟨k, xv, xn, ks⟩ := e
  unfold exv
  show Calls _ _ #[.agg #[.int .i64 k, .string (bstr xv), .string (bstr xn), .slice q ks.length c]] _ _
  have HB0 : Hid (Below w.heap.size w (w.alloc (.cells #[.int .i64 k, .string (bstr xv), .string (bstr xn), .slice q ks.length c] 25))) := (Below.refl _ _).alloc (Nat.le_refl _) _
  have HA0 : Hid (Arr (w.alloc (.cells #[.int .i64 k, .string (bstr xv), .string (bstr xn), .slice q ks.length c] 25)) 25 w.heap.size [.int .i64 k, .string (bstr xv), .string (bstr xn), .slice q ks.length c]) := Arr.new' _ _ _ _ rfl
  have HP0 : Hid (∀ b, P b → b < (w.alloc (.cells #[.int .i64 k, .string (bstr xv), .string (bstr xn), .slice q ks.length c] 25)).heap.size) := fun b hb => Nat.lt_of_lt_of_le (hP b hb) HB0.out.size
  have HRC : Hid (Calls Tryd.prog 27 #[.agg #[.int .i64 k, .string (bstr xv), .string (bstr xn), .slice q ks.length c], .int .i64 16] (w.alloc (.cells #[.int .i64 k, .string (bstr xv), .string (bstr xn), .slice q ks.length c] 25)) fun r w' => r = .returned (.bool (decide (depthE (.mk k xv xn ks) ≤ 16) && formE (.mk k xv xn ks))) ∧ Below (w.alloc (.cells #[.int .i64 k, .string (bstr xv), .string (bstr xn), .slice q ks.length c] 25)).heap.size (w.alloc (.cells #[.int .i64 k, .string (bstr xv), .string (bstr xn), .slice q ks.length c] 25)) w') := rright_any 16 (.mk k xv xn ks) _ P (w.alloc (.cells #[.int .i64 k, .string (bstr xv), .string (bstr xn), .slice q ks.length c] 25)) (by omega) hok hm (H.out.below HB0.out hP) HP0.out
  have HLC : Hid (∀ W, Below (w.alloc (.cells #[.int .i64 k, .string (bstr xv), .string (bstr xn), .slice q ks.length c] 25)).heap.size (w.alloc (.cells #[.int .i64 k, .string (bstr xv), .string (bstr xn), .slice q ks.length c] 25)) W → Calls Tryd.prog 28 #[.agg #[.int .i64 k, .string (bstr xv), .string (bstr xn), .slice q ks.length c]] W fun r w' => ∃ q2 c2, r = .returned (.slice q2 (leavesE (.mk k xv xn ks)).length c2) ∧ Below W.heap.size W w') :=
    fun W hW => (rleaves_any _ (.mk k xv xn ks) _ P W (Nat.le_refl _) hm ((H.out.below HB0.out hP).below hW HP0.out) (fun b hb => Nat.lt_of_lt_of_le (HP0.out b hb) hW.size)).mono fun r w' ⟨v', h1, h2, h3⟩ => by
      obtain ⟨q2, c2, rfl⟩ := h2.form
      exact ⟨q2, c2, h1, h3⟩
  have hsz := leaves_size (.mk k xv xn ks)
  obtain ⟨F, hF⟩ : ∃ F, F = (decide (depthE (.mk k xv xn ks) ≤ 16) && formE (.mk k xv xn ks)) := ⟨_, rfl⟩
  obtain ⟨N, hN⟩ : ∃ N, N = (leavesE (.mk k xv xn ks)).length := ⟨_, rfl⟩
  have HRE : Hid (rightE (.mk k xv xn ks) = (decide (N ≤ 32) && F)) := by show _ = _; unfold rightE; rw [hF, hN]
  rw [← hF] at HRC
  rw [← hN] at HLC hsz
  rw [HRE.out]
  have hn1 : N ≤ 900000 := by omega
  clear h hc hk hm hP hok hF hN hsz
  go_enter Tryd.func12, Tryd.ntmps12
  go_wp2_with fail
  refine HRC.out.mono ?_
  rintro r w5 ⟨rfl, b5⟩
  have HB5 := Lib.hid (HB0.out.trans (b5.mono HB0.out.size))
  have HC5 := Lib.hid (HLC.out w5 b5)
  have HA5 := Lib.hid (HA0.out.later b5)
  have z0 := HA5.out.cell 0
  have z1 := HA5.out.cell 1
  have z2 := HA5.out.cell 2
  have z3 := HA5.out.cell 3
  simp only [List.getElem?_cons_zero, List.getElem?_cons_succ] at z0 z1 z2 z3
  clear b5
  cases F with
  | true =>
    go_wp2_with fail
    refine HC5.out.mono ?_
    rintro r w6 ⟨q2, c2, rfl, b6⟩
    have HB6 := Lib.hid (HB5.out.trans (b6.mono HB5.out.size))
    clear b6
    go_wp2_with fail
    go_ret
    exact ⟨by rw [show decide (N ≤ 32) = decide ((N : Int) ≤ 32) from decide_eq_decide.2 (by omega), Bool.and_true]; rfl, HB6.out⟩
  | false =>
    go_wp2_with fail
    go_ret
    exact ⟨by rw [Bool.and_false]; rfl, HB5.out⟩
end Go.Proofs.YteieimchleioaaaDoor
/-
  ParseExprs: any text is read as the expression of the reference, which is right, or has its error.
-/
namespace Go.Proofs.YteieimchleioaaaDoor
open errAs (ErrT)
open Go.ChangeShapes Go.WideShapes Go.ChangeAt Go.RowKit
set_option linter.unusedVariables false

set_option maxRecDepth 100000 in
set_option maxHeartbeats 4000000 in
theorem exprs_law (s : ByteArray) (w : World) (hz : s.size ≤ maxLen) (h : Env w) : Calls Tryd.prog 3 #[.string s] w fun e w' => e = .returned (.bool true) ∧ Below w.heap.size w w' := by
  have HAW := Lib.hid (awake_any w h)
  have HE := Lib.hid h
  clear h hz
  by_cases hs : s.size ≤ 3000
  · have hs1 : ¬ (3000 : Int) < s.size := by omega
    have HSZ := Lib.hid hs
    clear hs
    go_enter Tryd.func3, Tryd.ntmps3
    go_wp2_with fail
    refine HAW.out.mono ?_
    rintro r w1 ⟨rfl, b1⟩
    have HE1 := Lib.hid (HE.out.below b1)
    have HB1 := Lib.hid b1
    have HPA := Lib.hid (parseE_any s (Nat.le_trans HSZ.out (by decide)) w1 HE1.out.1)
    clear b1 HAW
    go_wp2_with fail
    refine HPA.out.mono ?_
    rintro r w2 h2
    have hb2 := h2.1
    have HE2 := Lib.hid (HE1.out.below hb2)
    have HB2 := Lib.hid (HB1.out.trans (hb2.mono HB1.out.size))
    obtain ⟨-, ⟨x, v, e, rfl, hv⟩ | ⟨a, b, ha, e, rfl⟩⟩ := h2
    · have HR := Lib.hid e
      obtain ⟨mk, mv, mn, ms⟩ := x
      have HV := Lib.hid hv
      obtain ⟨q4, c4, rfl⟩ := VE.form hv
      have hb3 : Below w2.heap.size w2 (w2.alloc (.cells #[.int .i64 mk, .string (bstr mv), .string (bstr mn), .slice q4 ms.length c4] 25)) := (Below.refl _ _).alloc (Nat.le_refl _) _
      have HX : Hid (Arr (w2.alloc (.cells #[.int .i64 mk, .string (bstr mv), .string (bstr mn), .slice q4 ms.length c4] 25)) 25 w2.heap.size [.int .i64 mk, .string (bstr mv), .string (bstr mn), .slice q4 ms.length c4]) := Arr.new' _ _ _ _ rfl
      have HV := Lib.hid (HV.out.later hb3)
      have HE2 := Lib.hid (HE2.out.below hb3)
      have HB2 := Lib.hid (HB2.out.trans (hb3.mono HB2.out.size))
      have HRA := Lib.hid (refE_any s (Nat.le_trans HSZ.out (by decide)) (w2.alloc (.cells #[.int .i64 mk, .string (bstr mv), .string (bstr mn), .slice q4 ms.length c4] 25)))
      clear e hb2 hb3 HPA hv
      go_upto_region 4 with (fail)
      obtain ⟨g, hg⟩ : ∃ g, g = w2.heap.size := ⟨_, rfl⟩
      rw [← hg] at HX ⊢
      generalize w2.alloc (.cells #[.int .i64 mk, .string (bstr mv), .string (bstr mn), .slice q4 ms.length c4] 25) = w3 at HX HV HE2 HB2 HRA ⊢
      clear hg
      go_wp2_with fail
      refine HRA.out.mono ?_
      rintro r w4 ⟨b4, ⟨y, u, e, rfl, hu⟩ | ⟨a, b, ha, e, rfl⟩⟩
      · have hxy : y = .mk mk mv mn ms := by have h := HR.out.symm.trans e; cases h; rfl
        subst hxy
        have HU := Lib.hid hu
        obtain ⟨q5, c5, rfl⟩ := VE.form hu
        have HX := Lib.hid (HX.out.later b4)
        have HV := Lib.hid (HV.out.later b4)
        have HB2 := Lib.hid (HB2.out.trans (b4.mono HB2.out.size))
        have hb5 : Below w4.heap.size w4 (w4.alloc (.cells #[.int .i64 mk, .string (bstr mv), .string (bstr mn), .slice q5 ms.length c5] 25)) := (Below.refl _ _).alloc (Nat.le_refl _) _
        have HY : Hid (Arr (w4.alloc (.cells #[.int .i64 mk, .string (bstr mv), .string (bstr mn), .slice q5 ms.length c5] 25)) 25 w4.heap.size [.int .i64 mk, .string (bstr mv), .string (bstr mn), .slice q5 ms.length c5]) := Arr.new' _ _ _ _ rfl
        have HX := Lib.hid (HX.out.later hb5)
        have HV := Lib.hid (HV.out.later hb5)
        have HU := Lib.hid (HU.out.later hb5)
        have HB2 := Lib.hid (HB2.out.trans (hb5.mono HB2.out.size))
        have HRT := Lib.hid (readF_right HR.out)
        have HCM := Lib.hid (rcompare_any 64 _ _ _ _ _ _ (w4.alloc (.cells #[.int .i64 mk, .string (bstr mv), .string (bstr mn), .slice q5 ms.length c5] 25)) HRT.out.2.2 (Nat.le_trans HRT.out.2.2 (by decide)) (Nat.le_trans HRT.out.2.2 (by decide)) HRT.out.2.1 HRT.out.2.1 HV.out HU.out (fun b hb => hb.2) (fun b hb => hb.2))
        rw [cmpE_self] at HCM
        clear e b4 hb5 HRA hu
        go_upto_region 5 with (fail)
        obtain ⟨g2, hg2⟩ : ∃ g, g = w4.heap.size := ⟨_, rfl⟩
        rw [← hg2] at HY ⊢
        generalize w4.alloc (.cells #[.int .i64 mk, .string (bstr mv), .string (bstr mn), .slice q5 ms.length c5] 25) = w5 at HX HY HV HU HB2 HCM ⊢
        clear hg2
        have HTN := fun w => Lib.hid (told_none 0 w)
        have HTN := Lib.hid HTN
        have ea0 := HX.out.cell 0
        have eb0 := HX.out.free 0
        have ea1 := HX.out.cell 1
        have eb1 := HX.out.free 1
        have ea2 := HX.out.cell 2
        have eb2 := HX.out.free 2
        have ea3 := HX.out.cell 3
        have eb3 := HX.out.free 3
        simp only [List.getElem?_cons_zero, List.getElem?_cons_succ] at ea0 ea1 ea2 ea3
        have na0 := HY.out.cell 0
        have nb0 := HY.out.free 0
        have na1 := HY.out.cell 1
        have nb1 := HY.out.free 1
        have na2 := HY.out.cell 2
        have nb2 := HY.out.free 2
        have na3 := HY.out.cell 3
        have nb3 := HY.out.free 3
        simp only [List.getElem?_cons_zero, List.getElem?_cons_succ] at na0 na1 na2 na3
        go_wp2_with fail
        refine HCM.out.mono ?_
        rintro r w6 ⟨rfl, b6⟩
        clear ea0 eb0 ea1 eb1 ea2 eb2 ea3 eb3
        clear na0 nb0 na1 nb1 na2 nb2 na3 nb3
        have HY := Lib.hid (HY.out.later b6)
        have HU := Lib.hid (HU.out.later b6)
        have HB6 := Lib.hid (HB2.out.trans (b6.mono HB2.out.size))
        clear b6
        go_wp2_with fail
        refine ((HTN.out w6).out).mono ?_
        rintro r w7 ⟨rfl, h7⟩
        obtain rfl := h7
        have HRR := Lib.hid (rRight_any _ _ _ w6 HRT.out.2.1 (Nat.le_trans HRT.out.2.2 (by decide)) HU.out (fun b hb => hb.2))
        rw [HRT.out.1] at HRR
        have na0 := HY.out.cell 0
        have nb0 := HY.out.free 0
        have na1 := HY.out.cell 1
        have nb1 := HY.out.free 1
        have na2 := HY.out.cell 2
        have nb2 := HY.out.free 2
        have na3 := HY.out.cell 3
        have nb3 := HY.out.free 3
        simp only [List.getElem?_cons_zero, List.getElem?_cons_succ] at na0 na1 na2 na3
        go_wp2_with fail
        refine HRR.out.mono ?_
        rintro r w8 ⟨rfl, b8⟩
        have HB8 := Lib.hid (HB6.out.trans (b8.mono HB6.out.size))
        clear b8
        go_wp2_with fail
        go_ret
        exact ⟨rfl, HB8.out⟩
      · exact absurd (HR.out.symm.trans e) (by intro h; cases h)
    · have HR := Lib.hid e
      have HA := Lib.hid ha
      have hb3 : Below w2.heap.size w2 (w2.alloc (.cells #[.int .i64 0, .string ⟨#[]⟩, .string ⟨#[]⟩, .slice none 0 0] 25)) := (Below.refl _ _).alloc (Nat.le_refl _) _
      have HX : Hid (Arr (w2.alloc (.cells #[.int .i64 0, .string ⟨#[]⟩, .string ⟨#[]⟩, .slice none 0 0] 25)) 25 w2.heap.size [.int .i64 0, .string ⟨#[]⟩, .string ⟨#[]⟩, .slice none 0 0]) := Arr.new' _ _ _ _ rfl
      have HE2 := Lib.hid (HE2.out.below hb3)
      have HB2 := Lib.hid (HB2.out.trans (hb3.mono HB2.out.size))
      have HRA := Lib.hid (refE_any s (Nat.le_trans HSZ.out (by decide)) (w2.alloc (.cells #[.int .i64 0, .string ⟨#[]⟩, .string ⟨#[]⟩, .slice none 0 0] 25)))
      clear e hb2 hb3 HPA
      unfold faultN
      go_upto_region 4 with (fail)
      obtain ⟨g, hg⟩ : ∃ g, g = w2.heap.size := ⟨_, rfl⟩
      rw [← hg] at HX ⊢
      generalize w2.alloc (.cells #[.int .i64 0, .string ⟨#[]⟩, .string ⟨#[]⟩, .slice none 0 0] 25) = w3 at HX HE2 HB2 HRA ⊢
      clear hg
      go_wp2_with fail
      refine HRA.out.mono ?_
      rintro r w4 ⟨b4, ⟨y, u, e, rfl, hu⟩ | ⟨a2, b2, ha2, e, rfl⟩⟩
      · exact absurd (HR.out.symm.trans e) (by intro h; cases h)
      · have hxy : a = a2 ∧ b = b2 := by have h := HR.out.symm.trans e; cases h; exact ⟨rfl, rfl⟩
        obtain ⟨rfl, rfl⟩ := hxy
        have HX := Lib.hid (HX.out.later b4)
        have HE2 := Lib.hid (HE2.out.below b4)
        have HB2 := Lib.hid (HB2.out.trans (b4.mono HB2.out.size))
        have hb5 : Below w4.heap.size w4 (w4.alloc (.cells #[.int .i64 0, .string ⟨#[]⟩, .string ⟨#[]⟩, .slice none 0 0] 25)) := (Below.refl _ _).alloc (Nat.le_refl _) _
        have HY : Hid (Arr (w4.alloc (.cells #[.int .i64 0, .string ⟨#[]⟩, .string ⟨#[]⟩, .slice none 0 0] 25)) 25 w4.heap.size [.int .i64 0, .string ⟨#[]⟩, .string ⟨#[]⟩, .slice none 0 0]) := Arr.new' _ _ _ _ rfl
        have HX := Lib.hid (HX.out.later hb5)
        have HE2 := Lib.hid (HE2.out.below hb5)
        have HB2 := Lib.hid (HB2.out.trans (hb5.mono HB2.out.size))
        have hz : RdE (fun _ => False) (w4.alloc (.cells #[.int .i64 0, .string ⟨#[]⟩, .string ⟨#[]⟩, .slice none 0 0] 25)) (.mk 0 [] [] []) (.agg #[.int .i64 0, .string ⟨#[]⟩, .string ⟨#[]⟩, .slice none 0 0]) := by unfold RdE; exact ⟨none, 0, rfl, Nat.le_refl _, fun h => by simp at h⟩
        have HCM := Lib.hid (rcompare_any 64 (.mk 0 [] [] []) (.mk 0 [] [] []) (.agg #[.int .i64 0, .string ⟨#[]⟩, .string ⟨#[]⟩, .slice none 0 0]) (.agg #[.int .i64 0, .string ⟨#[]⟩, .string ⟨#[]⟩, .slice none 0 0]) (fun _ => False) (fun _ => False) (w4.alloc (.cells #[.int .i64 0, .string ⟨#[]⟩, .string ⟨#[]⟩, .slice none 0 0] 25)) (by decide) (by decide) (by decide) (by simp [okE, okL]) (by simp [okE, okL]) hz hz (fun b hb => hb.elim) (fun b hb => hb.elim))
        rw [cmpE_self] at HCM
        have HTF := Lib.hid (fun w (hw : ErrT w) => told_fault a b HA.out w hw)
        unfold faultN at HTF
        have ha7 : ((a : Int) != 0) = true := bne_iff_ne.2 (by omega)
        clear e b4 hb5 HRA ha2 hz ha
        go_upto_region 5 with (fail)
        obtain ⟨g2, hg2⟩ : ∃ g, g = w4.heap.size := ⟨_, rfl⟩
        rw [← hg2] at HY ⊢
        generalize w4.alloc (.cells #[.int .i64 0, .string ⟨#[]⟩, .string ⟨#[]⟩, .slice none 0 0] 25) = w5 at HX HY HE2 HB2 HCM ⊢
        clear hg2
        have ea0 := HX.out.cell 0
        have eb0 := HX.out.free 0
        have ea1 := HX.out.cell 1
        have eb1 := HX.out.free 1
        have ea2 := HX.out.cell 2
        have eb2 := HX.out.free 2
        have ea3 := HX.out.cell 3
        have eb3 := HX.out.free 3
        simp only [List.getElem?_cons_zero, List.getElem?_cons_succ] at ea0 ea1 ea2 ea3
        have na0 := HY.out.cell 0
        have nb0 := HY.out.free 0
        have na1 := HY.out.cell 1
        have nb1 := HY.out.free 1
        have na2 := HY.out.cell 2
        have nb2 := HY.out.free 2
        have na3 := HY.out.cell 3
        have nb3 := HY.out.free 3
        simp only [List.getElem?_cons_zero, List.getElem?_cons_succ] at na0 na1 na2 na3
        go_wp2_with fail
        refine HCM.out.mono ?_
        rintro r w6 ⟨rfl, b6⟩
        clear ea0 eb0 ea1 eb1 ea2 eb2 ea3 eb3
        clear na0 nb0 na1 nb1 na2 nb2 na3 nb3
        have HE6 := Lib.hid (HE2.out.below b6)
        have HB6 := Lib.hid (HB2.out.trans (b6.mono HB2.out.size))
        clear b6
        go_wp2_with fail
        refine (HTF.out w6 HE6.out.2).mono ?_
        rintro r w7 ⟨rfl, b7⟩
        have HB7 := Lib.hid (HB6.out.trans (b7.mono HB6.out.size))
        clear b7
        go_wp2_with fail
        go_ret
        exact ⟨rfl, HB7.out⟩
  · have hs1 : (3000 : Int) < s.size := by omega
    clear hs
    have HA2 := Lib.hid (fun w (hw : Env w) => awake_any w hw)
    go_enter Tryd.func3, Tryd.ntmps3
    go_wp2_with fail
    refine HAW.out.mono ?_
    rintro r w1 ⟨rfl, b1⟩
    have HE1 := Lib.hid (HE.out.below b1)
    have HB1 := Lib.hid b1
    clear b1 HAW
    go_wp2_with fail
    refine (HA2.out w1 HE1.out).mono ?_
    rintro r w2 ⟨rfl, b2⟩
    have HB2 := Lib.hid (HB1.out.trans (b2.mono HB1.out.size))
    clear b2
    go_wp2_with fail
    go_ret
    exact ⟨rfl, HB2.out⟩
end Go.Proofs.YteieimchleioaaaDoor
