/-
  vestryref09.in, Tokens.
-/
import Derived.Test.YtkildckeikedhaaGreatDoorMr3
import Derived.Deep.CutBlock
import Derived.Deep.CutRange
import Derived.IntWalk
import Derived.Deep.RegionLaw
import Derived.Test.YtkildckeikedhaaGreatDoorMr10
import Derived.Test.YtkildckeikedhaaGreatDoorMr12
import Derived.Test.YtkildckeikedhaaGreatDoorMr6
namespace Go.Proofs.YtkildckeikedhaaGreatDoor
open Go.ChangeShapes Go.WideShapes Go.ChangeAt Go.RowKit
set_option linter.unusedVariables false

def ltL : List UInt8 := [97, 98, 99, 100, 101, 102, 103, 104, 105, 106, 107, 108, 109, 110, 111, 112, 113, 114, 115, 116, 117, 118, 119, 120, 121, 122, 65, 66, 67, 68, 69, 70, 71, 72, 73, 74, 75, 76, 77, 78, 79, 80, 81, 82, 83, 84, 85, 86, 87, 88, 89, 90, 48, 49, 50, 51, 52, 53, 54, 55, 56, 57, 95]
set_option maxRecDepth 100000 in
theorem in_any (s : ByteArray) (c : UInt8) (hs : s.size ≤ 1000000) (w : World) : Calls Tryz.prog 28 #[.string s, .int .u8 c.toNat] w fun e w' => e = .returned (.bool (decide (fnd s.data.toList c < s.size))) ∧ w = w' := by
  by_cases h : fnd s.data.toList c < s.size
  · have HD : Hid (decide (fnd s.data.toList c < s.size) = true) := decide_eq_true h
    have HC := hiD (find_any s c hs w)
    rw [if_pos h] at HC
    have h1 : (0 : Int) ≤ (fnd s.data.toList c : Nat) := by omega
    clear h
    go_enter Tryz.func28, Tryz.ntmps28
    go_wp2_with fail
    refine HC.out.mono ?_
    rintro e w2 ⟨rfl, rfl⟩
    go_wp2_with fail
    go_ret
    exact ⟨by rw [HD.out]; rfl, rfl⟩
  · have HD : Hid (decide (fnd s.data.toList c < s.size) = false) := decide_eq_false h
    have HC := hiD (find_any s c hs w)
    rw [if_neg h] at HC
    clear h
    go_enter Tryz.func28, Tryz.ntmps28
    go_wp2_with fail
    refine HC.out.mono ?_
    rintro e w2 ⟨rfl, rfl⟩
    go_wp2_with fail
    go_ret
    exact ⟨by rw [HD.out]; rfl, rfl⟩
theorem lt_fnd (c : UInt8) : decide (fnd ltL c < (bstr ltL).size) = wdB c := by
  have h : ∀ n : Fin 256, (decide (fnd ltL (UInt8.ofNat n.val) < (bstr ltL).size) == wdB (UInt8.ofNat n.val)) = true := by decide +kernel
  have hc : UInt8.ofNat c.toNat = c := UInt8.ofNat_toNat
  have := h ⟨c.toNat, c.toNat_lt⟩
  simp only [hc] at this
  exact beq_iff_eq.1 this
theorem in_lt (c : UInt8) (w : World) : Calls Tryz.prog 28 #[.string (bstr ltL), .int .u8 c.toNat] w fun e w' => e = .returned (.bool (wdB c)) ∧ w = w' := by
  have h := in_any (bstr ltL) c (by decide) w
  rw [bstr_data, lt_fnd] at h
  exact h
theorem sp_fnd (c : UInt8) : decide (fnd [32, 9, 10, 13] c < (bstr [32, 9, 10, 13]).size) = spB c := by
  have h : ∀ n : Fin 256, (decide (fnd [32, 9, 10, 13] (UInt8.ofNat n.val) < (bstr [32, 9, 10, 13]).size) == spB (UInt8.ofNat n.val)) = true := by decide +kernel
  have hc : UInt8.ofNat c.toNat = c := UInt8.ofNat_toNat
  have := h ⟨c.toNat, c.toNat_lt⟩
  simp only [hc] at this
  exact beq_iff_eq.1 this
theorem in_sp (c : UInt8) (w : World) : Calls Tryz.prog 28 #[.string (bstr [32, 9, 10, 13]), .int .u8 c.toNat] w fun e w' => e = .returned (.bool (spB c)) ∧ w = w' := by
  have h := in_any (bstr [32, 9, 10, 13]) c (by decide) w
  rw [bstr_data, sp_fnd] at h
  exact h
theorem sg_fnd (c : UInt8) : decide (fnd sgL c < (bstr sgL).size) = sgB c := by
  have h : ∀ n : Fin 256, (decide (fnd sgL (UInt8.ofNat n.val) < (bstr sgL).size) == sgB (UInt8.ofNat n.val)) = true := by decide +kernel
  have hc : UInt8.ofNat c.toNat = c := UInt8.ofNat_toNat
  have := h ⟨c.toNat, c.toNat_lt⟩
  simp only [hc] at this
  exact beq_iff_eq.1 this
theorem in_sg (c : UInt8) (w : World) : Calls Tryz.prog 28 #[.string (bstr sgL), .int .u8 c.toNat] w fun e w' => e = .returned (.bool (sgB c)) ∧ w = w' := by
  have h := in_any (bstr sgL) c (by decide) w
  rw [bstr_data, sg_fnd] at h
  exact h

def RX (w : World) (v : Value) (acc : List Tok) (W : World) : Prop :=
  Arr W 53 w.heap.size [.slice none 0 0, .int .i64 0, .int .i64 0] ∧ Arr W 53 (w.heap.size + 1) [v, .int .i64 0, .int .i64 0] ∧ TokRow (w.heap.size + 2) 85 W v acc ∧ Below w.heap.size w W ∧ w.heap.size + 2 ≤ W.heap.size
theorem RX.later {w W W' : World} {v : Value} {acc : List Tok} (h : RX w v acc W) (hb : Below W.heap.size W W') : RX w v acc W' :=
  ⟨h.1.later hb, h.2.1.later hb, h.2.2.1.later hb, h.2.2.2.1.trans (hb.mono h.2.2.2.1.size), Nat.le_trans h.2.2.2.2 hb.size⟩
theorem RX.row {w W W' : World} {v v' : Value} {acc acc' : List Tok} (h : RX w v acc W) (hT : TokRow (w.heap.size + 2) 85 W' v' acc') (hb : Below (w.heap.size + 2) W W') : RX w v' acc' (W'.setCell ⟨w.heap.size + 1, 0, none⟩ v') :=
  have hb' := h.2.2.2.1.trans (hb.mono (by omega))
  ⟨(h.1.below hb (by omega)).setCell (by simp) _, (h.2.1.below hb (by omega)).set 0 v', hT.set (by simp) _, hb'.setCell (p := ⟨w.heap.size + 1, 0, none⟩) (by simp) _, by simpa [World.setCell] using Nat.le_trans h.2.2.2.2 hb.size⟩
def RLexPost (w : World) (R : Toks) (e : Ending) (w' : World) : Prop := ∃ v, e = .returned (.agg #[v, .int .i64 (R.2.1 : Nat), .int .i64 (R.2.2 : Nat)]) ∧ TokRow w.heap.size 85 w' v R.1 ∧ Below w.heap.size w w'
theorem resr {fn : Func} {p : Tmp} (h : fn.results = #[.cell p 53]) {tmps : Array Value} {w : World} {g : Nat} {a b c : Value} (hA : Arr w 53 g [a, b, c]) (hp : tmps.getD p undef = .pointer (some ⟨g, 0, none⟩)) :
    (results fn tmps).run Tryz.prog w = .ok (.agg #[a, b, c]) w :=
  results_cell_row h tmps w g 53 #[a, b, c] (0, 0) _ hp hA Tryz.underlying53 rfl (by kernel_rfl)
theorem Arr.set3 {w : World} {t : TypeId} {g : Nat} {a b c : Value} (h : Arr w t g [a, b, c]) (x0 x1 x2 : Value) : Arr (((w.setCell ⟨g, 0, none⟩ x0).setCell ⟨g, 1, none⟩ x1).setCell ⟨g, 2, none⟩ x2) t g [x0, x1, x2] := ((h.set 0 x0).set 1 x1).set 2 x2
theorem below_set3 {B : Nat} {w0 w : World} {g : Nat} (h : Below B w0 w) (hg : B ≤ g) (x0 x1 x2 : Value) : Below B w0 (((w.setCell ⟨g, 0, none⟩ x0).setCell ⟨g, 1, none⟩ x1).setCell ⟨g, 2, none⟩ x2) :=
  ((h.setCell (p := ⟨g, 0, none⟩) hg _).setCell (p := ⟨g, 1, none⟩) hg _).setCell (p := ⟨g, 2, none⟩) hg _

theorem step_tokR {ops : Array Oper} {o : Oper} {a : Act} {w : World} {K : Act → World → Prop} {Q : Exit → Act → World → Prop} {E : Prop} (hgd : o.guard = none) (s x : Operand)
    (ho : o.op = .call { callee := .builtin .append, args := #[s, x], argTypes := #[51, 51] })
    {base n : Nat} {v : Value} {ts : List Tok} {t : Tok} (hs : a.eval s = v) (hown : TokRow base 85 w v ts) (hx : a.eval x = .slice (some ⟨n, 0, none⟩) 1 1) (hc : Arr w 85 n (tkv t))
    (hlen : ts.length + 1 ≤ 1000000) (hbase : base ≤ w.heap.size)
    (hK : ∀ v' w', TokRow base 85 w' v' (ts ++ [t]) → Below base w w' → K (a.put o.dst v') w') : if Region.wanted o (yielded ops a.tmps) = true then Oper.wp Tryz.prog o a w K Q else E := by
  have hw : Region.wanted o (yielded ops a.tmps) = true := by simp [Region.wanted, hgd]
  rw [if_pos hw]
  obtain ⟨i0, hi, hz0, hz1, hz2⟩ := info_parts Tryz.infoTR
  obtain ⟨v', w', hrun, r1, r2, _⟩ := run_append_own (P := Tryz.prog) w base 51 o.type 85 i0 _ 3 32 Tryz.underlying51 hi hz0 hz1 hz2 rfl (by decide) v ts.length (tks ts) hown ⟨n, 0, none⟩ 1 1 (tkv t) rfl
    (fun j u hu => by
      have := hc.cell j
      rw [hu] at this
      cases j <;> simpa [Addr.add] using this) (fun u hu => tks_one [t] u (by simpa [tks] using hu)) (by unfold maxLen; omega) (by omega) hbase
  unfold Oper.wp
  simp [execOp, ho, resolve, invoke, builtin, hs, hx, hrun, Result.andThen]
  refine hK v' w' ?_ ((Below.refl _ _).grown r2 hbase (fun k hk => (hown.lt k hk).1))
  show w'.ownsRow base 85 3 v' (ts ++ [t]).length (tks (ts ++ [t]))
  rw [tks_snoc, List.length_append]
  exact r1
set_option maxRecDepth 100000 in
set_option maxHeartbeats 8000000 in
theorem rlex_any (s : ByteArray) (hs : s.size ≤ 65536) (w : World) : Calls Tryz.prog 13 #[.string s] w (RLexPost w (tokS s.data.toList)) := by
  obtain ⟨R, hR⟩ : ∃ R, R = tokS s.data.toList := ⟨_, rfl⟩
  have HST : Hid (LexAt s.data.toList R 0 []) := by show LexAt _ _ _ _; rw [hR]; exact lx_start _
  rw [← hR]
  obtain ⟨l, hl⟩ : ∃ l, l = s.data.toList := ⟨_, rfl⟩
  rw [← hl] at HST
  have HL := hiD hl
  have HSZ : Hid (l.length = s.size) := by show _ = _; rw [hl]; exact size_len s
  have hs1 : ¬ (65536 : Int) < s.size := by omega
  have hs2 : (s.size : Int) ≤ 100000 := by omega
  have HS := hiD hs
  clear hR hl hs
  go_enter Tryz.func13, Tryz.ntmps13
  go_wp2_with fail
  have hb0 : Below w.heap.size w ((w.alloc (.cells #[.slice none 0 0, .int .i64 0, .int .i64 0] 53)).alloc (.cells #[.slice none 0 0, .int .i64 0, .int .i64 0] 53)) := ((Below.refl _ _).alloc (Nat.le_refl _) _).alloc (by simp) _
  have H0 : Hid (RX w (.slice none 0 0) [] ((w.alloc (.cells #[.slice none 0 0, .int .i64 0, .int .i64 0] 53)).alloc (.cells #[.slice none 0 0, .int .i64 0, .int .i64 0] 53))) :=
    ⟨(Arr.new' w _ _ _ rfl).alloc _, Arr.new2 w _ _ _ _ rfl, TokRow.nil _ _ _, hb0, by simp⟩
  clear hb0
  generalize (w.alloc (.cells #[.slice none 0 0, .int .i64 0, .int .i64 0] 53)).alloc (.cells #[.slice none 0 0, .int .i64 0, .int .i64 0] 53) = w0 at H0 ⊢
  go_loopw [5] (fun iv wr => ∃ (i : Nat) (acc : List Tok) (v : Value), iv = .int .i64 i ∧ i ≤ s.size ∧ Hid (LexAt l R i acc ∧ RX w v acc wr)) (fun iv _ => s.size - (intOf iv).toNat)
  case atStart => exact ⟨0, [], _, rfl, Nat.zero_le _, HST.out, H0.out⟩
  case round =>
    obtain ⟨i, acc, v, rfl, hil, HI⟩ := hrel
    clear HST H0
    have i0 : (0 : Int) ≤ i := by omega
    by_cases hi : i < s.size
    · have i1 : (i : Int) < s.size := by omega
      have hil2 : i < l.length := by have := HSZ.out; omega
      have HX : Hid (s[i] = l.getD i 0) := by show _ = _; rw [HL.out]; exact get_getD s i hi
      go_upto_block 2 with fail
      have HLE : Hid (i + runL wdB l i ≤ s.size) := by have := runL_le wdB l i (by omega); have := HSZ.out; show _ ≤ _; omega
      go_cut [7] from 15 to 126 (fun x W => x = .int .i64 ((i + runL wdB l i : Nat) : Int) ∧ wr = W)
      case first =>
        go_wp2_with fail
        go_loop [7] (fun jv => ∃ j : Nat, i ≤ j ∧ j ≤ s.size ∧ jv = .int .i64 j ∧ Hid (∀ m, i ≤ m → m < j → wdB (l.getD m 0) = true)) (fun jv => s.size - (intOf jv).toNat)
        case atStart => exact ⟨i, Nat.le_refl _, by omega, rfl, fun k h1 h2 => by omega⟩
        case round =>
          obtain ⟨j, hij, hj, rfl, HP⟩ := hrel
          have hj0 : (0 : Int) ≤ j := by omega
          by_cases hlt : j < s.size
          · have hlt1 : (j : Int) < s.size := by omega
            have HXj : Hid (s[j] = l.getD j 0) := by show _ = _; rw [HL.out]; exact get_getD s j hlt
            go_wp2_with fail
            refine (in_lt s[j] _).mono ?_
            rintro e w1 ⟨rfl, rfl⟩
            cases hc : wdB s[j] with
            | true =>
              have HC := hiD hc
              clear hc
              go_wp2_with fail
              go_round
              case rel =>
                refine ⟨j + 1, by omega, by omega, by go_num, fun m h1 h2 => ?_⟩
                by_cases e : m = j
                · subst e; rw [← HXj.out]; exact HC.out
                · exact HP.out m h1 (by omega)
              case measure => simp [intOf]; omega
            | false =>
              have H : Hid (i + runL wdB l i = j) := by
                show _ = _
                rw [runL_eq (k := j - i) (by have := HSZ.out; omega) (fun m h1 h2 => HP.out m h1 (by omega)) (fun h => by rw [show i + (j - i) = j by omega, ← HXj.out]; exact hc)]
                omega
              clear hc HP
              go_wp2_with fail
              go_meet
              case rel => exact ⟨by rw [H.out], rfl⟩
          · obtain rfl : j = s.size := by omega
            have H : Hid (i + runL wdB l i = s.size) := by
              show _ = _
              rw [runL_eq (k := s.size - i) (by have := HSZ.out; omega) (fun m h1 h2 => HP.out m h1 (by omega)) (fun h => by have := HSZ.out; omega)]
              omega
            clear HP
            go_wp2_with fail
            go_meet
            case rel => exact ⟨by rw [H.out], rfl⟩
      case rest =>
        obtain ⟨rfl, rfl⟩ := hcut
        cases hwd : wdB s[i] with
        | true =>
          have hr1 := runL_pos hil2 (by rw [← HX.out]; exact hwd)
          have hgt : (i : Int) < ((i + runL wdB l i : Nat) : Int) := by omega
          have HOK := hiD (fun h => (lx_word HI.out.1 hil2 (by rw [← HX.out]; exact hwd) h).1)
          have HER := hiD (fun h => lx_word_err HI.out.1 hil2 (by rw [← HX.out]; exact hwd) h)
          obtain ⟨k, hk⟩ : ∃ k, k = runL wdB l i := ⟨_, rfl⟩
          rw [← hk] at HOK HER HLE hgt hr1 ⊢
          have hle : ((i + k : Nat) : Int) ≤ s.size := by have := HLE.out; omega
          have hle2 : (i : Int) ≤ ((i + k : Nat) : Int) := by omega
          have HTX : Hid (s.extract i (i + k) = bstr ((l.drop i).take k)) := by show _ = _; rw [ext_data, ← HL.out]; congr 2; omega
          have HTZ : Hid ((s.extract i (i + k)).size ≤ 1000000) := by
            show _ ≤ _
            rw [ByteArray.size_extract]; omega
          have HN1 := hiD hr1
          obtain ⟨j, hj⟩ : ∃ j, j = i + k := ⟨_, rfl⟩
          rw [← hj] at HOK HTX HTZ hgt hle hle2 ⊢
          have HJ := hiD hj
          have HTE : Hid (∃ t, t = s.extract i j) := ⟨_, rfl⟩
          obtain ⟨t, ht⟩ := HTE.out
          rw [← ht] at HTX HTZ
          have HT := hiD ht
          have HOKW : Hid (okW ((l.drop i).take k) = (isName t || resB t)) := by show _ = _; unfold okW; rw [← HTX.out]
          clear hwd hk hj hr1 ht HTE
          go_upto_region 12 with (fail)
          rw [← HT.out]
          go_wp2_with fail
          refine (risName_any t HTZ.out _).mono ?_
          rintro e w3 ⟨rfl, rfl⟩
          cases hnm : isName t with
          | true =>
            have HGO : Hid (okW ((l.drop i).take k) = true) := by show _ = _; rw [HOKW.out, hnm]; rfl
            clear hnm
            have HI1 := hiD (HI.out.2.later (show Below wr.heap.size wr (wr.alloc (.cells #[.int .i64 1, .string t, .int .i64 i] 85)) from (Below.refl _ _).alloc (Nat.le_refl _) _))
            have HAB : Hid (Arr (wr.alloc (.cells #[.int .i64 1, .string t, .int .i64 i] 85)) 85 wr.heap.size (tkv (mkT 1 ((l.drop i).take k) i))) := by
              show Arr _ _ _ [.int .i64 1, .string (bstr ((l.drop i).take k)), .int .i64 i]
              rw [← HTX.out]; exact Arr.new' _ _ _ _ rfl
            have HAC : Hid (acc.length + 1 ≤ 1000000) := by have := HI.out.1.2.1; have := HS.out; show _ ≤ _; omega
            have c4 := HI.out.2.2.1.cell 0
            simp only [List.getElem?_cons_zero] at c4
            go_wp2_with (at_builtin; refine app_tokR rfl _ _ rfl rfl HI1.out.2.2.1 rfl HAB.out HAC.out HI1.out.2.2.2.2 ?_; intro v5 w6 h5 b5 g5; have HI6 := hiD (HI1.out.row h5 b5); obtain ⟨q5, c5, hv5, _⟩ := h5.form; rw [List.length_append, List.length_singleton] at hv5; subst hv5; have f4 := (HI1.out.2.1.below b5 (by omega)).free 0; have d4 := (HI1.out.2.1.below b5 (by omega)).cell 0; simp only [List.getElem?_cons_zero] at d4; clear h5 b5 g5 c4)
            go_roundw
            case rel => exact ⟨j, _, _, rfl, by have := HLE.out; have := HJ.out; omega, HOK.out HGO.out, HI6.out⟩
            case measure => simp [intOf]; have := HJ.out; have := HN1.out; have := HLE.out; omega
          | false =>
            go_wp2_with fail
            refine (rres_any t _).mono ?_
            rintro e w3 ⟨rfl, rfl⟩
            cases hrs : resB t with
            | true =>
              have HGO : Hid (okW ((l.drop i).take k) = true) := by show _ = _; rw [HOKW.out, hnm, hrs]; rfl
              clear hnm hrs
              have HI1 := hiD (HI.out.2.later (show Below wr.heap.size wr (wr.alloc (.cells #[.int .i64 1, .string t, .int .i64 i] 85)) from (Below.refl _ _).alloc (Nat.le_refl _) _))
              have HAB : Hid (Arr (wr.alloc (.cells #[.int .i64 1, .string t, .int .i64 i] 85)) 85 wr.heap.size (tkv (mkT 1 ((l.drop i).take k) i))) := by
                show Arr _ _ _ [.int .i64 1, .string (bstr ((l.drop i).take k)), .int .i64 i]
                rw [← HTX.out]; exact Arr.new' _ _ _ _ rfl
              have HAC : Hid (acc.length + 1 ≤ 1000000) := by have := HI.out.1.2.1; have := HS.out; show _ ≤ _; omega
              have c4 := HI.out.2.2.1.cell 0
              simp only [List.getElem?_cons_zero] at c4
              go_wp2_with (at_builtin; refine app_tokR rfl _ _ rfl rfl HI1.out.2.2.1 rfl HAB.out HAC.out HI1.out.2.2.2.2 ?_; intro v5 w6 h5 b5 g5; have HI6 := hiD (HI1.out.row h5 b5); obtain ⟨q5, c5, hv5, _⟩ := h5.form; rw [List.length_append, List.length_singleton] at hv5; subst hv5; have f4 := (HI1.out.2.1.below b5 (by omega)).free 0; have d4 := (HI1.out.2.1.below b5 (by omega)).cell 0; simp only [List.getElem?_cons_zero] at d4; clear h5 b5 g5 c4)
              go_roundw
              case rel => exact ⟨j, _, _, rfl, by have := HLE.out; have := HJ.out; omega, HOK.out HGO.out, HI6.out⟩
              case measure => simp [intOf]; have := HJ.out; have := HN1.out; have := HLE.out; omega
            | false =>
              have HRR := hiD (HER.out (by rw [HOKW.out, hnm, hrs]; rfl))
              clear hnm hrs
              have c2 := HI.out.2.1.cell
              have f2 := HI.out.2.1.free
              have c20 := c2 0
              have c21 := c2 1
              have c22 := c2 2
              have f20 := f2 0
              have f21 := f2 1
              have f22 := f2 2
              simp only [List.getElem?_cons_zero, List.getElem?_cons_succ] at c20 c21 c22
              clear c2 f2
              go_wp2_with fail
              have hA := HI.out.2.1.set3 (.slice none 0 0) (.int .i64 5) (.int .i64 i)
              refine bodyPost_ret (resr rfl hA rfl) rfl ?_
              rw [HRR.out]
              exact ⟨_, rfl, TokRow.nil _ _ _, below_set3 HI.out.2.2.2.2.1 (Nat.le_refl _) _ _ _⟩
        | false =>
          have HWD : Hid (wdB (l.getD i 0) = false) := by rw [← HX.out]; exact hwd
          have H0 : Hid (i + runL wdB l i = i) := by
            show _ = _
            rw [runL_eq (k := 0) (by omega) (fun m h1 h2 => by omega) (fun h => HWD.out)]; rfl
          rw [H0.out]
          clear hwd HLE H0
          go_wp2_with fail
          refine (in_sp s[i] _).mono ?_
          rintro e w3 ⟨rfl, rfl⟩
          cases hsp : spB s[i] with
          | true =>
            have HNX := hiD (lx_space HI.out.1 hil2 HWD.out (by rw [← HX.out]; exact hsp))
            clear hsp
            go_wp2_with fail
            go_roundw
            case rel => exact ⟨i + 1, _, _, by go_num, by omega, HNX.out, HI.out.2⟩
            case measure => simp [intOf]; omega
          | false =>
            have HSP : Hid (spB (l.getD i 0) = false) := by rw [← HX.out]; exact hsp
            clear hsp
            obtain ⟨nx, hnx⟩ : ∃ nx : UInt8, nx = if i + 1 < s.size then l.getD (i + 1) 0 else 0 := ⟨_, rfl⟩
            have HNC : Hid (l.getD i 0 = 47 ∧ nx = 47 → i + 1 < l.length ∧ l.getD (i + 1) 0 = 47) := fun h => by
              by_cases hb : i + 1 < s.size
              · rw [if_pos hb] at hnx; exact ⟨by have := HSZ.out; omega, by rw [← hnx]; exact h.2⟩
              · rw [if_neg hb] at hnx; rw [hnx] at h; exact absurd h.2 (by decide)
            have HNA : Hid (l.getD i 0 = 45 ∧ nx = 62 → i + 1 < l.length ∧ l.getD (i + 1) 0 = 62) := fun h => by
              by_cases hb : i + 1 < s.size
              · rw [if_pos hb] at hnx; exact ⟨by have := HSZ.out; omega, by rw [← hnx]; exact h.2⟩
              · rw [if_neg hb] at hnx; rw [hnx] at h; exact absurd h.2 (by decide)
            have HNO : Hid (∀ x y : UInt8, ¬ (l.getD i 0 = x ∧ nx = y) → notNext l i x y) := fun x y h h1 h2 h3 => h ⟨h1, by rw [hnx, if_pos (by have := HSZ.out; omega)]; exact h3⟩
            have HNXX := hiD hnx
            clear hnx
            go_upto_if 70 with (fail)
            go_cut [9] from 15 to 126 (fun x W => x = .int .u8 nx.toNat ∧ wr = W)
            case first =>
              by_cases h2 : i + 1 < s.size
              · have h3 : (i : Int) + 1 < s.size := by omega
                have HXn : Hid (nx = s[i + 1]) := by show _ = _; rw [HNXX.out, if_pos h2, HL.out]; exact (get_getD s (i + 1) h2).symm
                go_wp2_with fail
                go_meet
                case rel => exact ⟨by rw [HXn.out], rfl⟩
              · have h3 : ¬ (i : Int) + 1 < s.size := by omega
                have HXn : Hid (nx = 0) := by show _ = _; rw [HNXX.out, if_neg h2]
                go_wp2_with fail
                go_meet
                case rel => exact ⟨by rw [HXn.out]; rfl, rfl⟩
            case rest =>
              obtain ⟨rfl, rfl⟩ := hcut
              go_upto_region 22 with (fail)
              go_cut [80] from 15 to 126 (fun u W => u = .bool (decide (l.getD i 0 = 47 ∧ nx = 47)) ∧ wr = W)
              case first =>
                by_cases ha : l.getD i 0 = 47
                · have b1 : ((s[i].toNat : Int) == 47) = true := by rw [HX.out, ha]; rfl
                  by_cases hb : nx = 47
                  · have b2 : ((nx.toNat : Int) == 47) = true := by rw [hb]; rfl
                    have HD : Hid (decide (l.getD i 0 = 47 ∧ nx = 47) = true) := decide_eq_true ⟨ha, hb⟩
                    clear ha hb
                    go_wp2_with fail
                    go_meet
                    case rel => exact ⟨by rw [HD.out], rfl⟩
                  · have b2 : ((nx.toNat : Int) == 47) = false := by
                      rw [beq_eq_false_iff_ne]; intro e; exact hb (UInt8.toNat_inj.1 (by have h0 : (((47 : UInt8).toNat : Nat) : Int) = 47 := rfl; omega))
                    have HD : Hid (decide (l.getD i 0 = 47 ∧ nx = 47) = false) := decide_eq_false fun h => hb h.2
                    clear ha hb
                    go_wp2_with fail
                    go_meet
                    case rel => exact ⟨by rw [HD.out], rfl⟩
                · have b1 : ((s[i].toNat : Int) == 47) = false := by
                    rw [beq_eq_false_iff_ne]; intro e; rw [HX.out] at e; exact ha (UInt8.toNat_inj.1 (by have h0 : (((47 : UInt8).toNat : Nat) : Int) = 47 := rfl; omega))
                  have HD : Hid (decide (l.getD i 0 = 47 ∧ nx = 47) = false) := decide_eq_false fun h => ha h.1
                  clear ha
                  go_wp2_with fail
                  go_meet
                  case rel => exact ⟨by rw [HD.out], rfl⟩
              case rest =>
                obtain ⟨rfl, rfl⟩ := hcut
                by_cases hcm : l.getD i 0 = 47 ∧ nx = 47
                · have hpt := HNC.out hcm
                  have HNN := hiD (lx_comment HI.out.1 hpt.1 hcm.1 hpt.2)
                  have HN1 : Hid (1 ≤ runL lnB l i) := by show _ ≤ _; have := HNN.out.2; omega
                  have HLC : Hid (i + runL lnB l i ≤ s.size) := by have := runL_le lnB l i (by omega); have := HSZ.out; show _ ≤ _; omega
                  rw [decide_eq_true hcm]
                  clear hcm hpt
                  go_upto_block 4 with fail
                  go_cut [5] from 15 to 126 (fun x W => x = .int .i64 ((i + runL lnB l i : Nat) : Int) ∧ wr = W)
                  case first =>
                    go_wp2_with fail
                    go_loop [5] (fun jv => ∃ j : Nat, i ≤ j ∧ j ≤ s.size ∧ jv = .int .i64 j ∧ Hid (∀ m, i ≤ m → m < j → lnB (l.getD m 0) = true)) (fun jv => s.size - (intOf jv).toNat)
                    case atStart => exact ⟨i, Nat.le_refl _, by omega, rfl, fun k h1 h2 => by omega⟩
                    case round =>
                      obtain ⟨j, hij, hj, rfl, HP⟩ := hrel
                      have hj0 : (0 : Int) ≤ j := by omega
                      by_cases hlt : j < s.size
                      · have hlt1 : (j : Int) < s.size := by omega
                        have HXj : Hid (s[j] = l.getD j 0) := by show _ = _; rw [HL.out]; exact get_getD s j hlt
                        have hln := ln_ne s[j]
                        cases hc : lnB s[j] with
                        | true =>
                          have HC := hiD hc
                          rw [hc] at hln
                          clear hc
                          go_wp2_with fail
                          go_round
                          case rel =>
                            refine ⟨j + 1, by omega, by omega, by go_num, fun m h1 h2 => ?_⟩
                            by_cases e : m = j
                            · subst e; rw [← HXj.out]; exact HC.out
                            · exact HP.out m h1 (by omega)
                          case measure => simp [intOf]; omega
                        | false =>
                          have H : Hid (i + runL lnB l i = j) := by
                            show _ = _
                            rw [runL_eq (k := j - i) (by have := HSZ.out; omega) (fun m h1 h2 => HP.out m h1 (by omega)) (fun h => by rw [show i + (j - i) = j by omega, ← HXj.out]; exact hc)]
                            omega
                          rw [hc] at hln
                          clear hc HP
                          go_wp2_with fail
                          go_meet
                          case rel => exact ⟨by rw [H.out], rfl⟩
                      · obtain rfl : j = s.size := by omega
                        have H : Hid (i + runL lnB l i = s.size) := by
                          show _ = _
                          rw [runL_eq (k := s.size - i) (by have := HSZ.out; omega) (fun m h1 h2 => HP.out m h1 (by omega)) (fun h => by have := HSZ.out; omega)]
                          omega
                        clear HP
                        go_wp2_with fail
                        go_meet
                        case rel => exact ⟨by rw [H.out], rfl⟩
                  case rest =>
                    obtain ⟨rfl, rfl⟩ := hcut
                    go_wp2_with fail
                    go_roundw
                    case rel => exact ⟨i + runL lnB l i, _, _, rfl, HLC.out, HNN.out.1, HI.out.2⟩
                    case measure => simp [intOf]; have := HN1.out; have := HLC.out; omega
                · have HNT := hiD (HNO.out 47 47 hcm)
                  rw [decide_eq_false hcm]
                  clear hcm
                  go_upto_region 25 with (fail)
                  go_cut [98] from 15 to 126 (fun u W => u = .bool (decide (l.getD i 0 = 45 ∧ nx = 62)) ∧ wr = W)
                  case first =>
                    by_cases ha : l.getD i 0 = 45
                    · have b1 : ((s[i].toNat : Int) == 45) = true := by rw [HX.out, ha]; rfl
                      by_cases hb : nx = 62
                      · have b2 : ((nx.toNat : Int) == 62) = true := by rw [hb]; rfl
                        have HD : Hid (decide (l.getD i 0 = 45 ∧ nx = 62) = true) := decide_eq_true ⟨ha, hb⟩
                        clear ha hb
                        go_wp2_with fail
                        go_meet
                        case rel => exact ⟨by rw [HD.out], rfl⟩
                      · have b2 : ((nx.toNat : Int) == 62) = false := by
                          rw [beq_eq_false_iff_ne]; intro e; exact hb (UInt8.toNat_inj.1 (by have h0 : (((62 : UInt8).toNat : Nat) : Int) = 62 := rfl; omega))
                        have HD : Hid (decide (l.getD i 0 = 45 ∧ nx = 62) = false) := decide_eq_false fun h => hb h.2
                        clear ha hb
                        go_wp2_with fail
                        go_meet
                        case rel => exact ⟨by rw [HD.out], rfl⟩
                    · have b1 : ((s[i].toNat : Int) == 45) = false := by
                        rw [beq_eq_false_iff_ne]; intro e; rw [HX.out] at e; exact ha (UInt8.toNat_inj.1 (by have h0 : (((45 : UInt8).toNat : Nat) : Int) = 45 := rfl; omega))
                      have HD : Hid (decide (l.getD i 0 = 45 ∧ nx = 62) = false) := decide_eq_false fun h => ha h.1
                      clear ha
                      go_wp2_with fail
                      go_meet
                      case rel => exact ⟨by rw [HD.out], rfl⟩
                  case rest =>
                    obtain ⟨rfl, rfl⟩ := hcut
                    by_cases har : l.getD i 0 = 45 ∧ nx = 62
                    · have hpt := HNA.out har
                      have HNX := hiD (lx_arrow HI.out.1 hpt.1 har.1 hpt.2)
                      have HTX : Hid ((⟨#[45, 62]⟩ : ByteArray) = bstr [45, 62]) := rfl
                      have HLE2 : Hid (i + 2 ≤ s.size) := by show _ ≤ _; have := hpt.1; have := HSZ.out; omega
                      rw [decide_eq_true har]
                      clear har hpt
                      have HI1 := hiD (HI.out.2.later (show Below wr.heap.size wr (wr.alloc (.cells #[.int .i64 2, .string ⟨#[45, 62]⟩, .int .i64 i] 85)) from (Below.refl _ _).alloc (Nat.le_refl _) _))
                      have HAB : Hid (Arr (wr.alloc (.cells #[.int .i64 2, .string ⟨#[45, 62]⟩, .int .i64 i] 85)) 85 wr.heap.size (tkv (mkT 2 ([45, 62]) i))) := by
                        show Arr _ _ _ [.int .i64 2, .string (bstr ([45, 62])), .int .i64 i]
                        rw [← HTX.out]; exact Arr.new' _ _ _ _ rfl
                      have HAC : Hid (acc.length + 1 ≤ 1000000) := by have := HI.out.1.2.1; have := HS.out; show _ ≤ _; omega
                      have c4 := HI.out.2.2.1.cell 0
                      simp only [List.getElem?_cons_zero] at c4
                      go_wp2_with (at_builtin; refine app_tokR rfl _ _ rfl rfl HI1.out.2.2.1 rfl HAB.out HAC.out HI1.out.2.2.2.2 ?_; intro v5 w6 h5 b5 g5; have HI6 := hiD (HI1.out.row h5 b5); obtain ⟨q5, c5, hv5, _⟩ := h5.form; rw [List.length_append, List.length_singleton] at hv5; subst hv5; have f4 := (HI1.out.2.1.below b5 (by omega)).free 0; have d4 := (HI1.out.2.1.below b5 (by omega)).cell 0; simp only [List.getElem?_cons_zero] at d4; clear h5 b5 g5 c4)
                      go_roundw
                      case rel => exact ⟨i + 2, _, _, by go_num, by have := HLE2.out; omega, HNX.out, HI6.out⟩
                      case measure => simp [intOf]; omega
                    · have HAR := hiD (HNO.out 45 62 har)
                      rw [decide_eq_false har]
                      clear har
                      go_wp2_with fail
                      refine (in_sg s[i] _).mono ?_
                      rintro e w3 ⟨rfl, rfl⟩
                      cases hsg : sgB s[i] with
                      | false =>
                        have HRR := hiD (lx_sign_err HI.out.1 hil2 HWD.out HSP.out HNT.out HAR.out (by rw [← HX.out]; exact hsg))
                        clear hsg
                        have c2 := HI.out.2.1.cell
                        have f2 := HI.out.2.1.free
                        have c20 := c2 0
                        have c21 := c2 1
                        have c22 := c2 2
                        have f20 := f2 0
                        have f21 := f2 1
                        have f22 := f2 2
                        simp only [List.getElem?_cons_zero, List.getElem?_cons_succ] at c20 c21 c22
                        clear c2 f2
                        go_wp2_with fail
                        have hA := HI.out.2.1.set3 (.slice none 0 0) (.int .i64 6) (.int .i64 i)
                        refine bodyPost_ret (resr rfl hA rfl) rfl ?_
                        rw [HRR.out]
                        exact ⟨_, rfl, TokRow.nil _ _ _, below_set3 HI.out.2.2.2.2.1 (Nat.le_refl _) _ _ _⟩
                      | true =>
                        have HNX := hiD (lx_sign HI.out.1 hil2 HWD.out HSP.out HNT.out HAR.out (by rw [← HX.out]; exact hsg))
                        clear hsg
                        have HTX : Hid (s.extract i (i + 1) = bstr [l.getD i 0]) := by
                          show _ = _
                          rw [ext_data, ← HL.out, drop_cons' hil2]
                          congr 1
                          rw [show i + 1 - i = 1 by omega]; rfl
                        have e1 : (i : Int) + 1 ≤ s.size := by omega
                        have e2 : (i : Int) ≤ (i : Int) + 1 := by omega
                        obtain ⟨t, ht⟩ : ∃ t, t = s.extract i (i + 1) := ⟨_, rfl⟩
                        rw [← ht] at HTX
                        have HTT := hiD ht
                        clear ht
                        have c4 := HI.out.2.2.1.cell 0
                        simp only [List.getElem?_cons_zero] at c4
                        go_wp2_with fail
                        have HAC : Hid (acc.length + 1 ≤ 1000000) := by have := HI.out.1.2.1; have := HS.out; show _ ≤ _; omega
                        have HI1 : Hid (RX w v acc ((wr.alloc (.cells #[.int .i64 2, .string t, .int .i64 i] 85)).drew)) := HI.out.2.later (((Below.refl _ _).alloc (Nat.le_refl _) _).drew)
                        have HAB : Hid (Arr ((wr.alloc (.cells #[.int .i64 2, .string t, .int .i64 i] 85)).drew) 85 wr.heap.size (tkv (mkT 2 [l.getD i 0] i))) := by
                          show Arr (wr.alloc _) _ _ [.int .i64 2, .string (bstr [l.getD i 0]), .int .i64 i]
                          rw [← HTX.out]; exact Arr.new' _ _ _ _ rfl
                        have hw1 : IntKind.i64.wrap ((i : Int) + 1) = (i : Int) + 1 := IntWalk.i64_in _ (by omega)
                        have hw2 : (0 : Int) ≤ (i : Int) + 1 := by omega
                        have hw3 : ((i : Int) + 1).toNat = i + 1 := by omega
                        have htt := HTT.out.symm
                        have c5 : (wr.alloc (.cells #[.int .i64 2, .string t, .int .i64 i] 85)).cell? ⟨w.heap.size + 1, 0, none⟩ = some v := HI1.out.2.1.cell 0
                        go_region_law ((refine step_tokR rfl (.tmp 114) (.tmp 122) rfl rfl HI1.out.2.2.1 rfl HAB.out HAC.out HI1.out.2.2.2.2 ?_); intro v5 w6 h5 b5; have HI6 := hiD (HI1.out.row h5 b5); obtain ⟨q5, c5, hv5, _⟩ := h5.form; rw [List.length_append, List.length_singleton] at hv5; subst hv5; have f4 := (HI1.out.2.1.below b5 (by omega)).free 0; have d4 := (HI1.out.2.1.below b5 (by omega)).cell 0; simp only [List.getElem?_cons_zero] at d4; clear h5 b5)
                        all_goals
                          clear hw1 hw2 hw3 htt c4
                          go_wp2_with fail
                          go_roundw
                          case rel => exact ⟨i + 1, _, _, by go_num, by omega, HNX.out, HI6.out⟩
                          case measure => simp [intOf]; omega
    · obtain ⟨hRR, hie⟩ := lx_end HI.out.1 (by have := HSZ.out; omega)
      have hie2 : i = s.size := by omega
      have i1 : ¬ (i : Int) < s.size := by omega
      have HRR : Hid (R = (acc ++ [mkT 3 [] i], 0, 0)) := by show _ = _; rw [hRR, hie]
      have HI1 := hiD (HI.out.2.later (show Below wr.heap.size wr (wr.alloc (.cells #[.int .i64 3, .string ⟨#[]⟩, .int .i64 i] 85)) from (Below.refl _ _).alloc (Nat.le_refl _) _))
      have HAB : Hid (Arr (wr.alloc (.cells #[.int .i64 3, .string ⟨#[]⟩, .int .i64 i] 85)) 85 wr.heap.size (tkv (mkT 3 [] i))) := Arr.new' _ _ _ _ rfl
      have HAC : Hid (acc.length + 1 ≤ 1000000) := by have := HI.out.1.2.1; have := HS.out; show _ ≤ _; omega
      have c4 := HI.out.2.2.1.cell 0
      simp only [List.getElem?_cons_zero] at c4
      clear hRR hie hie2
      go_wp2_with (at_builtin; refine app_tokR rfl _ _ rfl rfl HI1.out.2.2.1 rfl HAB.out HAC.out HI1.out.2.2.2.2 ?_; intro v5 w6 h5 b5 g5; have HI6 := hiD (HI1.out.row h5 b5); obtain ⟨q5, c5, hv5, _⟩ := h5.form; rw [List.length_append, List.length_singleton] at hv5; subst hv5; have f4 := (HI1.out.2.1.below b5 (by omega)).free 0; have d4 := (HI1.out.2.1.below b5 (by omega)).cell 0; have d40 := HI6.out.2.1.cell 0; have d41 := HI6.out.2.1.cell 1; have d42 := HI6.out.2.1.cell 2; have e0 := HI6.out.1.cell 0; have e1 := HI6.out.1.cell 1; have e2 := HI6.out.1.cell 2; have x0 := HI6.out.1.free 0; have x1 := HI6.out.1.free 1; have x2 := HI6.out.1.free 2; simp only [List.getElem?_cons_zero, List.getElem?_cons_succ] at d4 d40 d41 d42 e0 e1 e2; clear h5 b5 g5 c4)
      have hA := HI6.out.1.set3 (.slice q5 (acc.length + 1) c5) (.int .i64 0) (.int .i64 0)
      refine bodyPost_ret (resr rfl hA rfl) rfl ?_
      rw [HRR.out]
      refine ⟨_, rfl, ?_, below_set3 HI6.out.2.2.2.1 (Nat.le_refl _) _ _ _⟩
      exact ((((HI6.out.2.2.1).set (a := ⟨w.heap.size, 0, none⟩) (by simp) _).set (a := ⟨w.heap.size, 1, none⟩) (by simp) _).set (a := ⟨w.heap.size, 2, none⟩) (by simp) _).le (by omega)
def RefPost {α : Type} (val : Nat → α → World → Value → Prop) (zero : Value) (w : World) (r : RR α) (e : Ending) (w' : World) : Prop :=
 Below w.heap.size w w' ∧ ((∃ x v, r = .ok x ∧ e = .returned (.tuple #[v, .int .i64 0, .int .i64 0]) ∧ val w.heap.size x w' v) ∨ (∃ a b : Nat, a ≠ 0 ∧ r = .bad a b ∧ e = .returned (.tuple #[zero, .int .i64 (a : Nat), .int .i64 (b : Nat)])))
theorem rt_of {w : World} {base : Nat} {v : Value} {ts : List Tok} (ho : OkTs ts) (hl : ts.length ≤ 100000) (hr : TokRow base 85 w v ts) :
  ∃ tb c, v = .slice (some ⟨tb, 0, none⟩) ts.length c ∧ RT w tb ts := by
 have hp := okTs_pos ho
 have h1 := hr.1
 rcases hr.2 with ⟨h, hn⟩ | ⟨g, cap, cur, rfl, h0, hg, hcap, _, hcz, htk⟩
 ·omega
 ·have hgl := (Array.getElem?_eq_some_iff.1 hg).1
  refine ⟨g, cap, rfl, hgl, hl, fun i hi j hj => ?_⟩
  rw [cell_of_row w g _ cur _ (0, 0) hg, ← Array.getElem?_toList]
  have h2 := tks_at ts i j hi hj
  rw [show (0, [], 0) = tok0 from rfl] at h2
  rw [← h2, ← htk, List.getElem?_take, if_pos (by omega), Nat.mul_comm]
theorem offs_nat (l : List UInt8) (i : Nat) : offs (tokS l).1 i = ((offT (tokS l).1 i : Nat) : Int) := tokS_offs l i
theorem rexpr_all {tb c : Nat} {ts : List Tok} (ho : OkB ts) : ∀ (d : Nat) (W : World) (s : PS) (k : Nat), RT W tb ts → s.i < ts.length → Lk k s.l → s.l ≤ 32 → s.o + d = 14 → Calls Tryz.prog 34 #[.agg #[.slice (some ⟨tb, 0, none⟩) ts.length c, .int .i64 (s.i : Nat), .int .i64 (k : Nat), .int .i64 (s.o : Nat), .int .i64 (s.l : Nat)]] W (GE tb c ts s.o (st k s.i (unitsF ts d s)) W)
  | 0, W, s, k, h, hi, hl, hl2, hd => by
    rw [unitsF_eq]
    exact rexpr_any ho (keeps_unit ho.1 0) h hi hl hl2 fun W' s' k' h' hi' hl' hl2' ho' => runit_any (U := none) ho h' hi' hl' hl2' (by omega) (fun _ => by omega) (fun u hu => by cases hu)
  | d + 1, W, s, k, h, hi, hl, hl2, hd => by
    rw [unitsF_eq]
    exact rexpr_any ho (keeps_unit ho.1 (d + 1)) h hi hl hl2 fun W' s' k' h' hi' hl' hl2' ho' => runit_any (U := some (unitsF ts d)) ho h' hi' hl' hl2' (by omega) (fun hu => by cases hu) (fun u hu => by
      cases hu
      exact ⟨by omega, fun W2 h2 hi2 => rexpr_all ho d W2 ⟨s'.i + 1, s'.o + 1, s'.l⟩ k' h2 hi2 hl' hl2' (by show s'.o + 1 + d = 14; omega)⟩)
theorem PR.then_assoc {α β γ : Type} (r : PR α) (f : α → PS → PR β) (g : β → PS → PR γ) : (r.then f).then g = r.then fun x s => (f x s).then g := by cases r <;> rfl
theorem Go1.thenS {α β : Type} {ts : List Tok} {k i o l k0 i0 : Nat} {x : α} {r : PR α} (h : Go1 ts k i o l x (st k0 i0 r)) (f : α → PS → PR β) : st k0 i0 (r.then f) = st k i (f x ⟨i, o, l⟩) := by
 by_cases hk : k0 = 0
 ·rw [st_0 hk] at h ⊢
  exact h.then f
 ·rw [st_n hk] at h ⊢
  obtain ⟨_, _, ⟨_, h2⟩ | ⟨h1, h2⟩⟩ := h
  ·cases h2
  ·cases h2
   rw [st_n h1]
theorem Go1.seqS {α β : Type} {ts : List Tok} {k i o l k0 i0 k2 i2 o2 l2 : Nat} {x : α} {y : β} {r : PR α} {f : α → PS → PR β} (h : Go1 ts k i o l x (st k0 i0 r)) (h2 : Go1 ts k2 i2 o2 l2 y (st k i (f x ⟨i, o, l⟩))) : Go1 ts k2 i2 o2 l2 y (st k0 i0 (r.then f)) := by
 rw [h.thenS]
 exact h2
theorem Go1.done {α β : Type} {ts : List Tok} {k i o l : Nat} {x : α} {r : PR α} (h : Go1 ts k i o l x r) (y : β) : Go1 ts k i o l y (st k i (.ok y ⟨i, o, l⟩)) := by
 refine ⟨h.1, h.2.1, ?_⟩
 by_cases hk : k = 0
 ·exact .inl ⟨hk, st_0 hk⟩
 ·exact .inr ⟨hk, st_n hk⟩
theorem exprF_at {ts : List Tok} {i o l : Nat} (h : o = 0) : unitsF ts 14 ⟨i, o, 0⟩ = exprF ts ⟨i, o, l⟩ := by subst h; rfl
theorem mem_rel {ts : List Tok} {i o l k5 i5 k6 i6 k7 i7 k8 i8 k4 i4 : Nat} {n : List UInt8} {ls : List AlB} (hk : k4 = 0) (hi : i4 = i + 1) (ht : txt ts i = wRelB) (h5 : Go1 ts k5 i5 o l n (st k4 i4 (nameF ts ⟨i4, o, l⟩))) (h6 : Go1 ts k6 i6 o l () (st k5 i5 (wantF ts [58] ⟨i5, o, l⟩)))
  (h7 : Go1 ts k7 i7 o l ls (st k6 i6 (typesR ts ⟨i6, o, l⟩))) (h8 : Go1 ts k8 i8 o l () (st k7 i7 (wantF ts [59] ⟨i7, o, l⟩))) : Go1 ts k8 i8 o l ((n, 1, ls, ex0) : MemB) (memberF ts ⟨i, o, l⟩) := by
 subst hi
 rw [memberF_rel ht]
 have e : ∀ r : PR MemB, st k4 (i + 1) r = r := fun r => st_0 hk
 rw [← e (PR.then _ _)]
 exact h5.seqS (h6.seqS (h7.seqS (h8.seqS (h8.done _))))
theorem mem_perm {ts : List Tok} {i o l l7 k5 i5 k6 i6 k7 i7 k8 i8 k4 i4 : Nat} {n : List UInt8} {e : Ex} (hk : k4 = 0) (hi : i4 = i + 1) (hn : ¬ txt ts i = wRelB) (ht : txt ts i = wPermB) (h5 : Go1 ts k5 i5 o l n (st k4 i4 (nameF ts ⟨i4, o, l⟩))) (h6 : Go1 ts k6 i6 o l () (st k5 i5 (wantF ts [61] ⟨i5, o, l⟩)))
  (h7 : Go1 ts k7 i7 o l7 e (st k6 i6 (exprF ts ⟨i6, o, l⟩))) (h8 : Go1 ts k8 i8 o l7 () (st k7 i7 (wantF ts [59] ⟨i7, o, l7⟩))) : Go1 ts k8 i8 o l7 ((n, 2, [], e) : MemB) (memberF ts ⟨i, o, l⟩) := by
 subst hi
 rw [memberF_perm hn, show wantF ts wPermB ⟨i, o, l⟩ = .ok () ⟨i + 1, o, l⟩ from if_pos ht, PR.then_ok]
 have e : ∀ r : PR MemB, st k4 (i + 1) r = r := fun r => st_0 hk
 rw [← e (PR.then _ _)]
 exact h5.seqS (h6.seqS (h7.seqS (h8.seqS (h8.done _))))
def DL (ts : List Tok) (r : PR DefB) (nm : List UInt8) (acc : List MemB) (i o k l : Nat) : Prop := r = st k i (finD ts nm (membersF ts (65 - acc.length) acc ⟨i, o, l⟩))
theorem dl_start {ts : List Tok} {s : PS} {k k1 i1 k2 i2 k3 i3 o l : Nat} {nm : List UInt8} (h1 : Go1 ts k1 i1 o l () (st k s.i (wantF ts wDefB s))) (h2 : Go1 ts k2 i2 o l nm (st k1 i1 (nameF ts ⟨i1, o, l⟩))) (h3 : Go1 ts k3 i3 o l () (st k2 i2 (wantF ts [123] ⟨i2, o, l⟩))) : DL ts (st k s.i (defF ts s)) nm [] i3 o k3 l := by
 show st k s.i ((wantF ts wDefB s).then fun _ s0 => (nameF ts s0).then fun n s1 => (wantF ts [123] s1).then fun _ s2 => finD ts n (membersF ts 65 [] s2)) = _
 rw [h1.thenS, h2.thenS, h3.thenS]
 rfl
theorem finD_then {ts : List Tok} {nm : List UInt8} {α : Type} (r : PR α) (f : α → PS → PR (List MemB)) : finD ts nm (r.then f) = r.then fun x s => finD ts nm (f x s) := by cases r <;> rfl
theorem dl_more {ts : List Tok} {r : PR DefB} {nm : List UInt8} {acc : List MemB} {i o k l k8 i8 l8 : Nat} {m : MemB} (h : DL ts r nm acc i o k l) (hk : k = 0) (ht : txt ts i = wRelB ∨ txt ts i = wPermB) (ha : acc.length < 64) (hm : Go1 ts k8 i8 o l8 m (memberF ts ⟨i, o, l⟩)) : DL ts r nm (acc ++ [m]) i8 o k8 l8 := by
 unfold DL at h ⊢
 rw [h, st_0 hk, show 65 - acc.length = (64 - acc.length) + 1 by omega, membersF, if_pos ht, if_pos ha, finD_then, hm.then, show 65 - (acc ++ [m]).length = 64 - acc.length by rw [List.length_append, List.length_singleton]; omega]
theorem dl_end {ts : List Tok} {r : PR DefB} {nm : List UInt8} {acc : List MemB} {i o k l k9 i9 : Nat} (h : DL ts r nm acc i o k l) (ha : acc.length ≤ 64) (hx : k = 0 → txt ts i = [125]) (h9 : Go1 ts k9 i9 o l () (st k i (wantF ts [125] ⟨i, o, l⟩))) : Go1 ts k9 i9 o l ((nm, acc) : DefB) r := by
 unfold DL at h
 rw [h]
 by_cases hk : k = 0
 ·have e := hx hk
  rw [show 65 - acc.length = (64 - acc.length) + 1 by omega, membersF_end (s := ⟨i, o, l⟩) (by show ¬ txt ts i = _; rw [e]; decide) (by show ¬ txt ts i = _; rw [e]; decide)]
  show Go1 _ _ _ _ _ _ (st k i ((wantF ts [125] ⟨i, o, l⟩).then fun _ s4 => .ok (nm, acc) s4))
  exact h9.seqS (h9.done _)
 ·rw [st_n hk] at h9 ⊢
  exact go1_stuck h9
theorem dl_bad6 {ts : List Tok} {r : PR DefB} {nm : List UInt8} {acc : List MemB} {i o k l k' : Nat} (h : DL ts r nm acc i o k l) (ha : acc.length ≤ 64) (hk : k = 0) (hi : i < ts.length) (hl : Lk k l) (h1 : ¬ txt ts i = wRelB) (h2 : ¬ txt ts i = wPermB) (h3 : ¬ txt ts i = [125]) (hk' : k' = if k = 0 then 6 else k) : Go1 ts k' i o l ((nm, acc) : DefB) r := by
 rw [if_pos hk] at hk'
 subst hk'
 unfold DL at h
 rw [h, st_0 hk, show 65 - acc.length = (64 - acc.length) + 1 by omega, membersF_end (s := ⟨i, o, l⟩) h1 h2]
 refine ⟨hi, ⟨hl.1, fun h => by cases h⟩, .inr ⟨by decide, ?_⟩⟩
 show (wantF ts [125] ⟨i, o, l⟩).then _ = _
 rw [show wantF ts [125] ⟨i, o, l⟩ = .bad 6 i from if_neg h3]
 rfl
theorem dl_bad15 {ts : List Tok} {r : PR DefB} {nm : List UInt8} {acc : List MemB} {i o k l k' : Nat} (h : DL ts r nm acc i o k l) (ha : acc.length = 64) (hk : k = 0) (hi : i < ts.length) (hl : Lk k l) (ht : txt ts i = wRelB ∨ txt ts i = wPermB) (hk' : k' = if k = 0 then 15 else k) : Go1 ts k' i o l ((nm, acc) : DefB) r := by
 rw [if_pos hk] at hk'
 subst hk'
 unfold DL at h
 rw [h, st_0 hk, ha, membersF_many (s := ⟨i, o, l⟩) ht (by omega)]
 exact ⟨hi, ⟨hl.1, fun h => by cases h⟩, .inr ⟨by decide, rfl⟩⟩
def VT (B G : Nat) (l : List AlB) (w : World) (v : Value) : Prop := G ≤ w.heap.size ∧ RdA (Bt B G) w l v
theorem VT.of {B : Nat} {l : List AlB} {w : World} {v : Value} (h : RdA (Bt B w.heap.size) w l v) : VT B w.heap.size l w v := ⟨Nat.le_refl _, h⟩
theorem VT.va {B G : Nat} {l : List AlB} {w : World} {v : Value} (h : VT B G l w v) : VA B l w v := RdA.imp (fun b hb => ⟨hb.1, Nat.lt_of_lt_of_le hb.2 h.1⟩) h.2
theorem VT.kp {B G g : Nat} {l : List AlB} {w w' : World} {v : Value} (h : VT B G l w v) (hk : Kp g w w') (hg : ¬ (B ≤ g ∧ g < G)) : VT B G l w' v :=
 ⟨Nat.le_trans h.1 hk.2.2.2.1, RdA.keep (fun b hb n => World.cell?_of_block (hk.2.2.2.2 b (Nat.lt_of_lt_of_le hb.2 h.1) (fun e => hg (e ▸ hb)))) h.2⟩
theorem VT.later {B G : Nat} {l : List AlB} {w w' : World} {v : Value} (h : VT B G l w v) (hb : Below w.heap.size w w') : VT B G l w' v :=
 ⟨Nat.le_trans h.1 hb.size, RdA.keep (fun b hb' n => hb.cell (p := ⟨b, n, none⟩) (Nat.lt_of_lt_of_le hb'.2 h.1)) h.2⟩
def VK (B : Nat) (l : List MemB) (w : World) (v : Value) : Prop := RdK kdMem (Bt B w.heap.size) w l v
theorem VK.kp {B g : Nat} {l : List MemB} {w w' : World} {v : Value} (h : VK B l w v) (hk : Kp g w w') (hg : g < B) : VK B l w' v := RdK.kp h hk hg
theorem VK.low {B B' : Nat} {l : List MemB} {w : World} {v : Value} (h : VK B l w v) (hb : B' ≤ B) : VK B' l w v := RdK.imp (fun b hb' => ⟨Nat.le_trans hb hb'.1, hb'.2⟩) h
theorem VK.later {B : Nat} {l : List MemB} {w w' : World} {v : Value} (h : VK B l w v) (hb : Below w.heap.size w w') : VK B l w' v :=
 RdK.imp (fun b hb' => ⟨hb'.1, Nat.lt_of_lt_of_le hb'.2 hb.size⟩) (RdK.keep (fun b hb' n => hb.cell (p := ⟨b, n, none⟩) hb'.2) h)
def GD (tb c : Nat) (ts : List Tok) (o : Nat) (r : PR DefB) (W : World) (e : Ending) (w' : World) : Prop := ∃ i' k' l' x v, Go1 ts k' i' o l' x r ∧ e = .returned (.tuple #[.agg #[.slice (some ⟨tb, 0, none⟩) ts.length c, .int .i64 (i' : Nat), .int .i64 (k' : Nat), .int .i64 (o : Nat), .int .i64 (l' : Nat)], v]) ∧ VD W.heap.size x w' v ∧ Below W.heap.size W w'
theorem Arr.setM3 {w : World} {t : TypeId} {g : Nat} {y0 y1 y2 y3 y4 y5 y6 : Value} (h : Arr w t g [y0, y1, y2, y3, y4, y5, y6]) (x0 x1 x2 x3 : Value) : Arr ((((w.setCell ⟨g, 3, none⟩ x0).setCell ⟨g, 4, none⟩ x1).setCell ⟨g, 5, none⟩ x2).setCell ⟨g, 6, none⟩ x3) t g [y0, y1, y2, x0, x1, x2, x3] := (((h.set 3 x0).set 4 x1).set 5 x2).set 6 x3
end Go.Proofs.YtkildckeikedhaaGreatDoor
