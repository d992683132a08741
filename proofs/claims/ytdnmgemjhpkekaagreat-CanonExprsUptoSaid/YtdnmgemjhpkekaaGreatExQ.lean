/-
  vestryref10.Leaves, Right.
-/
import Derived.Test.YtdnmgemjhpkekaaGreatExO
import Derived.Test.YtdnmgemjhpkekaaGreatExG
import Derived.Laws.AppendOwnNone
namespace Go.Proofs.YtdnmgemjhpkekaaGreat
open Go.ChangeShapes Go.WideShapes Go.ChangeAt Go.RowKit
set_option linter.unusedVariables false

/-- v is a slice of the call's own of expressions whose kids lie in blocks of P. -/
def LvRow (P : Nat → Prop) (base : Nat) (w : World) (v : Value) (ks : List Ex) : Prop := ∃ cs, w.ownsRow base 24 4 v ks.length cs ∧ CellsL P w ks cs
theorem LvRow.nil (P : Nat → Prop) (base : Nat) (w : World) : LvRow P base w (.slice none 0 0) [] := ⟨[], World.ownsRow_nil _ _ _ _, trivial⟩
theorem LvRow.form {P : Nat → Prop} {base : Nat} {w : World} {v : Value} {ks : List Ex} (h : LvRow P base w v ks) : ∃ q c, v = .slice q ks.length c := by
  obtain ⟨cs, h1, _⟩ := h
  rcases h1.2 with ⟨h, hn⟩ | ⟨g, cap, cur, hv, _⟩
  · exact ⟨none, 0, by rw [hn]; exact h⟩
  · exact ⟨_, _, hv⟩
theorem LvRow.later {P : Nat → Prop} {base : Nat} {w w' : World} {v : Value} {ks : List Ex} (h : LvRow P base w v ks) (hb : Below w.heap.size w w') (hP : ∀ b, P b → b < w.heap.size) : LvRow P base w' v ks := by
  obtain ⟨cs, h1, h2⟩ := h
  refine ⟨cs, ⟨h1.1, ?_⟩, h2.keep (cells_below hb hP)⟩
  rcases h1.2 with h | ⟨g, cap, cur, rfl, h0, hg, r⟩
  · exact .inl h
  · exact .inr ⟨g, cap, cur, rfl, h0, (hb.block g (Array.getElem?_eq_some_iff.1 hg).1).trans hg, r⟩
theorem CellsL.app {P : Nat → Prop} {w : World} : ∀ {ks : List Ex} {cs : List Value} {ls : List Ex} {ds : List Value}, CellsL P w ks cs → CellsL P w ls ds → CellsL P w (ks ++ ls) (cs ++ ds)
  | [], [], _, _, _, h2 => h2
  | e :: r, v0 :: v1 :: v2 :: v3 :: cs, _, _, h, h2 => ⟨h.1, CellsL.app h.2 h2⟩
  | [], _ :: _, _, _, h, _ => h.elim
  | _ :: _, [], _, _, h, _ => h.elim
  | _ :: _, [_], _, _, h, _ => h.elim
  | _ :: _, [_, _], _, _, h, _ => h.elim
  | _ :: _, [_, _, _], _, _, h, _ => h.elim
/-- The row read as a slice. -/
theorem LvRow.rdL {P : Nat → Prop} {base : Nat} {w : World} {q : Option Addr} {n c : Nat} {ks : List Ex} (h : LvRow P base w (.slice q n c) ks) : n = ks.length ∧ ks.length ≤ c ∧ (0 < ks.length → ∃ b, q = some ⟨b, 0, none⟩ ∧ base ≤ b ∧ b < w.heap.size ∧ RdL P w ks b 0) := by
  obtain ⟨cs, h1, h2⟩ := h
  rcases h1.2 with ⟨hv, hn⟩ | ⟨g, cap, cur, hv, h0, hg, hcap, _, hcz, htk⟩
  · simp only [Value.slice.injEq] at hv
    obtain ⟨rfl, rfl, rfl⟩ := hv
    exact ⟨hn.symm, by omega, fun h => by omega⟩
  · simp only [Value.slice.injEq] at hv
    obtain ⟨rfl, rfl, rfl⟩ := hv
    refine ⟨rfl, hcap, fun _ => ⟨g, rfl, h0, (Array.getElem?_eq_some_iff.1 hg).1, ?_⟩⟩
    refine h2.rdL fun j u hj => ?_
    rw [Nat.zero_add]
    have hjl : j < cs.length := (List.getElem?_eq_some_iff.1 hj).1
    rw [cell_of_row w g _ cur _ (0, 0) hg, ← Array.getElem?_toList]
    rw [← htk, List.getElem?_take, if_pos (by rw [h1.1] at hjl; exact hjl)] at hj
    exact hj
theorem app_lv {ops : Array Oper} {rest : List Oper} {o : Oper} {a : Act} {Q : Exit → Act → World → Prop} {w : World} (hgd : o.guard = none) (s x : Operand) (ho : o.op = .call { callee := .builtin .append, args := #[s, x], argTypes := #[22, 22] })
    {P : Nat → Prop} {base base2 : Nat} {v vx : Value} {ks ls : List Ex} (hs : a.eval s = v) (hown : LvRow P base w v ks) (hx : a.eval x = vx) (h2 : LvRow P base2 w vx ls) (hP : ∀ b, P b → b < base)
    (hlen : ks.length + ls.length ≤ 1000000) (hbase : base ≤ w.heap.size)
    (h : ∀ v' w', LvRow P base w' v' (ks ++ ls) → Below base w w' → wpList Tryz.prog ops Q rest (a.put o.dst v') w') : wpList Tryz.prog ops Q (o :: rest) a w := by
  obtain ⟨i0, hi, hz0, hz1, hz2⟩ := info_parts Tryz.infoEx
  obtain ⟨cs, h1, hc1⟩ := hown
  obtain ⟨ds, h3, hc3⟩ := h2
  rcases h3.2 with ⟨hv, hn⟩ | ⟨g, cap, cur, hv, h0, hg, hcap, _, hcz, htk⟩
  · obtain rfl : ls = [] := List.eq_nil_of_length_eq_zero hn
    rw [hv] at hx
    refine wpList_append_own_none hgd s x 22 ho base 24 i0 4 Tryz.underlying22 hi v ks.length cs hs h1 hx ?_
    refine h v w ⟨cs, by rw [List.append_nil]; exact h1, by rw [List.append_nil]; exact hc1⟩ (Below.refl _ _)
  · rw [hv] at hx
    refine wpList_append_own w hgd s x 22 ho base 24 i0 _ 4 64 Tryz.underlying22 hi hz0 hz1 hz2 rfl (by decide) v ks.length cs hs h1 ⟨g, 0, none⟩ ls.length cap ds hx h3.1 ?_ hc3.ones (by unfold maxLen; omega) (by omega) hbase ?_
    · intro j u hj
      have hjl : j < ds.length := (List.getElem?_eq_some_iff.1 hj).1
      rw [show (Addr.add ⟨g, 0, none⟩ j) = ⟨g, j, none⟩ by cases j <;> simp [Addr.add], cell_of_row w g _ cur _ (0, 0) hg, ← Array.getElem?_toList]
      rw [← htk, List.getElem?_take, if_pos (by rw [h3.1] at hjl; exact hjl)] at hj
      exact hj
    · intro v' w' r1 r2 _
      have hb : Below base w w' := (Below.refl _ _).grown r2 hbase (fun k hk => (h1.lt k hk).1)
      exact h v' w' ⟨cs ++ ds, by rw [List.length_append]; exact r1, (hc1.app hc3).keep (cells_below hb hP)⟩ hb

set_option maxRecDepth 100000 in
set_option maxHeartbeats 4000000 in
theorem rleaves_any : ∀ (n : Nat) (e : Ex) (v : Value) (P : Nat → Prop) (w : World), sizeE e ≤ n → sizeE e ≤ 900000 → RdE P w e v → (∀ b, P b → b < w.heap.size) → Calls Tryz.prog 16 #[v] w fun r w' => ∃ v', r = .returned v' ∧ LvRow P w.heap.size w' v' (leavesE e) ∧ Below w.heap.size w w' := by
  intro n
  induction n with
  | zero => intro e v P w h; have := sizeE_pos e; omega
  | succ n ih =>
    intro e v P w hn hm h hP
    have H := Lib.hid h
    obtain ⟨q, c, rfl, hc, hk⟩ := h.form
    obtain ⟨k, xv, xn, ks⟩ := e
    unfold exv
    show Calls _ _ #[.agg #[.int .i64 k, .string (bstr xv), .string (bstr xn), .slice q ks.length c]] _ _
    have HK : Hid (0 < ks.length → ∃ b o, q = some ⟨b, o, none⟩ ∧ P b ∧ RdL P w ks b o) := hk
    have hks : sizeL ks ≤ n := by unfold sizeE at hn; omega
    have hkm : sizeL ks ≤ 900000 := by unfold sizeE at hm; omega
    have hlen := sizeL_len ks
    have HIH := Lib.hid ih
    have HP := Lib.hid hP
    have HB0 : Hid (Below w.heap.size w (w.alloc (.cells #[.int .i64 k, .string (bstr xv), .string (bstr xn), .slice q ks.length c] 24))) := (Below.refl _ _).alloc (Nat.le_refl _) _
    have HA0 : Hid (Arr (w.alloc (.cells #[.int .i64 k, .string (bstr xv), .string (bstr xn), .slice q ks.length c] 24)) 24 w.heap.size [.int .i64 k, .string (bstr xv), .string (bstr xn), .slice q ks.length c]) := Arr.new' _ _ _ _ rfl
    have HP0 : Hid (∀ b, P b → b < (w.alloc (.cells #[.int .i64 k, .string (bstr xv), .string (bstr xn), .slice q ks.length c] 24)).heap.size) := fun b hb => Nat.lt_of_lt_of_le (hP b hb) HB0.out.size
    have HLF : Hid (Calls Tryz.prog 32 #[.agg #[.int .i64 k, .string (bstr xv), .string (bstr xn), .slice q ks.length c]] (w.alloc (.cells #[.int .i64 k, .string (bstr xv), .string (bstr xn), .slice q ks.length c] 24)) fun r w' => r = .returned (.bool (leafK k)) ∧ Below (w.alloc (.cells #[.int .i64 k, .string (bstr xv), .string (bstr xn), .slice q ks.length c] 24)).heap.size (w.alloc (.cells #[.int .i64 k, .string (bstr xv), .string (bstr xn), .slice q ks.length c] 24)) w') := rleaf_any (e := .mk k xv xn ks) (H.out.below HB0.out hP)
    obtain ⟨lf, hlf⟩ : ∃ lf, lf = leafK k := ⟨_, rfl⟩
    rw [← hlf] at HLF
    have HLK := Lib.hid hlf
    clear h ih hc hk hn hm hlf hP
    go_enter Tryz.func16, Tryz.ntmps16
    go_wp2_with fail
    refine HLF.out.mono ?_
    rintro r w2 ⟨rfl, b2⟩
    have HA2 := Lib.hid (HA0.out.later b2)
    have HB2 := Lib.hid (HB0.out.trans (b2.mono HB0.out.size))
    clear b2 HA0 HB0 HLF HP0
    have a0 := HA2.out.cell 0
    have a1 := HA2.out.cell 1
    have a2 := HA2.out.cell 2
    have a3 := HA2.out.cell 3
    simp only [List.getElem?_cons_zero, List.getElem?_cons_succ] at a0 a1 a2 a3
    cases lf with
    | true =>
      have HL : Hid (leavesE (.mk k xv xn ks) = [.mk k xv xn ks]) := leaves_leaf HLK.out.symm
      go_wp2_with fail
      go_ret
      have hB : Below w.heap.size w (w2.alloc (.cells #[.int .i64 k, .string (bstr xv), .string (bstr xn), .slice q ks.length c] 24)) := HB2.out.alloc HB2.out.size _
      refine ⟨_, rfl, ⟨[.int .i64 k, .string (bstr xv), .string (bstr xn), .slice q ks.length c], ?_, ?_⟩, hB⟩
      · rw [HL.out]
        exact World.ownsRow_lit w2 #[.int .i64 k, .string (bstr xv), .string (bstr xn), .slice q ks.length c] 1 HB2.out.size (by decide) rfl
      · rw [HL.out]
        exact ⟨H.out.below hB HP.out, trivial⟩
    | false =>
      have HL : Hid (leavesE (.mk k xv xn ks) = leavesL ks) := leaves_kids (by rw [← HLK.out]; exact Bool.false_ne_true)
      have HSZ : Hid (w.heap.size + 1 ≤ w2.heap.size) := HA2.out.lt
      go_wp2_with fail
      go_loopw [3, 4] (fun ov iv wr => ∃ i : Nat, i ≤ ks.length ∧ iv = .int .i64 i ∧ Hid (LvRow P (w.heap.size + 1) wr ov (leavesL (ks.take i)) ∧ Below w.heap.size w wr ∧ Arr wr 24 w.heap.size [.int .i64 k, .string (bstr xv), .string (bstr xn), .slice q ks.length c] ∧ w.heap.size + 1 ≤ wr.heap.size)) (fun _ iv _ => ks.length - (intOf iv).toNat)
      case atStart => exact ⟨0, Nat.zero_le _, rfl, LvRow.nil _ _ _, HB2.out, HA2.out, HSZ.out⟩
      case round =>
        obtain ⟨i, hi, rfl, HI2⟩ := hrel
        clear a0 a1 a2 a3
        have HI := Lib.hid HI2.out.2.1
        have HAI := Lib.hid HI2.out.2.2.1
        have HS := Lib.hid HI2.out.2.2.2
        have HRW := Lib.hid HI2.out.1
        obtain ⟨qv, cv, rfl⟩ := HI2.out.1.form
        clear HI2
        have hi0 : (0 : Int) ≤ i := by omega
        have a0 := HAI.out.cell 0
        have a1 := HAI.out.cell 1
        have a2 := HAI.out.cell 2
        have a3 := HAI.out.cell 3
        simp only [List.getElem?_cons_zero, List.getElem?_cons_succ] at a0 a1 a2 a3
        by_cases hlt : i < ks.length
        · have hi1 : (i : Int) < ks.length := by omega
          have hP := HP.out
          obtain ⟨ba, oa, rfl, hba, hl⟩ := HK.out (by omega)
          obtain ⟨x, hx⟩ : ∃ x, x = ks.getD i ex0 := ⟨_, rfl⟩
          obtain ⟨q2, c2, x0, x1, x2, x3, hr⟩ := hl.at hlt
          have hxs := sizeL_get ks i hlt
          have hxd := depthL_get ks i hlt
          rw [← hx] at x0 x1 x2 x3 hr hxs hxd
          have HX := Lib.hid hx
          obtain ⟨xk, xv2, xn2, xs⟩ := x
          have cc : ∀ n, wr.cell? ⟨ba, n, none⟩ = w.cell? ⟨ba, n, none⟩ := fun n => (HI.out).cell (p := ⟨ba, n, none⟩) (hP _ hba)
          have X0 : wr.cell? ⟨ba, oa + i * 4, none⟩ = some (.int .i64 xk) := (cc _).trans x0
          have X1 : wr.cell? ⟨ba, oa + i * 4 + 1, none⟩ = some (.string (bstr xv2)) := (cc _).trans x1
          have X2 : wr.cell? ⟨ba, oa + i * 4 + 2, none⟩ = some (.string (bstr xn2)) := (cc _).trans x2
          have X3 : wr.cell? ⟨ba, oa + i * 4 + 3, none⟩ = some (.slice q2 xs.length c2) := (cc _).trans x3
          clear x0 x1 x2 x3 cc hx
          have HR : Hid (RdE P wr (.mk xk xv2 xn2 xs) (.agg #[.int .i64 xk, .string (bstr xv2), .string (bstr xn2), .slice q2 xs.length c2])) := hr.below (HI.out) hP
          have HC := Lib.hid (HIH.out (.mk xk xv2 xn2 xs) _ P _ (by omega) (by omega) HR.out (fun b hb => Nat.lt_of_lt_of_le (hP b hb) HI.out.size))
          have HTK : Hid (leavesL (ks.take (i + 1)) = leavesL (ks.take i) ++ leavesE (.mk xk xv2 xn2 xs)) := by show _ = _; rw [take_snocE hlt, ← HX.out, leavesL_snoc]
          have HLN : Hid ((leavesL (ks.take i)).length + (leavesE (.mk xk xv2 xn2 xs)).length ≤ 1000000) := by
            show _ ≤ _
            have h2 := (leavesL_take ks i hlt).length_le
            rw [← HX.out, List.length_append] at h2
            have := leavesL_size ks
            omega
          clear hl hr hxs hxd hba hP
          go_wp2_with fail
          refine HC.out.mono ?_
          rintro r w5 ⟨v5, rfl, r5, b5⟩
          have HR5 := Lib.hid r5
          have HW5 := Lib.hid (HRW.out.later b5 (fun b hb => Nat.lt_of_lt_of_le (HP.out b hb) HI.out.size))
          have HB5 := Lib.hid (HI.out.trans (b5.mono HI.out.size))
          have HA5 := Lib.hid (HAI.out.later b5)
          have HS5 : Hid (w.heap.size + 1 ≤ w5.heap.size) := Nat.le_trans HS.out b5.size
          have HPS : Hid (∀ b, P b → b < w.heap.size + 1) := fun b hb => Nat.lt_succ_of_lt (HP.out b hb)
          obtain ⟨q5, c5, rfl⟩ := r5.form
          clear r5 b5 HC
          go_wp2_with (at_builtin; refine app_lv rfl _ _ rfl rfl HW5.out rfl HR5.out HPS.out HLN.out HS5.out ?_; intro v7 w7 h7 b7)
          go_roundw
          case rel => exact ⟨i + 1, by omega, by go_num, by rw [HTK.out]; exact h7, HB5.out.trans (b7.mono (by omega)), HA5.out.below b7 (by omega), Nat.le_trans HS5.out b7.size⟩
          case measure => simp [intOf]; omega
        · have hi1 : ¬ (i : Int) < ks.length := by omega
          have HK2 : Hid (ks.take i = ks) := List.take_of_length_le (by omega)
          rw [HK2.out] at HRW
          go_wp2_with fail
          go_ret
          obtain ⟨cs, h1, h2⟩ := HRW.out
          refine ⟨_, rfl, ⟨cs, ?_, ?_⟩, HI.out⟩
          · rw [HL.out, HK2.out]
            refine ⟨h1.1, ?_⟩
            rcases h1.2 with h | ⟨g, cap, cur, hv, h0, r⟩
            · exact .inl h
            · exact .inr ⟨g, cap, cur, hv, by omega, r⟩
          · rw [HL.out]; exact h2
set_option maxRecDepth 100000 in
set_option maxHeartbeats 4000000 in
theorem rRight_any (e : Ex) (v : Value) (P : Nat → Prop) (w : World) (hok : okE 100000 e) (hm : sizeE e ≤ 900000) (h : RdE P w e v) (hP : ∀ b, P b → b < w.heap.size) : Calls Tryz.prog 6 #[v] w fun r w' => r = .returned (.bool (rightE e)) ∧ Below w.heap.size w w' := by
  have H := Lib.hid h
  have HP := Lib.hid hP
  have HM := Lib.hid hm
  obtain ⟨q, c, rfl, hc, hk⟩ := h.form
  obtain ⟨k, xv, xn, ks⟩ := e
  unfold exv
  show Calls _ _ #[.agg #[.int .i64 k, .string (bstr xv), .string (bstr xn), .slice q ks.length c]] _ _
  have HB0 : Hid (Below w.heap.size w (w.alloc (.cells #[.int .i64 k, .string (bstr xv), .string (bstr xn), .slice q ks.length c] 24))) := (Below.refl _ _).alloc (Nat.le_refl _) _
  have HA0 : Hid (Arr (w.alloc (.cells #[.int .i64 k, .string (bstr xv), .string (bstr xn), .slice q ks.length c] 24)) 24 w.heap.size [.int .i64 k, .string (bstr xv), .string (bstr xn), .slice q ks.length c]) := Arr.new' _ _ _ _ rfl
  have HP0 : Hid (∀ b, P b → b < (w.alloc (.cells #[.int .i64 k, .string (bstr xv), .string (bstr xn), .slice q ks.length c] 24)).heap.size) := fun b hb => Nat.lt_of_lt_of_le (hP b hb) HB0.out.size
  have HRC : Hid (Calls Tryz.prog 15 #[.agg #[.int .i64 k, .string (bstr xv), .string (bstr xn), .slice q ks.length c], .int .i64 16] (w.alloc (.cells #[.int .i64 k, .string (bstr xv), .string (bstr xn), .slice q ks.length c] 24)) fun r w' => r = .returned (.bool (decide (depthE (.mk k xv xn ks) ≤ 16) && formE (.mk k xv xn ks))) ∧ Below (w.alloc (.cells #[.int .i64 k, .string (bstr xv), .string (bstr xn), .slice q ks.length c] 24)).heap.size (w.alloc (.cells #[.int .i64 k, .string (bstr xv), .string (bstr xn), .slice q ks.length c] 24)) w') := rright_any 16 (.mk k xv xn ks) _ P (w.alloc (.cells #[.int .i64 k, .string (bstr xv), .string (bstr xn), .slice q ks.length c] 24)) (by omega) hok hm (H.out.below HB0.out hP) HP0.out
  have HLC : Hid (∀ W, Below (w.alloc (.cells #[.int .i64 k, .string (bstr xv), .string (bstr xn), .slice q ks.length c] 24)).heap.size (w.alloc (.cells #[.int .i64 k, .string (bstr xv), .string (bstr xn), .slice q ks.length c] 24)) W → Calls Tryz.prog 16 #[.agg #[.int .i64 k, .string (bstr xv), .string (bstr xn), .slice q ks.length c]] W fun r w' => ∃ q2 c2, r = .returned (.slice q2 (leavesE (.mk k xv xn ks)).length c2) ∧ Below W.heap.size W w') :=
    fun W hW => (rleaves_any _ (.mk k xv xn ks) _ P W (Nat.le_refl _) hm ((H.out.below HB0.out hP).below hW HP0.out) (fun b hb => Nat.lt_of_lt_of_le (HP0.out b hb) hW.size)).mono fun r w' ⟨v', h1, h2, h3⟩ => by
      obtain ⟨q2, c2, rfl⟩ := h2.form
      exact ⟨q2, c2, h1, h3⟩
  have hsz := leaves_size (.mk k xv xn ks)
  obtain ⟨F, hF⟩ : ∃ F, F = (decide (depthE (.mk k xv xn ks) ≤ 16) && formE (.mk k xv xn ks)) := ⟨_, rfl⟩
  obtain ⟨N, hN⟩ : ∃ N, N = (leavesE (.mk k xv xn ks)).length := ⟨_, rfl⟩
  have HRE : Hid (rightE (.mk k xv xn ks) = (decide (N ≤ 32) && F)) := by show _ = _; unfold rightE; rw [hF, hN]
  rw [← hF] at HRC
  rw [← hN] at HLC hsz
  rw [HRE.out]
  have hn1 : N ≤ 900000 := by omega
  clear h hc hk hm hP hok hF hN hsz
  go_enter Tryz.func6, Tryz.ntmps6
  go_wp2_with fail
  refine HRC.out.mono ?_
  rintro r w5 ⟨rfl, b5⟩
  have HB5 := Lib.hid (HB0.out.trans (b5.mono HB0.out.size))
  have HC5 := Lib.hid (HLC.out w5 b5)
  have HA5 := Lib.hid (HA0.out.later b5)
  have z0 := HA5.out.cell 0
  have z1 := HA5.out.cell 1
  have z2 := HA5.out.cell 2
  have z3 := HA5.out.cell 3
  simp only [List.getElem?_cons_zero, List.getElem?_cons_succ] at z0 z1 z2 z3
  clear b5
  cases F with
  | true =>
    go_wp2_with fail
    refine HC5.out.mono ?_
    rintro r w6 ⟨q2, c2, rfl, b6⟩
    have HB6 := Lib.hid (HB5.out.trans (b6.mono HB5.out.size))
    clear b6
    go_wp2_with fail
    go_ret
    exact ⟨by rw [show decide (N ≤ 32) = decide ((N : Int) ≤ 32) from decide_eq_decide.2 (by omega), Bool.and_true]; rfl, HB6.out⟩
  | false =>
    go_wp2_with fail
    go_ret
    exact ⟨by rw [Bool.and_false]; rfl, HB5.out⟩
end Go.Proofs.YtdnmgemjhpkekaaGreat
