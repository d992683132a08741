/-
  expr.Clone, the reference's Clone.
-/
import Derived.Test.YtdnmgemjhpkekaaGreatExE
namespace Go.Proofs.YtdnmgemjhpkekaaGreat
open Go.ChangeShapes Go.WideShapes Go.ChangeAt Go.RowKit
set_option linter.unusedVariables false

theorem Arr.set4 {w : World} {t : TypeId} {g : Nat} {a b c d : Value} (h : Arr w t g [a, b, c, d]) (x0 x1 x2 x3 : Value) : Arr ((((w.setCell ⟨g, 0, none⟩ x0).setCell ⟨g, 1, none⟩ x1).setCell ⟨g, 2, none⟩ x2).setCell ⟨g, 3, none⟩ x3) t g [x0, x1, x2, x3] := (((h.set 0 x0).set 1 x1).set 2 x2).set 3 x3
theorem below_set4 {B : Nat} {w0 w : World} {g : Nat} (h : Below B w0 w) (hg : B ≤ g) (x0 x1 x2 x3 : Value) : Below B w0 ((((w.setCell ⟨g, 0, none⟩ x0).setCell ⟨g, 1, none⟩ x1).setCell ⟨g, 2, none⟩ x2).setCell ⟨g, 3, none⟩ x3) :=
  (((h.setCell (p := ⟨g, 0, none⟩) hg _).setCell (p := ⟨g, 1, none⟩) hg _).setCell (p := ⟨g, 2, none⟩) hg _).setCell (p := ⟨g, 3, none⟩) hg _
theorem ExRow.set4 {base : Nat} {w : World} {v : Value} {ks : List Ex} (h : ExRow base w v ks) {g : Nat} (hg : g < base) (x0 x1 x2 x3 : Value) : ExRow base ((((w.setCell ⟨g, 0, none⟩ x0).setCell ⟨g, 1, none⟩ x1).setCell ⟨g, 2, none⟩ x2).setCell ⟨g, 3, none⟩ x3) v ks :=
  (((h.set (a := ⟨g, 0, none⟩) hg x0).set (a := ⟨g, 1, none⟩) hg x1).set (a := ⟨g, 2, none⟩) hg x2).set (a := ⟨g, 3, none⟩) hg x3
theorem resE {fn : Func} {p : Tmp} (h : fn.results = #[.cell p 24]) {tmps : Array Value} {w : World} {g : Nat} {a b c d : Value} (hA : Arr w 24 g [a, b, c, d]) (hp : tmps.getD p undef = .pointer (some ⟨g, 0, none⟩)) :
    (results fn tmps).run Tryz.prog w = .ok (.agg #[a, b, c, d]) w :=
  results_cell_row h tmps w g 24 #[a, b, c, d] (0, 0) _ hp hA Tryz.underlying24 rfl (by kernel_rfl)
def ClPost (e : Ex) (w : World) (r : Ending) (w' : World) : Prop := ∃ v', r = .returned v' ∧ RdE (Bt w.heap.size w'.heap.size) w' e v' ∧ Below w.heap.size w w'
/-- What Clone's walk keeps: the parameter in its cell, the result's cell, the row of the kids. -/
def CX (w : World) (A : List Value) (v : Value) (ks : List Ex) (W : World) : Prop :=
  Arr W 24 w.heap.size A ∧ Arr W 24 (w.heap.size + 1) [.int .i64 0, .string ByteArray.empty, .string ByteArray.empty, .slice none 0 0] ∧ ExRow (w.heap.size + 2) W v ks ∧ Below w.heap.size w W ∧ w.heap.size + 2 ≤ W.heap.size
theorem CX.later {w W W' : World} {A : List Value} {v : Value} {ks : List Ex} (h : CX w A v ks W) (hb : Below W.heap.size W W') : CX w A v ks W' :=
  ⟨h.1.later hb, h.2.1.later hb, h.2.2.1.later hb, h.2.2.2.1.trans (hb.mono h.2.2.2.1.size), Nat.le_trans h.2.2.2.2 hb.size⟩
theorem CX.row {w W W' : World} {A : List Value} {v v' : Value} {ks ks' : List Ex} (h : CX w A v ks W) (hT : ExRow (w.heap.size + 2) W' v' ks') (hb : Below (w.heap.size + 2) W W') : CX w A v' ks' W' :=
  ⟨h.1.below hb (by omega), h.2.1.below hb (by omega), hT, h.2.2.2.1.trans (hb.mono (by omega)), Nat.le_trans h.2.2.2.2 hb.size⟩
set_option maxRecDepth 100000 in
set_option maxHeartbeats 4000000 in
theorem clone_any : ∀ (n : Nat) (e : Ex) (v : Value) (P : Nat → Prop) (w : World), sizeE e ≤ n → sizeE e ≤ 900000 → RdE P w e v → (∀ b, P b → b < w.heap.size) → Calls Tryz.prog 36 #[v] w (ClPost e w) := by
  intro n
  induction n with
  | zero => intro e v P w h; have := sizeE_pos e; omega
  | succ n ih =>
    intro e v P w hn hm h hP
    obtain ⟨q, c, rfl, hc, hk⟩ := h.form
    obtain ⟨k, xv, xn, ks⟩ := e
    unfold exv
    show Calls _ _ #[.agg #[.int .i64 k, .string (bstr xv), .string (bstr xn), .slice q ks.length c]] _ _
    have HK : Hid (0 < ks.length → ∃ b o, q = some ⟨b, o, none⟩ ∧ P b ∧ RdL P w ks b o) := hk
    have hks : sizeL ks ≤ n := by unfold sizeE at hn; omega
    have hkm : sizeL ks ≤ 900000 := by unfold sizeE at hm; omega
    have hlen := sizeL_len ks
    have HIH := Lib.hid ih
    have H0 : Hid (CX w [.int .i64 k, .string (bstr xv), .string (bstr xn), .slice q ks.length c] (.slice none 0 0) [] ((w.alloc (.cells #[.int .i64 k, .string (bstr xv), .string (bstr xn), .slice q ks.length c] 24)).alloc (.cells #[.int .i64 0, .string ByteArray.empty, .string ByteArray.empty, .slice none 0 0] 24))) :=
      ⟨(Arr.new' w _ _ _ rfl).alloc _, Arr.new2 w _ _ _ _ rfl, ExRow.nil _ _, ((Below.refl _ _).alloc (Nat.le_refl _) _).alloc (by simp) _, by simp⟩
    clear h ih hc hk hn hm
    go_enter Tryz.func36, Tryz.ntmps36
    go_wp2_with fail
    go_loopw [3, 9] (fun dv iv wr => ∃ i : Nat, i ≤ ks.length ∧ iv = .int .i64 i ∧ Hid (CX w [.int .i64 k, .string (bstr xv), .string (bstr xn), .slice q ks.length c] dv (ks.take i) wr)) (fun _ iv _ => ks.length - (intOf iv).toNat)
    case atStart => exact ⟨0, Nat.zero_le _, rfl, H0.out⟩
    case round =>
      obtain ⟨i, hi, rfl, HC⟩ := hrel
      have hi0 : (0 : Int) ≤ i := by omega
      have HI := Lib.hid HC.out.2.2.2.1
      obtain ⟨qv, cv, rfl⟩ := HC.out.2.2.1.form
      have htl : (ks.take i).length = i := by rw [List.length_take]; omega
      rw [htl] at HC ⊢
      by_cases hlt : i < ks.length
      · have hi1 : (i : Int) < ks.length := by omega
        obtain ⟨ba, oa, rfl, hba, hl⟩ := HK.out (by omega)
        obtain ⟨x, hx⟩ : ∃ x, x = ks.getD i ex0 := ⟨_, rfl⟩
        obtain ⟨q2, c2, x0, x1, x2, x3, hr⟩ := hl.at hlt
        have hxs := sizeL_get ks i hlt
        have hxd := depthL_get ks i hlt
        rw [← hx] at x0 x1 x2 x3 hr hxs hxd
        have HX := Lib.hid hx
        obtain ⟨xk, xv2, xn2, xs⟩ := x
        have cc : ∀ n, wr.cell? ⟨ba, n, none⟩ = w.cell? ⟨ba, n, none⟩ := fun n => (HI.out).cell (p := ⟨ba, n, none⟩) (hP _ hba)
        have X0 : wr.cell? ⟨ba, oa + i * 4, none⟩ = some (.int .i64 xk) := (cc _).trans x0
        have X1 : wr.cell? ⟨ba, oa + i * 4 + 1, none⟩ = some (.string (bstr xv2)) := (cc _).trans x1
        have X2 : wr.cell? ⟨ba, oa + i * 4 + 2, none⟩ = some (.string (bstr xn2)) := (cc _).trans x2
        have X3 : wr.cell? ⟨ba, oa + i * 4 + 3, none⟩ = some (.slice q2 xs.length c2) := (cc _).trans x3
        clear x0 x1 x2 x3 cc hx
        have HBA : Hid (Below wr.heap.size wr (wr.alloc (.cells #[.int .i64 xk, .string (bstr xv2), .string (bstr xn2), .slice q2 xs.length c2] 24))) := (Below.refl _ _).alloc (Nat.le_refl _) _
        have HR : Hid (RdE P (wr.alloc (.cells #[.int .i64 xk, .string (bstr xv2), .string (bstr xn2), .slice q2 xs.length c2] 24)) (.mk xk xv2 xn2 xs) (.agg #[.int .i64 xk, .string (bstr xv2), .string (bstr xn2), .slice q2 xs.length c2])) := (hr.below (HI.out) hP).below HBA.out (fun b hb => Nat.lt_of_lt_of_le (hP b hb) (HI.out).size)
        have HIC := Lib.hid (HIH.out (.mk xk xv2 xn2 xs) _ P _ (by omega) (by omega) HR.out (fun b hb => Nat.lt_of_lt_of_le (hP b hb) (Nat.le_trans HI.out.size HBA.out.size)))
        have HC4 := Lib.hid (HC.out.later HBA.out)
        clear hl hr hxs hxd
        go_wp2_with fail
        refine HIC.out.mono ?_
        rintro r w5 ⟨v5, rfl, r5, b5⟩
        have HC5 := Lib.hid (HC4.out.later b5)
        obtain ⟨q5, c5, rfl, hc5⟩ := r5.form
        have HR5 : Hid (RdE (Sub (w.heap.size + 2) w5 (.slice qv i cv)) w5 (.mk xk xv2 xn2 xs) (.agg #[.int .i64 xk, .string (bstr xv2), .string (bstr xn2), .slice q5 xs.length c5])) := r5.imp fun b hb => ⟨Nat.le_trans HC4.out.2.2.2.2 hb.1, hb.2, fun e => by
          have := HC4.out.2.2.1.blk e.symm
          have := hb.1
          omega⟩
        unfold exv
        have HB6 : Hid (Below w5.heap.size w5 (w5.alloc (.cells #[.int .i64 xk, .string (bstr xv2), .string (bstr xn2), .slice q5 xs.length c5] 24))) := (Below.refl _ _).alloc (Nat.le_refl _) _
        have HC6 := Lib.hid (HC5.out.later HB6.out)
        have HTR := Lib.hid HC6.out.2.2.1
        have HAB : Hid (Arr (w5.alloc (.cells #[.int .i64 xk, .string (bstr xv2), .string (bstr xn2), .slice q5 xs.length c5] 24)) 24 w5.heap.size [.int .i64 xk, .string (bstr xv2), .string (bstr xn2), .slice q5 xs.length c5]) := Arr.new' _ _ _ _ rfl
        have HRE : Hid (RdE (Sub (w.heap.size + 2) (w5.alloc (.cells #[.int .i64 xk, .string (bstr xv2), .string (bstr xn2), .slice q5 xs.length c5] 24)) (.slice qv i cv)) (w5.alloc (.cells #[.int .i64 xk, .string (bstr xv2), .string (bstr xn2), .slice q5 xs.length c5] 24)) (.mk xk xv2 xn2 xs) (.agg #[.int .i64 xk, .string (bstr xv2), .string (bstr xn2), .slice q5 xs.length c5])) :=
          (HR5.out.below HB6.out fun b hb => hb.2.1).imp fun b hb => ⟨hb.1, Nat.lt_of_lt_of_le hb.2.1 HB6.out.size, hb.2.2⟩
        have HAC : Hid ((ks.take i).length + 1 ≤ 1000000) := by show _ ≤ _; omega
        have HBS : Hid (w.heap.size + 2 ≤ (w5.alloc (.cells #[.int .i64 xk, .string (bstr xv2), .string (bstr xn2), .slice q5 xs.length c5] 24)).heap.size) := HC6.out.2.2.2.2
        have HTK : Hid (ks.take (i + 1) = ks.take i ++ [.mk xk xv2 xn2 xs]) := by show _ = _; rw [take_snocE hlt, ← HX.out]
        clear b5 r5 hc5 htl
        go_wp2_with (at_builtin; refine app_ex rfl _ _ rfl rfl HTR.out rfl HAB.out HRE.out HAC.out HBS.out ?_; intro v6 w6 h6 b6 g6)
        go_roundw
        case rel => exact ⟨i + 1, by omega, by go_num, by rw [HTK.out]; exact HC6.out.row h6 b6⟩
        case measure => simp [intOf]; omega
      · have hi1 : ¬ (i : Int) < ks.length := by omega
        have HK2 : Hid (ks.take i = ks) := List.take_of_length_le (by omega)
        obtain rfl : i = ks.length := by omega
        have HC2 := HC.out
        rw [HK2.out] at HC2
        have HC3 := Lib.hid HC2
        have hq0 := HC2.1.cell 0
        have hq1 := HC2.1.cell 1
        have hq2 := HC2.1.cell 2
        have hq3 := HC2.1.cell 3
        have hr0 := HC2.2.1.cell 0
        have hr1 := HC2.2.1.cell 1
        have hr2 := HC2.2.1.cell 2
        have hr3 := HC2.2.1.cell 3
        have hf3 := HC2.1.free 3
        have hp0 := HC2.2.1.free 0
        have hp1 := HC2.2.1.free 1
        have hp2 := HC2.2.1.free 2
        have hp3 := HC2.2.1.free 3
        simp only [List.getElem?_cons_zero, List.getElem?_cons_succ] at hq0 hq1 hq2 hq3 hr0 hr1 hr2 hr3
        clear HC2 htl HC
        go_wp2_with fail
        have hA := (HC3.out.2.1.setCell (a := ⟨w.heap.size, 3, none⟩) (by simp) (.slice qv ks.length cv)).set4 (.int .i64 k) (.string (bstr xv)) (.string (bstr xn)) (.slice qv ks.length cv)
        have hB := below_set4 (g := w.heap.size + 1) (HC3.out.2.2.2.1.setCell (p := ⟨w.heap.size, 3, none⟩) (Nat.le_refl _) (.slice qv ks.length cv)) (by omega) (.int .i64 k) (.string (bstr xv)) (.string (bstr xn)) (.slice qv ks.length cv)
        have hE := ExRow.set4 (g := w.heap.size + 1) (HC3.out.2.2.1.set (a := ⟨w.heap.size, 3, none⟩) (show w.heap.size < w.heap.size + 2 by omega) (.slice qv ks.length cv)) (by omega) (.int .i64 k) (.string (bstr xv)) (.string (bstr xn)) (.slice qv ks.length cv)
        refine bodyPost_ret (resE rfl hA rfl) rfl ⟨_, rfl, ?_, hB⟩
        exact (hE.rd k xv xn).imp fun b hb => ⟨by have := hb.1; omega, hb.2⟩
theorem step_ex {ops : Array Oper} {o : Oper} {a : Act} {w : World} {K : Act → World → Prop} {Q : Exit → Act → World → Prop} {E : Prop} (hgd : o.guard = none) (s x : Operand) (ho : o.op = .call { callee := .builtin .append, args := #[s, x], argTypes := #[22, 22] })
    {base n : Nat} {v : Value} {ks : List Ex} {e : Ex} {v0 v1 v2 v3 : Value} (hs : a.eval s = v) (hown : ExRow base w v ks) (hx : a.eval x = .slice (some ⟨n, 0, none⟩) 1 1) (hc : Arr w 24 n [v0, v1, v2, v3])
    (he : RdE (Sub base w v) w e (.agg #[v0, v1, v2, v3])) (hlen : ks.length + 1 ≤ 1000000) (hbase : base ≤ w.heap.size)
    (hK : ∀ v' w', ExRow base w' v' (ks ++ [e]) → Below base w w' → K (a.put o.dst v') w') : if Region.wanted o (yielded ops a.tmps) = true then Oper.wp Tryz.prog o a w K Q else E := by
  have hw : Region.wanted o (yielded ops a.tmps) = true := by simp [Region.wanted, hgd]
  rw [if_pos hw]
  obtain ⟨i0, hi, hz0, hz1, hz2⟩ := info_parts Tryz.infoEx
  obtain ⟨cs, h1, h2⟩ := hown
  have hone : CellsL (Sub base w v) w [e] [v0, v1, v2, v3] := ⟨he, trivial⟩
  obtain ⟨v', w', hrun, r1, r2, _, r4⟩ := run_append_own_at (P := Tryz.prog) w base 22 o.type 24 i0 _ 4 64 Tryz.underlying22 hi hz0 hz1 hz2 rfl (by decide) v ks.length cs h1 ⟨n, 0, none⟩ 1 1 [v0, v1, v2, v3] rfl
    (fun j u hu => by
      have := hc.cell j
      rw [hu] at this
      cases j <;> simpa [Addr.add] using this) hone.ones (by unfold maxLen; omega) (by omega) hbase
  unfold Oper.wp
  simp [execOp, ho, resolve, invoke, builtin, hs, hx, hrun, Result.andThen]
  have hb : Below base w w' := (Below.refl _ _).grown r2 hbase (fun k hk => (h1.lt k hk).1)
  refine hK v' w' ⟨cs ++ [v0, v1, v2, v3], by rw [List.length_append]; exact r1, ?_⟩ hb
  have hk : ∀ b, Sub base w v b → ∀ m, w'.cell? ⟨b, m, none⟩ = w.cell? ⟨b, m, none⟩ := fun b hb m => World.cell?_of_block (r2.block b hb.2.1 hb.2.2)
  have hS : ∀ b, Sub base w v b → Sub base w' v' b := fun b hb => ⟨hb.1, Nat.lt_of_lt_of_le hb.2.1 r2.size, by
    rcases r4 with r4 | r4
    · rw [r4]; exact hb.2.2
    · rw [r4]; intro e; have := Option.some.inj e; have := hb.2.1; omega⟩
  exact CellsL.snoc ((he.keep hk).imp hS) ((h2.keep hk).imp hS)
/-- What the reference's Clone keeps: the parameter, the result's cell, the clone's cell with the row of its kids. -/
def CR (w : World) (A : List Value) (a b c : Value) (v : Value) (ks : List Ex) (W : World) : Prop :=
  Arr W 24 w.heap.size A ∧ Arr W 24 (w.heap.size + 1) [.int .i64 0, .string ByteArray.empty, .string ByteArray.empty, .slice none 0 0] ∧ Arr W 24 (w.heap.size + 2) [a, b, c, v] ∧ ExRow (w.heap.size + 3) W v ks ∧ Below w.heap.size w W ∧ w.heap.size + 3 ≤ W.heap.size
theorem CR.later {w W W' : World} {A : List Value} {a b c v : Value} {ks : List Ex} (h : CR w A a b c v ks W) (hb : Below W.heap.size W W') : CR w A a b c v ks W' :=
  ⟨h.1.later hb, h.2.1.later hb, h.2.2.1.later hb, h.2.2.2.1.later hb, h.2.2.2.2.1.trans (hb.mono h.2.2.2.2.1.size), Nat.le_trans h.2.2.2.2.2 hb.size⟩
theorem CR.row {w W W' : World} {A : List Value} {a b c v v' : Value} {ks ks' : List Ex} (h : CR w A a b c v ks W) (hT : ExRow (w.heap.size + 3) W' v' ks') (hb : Below (w.heap.size + 3) W W') : CR w A a b c v' ks' (W'.setCell ⟨w.heap.size + 2, 3, none⟩ v') :=
  ⟨(h.1.below hb (by omega)).setCell (by simp) _, (h.2.1.below hb (by omega)).setCell (by simp) _, (h.2.2.1.below hb (by omega)).set 3 v', hT.set (by simp) _, (h.2.2.2.2.1.trans (hb.mono (by omega))).setCell (p := ⟨w.heap.size + 2, 3, none⟩) (by simp) _, by simpa [World.setCell] using Nat.le_trans h.2.2.2.2.2 hb.size⟩
end Go.Proofs.YtdnmgemjhpkekaaGreat
