/-
  vestrylaw10.change: it changes kinds alone, in the rows that it is given.
-/
import Derived.Test.YtigphejoekfclaaDoorExMc
namespace Go.Proofs.YtigphejoekfclaaDoor
open Go.ChangeShapes Go.WideShapes Go.ChangeAt Go.RowKit
set_option linter.unusedVariables false

mutual
/-- The shape of an expression in rows of its own between A and B, whatever the kinds. -/
def ShO (A B : Nat) : World → Ex → Value → Prop
  | w, .mk _ via nm ks, v => ∃ k q c, v = .agg #[.int .i64 k, .string (bstr via), .string (bstr nm), .slice q ks.length c] ∧
      (0 < ks.length → ∃ b cs, q = some ⟨b, 0, none⟩ ∧ A ≤ b ∧ b < B ∧ Arr w 24 b cs ∧ ShOL A B w ks cs)
def ShOL (A B : Nat) : World → List Ex → List Value → Prop
  | _, [], _ => True
  | w, e :: r, v0 :: v1 :: v2 :: v3 :: cs => ShO A B w e (.agg #[v0, v1, v2, v3]) ∧ ShOL A B w r cs
  | _, _ :: _, [] => False
  | _, _ :: _, [_] => False
  | _, _ :: _, [_, _] => False
  | _, _ :: _, [_, _, _] => False
end
mutual
theorem RdO.sh {A B : Nat} : ∀ {e : Ex} {P : Nat → Prop} {w : World} {v : Value}, RdO P w e v → (∀ b, P b → A ≤ b ∧ b < B) → ShO A B w e v
  | .mk k via nm ks, P, w, v, h, hP => by
    have hl := @RdOL.sh A B ks
    unfold RdO at h
    unfold ShO
    obtain ⟨q, c, h1, h2, h3⟩ := h
    refine ⟨k, q, c, h1, fun h0 => ?_⟩
    obtain ⟨b, cur, g1, g2, g3, g4⟩ := h3 h0
    exact ⟨b, cur.toList, g1, (hP b g2).1, (hP b g2).2, g3, hl g4 fun b hb => hP b hb.1⟩
theorem RdOL.sh {A B : Nat} : ∀ {ks : List Ex} {P : Nat → Prop} {w : World} {cs : List Value}, RdOL P w ks cs → (∀ b, P b → A ≤ b ∧ b < B) → ShOL A B w ks cs
  | [], _, _, _, _, _ => by unfold ShOL; trivial
  | e :: r, P, w, v0 :: v1 :: v2 :: v3 :: cs, h, hP => by
    have he := @RdO.sh A B e
    have hr := @RdOL.sh A B r
    unfold RdOL at h
    unfold ShOL
    exact ⟨he h.1 hP, hr h.2 hP⟩
  | _ :: _, _, _, [], h, _ => by unfold RdOL at h; exact h.elim
  | _ :: _, _, _, [_], h, _ => by unfold RdOL at h; exact h.elim
  | _ :: _, _, _, [_, _], h, _ => by unfold RdOL at h; exact h.elim
  | _ :: _, _, _, [_, _, _], h, _ => by unfold RdOL at h; exact h.elim
end
mutual
theorem ShO.keep {A B : Nat} {w w' : World} (hk : ∀ b cs, Arr w 24 b cs → b < B → Arr w' 24 b cs) : ∀ {e : Ex} {v : Value}, ShO A B w e v → ShO A B w' e v
  | .mk k via nm ks, v, h => by
    have hl := @ShOL.keep A B w w' hk ks
    unfold ShO at h ⊢
    obtain ⟨k, q, c, h1, h3⟩ := h
    refine ⟨k, q, c, h1, fun h0 => ?_⟩
    obtain ⟨b, cs, g1, g2, g3, g4, g5⟩ := h3 h0
    exact ⟨b, cs, g1, g2, g3, hk b cs g4 g3, hl g5⟩
theorem ShOL.keep {A B : Nat} {w w' : World} (hk : ∀ b cs, Arr w 24 b cs → b < B → Arr w' 24 b cs) : ∀ {ks : List Ex} {cs : List Value}, ShOL A B w ks cs → ShOL A B w' ks cs
  | [], _, _ => by unfold ShOL; trivial
  | e :: r, v0 :: v1 :: v2 :: v3 :: cs, h => by
    have he := @ShO.keep A B w w' hk e
    have hr := @ShOL.keep A B w w' hk r
    unfold ShOL at h ⊢
    exact ⟨he h.1, hr h.2⟩
  | _ :: _, [], h => by unfold ShOL at h; exact h.elim
  | _ :: _, [_], h => by unfold ShOL at h; exact h.elim
  | _ :: _, [_, _], h => by unfold ShOL at h; exact h.elim
  | _ :: _, [_, _, _], h => by unfold ShOL at h; exact h.elim
end
theorem sh_kind {A B : Nat} {w : World} {e : Ex} {v0 v1 v2 v3 : Value} (z : Int) (h : ShO A B w e (.agg #[v0, v1, v2, v3])) : ShO A B w e (.agg #[.int .i64 z, v1, v2, v3]) := by
  obtain ⟨k, via, nm, ks⟩ := e
  unfold ShO at h ⊢
  obtain ⟨k, q, c, h1, h3⟩ := h
  simp only [Value.agg.injEq, Array.mk.injEq, List.cons.injEq, and_true] at h1
  obtain ⟨rfl, rfl, rfl, rfl⟩ := h1
  exact ⟨z, q, c, rfl, h3⟩
theorem shL_kind {A B : Nat} {w : World} (z : Int) : ∀ {ks : List Ex} {cs : List Value} {i : Nat}, ShOL A B w ks cs → ShOL A B w ks (cs.set (i * 4) (.int .i64 z))
  | [], _, _, _ => by unfold ShOL; trivial
  | e :: r, v0 :: v1 :: v2 :: v3 :: cs, 0, h => by
    unfold ShOL at h
    simp only [Nat.zero_mul, List.set_cons_zero]
    unfold ShOL
    exact ⟨sh_kind z h.1, h.2⟩
  | e :: r, v0 :: v1 :: v2 :: v3 :: cs, i + 1, h => by
    have hr := @shL_kind A B w z r cs i
    unfold ShOL at h
    rw [show (i + 1) * 4 = i * 4 + 1 + 1 + 1 + 1 by omega]
    simp only [List.set_cons_succ]
    unfold ShOL
    exact ⟨h.1, hr h.2⟩
  | _ :: _, [], _, h => by unfold ShOL at h; exact h.elim
  | _ :: _, [_], _, h => by unfold ShOL at h; exact h.elim
  | _ :: _, [_, _], _, h => by unfold ShOL at h; exact h.elim
  | _ :: _, [_, _, _], _, h => by unfold ShOL at h; exact h.elim
mutual
theorem ShO.put {A B : Nat} {w : World} (g i : Nat) (z : Int) : ∀ {e : Ex} {v : Value}, ShO A B w e v → ShO A B (w.setCell ⟨g, i * 4, none⟩ (.int .i64 z)) e v
  | .mk k via nm ks, v, h => by
    have hl := @ShOL.put A B w g i z ks
    unfold ShO at h ⊢
    obtain ⟨k, q, c, h1, h3⟩ := h
    refine ⟨k, q, c, h1, fun h0 => ?_⟩
    obtain ⟨b, cs, g1, g2, g3, g4, g5⟩ := h3 h0
    by_cases hb : b = g
    · subst hb
      exact ⟨b, cs.set (i * 4) (.int .i64 z), g1, g2, g3, g4.set _ _, shL_kind z (hl g5)⟩
    · exact ⟨b, cs, g1, g2, g3, g4.setCell hb _, hl g5⟩
theorem ShOL.put {A B : Nat} {w : World} (g i : Nat) (z : Int) : ∀ {ks : List Ex} {cs : List Value}, ShOL A B w ks cs → ShOL A B (w.setCell ⟨g, i * 4, none⟩ (.int .i64 z)) ks cs
  | [], _, _ => by unfold ShOL; trivial
  | e :: r, v0 :: v1 :: v2 :: v3 :: cs, h => by
    have he := @ShO.put A B w g i z e
    have hr := @ShOL.put A B w g i z r
    unfold ShOL at h ⊢
    exact ⟨he h.1, hr h.2⟩
  | _ :: _, [], h => by unfold ShOL at h; exact h.elim
  | _ :: _, [_], h => by unfold ShOL at h; exact h.elim
  | _ :: _, [_, _], h => by unfold ShOL at h; exact h.elim
  | _ :: _, [_, _, _], h => by unfold ShOL at h; exact h.elim
end
theorem ShOL.at {A B : Nat} {w : World} : ∀ {l : List Ex} {cs : List Value} {i : Nat}, ShOL A B w l cs → i < l.length → ∃ v0 v1 v2 v3, cs[i * 4]? = some v0 ∧ cs[i * 4 + 1]? = some v1 ∧ cs[i * 4 + 2]? = some v2 ∧ cs[i * 4 + 3]? = some v3 ∧ ShO A B w (l.getD i ex0) (.agg #[v0, v1, v2, v3])
  | [], _, _, _, h => by simp at h
  | e :: r, v0 :: v1 :: v2 :: v3 :: cs, 0, h, _ => by unfold ShOL at h; exact ⟨v0, v1, v2, v3, rfl, rfl, rfl, rfl, h.1⟩
  | e :: r, v0 :: v1 :: v2 :: v3 :: cs, i + 1, h, hi => by
    unfold ShOL at h
    obtain ⟨u0, u1, u2, u3, g0, g1, g2, g3, g4⟩ := ShOL.at (i := i) h.2 (by simpa using hi)
    refine ⟨u0, u1, u2, u3, ?_, ?_, ?_, ?_, g4⟩
    · rw [show (i + 1) * 4 = i * 4 + 4 by omega]; simpa using g0
    · rw [show (i + 1) * 4 + 1 = i * 4 + 1 + 4 by omega]; simpa using g1
    · rw [show (i + 1) * 4 + 2 = i * 4 + 2 + 4 by omega]; simpa using g2
    · rw [show (i + 1) * 4 + 3 = i * 4 + 3 + 4 by omega]; simpa using g3
  | _ :: _, [], _, h, _ => by unfold ShOL at h; exact h.elim
  | _ :: _, [_], _, h, _ => by unfold ShOL at h; exact h.elim
  | _ :: _, [_, _], _, h, _ => by unfold ShOL at h; exact h.elim
  | _ :: _, [_, _, _], _, h, _ => by unfold ShOL at h; exact h.elim
/-- What change leaves. -/
def ChP (A B : Nat) (w w' : World) : Prop := Below A w w' ∧ (∀ b, B ≤ b → b < w.heap.size → w'.heap[b]? = w.heap[b]?) ∧ (∀ e v, ShO A B w e v → ShO A B w' e v)
theorem ChP.trans {A B : Nat} {a b c : World} (h1 : ChP A B a b) (h2 : ChP A B b c) : ChP A B a c :=
  ⟨h1.1.trans h2.1, fun x hx hl => (h2.2.1 x hx (Nat.lt_of_lt_of_le hl h1.1.size)).trans (h1.2.1 x hx hl), fun e v h => h2.2.2 e v (h1.2.2 e v h)⟩
theorem ChP.of {A B : Nat} {w w' : World} (h : Below w.heap.size w w') (hA : A ≤ w.heap.size) (hB : B ≤ w.heap.size) : ChP A B w w' :=
  ⟨h.mono hA, fun b _ hl => h.block b hl, fun e v hs => hs.keep fun b cs ha hb => ha.later h⟩
theorem ChP.put {A B : Nat} (w : World) {g : Nat} (i : Nat) (z : Int) (hA : A ≤ g) (hB : g < B) : ChP A B w (w.setCell ⟨g, i * 4, none⟩ (.int .i64 z)) :=
  ⟨(Below.refl A w).setCell (p := ⟨g, i * 4, none⟩) hA _, fun b hb _ => Below.heap_setCell w ⟨g, i * 4, none⟩ _ b (by show b ≠ g; omega), fun e v h => h.put g i z⟩
set_option maxRecDepth 100000 in
set_option maxHeartbeats 8000000 in
theorem change_any (A B : Nat) : ∀ (n : Nat) (e : Ex) (v : Value) (w : World), sizeE e ≤ n → sizeE e ≤ 900000 → ShO A B w e v → A ≤ B → B ≤ w.heap.size → Calls Tryd.prog 26 #[v] w fun r w' => (∃ u, r = .returned u) ∧ ChP A B w w' := by
  intro n
  induction n with
  | zero => intro e v w h; have := sizeE_pos e; omega
  | succ n ih =>
    intro e v w hn hm h hAB hB
    have HIH := Lib.hid ih
    have H := Lib.hid h
    have HAB := Lib.hid hAB
    have HBW := Lib.hid hB
    obtain ⟨k0, xv, xn, ks⟩ := e
    have h' := h
    unfold ShO at h'
    obtain ⟨k, q, c, rfl, hk⟩ := h'
    have hks : sizeL ks ≤ n := by unfold sizeE at hn; omega
    have hkm : sizeL ks ≤ 900000 := by unfold sizeE at hm; omega
    have hlen := sizeL_len ks
    have HQ : Hid (0 < ks.length → ∃ b, q = some ⟨b, 0, none⟩ ∧ A ≤ b ∧ b < B) := fun h0 => by
      obtain ⟨b, cs, g1, g2, g3, _⟩ := hk h0
      exact ⟨b, g1, g2, g3⟩
    have hb0 : Below w.heap.size w (w.alloc (.cells #[.int .i64 k, .string (bstr xv), .string (bstr xn), .slice q ks.length c] 24)) := (Below.refl _ _).alloc (Nat.le_refl _) _
    have HA0 : Hid (Arr (w.alloc (.cells #[.int .i64 k, .string (bstr xv), .string (bstr xn), .slice q ks.length c] 24)) 24 w.heap.size [.int .i64 k, .string (bstr xv), .string (bstr xn), .slice q ks.length c]) := Arr.new' _ _ _ _ rfl
    have HC0 : Hid (ChP A B w (w.alloc (.cells #[.int .i64 k, .string (bstr xv), .string (bstr xn), .slice q ks.length c] 24))) := ChP.of hb0 (by omega) hB
    clear ih h hk hn hm hAB hB hb0
    go_enter Tryd.func26, Tryd.ntmps26
    go_wp2_with fail
    go_loopw [2] (fun iv wr => ∃ i : Nat, i ≤ ks.length ∧ iv = .int .i64 i ∧ Hid (ChP A B w wr ∧ Arr wr 24 w.heap.size [.int .i64 k, .string (bstr xv), .string (bstr xn), .slice q ks.length c])) (fun iv _ => ks.length - (intOf iv).toNat)
    case atStart => exact ⟨0, Nat.zero_le _, rfl, HC0.out, HA0.out⟩
    case round =>
      obtain ⟨i, hi, rfl, HI⟩ := hrel
      clear HC0 HA0
      have hi0 : (0 : Int) ≤ i := by omega
      have a0 := HI.out.2.cell 0
      have a1 := HI.out.2.cell 1
      have a2 := HI.out.2.cell 2
      have a3 := HI.out.2.cell 3
      simp only [List.getElem?_cons_zero, List.getElem?_cons_succ] at a0 a1 a2 a3
      by_cases hlt : i < ks.length
      · have hi1 : (i : Int) < ks.length := by omega
        obtain ⟨bb, rfl, hb1, hb2⟩ := HQ.out (by omega)
        have HB1 := Lib.hid (And.intro hb1 hb2)
        have HFT : Hid (∀ W, ShO A B W (.mk k0 xv xn ks) (.agg #[.int .i64 k, .string (bstr xv), .string (bstr xn), .slice (some ⟨bb, 0, none⟩) ks.length c]) → ∃ cs u0 u1 u2 u3, Arr W 24 bb cs ∧ cs[i * 4]? = some u0 ∧ cs[i * 4 + 1]? = some u1 ∧ cs[i * 4 + 2]? = some u2 ∧ cs[i * 4 + 3]? = some u3 ∧ ShO A B W (ks.getD i ex0) (.agg #[u0, u1, u2, u3])) := fun W h => by
          unfold ShO at h
          obtain ⟨k', q', c', e, h3⟩ := h
          obtain ⟨b, cs, g1, _, _, g4, g5⟩ := h3 (by omega)
          simp only [Value.agg.injEq, Array.mk.injEq, List.cons.injEq, and_true, Value.slice.injEq] at e
          obtain ⟨_, _, _, rfl, _, _⟩ := e
          simp only [Option.some.injEq, Addr.mk.injEq, and_true] at g1
          subst g1
          obtain ⟨u0, u1, u2, u3, s0, s1, s2, s3, s4⟩ := g5.at (i := i) hlt
          exact ⟨cs, u0, u1, u2, u3, g4, s0, s1, s2, s3, s4⟩
        obtain ⟨cs, u0, u1, u2, u3, gA, g0, g1, g2, g3, g4⟩ := HFT.out wr (HI.out.1.2.2 _ _ H.out)
        have hxs := sizeL_get ks i hlt
        obtain ⟨x, hx⟩ : ∃ x, x = ks.getD i ex0 := ⟨_, rfl⟩
        rw [← hx] at g4 hxs
        obtain ⟨xk, xv2, xn2, xs⟩ := x
        have g5 := g4
        unfold ShO at g5
        obtain ⟨ku, q2, c2, e2, _⟩ := g5
        simp only [Value.agg.injEq, Array.mk.injEq, List.cons.injEq, and_true] at e2
        obtain ⟨rfl, rfl, rfl, rfl⟩ := e2
        have X0 : wr.cell? ⟨bb, i * 4, none⟩ = some (.int .i64 ku) := (gA.cell _).trans g0
        have X1 : wr.cell? ⟨bb, i * 4 + 1, none⟩ = some (.string (bstr xv2)) := (gA.cell _).trans g1
        have X2 : wr.cell? ⟨bb, i * 4 + 2, none⟩ = some (.string (bstr xn2)) := (gA.cell _).trans g2
        have X3 : wr.cell? ⟨bb, i * 4 + 3, none⟩ = some (.slice q2 xs.length c2) := (gA.cell _).trans g3
        have HC := Lib.hid (HIH.out (.mk xk xv2 xn2 xs) _ wr (by omega) (by omega) g4 HAB.out (Nat.le_trans HBW.out HI.out.1.1.size))
        have HWS : Hid (w.heap.size < wr.heap.size) := HI.out.2.lt
        clear gA g0 g1 g2 g3 g4 hx hxs hb1 hb2
        go_wp2_with fail
        refine HC.out.mono ?_
        rintro r w5 ⟨⟨u, rfl⟩, ch⟩
        have HC5 : Hid (ChP A B w w5) := HI.out.1.trans ch
        have HA5 : Hid (Arr w5 24 w.heap.size [.int .i64 k, .string (bstr xv), .string (bstr xn), .slice (some ⟨bb, 0, none⟩) ks.length c]) := (ch.2.1 _ HBW.out HWS.out).trans HI.out.2
        obtain ⟨cs5, y0, y1, y2, y3, gA5, s0, _⟩ := HFT.out w5 (HC5.out.2.2 _ _ H.out)
        have Y0 : w5.cell? ⟨bb, i * 4, none⟩ = some y0 := (gA5.cell _).trans s0
        have F0 := gA5.free (i * 4)
        have HP6 : Hid (ChP A B w (w5.setCell ⟨bb, i * 4, none⟩ (.int .i64 99))) := HC5.out.trans (ChP.put w5 i 99 HB1.out.1 HB1.out.2)
        have HA6 : Hid (Arr (w5.setCell ⟨bb, i * 4, none⟩ (.int .i64 99)) 24 w.heap.size [.int .i64 k, .string (bstr xv), .string (bstr xn), .slice (some ⟨bb, 0, none⟩) ks.length c]) := HA5.out.setCell (by show w.heap.size ≠ bb; have := HB1.out.2; have := HBW.out; omega) _
        have p3 := HA5.out.cell 3
        simp only [List.getElem?_cons_zero, List.getElem?_cons_succ] at p3
        clear ch gA5 s0 a0 a1 a2 a3 X0 X1 X2 X3 HC
        go_wp2_with fail
        go_roundw
        case rel => exact ⟨i + 1, by omega, by go_num, HP6.out, HA6.out⟩
        case measure => simp [intOf]; omega
      · have hi1 : ¬ (i : Int) < ks.length := by omega
        go_wp2_with fail
        go_end0
        exact ⟨⟨_, rfl⟩, HI.out.1⟩
end Go.Proofs.YtigphejoekfclaaDoor
