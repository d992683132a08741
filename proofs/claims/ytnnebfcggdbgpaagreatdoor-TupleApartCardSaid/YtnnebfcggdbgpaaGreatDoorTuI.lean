/-
  tuple.Read's visitor.
-/
import Derived.Test.YtnnebfcggdbgpaaGreatDoorTuF
import Derived.Test.YtnnebfcggdbgpaaGreatDoorTuG
import Derived.Test.YtnnebfcggdbgpaaGreatDoorShf
import Derived.Test.YtnnebfcggdbgpaaGreatDoorNameC
namespace Go.Proofs.YtnnebfcggdbgpaaGreatDoor
open Go.ChangeShapes Go.WideShapes Go.ChangeAt Go.RowKit
open errAs (ErrT)
set_option linter.unusedVariables false

theorem grown_trans {w w1 w2 : World} {r : Option Nat} (h1 : w.grownBy w1 r) (h2 : w1.grownBy w2 r) : w.grownBy w2 r :=
  ⟨h2.os.trans h1.os, h2.tape.trans h1.tape, h2.output.trans h1.output, Nat.le_trans h1.size h2.size, fun k hk hne => (h2.block k (Nat.lt_of_lt_of_le hk h1.size) hne).trans (h1.block k hk hne)⟩
theorem grown_of {w w' : World} (h : Below w.heap.size w w') (r : Option Nat) : w.grownBy w' r := ⟨h.os, h.tape, h.output, h.size, fun k hk _ => h.block k hk⟩
theorem grown_cell {w w' : World} {r : Option Nat} (h : w.grownBy w' r) {a : Addr} (ha : w.heap.size ≤ a.block) (v : Value) : w.grownBy (w'.setCell a v) r :=
  ⟨h.os, h.tape, h.output, Nat.le_trans h.size (by simp [World.setCell]), fun k hk hne => (Below.heap_setCell w' a v k (by omega)).trans (h.block k hk hne)⟩
theorem grown_below' {w w' : World} {c C : Nat} (h : w.grownBy w' (some c)) (hC : C ≤ c) (hw : C ≤ w.heap.size) : Below C w w' := (Below.refl _ _).grown h hw (fun k hk => by injection hk with hk; omega)
theorem Arr.grown {w w' : World} {t : TypeId} {g c : Nat} {cs : List Value} (h : Arr w t g cs) (hg : w.grownBy w' (some c)) (hne : g ≠ c) : Arr w' t g cs := (hg.block g h.lt (fun e => hne (Option.some.inj e))).trans h
theorem errF_zero (n : Nat) : errF 0 n = .nilIface := rfl
theorem eqEC (d : Int) (w : World) : (binOp BinOp.eql 34 (.iface 93 (.int .i64 d)) .nilIface).run Tryz.prog w = .ok (.bool false) w := by kernel_rfl
theorem eqNF (d e : Int) (w : World) : (binOp BinOp.neq 34 (.iface 141 (.agg #[.int .i64 d, .int .i64 e])) .nilIface).run Tryz.prog w = .ok (.bool true) w := by kernel_rfl
/-- The method Cursor.Text, all of it. -/
theorem ctext_all {w : World} {c at' : Nat} {l : List UInt8} (h : Cur w c l at') (most : Nat) (hm : most ≤ 1000) :
    ((partP most (l.drop at')).2.2 ≠ 0 → Calls Tryz.prog 74 #[.pointer (some ⟨c, 0, none⟩), .int .i64 most] w fun e w' => e = .returned (.tuple #[.string ByteArray.empty, .iface 93 (.int .i64 (partP most (l.drop at')).2.2)]) ∧ ∃ n, w' = w.drewN n) ∧
    ((partP most (l.drop at')).2.2 = 0 → Calls Tryz.prog 74 #[.pointer (some ⟨c, 0, none⟩), .int .i64 most] w fun e w' => e = .returned (.tuple #[.string (str (partP most (l.drop at')).1), .nilIface]) ∧ Cur w' c l (at' + (partP most (l.drop at')).2.1) ∧ w.grownBy w' (some c)) := by
  have hle : at' ≤ l.length := by obtain ⟨_, _, _, h3, _⟩ := h; exact h3
  obtain ⟨r, hr⟩ : ∃ r, r = l.drop at' := ⟨_, rfl⟩
  have hrl : r.length = l.length - at' := by rw [hr, List.length_drop]
  rw [← hr]
  by_cases h0 : (num r).2.2 = 0
  · obtain ⟨k0, k1, k2⟩ := num_at h0
    obtain ⟨n, hn⟩ : ∃ n, n = (num r).1 := ⟨_, rfl⟩
    obtain ⟨k, hk⟩ : ∃ k, k = (num r).2.1 := ⟨_, rfl⟩
    have hnum : num (l.drop at') = (n, k, 0) := by rw [← hr, hn, hk, ← h0]
    rw [← hk] at k0 k1
    by_cases h1 : most < n
    · rw [partP_lim h0 (by rw [← hn]; exact h1)]
      exact ⟨fun _ => ctext_lim h most hm h1 hnum, fun e => by cases e⟩
    · by_cases h2 : r.length < k + n
      · rw [partP_short h0 (by rw [← hn]; exact h1) (by rw [← hn, ← hk]; exact h2)]
        exact ⟨fun _ => ctext_short h most hm (by omega) (by omega) (by omega) hnum, fun e => by cases e⟩
      · have hp := partP_yes (most := most) h0 (by rw [← hn]; exact h1) (by rw [← hn, ← hk]; exact h2)
        rw [← hn, ← hk] at hp
        rw [hp, hr]
        refine ⟨fun e => absurd rfl e, fun _ => ?_⟩
        by_cases hz : n = 0
        · exact ctext_nil h most hm hz (by omega) k0 (by omega) hnum
        · exact ctext_yes h most hm (by omega) (by omega) k0 (by omega) hnum
  · rw [partP_num (most := most) h0]
    have hb := numGo_bad r 0 0 h0
    have e1 : (num r).1 = 0 := hb.1
    have e2 : (num r).2.1 = 0 := hb.2
    have hnum : num (l.drop at') = (0, 0, (num r).2.2) := by rw [← hr]; exact Prod.ext e1 (Prod.ext e2 rfl)
    exact ⟨fun _ => ctext_num h most hm h0 hnum, fun e => absurd e h0⟩
/-- The laid variables hold since before the cursor was made. -/
def EnvC (c : Nat) (W : World) : Prop := ∃ wE, Env wE ∧ wE.heap.size ≤ c ∧ Below wE.heap.size wE W
theorem EnvC.env {c : Nat} {W : World} (h : EnvC c W) : Env W := by
  obtain ⟨wE, h1, _, h3⟩ := h
  exact h1.below h3
theorem EnvC.grown {c : Nat} {W W' : World} (h : EnvC c W) (hg : W.grownBy W' (some c)) : EnvC c W' := by
  obtain ⟨wE, h1, h2, h3⟩ := h
  exact ⟨wE, h1, h2, h3.trans (grown_below' hg h2 h3.size)⟩
theorem EnvC.cell {c : Nat} {W : World} (h : EnvC c W) {a : Addr} (ha : c ≤ a.block) (v : Value) : EnvC c (W.setCell a v) := by
  obtain ⟨wE, h1, h2, h3⟩ := h
  exact ⟨wE, h1, h2, h3.setCell (Nat.le_trans h2 ha) v⟩
/-- What Read's visitor keeps: the cursor's cell, the result's cell, the tuple's, the failure's; the cursor. -/
def DI (w0 : World) (c bc br bt bf : Nat) (b : List UInt8) (S : Tu × Nat × Nat) (W : World) : Prop :=
  TuAt W bt S.1 ∧ Arr W 34 bf [errF S.2.2 S.2.1] ∧ Arr W 46 bc [.pointer (some ⟨c, 0, none⟩)] ∧ TuAt W br t0 ∧ Cur W c b S.2.1 ∧ w0.grownBy W (some c) ∧ EnvC c W ∧ (c < w0.heap.size ∧ w0.heap.size ≤ bc ∧ bc < br ∧ br < bt ∧ bt < bf)
variable {w0 W W' : World} {c bc br bt bf A A' : Nat} {b : List UInt8} {t : Tu} {S : Tu × Nat × Nat}
theorem DI.later (h : DI w0 c bc br bt bf b S W) (hb : Below W.heap.size W W') : DI w0 c bc br bt bf b S W' :=
  ⟨h.1.later hb, h.2.1.later hb, h.2.2.1.later hb, h.2.2.2.1.later hb, h.2.2.2.2.1.below hb h.2.2.2.2.1.lt, grown_trans h.2.2.2.2.2.1 (grown_of hb _), h.2.2.2.2.2.2.1.grown (grown_of hb _), h.2.2.2.2.2.2.2⟩
theorem DI.moved (h : DI w0 c bc br bt bf b (t, A, 0) W) (hg : W.grownBy W' (some c)) (hc : Cur W' c b A') : DI w0 c bc br bt bf b (t, A', 0) W' := by
  obtain ⟨h1, h2, h3, h4, h5, h6, h7, h8⟩ := h
  exact ⟨h1.grown hg (by omega), h2.grown hg (by omega), h3.grown hg (by omega), h4.grown hg (by omega), hc, grown_trans h6 hg, h7.grown hg, h8⟩
theorem DI.fails (h : DI w0 c bc br bt bf b (t, A, 0) W) (k : Nat) (hk : k ≠ 0) : DI w0 c bc br bt bf b (t, A, k) (W.setCell ⟨bf, 0, none⟩ (faultN k A)) := by
  obtain ⟨h1, h2, h3, h4, h5, h6, h7, h8⟩ := h
  have e : errF k A = faultN k A := by unfold errF; rw [if_neg hk]
  refine ⟨h1.setCell (a := ⟨bf, 0, none⟩) (by show bt ≠ bf; omega) _, ?_, h3.setCell (a := ⟨bf, 0, none⟩) (by show bc ≠ bf; omega) _, h4.setCell (a := ⟨bf, 0, none⟩) (by show br ≠ bf; omega) _, ?_, grown_cell h6 (by show _ ≤ bf; omega) _, h7.cell (by show c ≤ bf; omega) _, h8⟩
  · show Arr _ _ _ [errF k A]
    rw [e]; exact h2.set 0 _
  · exact h5.below ((Below.refl (c + 1) W).setCell (p := ⟨bf, 0, none⟩) (by show c + 1 ≤ bf; omega) _) (Nat.lt_succ_self _)
theorem tc_set (t : Tu) (i : Nat) (hi : i < 6) (s : ByteArray) : (tc t).set i (.string s) = tc (t.set i s) := by
  rcases (show i = 0 ∨ i = 1 ∨ i = 2 ∨ i = 3 ∨ i = 4 ∨ i = 5 by omega) with rfl | rfl | rfl | rfl | rfl | rfl <;> rfl
theorem tc_cell (t : Tu) (i : Nat) (hi : i < 6) : ∃ s, (tc t)[i]? = some (.string s) := by
  rcases (show i = 0 ∨ i = 1 ∨ i = 2 ∨ i = 3 ∨ i = 4 ∨ i = 5 by omega) with rfl | rfl | rfl | rfl | rfl | rfl <;> exact ⟨_, rfl⟩
theorem DI.part (h : DI w0 c bc br bt bf b (t, A, 0) W) (i : Nat) (hi : i < 6) (s : ByteArray) : DI w0 c bc br bt bf b (t.set i s, A, 0) (W.setCell ⟨bt, i, none⟩ (.string s)) := by
  obtain ⟨h1, h2, h3, h4, h5, h6, h7, h8⟩ := h
  refine ⟨?_, h2.setCell (a := ⟨bt, i, none⟩) (by show bf ≠ bt; omega) _, h3.setCell (a := ⟨bt, i, none⟩) (by show bc ≠ bt; omega) _, h4.setCell (a := ⟨bt, i, none⟩) (by show br ≠ bt; omega) _, ?_, grown_cell h6 (by show _ ≤ bt; omega) _, h7.cell (by show c ≤ bt; omega) _, h8⟩
  · show Arr _ _ _ (tc (t.set i s))
    rw [← tc_set t i hi]; exact Arr.set h1 i _
  · exact h5.below ((Below.refl (c + 1) W).setCell (p := ⟨bt, i, none⟩) (by show c + 1 ≤ bt; omega) _) (Nat.lt_succ_self _)
/-- The cursor's two cells. -/
theorem Cur.two (h : Cur W c b A) : ∃ q p, Arr W 108 c [.slice q b.length p, .int .i64 A] ∧ Rd c W (.slice q b.length p) b ∧ A ≤ b.length ∧ b.length ≤ 140737488355328 := by
  obtain ⟨v, h1, h2, h3, h4⟩ := h
  obtain ⟨q, p, hv⟩ := rd_form h2
  subst hv
  exact ⟨q, p, h1, h2, h3, h4⟩
theorem cur_of {q : Option Addr} {p : Nat} (h1 : Arr W 108 c [.slice q b.length p, .int .i64 A]) (h2 : Rd c W (.slice q b.length p) b) (h3 : A ≤ b.length) (h4 : b.length ≤ 140737488355328) : Cur W c b A := ⟨_, h1, h2, h3, h4⟩
theorem DI.back {q : Option Addr} {p : Nat} (h : DI w0 c bc br bt bf b (t, A', 0) W) (hr : Rd c W (.slice q b.length p) b) (hA : A ≤ b.length) :
    DI w0 c bc br bt bf b (t, A, 0) ((W.setCell ⟨c, 0, none⟩ (.slice q b.length p)).setCell ⟨c, 1, none⟩ (.int .i64 A)) := by
  have hl : b.length ≤ 140737488355328 := by obtain ⟨_, _, _, _, hl⟩ := h.2.2.2.2.1; exact hl
  obtain ⟨q', p', k1, _, _, _⟩ := h.2.2.2.2.1.two
  have k2 := (k1.set 0 (.slice q b.length p)).set 1 (.int .i64 A)
  have hg : W.grownBy ((W.setCell ⟨c, 0, none⟩ (.slice q b.length p)).setCell ⟨c, 1, none⟩ (.int .i64 A)) (some c) := grown_trans (grown_set W 0 c 0 _) (grown_set _ 0 c 1 _)
  exact h.moved hg (cur_of k2 (hr.below (grown_below' hg (Nat.le_refl _) (Nat.le_of_lt k1.lt)) (Nat.le_refl _)) hA hl)
theorem fault_size (k n : Nat) : (match faultN k n with | .agg cs => cs | v => #[v]) = #[faultN k n] := rfl

set_option maxRecDepth 100000 in
set_option maxHeartbeats 2000000 in
theorem readC0 (i : Nat) (hi : i < 6) (h : DI w0 c bc br bt bf b S W) (hbl : b.length ≤ 1000000) : Calls Tryz.prog 73 #[.pointer (some ⟨bt, i, none⟩), .int .i64 64, .func (.func 64) #[] #[], .pointer (some ⟨bf, 0, none⟩), .pointer (some ⟨bc, 0, none⟩)] W fun e W' => e = .returned (.tuple #[]) ∧ DI w0 c bc br bt bf b (stepR b 0 i S) W' := by
  obtain ⟨t, A, cd⟩ := S
  have H := Lib.hid h
  have HBL := Lib.hid hbl
  have HI := Lib.hid hi
  have c0 := h.2.1.cell 0
  simp only [List.getElem?_cons_zero] at c0
  by_cases hc : cd = 0
  · subst hc
    rw [errF_zero] at c0
    have c1 := h.2.2.1.cell 0
    simp only [List.getElem?_cons_zero] at c1
    obtain ⟨q, p, k1, k2, k3, k4⟩ := h.2.2.2.2.1.two
    have d0 := k1.cell 0
    have d1 := k1.cell 1
    simp only [List.getElem?_cons_zero, List.getElem?_cons_succ] at d0 d1
    have HK := Lib.hid (And.intro k2 (And.intro k3 k4))
    have hb1 : Below W.heap.size W (W.alloc (.cells #[.slice q b.length p, .int .i64 A] 108)) := (Below.refl _ _).alloc (Nat.le_refl _) _
    have H1 := Lib.hid (h.later hb1)
    have HN1 := Lib.hid (Arr.new' W 108 #[.slice q b.length p, .int .i64 A] _ rfl)
    have HR1 := Lib.hid (k2.below hb1 (Nat.le_of_lt k1.lt))
    have HT := Lib.hid (ctext_all (h.later hb1).2.2.2.2.1 64 (by omega))
    have HCB : Hid (c < W.heap.size) := k1.lt
    have c2 := (h.later hb1).2.2.1.cell 0
    simp only [List.getElem?_cons_zero] at c2
    have hq := eqNC
    have hq2 := eqEC
    clear k1 k2 k3 k4 hb1 h hi hbl
    go_enter Tryz.func73, Tryz.ntmps73
    go_wp2_with fail
    generalize W.alloc (.cells #[.slice q b.length p, .int .i64 A] 108) = w1 at H1 HN1 HR1 HT c2 ⊢
    generalize W.heap.size = g at HN1 HCB ⊢
    obtain ⟨P, hP⟩ : ∃ P, P = (partP 64 (b.drop A)) := ⟨_, rfl⟩
    have HSB := Lib.hid (fun h2 : P.2.2 ≠ 0 => stepR_bad (b := b) (k := 0) (i := i) (S := (t, A, 0)) rfl (by show (partP (mostK 0) (b.drop A)).2.2 ≠ 0; rw [show mostK 0 = 64 from rfl, ← hP]; exact h2))
    have HSN := Lib.hid (fun (h2 : P.2.2 = 0) (h3 : isName (str P.1) = false) => stepR_name (b := b) (k := 0) (i := i) (S := (t, A, 0)) rfl (by show (partP (mostK 0) (b.drop A)).2.2 = 0; rw [show mostK 0 = 64 from rfl, ← hP]; exact h2) (by show testK 0 (str (partP (mostK 0) (b.drop A)).1) = false; rw [show mostK 0 = 64 from rfl, ← hP]; exact h3))
    have HSY := Lib.hid (fun (h2 : P.2.2 = 0) (h3 : isName (str P.1) = true) => stepR_yes (b := b) (k := 0) (i := i) (S := (t, A, 0)) rfl (by show (partP (mostK 0) (b.drop A)).2.2 = 0; rw [show mostK 0 = 64 from rfl, ← hP]; exact h2) (by show testK 0 (str (partP (mostK 0) (b.drop A)).1) = true; rw [show mostK 0 = 64 from rfl, ← hP]; exact h3))
    rw [show mostK 0 = 64 from rfl] at HSB HSY
    simp only [← hP] at HSB HSN HSY HT
    clear hP
    by_cases h2 : P.2.2 = 0
    · have HT2 := Lib.hid (HT.out.2 h2)
      obtain ⟨s, hs⟩ : ∃ s, s = str P.1 := ⟨_, rfl⟩
      have HSN2 := Lib.hid (HSN.out h2)
      have HSY2 := Lib.hid (HSY.out h2)
      rw [← hs] at HT2 HSN2 HSY2
      obtain ⟨A2, hA2⟩ : ∃ A2, A2 = A + P.2.1 := ⟨_, rfl⟩
      simp only [← hA2] at HT2 HSY2
      clear hs hA2 HT HSB HSN HSY h2
      refine HT2.out.mono ?_
      rintro e w2 ⟨rfl, u2, g2⟩
      have HI2 := Lib.hid (H1.out.moved g2 u2)
      have HN2 := Lib.hid (HN1.out.grown g2 (by have := HCB.out; omega))
      have HR2 := Lib.hid (HR1.out.below (grown_below' g2 (Nat.le_refl c) (Nat.le_of_lt H1.out.2.2.2.2.1.lt)) (Nat.le_refl _))
      have HRES := Lib.hid HI2.out.2.2.2.2.2.2.1.env.1
      clear u2 g2 H1 HN1 HR1 HT2
      cases hv : isName s with
      | true =>
        have HV := Lib.hid hv
        have HST := Lib.hid (HSY2.out HV.out)
        clear hv HSY2 HSN2
        go_wp2_with fail
        refine (isName_any s _ HRES.out).mono ?_
        rintro e w3 ⟨rfl, b3⟩
        rw [HV.out]
        have HI3 := Lib.hid (HI2.out.later b3)
        obtain ⟨s0, hs0⟩ := tc_cell t i HI.out
        have d3 := Arr.cell HI3.out.1 i
        have f3 := Arr.free HI3.out.1 i
        rw [hs0] at d3
        clear b3 hs0 HI2 HN2 HR2 HRES
        go_wp2_with fail
        go_end0
        exact ⟨rfl, by rw [HST.out]; exact HI3.out.part i HI.out s⟩
      | false =>
        have HV := Lib.hid hv
        have HST := Lib.hid (HSN2.out HV.out)
        clear hv HSY2 HSN2
        go_wp2_with fail
        refine (isName_any s _ HRES.out).mono ?_
        rintro e w3 ⟨rfl, b3⟩
        rw [HV.out]
        have HI3 := Lib.hid (HI2.out.later b3)
        have HN3 := Lib.hid (HN2.out.later b3)
        have HR3 := Lib.hid (HR2.out.below b3 (Nat.le_of_lt HI2.out.2.2.2.2.1.lt))
        have e1 := HI3.out.2.2.1.cell 0
        have e2 := HN3.out.cell 0
        have e3 := HN3.out.cell 1
        obtain ⟨q4, p4, k4, _⟩ := HI3.out.2.2.2.2.1.two
        have e4 := k4.cell 0
        have e5 := k4.cell 1
        have e6 := k4.free 0
        have e7 := k4.free 1
        simp only [List.getElem?_cons_zero, List.getElem?_cons_succ] at e1 e2 e3 e4 e5
        have HI4 := Lib.hid (HI3.out.back HR3.out HK.out.2.1)
        have HN4 := Lib.hid ((HN3.out.setCell (a := ⟨c, 0, none⟩) (by show g ≠ c; have := HCB.out; omega) (.slice q b.length p)).setCell (a := ⟨c, 1, none⟩) (by show g ≠ c; have := HCB.out; omega) (.int .i64 A))
        have HERR := Lib.hid HI4.out.2.2.2.2.2.2.1.env.2.1
        have HC3 : Hid (Cur ((w3.setCell ⟨c, 0, none⟩ (.slice q b.length p)).setCell ⟨c, 1, none⟩ (.int .i64 A)) g b A) := cur_of HN4.out ((HR3.out.below (grown_below' (grown_trans (grown_set w3 0 c 0 (.slice q b.length p)) (grown_set _ 0 c 1 (.int .i64 A))) (Nat.le_refl c) (Nat.le_of_lt HI3.out.2.2.2.2.1.lt)) (Nat.le_refl c)).mono (Nat.le_of_lt HCB.out)) HK.out.2.1 HK.out.2.2
        have HAL : A ≤ 1000000 := by have := HK.out.2.1; have := HBL.out; omega
        clear b3 k4 HI2 HN2 HR2 HRES HN3 HR3 HN4 HI3
        have HI3 := HI4
        clear HI4
        go_wp2_with fail
        refine (at_any HC3.out).mono ?_
        rintro e w4 ⟨rfl, hw4⟩
        subst hw4
        have HSH := Lib.hid (shift_Cn 5 A _ HERR.out (by omega))
        unfold faultN at HSH
        go_wp2_with fail
        refine HSH.out.mono ?_
        rintro e w5 ⟨rfl, b5⟩
        have HI5 := Lib.hid (HI3.out.later b5)
        have f5 := HI5.out.2.1.free 0
        have c5 := HI5.out.2.1.cell 0
        simp only [List.getElem?_cons_zero, errF_zero] at c5
        clear b5 HSH HI3 HC3 HERR
        go_wp2_with fail
        refine bodyPost_ret (results_none rfl _ _ _) rfl ?_
        exact ⟨rfl, by rw [HST.out]; exact HI5.out.fails 5 (by decide)⟩
    · have HT2 := Lib.hid (HT.out.1 h2)
      have HST := Lib.hid (HSB.out h2)
      obtain ⟨cd, hcd⟩ : ∃ cd, cd = P.2.2 := ⟨_, rfl⟩
      rw [← hcd] at HT2 h2 HST
      have H2 := Lib.hid h2
      clear HT HSB HSN HSY h2 hcd
      refine HT2.out.mono ?_
      rintro e w2 ⟨rfl, n2, rfl⟩
      have b2 := below_drewN (Below.refl w1.heap.size w1) n2
      have HI3 := Lib.hid (H1.out.later b2)
      have HR2 := HR1.out.below b2 (Nat.le_of_lt H1.out.2.2.2.2.1.lt)
      have HC3 : Hid (Cur (w1.drewN n2) g b A) := cur_of (HN1.out.later b2) (HR2.mono (Nat.le_of_lt HCB.out)) HK.out.2.1 HK.out.2.2
      have HERR := Lib.hid HI3.out.2.2.2.2.2.2.1.env.2.1
      have HAL : A ≤ 1000000 := by have := HK.out.2.1; have := HBL.out; omega
      clear b2 HR2 H1 HN1 HR1 HT2
      generalize w1.drewN n2 = w2 at HI3 HC3 HERR ⊢
      go_wp2_with fail
      refine (at_any HC3.out).mono ?_
      rintro e w4 ⟨rfl, hw4⟩
      subst hw4
      have HSH := Lib.hid (shift_Cn cd A _ HERR.out (by omega))
      unfold faultN at HSH
      go_wp2_with fail
      refine HSH.out.mono ?_
      rintro e w5 ⟨rfl, b5⟩
      have HI5 := Lib.hid (HI3.out.later b5)
      have f5 := HI5.out.2.1.free 0
      have c5 := HI5.out.2.1.cell 0
      simp only [List.getElem?_cons_zero, errF_zero] at c5
      clear b5 HSH HI3 HC3 HERR
      go_wp2_with fail
      refine bodyPost_ret (results_none rfl _ _ _) rfl ?_
      exact ⟨rfl, by rw [HST.out]; exact HI5.out.fails cd H2.out⟩
  · have hs : stepR b 0 i (t, A, cd) = (t, A, cd) := stepR_stop hc
    rw [hs]
    have c0' : W.cell? ⟨bf, 0, none⟩ = some (.iface 141 (.agg #[.int .i64 cd, .int .i64 A])) := by
      rw [c0]; unfold errF; rw [if_neg hc]; rfl
    have hq : ∀ w, (binOp BinOp.neq 34 (.iface 141 (.agg #[.int .i64 cd, .int .i64 A])) .nilIface).run Tryz.prog w = .ok (.bool true) w := fun w => eqNF cd A w
    clear c0 h hc hs hi hbl
    go_enter Tryz.func73, Tryz.ntmps73
    go_wp2_with fail
    refine bodyPost_ret (results_none rfl _ _ _) rfl ?_
    exact ⟨rfl, H.out⟩
end Go.Proofs.YtnnebfcggdbgpaaGreatDoor
