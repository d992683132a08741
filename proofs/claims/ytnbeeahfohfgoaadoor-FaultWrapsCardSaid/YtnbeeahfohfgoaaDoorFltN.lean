/-
  vestrylaw02.FaultFinds: the walk.
-/
import Derived.Test.YtnbeeahfohfgoaaDoorFltM
import Derived.BigQuiet
namespace Go.Proofs.YtnbeeahfohfgoaaDoor
open Go.ChangeShapes Go.WideShapes Go.ChangeAt Go.RowKit Go.Extern Go.Stop Go.Extern.Stop errAs
set_option linter.unusedVariables false

set_option maxRecDepth 100000 in
theorem build_nil (sl : Value) (c a : Int) (f : Bool) (w : World) :
    Calls Tryd.prog 8 #[errD true sl c a f] w fun e w' => e = .returned .nilIface ∧ Below w.heap.size w w' := by
  unfold errD
  go_enter Tryd.func8, Tryd.ntmps8
  go_wp2_with fail
  go_ret
  exact ⟨rfl, (Below.refl w.heap.size w).alloc (Nat.le_refl _) _⟩
theorem few_use {l : List ByteArray} {a : Int} (h : fewB l a = true) : l.length ≤ 20 ∧ (∀ q ∈ l, q.size ≤ 50) ∧ -1152921504606846976 < a ∧ a < 1152921504606846976 := by
  unfold fewB at h
  rw [Bool.and_eq_true, List.all_eq_true, decide_eq_true_eq] at h
  exact ⟨h.2.1, fun q hq => by simpa using h.1 q hq, h.2.2⟩
/-- The cells of a description in memory. -/
def Desc (w : World) (b : Nat) (nl : Bool) (sl : Value) (c a : Int) (f : Bool) : Prop :=
  w.cell? ⟨b, 0, none⟩ = some (.bool nl) ∧ w.cell? ⟨b, 1, none⟩ = some sl ∧ w.cell? ⟨b, 2, none⟩ = some (.int .i64 c) ∧ w.cell? ⟨b, 3, none⟩ = some (.int .i64 a) ∧ w.cell? ⟨b, 4, none⟩ = some (.bool f)
theorem Desc.below {w w' : World} {b : Nat} {nl f : Bool} {sl : Value} {c a : Int} (h : Desc w b nl sl c a f) (hb : Below w.heap.size w w') : Desc w' b nl sl c a f := by
  obtain ⟨h0, h1, h2, h3, h4⟩ := h
  exact ⟨(hb.cell (by exact blk h0)).trans h0, (hb.cell (by exact blk h1)).trans h1, (hb.cell (by exact blk h2)).trans h2, (hb.cell (by exact blk h3)).trans h3, (hb.cell (by exact blk h4)).trans h4⟩
theorem Desc.new (w : World) (nl : Bool) (sl : Value) (c a : Int) (f : Bool) : Desc (w.alloc (.cells #[.bool nl, sl, .int .i64 c, .int .i64 a, .bool f] 24)) w.heap.size nl sl c a f := by
  have k0 := heap_alloc_new w (.cells #[.bool nl, sl, .int .i64 c, .int .i64 a, .bool f] 24)
  exact ⟨cell_of_row _ _ 0 _ _ _ k0, cell_of_row _ _ 1 _ _ _ k0, cell_of_row _ _ 2 _ _ _ k0, cell_of_row _ _ 3 _ _ _ k0, cell_of_row _ _ 4 _ _ _ k0⟩
theorem quiet_run {P : Program} {C : World → Prop} {o : Oper} {a : Act} {K : Act → Prop} {v : Value} (h : ∀ w, C w → (execOp a.eval o).run P w = .ok (.value v) w) (hk : K (a.put o.dst v)) : o.quiet P a C K :=
  ⟨v, fun w hC => by unfold Oper.quietAt; rw [h w hC]; exact ⟨rfl, rfl⟩, hk⟩
theorem quiet_enter {P : Program} {C : World → Prop} {o : Oper} {a : Act} {K : Act → Prop} {v : Value} {f : FuncId} {args : Array Value} (h : ∀ w, C w → (execOp a.eval o).run P w = .ok (.enter f args) w)
    (hc : ∀ w, C w → Calls P f args w fun e w' => e = .returned v ∧ C w') (hk : K (a.put o.dst v)) : o.quiet P a C K :=
  ⟨v, fun w hC => by unfold Oper.quietAt; rw [h w hC]; exact ⟨rfl, hc w hC⟩, hk⟩
/-- The worlds that a law's last region goes through. -/
def Held (w : World) (sl : Value) (l : List ByteArray) (c a : Int) (f : Bool) (w' : World) : Prop :=
  Below w.heap.size w w' ∧ Desc w' w.heap.size false sl c a f ∧ Strs w' sl l ∧ TabT w'
theorem Held.below {w : World} {sl : Value} {l : List ByteArray} {c a : Int} {f : Bool} {w' w'' : World} (h : Held w sl l c a f w') (b : Below w'.heap.size w' w'') : Held w sl l c a f w'' :=
  ⟨h.1.trans (b.mono h.1.size), h.2.1.below b, h.2.2.1.below b, h.2.2.2.below b⟩
theorem Held.cells {w : World} {sl : Value} {l : List ByteArray} {c a : Int} {f : Bool} {w' : World} (h : Held w sl l c a f w') :
    w'.cell? ⟨w.heap.size, 0, none⟩ = some (.bool false) ∧ w'.cell? ⟨w.heap.size, 1, none⟩ = some sl ∧ w'.cell? ⟨w.heap.size, 2, none⟩ = some (.int .i64 c) ∧ w'.cell? ⟨w.heap.size, 3, none⟩ = some (.int .i64 a) ∧ w'.cell? ⟨w.heap.size, 4, none⟩ = some (.bool f) := h.2.1

set_option maxRecDepth 100000 in
set_option maxHeartbeats 4000000 in
theorem finds_rest (nl f : Bool) (sl : Value) (l : List ByteArray) (c a : Int) (w : World) (h : EnvF w) (hs : Strs w sl l) (hl : l.length ≤ 9223372036854775807) (hc0 : -9223372036854775808 ≤ c) (hc1 : c ≤ 9223372036854775807) (hnf : fewB l a = false ∨ nl = true) :
    Calls Tryd.prog 3 #[errD nl sl c a f] w fun e w' => e = .returned (.bool true) ∧ Below w.heap.size w w' := by
  have hb := (Below.refl w.heap.size w).alloc (Nat.le_refl _) (.cells #[.bool nl, sl, .int .i64 c, .int .i64 a, .bool f] 24)
  have hd := Desc.new w nl sl c a f
  have he := h.below hb
  have hs0 := hs.below hb
  have HFEW := Lib.hid (fun w hs => few_any nl sl l c a f w hs hl)
  unfold errD at HFEW ⊢
  obtain ⟨w0, hw0⟩ : ∃ w0, w0 = w.alloc (.cells #[.bool nl, sl, .int .i64 c, .int .i64 a, .bool f] 24) := ⟨_, rfl⟩
  rw [← hw0] at hb hd he hs0
  have HB := Lib.hid hb
  have HD := Lib.hid hd
  have HE := Lib.hid he
  have HS := Lib.hid hs0
  have HW := Lib.hid hw0
  clear hb hd he hs0 hw0 h hs hl
  go_enter Tryd.func3, Tryd.ntmps3
  go_wp2_with fail
  rw [← HW.out]
  refine (fawake_any _ HE.out).mono ?_
  rintro e w1 ⟨rfl, b1⟩
  have HB1 := Lib.hid (HB.out.trans (b1.mono HB.out.size))
  have HE1 := Lib.hid (HE.out.below b1)
  have HD1 := Lib.hid (HD.out.below b1)
  have HS1 := Lib.hid (HS.out.below b1)
  clear b1 HB HE HD HS HW
  obtain ⟨c0, c1, c2, c3, c4⟩ := HD1.out
  go_wp2_with fail
  refine (HFEW.out _ HS1.out).mono ?_
  rintro e w2 ⟨rfl, b2⟩
  have HB2 := Lib.hid (HB1.out.trans (b2.mono HB1.out.size))
  have HE2 := Lib.hid (HE1.out.below b2)
  have HD2 := Lib.hid (HD1.out.below b2)
  have HS2 := Lib.hid (HS1.out.below b2)
  clear b2 HB1 HE1 HD1 HS1 c0 c1 c2 c3 c4 HFEW
  obtain ⟨fw, hfw⟩ : ∃ fw, fw = fewB l a := ⟨_, rfl⟩
  rw [← hfw]
  have HU := Lib.hid hfw
  clear hfw
  cases fw with
  | false =>
    clear hnf
    go_wp2_with fail
    refine (fawake_any _ HE2.out).mono ?_
    rintro e w3 ⟨rfl, b3⟩
    go_wp2_with fail
    go_ret
    exact ⟨rfl, HB2.out.trans (b3.mono HB2.out.size)⟩
  | true =>
    obtain ⟨c0, c1, c2, c3, c4⟩ := HD2.out
    cases nl with
    | false => exact (by rcases hnf with h | h; rw [← HU.out] at h; cases h; cases h)
    | true =>
      have HBU := Lib.hid (build_nil sl c a f)
      unfold errD at HBU
      clear hnf
      go_wp2_with fail
      refine (HBU.out _).mono ?_
      rintro e w3 ⟨rfl, b3⟩
      have HB3 := Lib.hid (HB2.out.trans (b3.mono HB2.out.size))
      have HE3 := Lib.hid (HE2.out.below b3)
      have HD3 := Lib.hid (HD2.out.below b3)
      clear b3 HB2 HE2 HD2 HS2 c0 c1 c2 c3 c4
      go_wp2_with fail
      refine (code_nil _ HE3.out.1).mono ?_
      rintro e w4 ⟨rfl, b4⟩
      have HB4 := Lib.hid (HB3.out.trans (b4.mono HB3.out.size))
      have HE4 := Lib.hid (HE3.out.below b4)
      have HD4 := Lib.hid (HD3.out.below b4)
      clear b4 HB3 HE3 HD3
      go_wp2_with fail
      refine (at_nil _ HE4.out.1).mono ?_
      rintro e w5 ⟨rfl, b5⟩
      have HB5 := Lib.hid (HB4.out.trans (b5.mono HB4.out.size))
      have HD5 := Lib.hid (HD4.out.below b5)
      clear b5 HB4 HE4 HD4
      obtain ⟨c0, c1, c2, c3, c4⟩ := HD5.out
      go_wp2_with fail
      go_ret
      exact ⟨rfl, HB5.out⟩
end Go.Proofs.YtnbeeahfohfgoaaDoor
