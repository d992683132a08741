/-
  vestrylaw02.FaultWraps: the walk.
-/
import Derived.Test.YtnbeeahfohfgoaaDoorFltN
namespace Go.Proofs.YtnbeeahfohfgoaaDoor
open Go.ChangeShapes Go.WideShapes Go.ChangeAt Go.RowKit Go.Extern Go.Stop Go.Extern.Stop errAs
set_option linter.unusedVariables false

theorem wrap_ne (c : Int) : c ≠ wrap64 (c + 1) := by
  unfold wrap64
  omega

set_option maxRecDepth 100000 in
set_option maxHeartbeats 4000000 in
theorem wraps_rest (nl f : Bool) (sl : Value) (l : List ByteArray) (c a : Int) (p : ByteArray) (w : World) (h : EnvF w) (hs : Strs w sl l) (hl : l.length ≤ 9223372036854775807) (hc0 : -9223372036854775808 ≤ c) (hc1 : c ≤ 9223372036854775807) (hnf : fewB l a = false ∨ nl = true ∨ 50 < p.size) :
    Calls Tryd.prog 5 #[errD nl sl c a f, .string p] w fun e w' => e = .returned (.bool true) ∧ Below w.heap.size w w' := by
  have hb := (Below.refl w.heap.size w).alloc (Nat.le_refl _) (.cells #[.bool nl, sl, .int .i64 c, .int .i64 a, .bool f] 24)
  have hd := Desc.new w nl sl c a f
  have he := h.below hb
  have hs0 := hs.below hb
  have HFEW := Lib.hid (fun w hs => few_any nl sl l c a f w hs hl)
  unfold errD at HFEW ⊢
  obtain ⟨w0, hw0⟩ : ∃ w0, w0 = w.alloc (.cells #[.bool nl, sl, .int .i64 c, .int .i64 a, .bool f] 24) := ⟨_, rfl⟩
  rw [← hw0] at hb hd he hs0
  have HB := Lib.hid hb
  have HD := Lib.hid hd
  have HE := Lib.hid he
  have HS := Lib.hid hs0
  have HW := Lib.hid hw0
  clear hb hd he hs0 hw0 h hs hl
  go_enter Tryd.func5, Tryd.ntmps5
  go_wp2_with fail
  rw [← HW.out]
  refine (fawake_any _ HE.out).mono ?_
  rintro e w1 ⟨rfl, b1⟩
  have HB1 := Lib.hid (HB.out.trans (b1.mono HB.out.size))
  have HE1 := Lib.hid (HE.out.below b1)
  have HD1 := Lib.hid (HD.out.below b1)
  have HS1 := Lib.hid (HS.out.below b1)
  clear b1 HB HE HD HS HW
  obtain ⟨c0, c1, c2, c3, c4⟩ := HD1.out
  go_wp2_with fail
  refine (HFEW.out _ HS1.out).mono ?_
  rintro e w2 ⟨rfl, b2⟩
  have HB2 := Lib.hid (HB1.out.trans (b2.mono HB1.out.size))
  have HE2 := Lib.hid (HE1.out.below b2)
  have HD2 := Lib.hid (HD1.out.below b2)
  have HS2 := Lib.hid (HS1.out.below b2)
  clear b2 HB1 HE1 HD1 HS1 c0 c1 c2 c3 c4 HFEW
  obtain ⟨fw, hfw⟩ : ∃ fw, fw = fewB l a := ⟨_, rfl⟩
  rw [← hfw]
  have HU := Lib.hid hfw
  clear hfw
  cases fw with
  | false =>
    clear hnf
    go_wp2_with fail
    refine (fawake_any _ HE2.out).mono ?_
    rintro e w3 ⟨rfl, b3⟩
    go_wp2_with fail
    go_ret
    exact ⟨rfl, HB2.out.trans (b3.mono HB2.out.size)⟩
  | true =>
    obtain ⟨c0, c1, c2, c3, c4⟩ := HD2.out
    cases nl with
    | true =>
      clear hnf
      go_wp2_with fail
      refine (fawake_any _ HE2.out).mono ?_
      rintro e w3 ⟨rfl, b3⟩
      go_wp2_with fail
      go_ret
      exact ⟨rfl, HB2.out.trans (b3.mono HB2.out.size)⟩
    | false =>
      have hp : 50 < p.size := by rcases hnf with h | h | h; (rw [← HU.out] at h; cases h); cases h; exact h
      have hp' : (50 : Int) < p.size := by omega
      clear hnf
      go_wp2_with fail
      refine (fawake_any _ HE2.out).mono ?_
      rintro e w3 ⟨rfl, b3⟩
      go_wp2_with fail
      go_ret
      exact ⟨rfl, HB2.out.trans (b3.mono HB2.out.size)⟩

set_option maxRecDepth 100000 in
set_option maxHeartbeats 4000000 in
theorem wraps_stepC (f : Bool) (sl v : Value) (l : List ByteArray) (c a : Int) (p tx : ByteArray) (w : World) (h : EnvF w) (hs : Strs w sl l) (hl : l.length ≤ 9223372036854775807) (hw : fewB l a = true) (hp : ¬ 50 < p.size) (hc0 : -9223372036854775808 ≤ c) (hc1 : c ≤ 9223372036854775807)
    (hbu : ∀ w, Strs w sl l → Calls Tryd.prog 8 #[errD false sl c a f] w fun e w' => e = .returned (.iface 30 v) ∧ Below w.heap.size w w')
    (hin : ∀ w, Calls Tryd.prog 13 #[.string p, .iface 30 v] w fun e w' => e = .returned (.iface 52 (.agg #[.string p, .iface 30 v])) ∧ Below w.heap.size w w')
    (his : ∀ d w, Calls Tryd.prog 15 #[.iface 52 (.agg #[.string p, .iface 30 v]), .iface 30 (.int .i64 d)] w fun e w' => e = .returned (.bool (decide (c = d))) ∧ Below w.heap.size w w')
    (hx : ∀ w, TabT w → Calls Tryd.prog 64 #[v] w fun e w' => e = .returned (.string tx) ∧ Below w.heap.size w w') :
    Calls Tryd.prog 5 #[errD false sl c a f, .string p] w fun e w' => e = .returned (.bool true) ∧ Below w.heap.size w w' := by
  have HBU := Lib.hid hbu
  have HIN := Lib.hid hin
  have HIS := Lib.hid his
  have HX := Lib.hid hx
  have HU := Lib.hid hw
  have HUN := Lib.hid (fun w => eunwrap_any p (.iface 30 v) w)
  have hm := method_C v
  have hp' : ¬ (50 : Int) < p.size := by omega
  have HWN : Hid ((!decide (c = wrap64 (c + 1))) = true) := by show _ = _; rw [decide_eq_false (wrap_ne c)]; rfl
  unfold errD at HBU
  clear hbu hin his hx hw
  have hb := (Below.refl w.heap.size w).alloc (Nat.le_refl _) (.cells #[.bool false, sl, .int .i64 c, .int .i64 a, .bool f] 24)
  have hd := Desc.new w false sl c a f
  have he := h.below hb
  have hs0 := hs.below hb
  have HFEW := Lib.hid (fun w hs => few_any false sl l c a f w hs hl)
  unfold errD at HFEW ⊢
  obtain ⟨w0, hw0⟩ : ∃ w0, w0 = w.alloc (.cells #[.bool false, sl, .int .i64 c, .int .i64 a, .bool f] 24) := ⟨_, rfl⟩
  rw [← hw0] at hb hd he hs0
  have HB := Lib.hid hb
  have HD := Lib.hid hd
  have HE := Lib.hid he
  have HS := Lib.hid hs0
  have HW := Lib.hid hw0
  clear hb hd he hs0 hw0 h hs hl
  go_enter Tryd.func5, Tryd.ntmps5
  go_wp2_with fail
  rw [← HW.out]
  refine (fawake_any _ HE.out).mono ?_
  rintro e w1 ⟨rfl, b1⟩
  have HB1 := Lib.hid (HB.out.trans (b1.mono HB.out.size))
  have HE1 := Lib.hid (HE.out.below b1)
  have HD1 := Lib.hid (HD.out.below b1)
  have HS1 := Lib.hid (HS.out.below b1)
  clear b1 HB HE HD HS HW
  obtain ⟨c0, c1, c2, c3, c4⟩ := HD1.out
  go_wp2_with fail
  refine (HFEW.out _ HS1.out).mono ?_
  rintro e w2 ⟨rfl, b2⟩
  have HB2 := Lib.hid (HB1.out.trans (b2.mono HB1.out.size))
  have HE2 := Lib.hid (HE1.out.below b2)
  have HD2 := Lib.hid (HD1.out.below b2)
  have HS2 := Lib.hid (HS1.out.below b2)
  clear b2 HB1 HE1 HD1 HS1 c0 c1 c2 c3 c4 HFEW
  rw [HU.out]
  obtain ⟨c0, c1, c2, c3, c4⟩ := HD2.out
  go_wp2_with fail
  refine (HBU.out _ HS2.out).mono ?_
  rintro e w3 ⟨rfl, b3⟩
  have HB3 := Lib.hid (HB2.out.trans (b3.mono HB2.out.size))
  have HE3 := Lib.hid (HE2.out.below b3)
  have HD3 := Lib.hid (HD2.out.below b3)
  have HS3 := Lib.hid (HS2.out.below b3)
  clear b3 HB2 HE2 HD2 HS2 c0 c1 c2 c3 c4
  go_wp2_with fail
  refine (HIN.out _).mono ?_
  rintro e w4 ⟨rfl, b4⟩
  have HB4 := Lib.hid (HB3.out.trans (b4.mono HB3.out.size))
  have HE4 := Lib.hid (HE3.out.below b4)
  have HD4 := Lib.hid (HD3.out.below b4)
  have HS4 := Lib.hid (HS3.out.below b4)
  clear b4 HB3 HE3 HD3 HS3
  go_wp2_with fail
  refine (HUN.out _).mono ?_
  rintro e w5 ⟨rfl, b5⟩
  have HB5 := Lib.hid (HB4.out.trans (b5.mono HB4.out.size))
  have HE5 := Lib.hid (HE4.out.below b5)
  have HD5 := Lib.hid (HD4.out.below b5)
  have HS5 := Lib.hid (HS4.out.below b5)
  clear b5 HB4 HE4 HD4 HS4
  obtain ⟨c0, c1, c2, c3, c4⟩ := HD5.out
  go_wp2_with fail
  refine (HX.out _ HE5.out.2.2).mono ?_
  rintro e w6 ⟨rfl, b6⟩
  have HB6 := Lib.hid (HB5.out.trans (b6.mono HB5.out.size))
  have HE6 := Lib.hid (HE5.out.below b6)
  have HD6 := Lib.hid (HD5.out.below b6)
  clear b6 HB5 HE5 HD5 HS5 c0 c1 c2 c3 c4
  go_wp2_with fail
  refine (HX.out _ HE6.out.2.2).mono ?_
  rintro e w7 ⟨rfl, b7⟩
  have HB7 := Lib.hid (HB6.out.trans (b7.mono HB6.out.size))
  have HD7 := Lib.hid (HD6.out.below b7)
  clear b7 HB6 HE6 HD6
  obtain ⟨c0, c1, c2, c3, c4⟩ := HD7.out
  go_wp2_with fail
  refine (HIS.out c _).mono ?_
  rintro e w8 ⟨rfl, b8⟩
  have HB8 := Lib.hid (HB7.out.trans (b8.mono HB7.out.size))
  have HD8 := Lib.hid (HD7.out.below b8)
  clear b8 HB7 HD7 c0 c1 c2 c3 c4
  obtain ⟨c0, c1, c2, c3, c4⟩ := HD8.out
  rw [decide_eq_true (rfl : c = c)]
  go_wp2_with fail
  refine (HIS.out _ _).mono ?_
  rintro e w9 ⟨rfl, b9⟩
  have HB9 := Lib.hid (HB8.out.trans (b9.mono HB8.out.size))
  clear b9 HB8 HD8 c0 c1 c2 c3 c4
  go_wp2_with fail
  go_ret
  exact ⟨ret_b HWN.out, HB9.out⟩

set_option maxRecDepth 100000 in
set_option maxHeartbeats 4000000 in
theorem wraps_stepF (f : Bool) (sl v : Value) (l : List ByteArray) (c a : Int) (p tx : ByteArray) (w : World) (h : EnvF w) (hs : Strs w sl l) (hl : l.length ≤ 9223372036854775807) (hw : fewB l a = true) (hp : ¬ 50 < p.size) (hc0 : -9223372036854775808 ≤ c) (hc1 : c ≤ 9223372036854775807)
    (hbu : ∀ w, Strs w sl l → Calls Tryd.prog 8 #[errD false sl c a f] w fun e w' => e = .returned (.iface 47 v) ∧ Below w.heap.size w w')
    (hin : ∀ w, Calls Tryd.prog 13 #[.string p, .iface 47 v] w fun e w' => e = .returned (.iface 52 (.agg #[.string p, .iface 47 v])) ∧ Below w.heap.size w w')
    (his : ∀ d w, Calls Tryd.prog 15 #[.iface 52 (.agg #[.string p, .iface 47 v]), .iface 30 (.int .i64 d)] w fun e w' => e = .returned (.bool (decide (c = d))) ∧ Below w.heap.size w w')
    (hx : ∀ w, TabT w → Calls Tryd.prog 65 #[v] w fun e w' => e = .returned (.string tx) ∧ Below w.heap.size w w') :
    Calls Tryd.prog 5 #[errD false sl c a f, .string p] w fun e w' => e = .returned (.bool true) ∧ Below w.heap.size w w' := by
  have HBU := Lib.hid hbu
  have HIN := Lib.hid hin
  have HIS := Lib.hid his
  have HX := Lib.hid hx
  have HU := Lib.hid hw
  have HUN := Lib.hid (fun w => eunwrap_any p (.iface 47 v) w)
  have hm := method_F v
  have hp' : ¬ (50 : Int) < p.size := by omega
  have HWN : Hid ((!decide (c = wrap64 (c + 1))) = true) := by show _ = _; rw [decide_eq_false (wrap_ne c)]; rfl
  unfold errD at HBU
  clear hbu hin his hx hw
  have hb := (Below.refl w.heap.size w).alloc (Nat.le_refl _) (.cells #[.bool false, sl, .int .i64 c, .int .i64 a, .bool f] 24)
  have hd := Desc.new w false sl c a f
  have he := h.below hb
  have hs0 := hs.below hb
  have HFEW := Lib.hid (fun w hs => few_any false sl l c a f w hs hl)
  unfold errD at HFEW ⊢
  obtain ⟨w0, hw0⟩ : ∃ w0, w0 = w.alloc (.cells #[.bool false, sl, .int .i64 c, .int .i64 a, .bool f] 24) := ⟨_, rfl⟩
  rw [← hw0] at hb hd he hs0
  have HB := Lib.hid hb
  have HD := Lib.hid hd
  have HE := Lib.hid he
  have HS := Lib.hid hs0
  have HW := Lib.hid hw0
  clear hb hd he hs0 hw0 h hs hl
  go_enter Tryd.func5, Tryd.ntmps5
  go_wp2_with fail
  rw [← HW.out]
  refine (fawake_any _ HE.out).mono ?_
  rintro e w1 ⟨rfl, b1⟩
  have HB1 := Lib.hid (HB.out.trans (b1.mono HB.out.size))
  have HE1 := Lib.hid (HE.out.below b1)
  have HD1 := Lib.hid (HD.out.below b1)
  have HS1 := Lib.hid (HS.out.below b1)
  clear b1 HB HE HD HS HW
  obtain ⟨c0, c1, c2, c3, c4⟩ := HD1.out
  go_wp2_with fail
  refine (HFEW.out _ HS1.out).mono ?_
  rintro e w2 ⟨rfl, b2⟩
  have HB2 := Lib.hid (HB1.out.trans (b2.mono HB1.out.size))
  have HE2 := Lib.hid (HE1.out.below b2)
  have HD2 := Lib.hid (HD1.out.below b2)
  have HS2 := Lib.hid (HS1.out.below b2)
  clear b2 HB1 HE1 HD1 HS1 c0 c1 c2 c3 c4 HFEW
  rw [HU.out]
  obtain ⟨c0, c1, c2, c3, c4⟩ := HD2.out
  go_wp2_with fail
  refine (HBU.out _ HS2.out).mono ?_
  rintro e w3 ⟨rfl, b3⟩
  have HB3 := Lib.hid (HB2.out.trans (b3.mono HB2.out.size))
  have HE3 := Lib.hid (HE2.out.below b3)
  have HD3 := Lib.hid (HD2.out.below b3)
  have HS3 := Lib.hid (HS2.out.below b3)
  clear b3 HB2 HE2 HD2 HS2 c0 c1 c2 c3 c4
  go_wp2_with fail
  refine (HIN.out _).mono ?_
  rintro e w4 ⟨rfl, b4⟩
  have HB4 := Lib.hid (HB3.out.trans (b4.mono HB3.out.size))
  have HE4 := Lib.hid (HE3.out.below b4)
  have HD4 := Lib.hid (HD3.out.below b4)
  have HS4 := Lib.hid (HS3.out.below b4)
  clear b4 HB3 HE3 HD3 HS3
  go_wp2_with fail
  refine (HUN.out _).mono ?_
  rintro e w5 ⟨rfl, b5⟩
  have HB5 := Lib.hid (HB4.out.trans (b5.mono HB4.out.size))
  have HE5 := Lib.hid (HE4.out.below b5)
  have HD5 := Lib.hid (HD4.out.below b5)
  have HS5 := Lib.hid (HS4.out.below b5)
  clear b5 HB4 HE4 HD4 HS4
  obtain ⟨c0, c1, c2, c3, c4⟩ := HD5.out
  go_wp2_with fail
  refine (HX.out _ HE5.out.2.2).mono ?_
  rintro e w6 ⟨rfl, b6⟩
  have HB6 := Lib.hid (HB5.out.trans (b6.mono HB5.out.size))
  have HE6 := Lib.hid (HE5.out.below b6)
  have HD6 := Lib.hid (HD5.out.below b6)
  clear b6 HB5 HE5 HD5 HS5 c0 c1 c2 c3 c4
  go_wp2_with fail
  refine (HX.out _ HE6.out.2.2).mono ?_
  rintro e w7 ⟨rfl, b7⟩
  have HB7 := Lib.hid (HB6.out.trans (b7.mono HB6.out.size))
  have HD7 := Lib.hid (HD6.out.below b7)
  clear b7 HB6 HE6 HD6
  obtain ⟨c0, c1, c2, c3, c4⟩ := HD7.out
  go_wp2_with fail
  refine (HIS.out c _).mono ?_
  rintro e w8 ⟨rfl, b8⟩
  have HB8 := Lib.hid (HB7.out.trans (b8.mono HB7.out.size))
  have HD8 := Lib.hid (HD7.out.below b8)
  clear b8 HB7 HD7 c0 c1 c2 c3 c4
  obtain ⟨c0, c1, c2, c3, c4⟩ := HD8.out
  rw [decide_eq_true (rfl : c = c)]
  go_wp2_with fail
  refine (HIS.out _ _).mono ?_
  rintro e w9 ⟨rfl, b9⟩
  have HB9 := Lib.hid (HB8.out.trans (b9.mono HB8.out.size))
  clear b9 HB8 HD8 c0 c1 c2 c3 c4
  go_wp2_with fail
  go_ret
  exact ⟨ret_b HWN.out, HB9.out⟩

set_option maxRecDepth 100000 in
set_option maxHeartbeats 4000000 in
theorem wraps_stepW (f : Bool) (sl v : Value) (l : List ByteArray) (c a : Int) (p tx : ByteArray) (w : World) (h : EnvF w) (hs : Strs w sl l) (hl : l.length ≤ 9223372036854775807) (hw : fewB l a = true) (hp : ¬ 50 < p.size) (hc0 : -9223372036854775808 ≤ c) (hc1 : c ≤ 9223372036854775807)
    (hbu : ∀ w, Strs w sl l → Calls Tryd.prog 8 #[errD false sl c a f] w fun e w' => e = .returned (.iface 52 v) ∧ Below w.heap.size w w')
    (hin : ∀ w, Calls Tryd.prog 13 #[.string p, .iface 52 v] w fun e w' => e = .returned (.iface 52 (.agg #[.string p, .iface 52 v])) ∧ Below w.heap.size w w')
    (his : ∀ d w, Calls Tryd.prog 15 #[.iface 52 (.agg #[.string p, .iface 52 v]), .iface 30 (.int .i64 d)] w fun e w' => e = .returned (.bool (decide (c = d))) ∧ Below w.heap.size w w')
    (hx : ∀ w, TabT w → Calls Tryd.prog 67 #[v] w fun e w' => e = .returned (.string tx) ∧ Below w.heap.size w w') :
    Calls Tryd.prog 5 #[errD false sl c a f, .string p] w fun e w' => e = .returned (.bool true) ∧ Below w.heap.size w w' := by
  have HBU := Lib.hid hbu
  have HIN := Lib.hid hin
  have HIS := Lib.hid his
  have HX := Lib.hid hx
  have HU := Lib.hid hw
  have HUN := Lib.hid (fun w => eunwrap_any p (.iface 52 v) w)
  have hm := method_W v
  have hp' : ¬ (50 : Int) < p.size := by omega
  have HWN : Hid ((!decide (c = wrap64 (c + 1))) = true) := by show _ = _; rw [decide_eq_false (wrap_ne c)]; rfl
  unfold errD at HBU
  clear hbu hin his hx hw
  have hb := (Below.refl w.heap.size w).alloc (Nat.le_refl _) (.cells #[.bool false, sl, .int .i64 c, .int .i64 a, .bool f] 24)
  have hd := Desc.new w false sl c a f
  have he := h.below hb
  have hs0 := hs.below hb
  have HFEW := Lib.hid (fun w hs => few_any false sl l c a f w hs hl)
  unfold errD at HFEW ⊢
  obtain ⟨w0, hw0⟩ : ∃ w0, w0 = w.alloc (.cells #[.bool false, sl, .int .i64 c, .int .i64 a, .bool f] 24) := ⟨_, rfl⟩
  rw [← hw0] at hb hd he hs0
  have HB := Lib.hid hb
  have HD := Lib.hid hd
  have HE := Lib.hid he
  have HS := Lib.hid hs0
  have HW := Lib.hid hw0
  clear hb hd he hs0 hw0 h hs hl
  go_enter Tryd.func5, Tryd.ntmps5
  go_wp2_with fail
  rw [← HW.out]
  refine (fawake_any _ HE.out).mono ?_
  rintro e w1 ⟨rfl, b1⟩
  have HB1 := Lib.hid (HB.out.trans (b1.mono HB.out.size))
  have HE1 := Lib.hid (HE.out.below b1)
  have HD1 := Lib.hid (HD.out.below b1)
  have HS1 := Lib.hid (HS.out.below b1)
  clear b1 HB HE HD HS HW
  obtain ⟨c0, c1, c2, c3, c4⟩ := HD1.out
  go_wp2_with fail
  refine (HFEW.out _ HS1.out).mono ?_
  rintro e w2 ⟨rfl, b2⟩
  have HB2 := Lib.hid (HB1.out.trans (b2.mono HB1.out.size))
  have HE2 := Lib.hid (HE1.out.below b2)
  have HD2 := Lib.hid (HD1.out.below b2)
  have HS2 := Lib.hid (HS1.out.below b2)
  clear b2 HB1 HE1 HD1 HS1 c0 c1 c2 c3 c4 HFEW
  rw [HU.out]
  obtain ⟨c0, c1, c2, c3, c4⟩ := HD2.out
  go_wp2_with fail
  refine (HBU.out _ HS2.out).mono ?_
  rintro e w3 ⟨rfl, b3⟩
  have HB3 := Lib.hid (HB2.out.trans (b3.mono HB2.out.size))
  have HE3 := Lib.hid (HE2.out.below b3)
  have HD3 := Lib.hid (HD2.out.below b3)
  have HS3 := Lib.hid (HS2.out.below b3)
  clear b3 HB2 HE2 HD2 HS2 c0 c1 c2 c3 c4
  go_wp2_with fail
  refine (HIN.out _).mono ?_
  rintro e w4 ⟨rfl, b4⟩
  have HB4 := Lib.hid (HB3.out.trans (b4.mono HB3.out.size))
  have HE4 := Lib.hid (HE3.out.below b4)
  have HD4 := Lib.hid (HD3.out.below b4)
  have HS4 := Lib.hid (HS3.out.below b4)
  clear b4 HB3 HE3 HD3 HS3
  go_wp2_with fail
  refine (HUN.out _).mono ?_
  rintro e w5 ⟨rfl, b5⟩
  have HB5 := Lib.hid (HB4.out.trans (b5.mono HB4.out.size))
  have HE5 := Lib.hid (HE4.out.below b5)
  have HD5 := Lib.hid (HD4.out.below b5)
  have HS5 := Lib.hid (HS4.out.below b5)
  clear b5 HB4 HE4 HD4 HS4
  obtain ⟨c0, c1, c2, c3, c4⟩ := HD5.out
  go_wp2_with fail
  refine (HX.out _ HE5.out.2.2).mono ?_
  rintro e w6 ⟨rfl, b6⟩
  have HB6 := Lib.hid (HB5.out.trans (b6.mono HB5.out.size))
  have HE6 := Lib.hid (HE5.out.below b6)
  have HD6 := Lib.hid (HD5.out.below b6)
  clear b6 HB5 HE5 HD5 HS5 c0 c1 c2 c3 c4
  go_wp2_with fail
  refine (HX.out _ HE6.out.2.2).mono ?_
  rintro e w7 ⟨rfl, b7⟩
  have HB7 := Lib.hid (HB6.out.trans (b7.mono HB6.out.size))
  have HD7 := Lib.hid (HD6.out.below b7)
  clear b7 HB6 HE6 HD6
  obtain ⟨c0, c1, c2, c3, c4⟩ := HD7.out
  go_wp2_with fail
  refine (HIS.out c _).mono ?_
  rintro e w8 ⟨rfl, b8⟩
  have HB8 := Lib.hid (HB7.out.trans (b8.mono HB7.out.size))
  have HD8 := Lib.hid (HD7.out.below b8)
  clear b8 HB7 HD7 c0 c1 c2 c3 c4
  obtain ⟨c0, c1, c2, c3, c4⟩ := HD8.out
  rw [decide_eq_true (rfl : c = c)]
  go_wp2_with fail
  refine (HIS.out _ _).mono ?_
  rintro e w9 ⟨rfl, b9⟩
  have HB9 := Lib.hid (HB8.out.trans (b9.mono HB8.out.size))
  clear b9 HB8 HD8 c0 c1 c2 c3 c4
  go_wp2_with fail
  go_ret
  exact ⟨ret_b HWN.out, HB9.out⟩

theorem wraps_walk (nl f : Bool) (sl : Value) (l : List ByteArray) (c a : Int) (p : ByteArray) (w : World) (h : EnvF w) (hs : Strs w sl l) (hl : l.length ≤ 9223372036854775807) (hc0 : -9223372036854775808 ≤ c) (hc1 : c ≤ 9223372036854775807) :
    Calls Tryd.prog 5 #[errD nl sl c a f, .string p] w fun e w' => e = .returned (.bool true) ∧ Below w.heap.size w w' := by
  by_cases hw : fewB l a = true
  · cases nl with
    | true => exact wraps_rest true f sl l c a p w h hs hl hc0 hc1 (.inr (.inl rfl))
    | false =>
      by_cases hp : 50 < p.size
      · exact wraps_rest false f sl l c a p w h hs hl hc0 hc1 (.inr (.inr hp))
      · have hu := few_use hw
        have hbu := fun w hs => build_any sl l c a f w hs (by have := hu.1; omega)
        have hq : ∀ q ∈ l.reverse, q.size ≤ 1000 := fun q hq => by have := hu.2.1 q (List.mem_reverse.1 hq); omega
        have hn : l.reverse.length ≤ 1000 := by rw [List.length_reverse]; have := hu.1; omega
        generalize l.reverse = ps at *
        have hin := in_err p f c a ps
        have his := fun d w => Is_W f c a d (p :: ps) w
        cases ps with
        | nil =>
          cases f with
          | true => exact wraps_stepF true sl (.agg #[.int .i64 c, .int .i64 a]) l c a p (textW c []) w h hs hl hw hp hc0 hc1 hbu hin his (fun w ht => fault_error c a hc0 hc1 w ht)
          | false => exact wraps_stepC false sl (.int .i64 c) l c a p (textW c []) w h hs hl hw hp hc0 hc1 hbu hin his (fun w ht => code_error c hc0 hc1 w ht)
        | cons q ps =>
          exact wraps_stepW f sl (.agg #[.string q, errW f c a ps]) l c a p (textW c (q :: ps)) w h hs hl hw hp hc0 hc1 hbu hin his
            (fun w ht => within_error f c a hc0 hc1 ps q hq (by rw [List.length_cons] at hn; omega) w ht)
  · exact wraps_rest nl f sl l c a p w h hs hl hc0 hc1 (.inl (by simpa using hw))
end Go.Proofs.YtnbeeahfohfgoaaDoor
