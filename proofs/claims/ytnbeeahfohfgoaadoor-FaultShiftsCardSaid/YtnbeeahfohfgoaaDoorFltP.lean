/-
  vestrylaw02.FaultShifts: the walk.
-/
import Derived.Test.YtnbeeahfohfgoaaDoorFltN
namespace Go.Proofs.YtnbeeahfohfgoaaDoor
open Go.ChangeShapes Go.WideShapes Go.ChangeAt Go.RowKit Go.Extern Go.Stop Go.Extern.Stop errAs
set_option linter.unusedVariables false

set_option maxRecDepth 100000 in
set_option maxHeartbeats 4000000 in
theorem shifts_rest (nl f : Bool) (sl : Value) (l : List ByteArray) (c a n : Int) (w : World) (h : EnvF w) (hs : Strs w sl l) (hl : l.length ≤ 9223372036854775807) (hc0 : -9223372036854775808 ≤ c) (hc1 : c ≤ 9223372036854775807) (hn0 : -2147483648 ≤ n) (hn1 : n ≤ 2147483647) (hnf : fewB l a = false ∨ nl = true) :
    Calls Tryd.prog 4 #[errD nl sl c a f, .int .i32 n] w fun e w' => e = .returned (.bool true) ∧ Below w.heap.size w w' := by
  have hb := (Below.refl w.heap.size w).alloc (Nat.le_refl _) (.cells #[.bool nl, sl, .int .i64 c, .int .i64 a, .bool f] 24)
  have hd := Desc.new w nl sl c a f
  have he := h.below hb
  have hs0 := hs.below hb
  have HFEW := Lib.hid (fun w hs => few_any nl sl l c a f w hs hl)
  unfold errD at HFEW ⊢
  obtain ⟨w0, hw0⟩ : ∃ w0, w0 = w.alloc (.cells #[.bool nl, sl, .int .i64 c, .int .i64 a, .bool f] 24) := ⟨_, rfl⟩
  rw [← hw0] at hb hd he hs0
  have HB := Lib.hid hb
  have HD := Lib.hid hd
  have HE := Lib.hid he
  have HS := Lib.hid hs0
  have HW := Lib.hid hw0
  clear hb hd he hs0 hw0 h hs hl
  go_enter Tryd.func4, Tryd.ntmps4
  go_wp2_with fail
  rw [← HW.out]
  refine (fawake_any _ HE.out).mono ?_
  rintro e w1 ⟨rfl, b1⟩
  have HB1 := Lib.hid (HB.out.trans (b1.mono HB.out.size))
  have HE1 := Lib.hid (HE.out.below b1)
  have HD1 := Lib.hid (HD.out.below b1)
  have HS1 := Lib.hid (HS.out.below b1)
  clear b1 HB HE HD HS HW
  obtain ⟨c0, c1, c2, c3, c4⟩ := HD1.out
  go_wp2_with fail
  refine (HFEW.out _ HS1.out).mono ?_
  rintro e w2 ⟨rfl, b2⟩
  have HB2 := Lib.hid (HB1.out.trans (b2.mono HB1.out.size))
  have HE2 := Lib.hid (HE1.out.below b2)
  have HD2 := Lib.hid (HD1.out.below b2)
  have HS2 := Lib.hid (HS1.out.below b2)
  clear b2 HB1 HE1 HD1 HS1 c0 c1 c2 c3 c4 HFEW
  obtain ⟨fw, hfw⟩ : ∃ fw, fw = fewB l a := ⟨_, rfl⟩
  rw [← hfw]
  have HU := Lib.hid hfw
  clear hfw
  cases fw with
  | false =>
    clear hnf
    go_wp2_with fail
    refine (fawake_any _ HE2.out).mono ?_
    rintro e w3 ⟨rfl, b3⟩
    go_wp2_with fail
    go_ret
    exact ⟨rfl, HB2.out.trans (b3.mono HB2.out.size)⟩
  | true =>
    obtain ⟨c0, c1, c2, c3, c4⟩ := HD2.out
    cases nl with
    | false => exact (by rcases hnf with h | h; rw [← HU.out] at h; cases h; cases h)
    | true =>
      have HBU := Lib.hid (build_nil sl c a f)
      unfold errD at HBU
      clear hnf
      go_wp2_with fail
      refine (HBU.out _).mono ?_
      rintro e w3 ⟨rfl, b3⟩
      have HB3 := Lib.hid (HB2.out.trans (b3.mono HB2.out.size))
      have HE3 := Lib.hid (HE2.out.below b3)
      have HD3 := Lib.hid (HD2.out.below b3)
      clear b3 HB2 HE2 HD2 HS2 c0 c1 c2 c3 c4
      go_wp2_with fail
      refine (shift_nil n _ HE3.out.1).mono ?_
      rintro e w4 ⟨rfl, b4⟩
      have HB4 := Lib.hid (HB3.out.trans (b4.mono HB3.out.size))
      have HD4 := Lib.hid (HD3.out.below b4)
      clear b4 HB3 HE3 HD3
      obtain ⟨c0, c1, c2, c3, c4⟩ := HD4.out
      go_wp2_with fail
      go_ret
      exact ⟨rfl, HB4.out⟩

set_option maxRecDepth 100000 in
set_option maxHeartbeats 4000000 in
theorem shifts_step (f : Bool) (sl V : Value) (l : List ByteArray) (c a n : Int) (w : World) (h : EnvF w) (hs : Strs w sl l) (hl : l.length ≤ 9223372036854775807) (hw : fewB l a = true) (hn0 : -2147483648 ≤ n) (hn1 : n ≤ 2147483647) (ha0 : -1152921504606846976 < a) (ha1 : a < 1152921504606846976)
    (hbu : ∀ w, Strs w sl l → Calls Tryd.prog 8 #[errD false sl c a f] w fun e w' => e = .returned V ∧ Below w.heap.size w w')
    (hsh : ∀ w, ErrT w → Calls Tryd.prog 12 #[V, .int .i64 n] w fun e w' => e = .returned (faultV c (offOf f a + n)) ∧ Below w.heap.size w w') :
    Calls Tryd.prog 4 #[errD false sl c a f, .int .i32 n] w fun e w' => e = .returned (.bool true) ∧ Below w.heap.size w w' := by
  have HBU := Lib.hid hbu
  have HSH := Lib.hid hsh
  have HCO : Hid (∀ w, ErrT w → Calls Tryd.prog 9 #[faultV c (offOf f a + n)] w fun e w' => e = .returned (.tuple #[.int .i64 c, .bool true]) ∧ Below w.heap.size w w') := code_W true c (offOf f a + n) []
  have HAT : Hid (∀ w, ErrT w → Calls Tryd.prog 10 #[faultV c (offOf f a + n)] w fun e w' => e = .returned (.tuple #[.int .i64 (offOf f a + n), .bool true]) ∧ Below w.heap.size w w') := at_WF c (offOf f a + n) []
  have HU := Lib.hid hw
  unfold faultV at HSH HCO HAT
  unfold errD at HBU
  clear hbu hsh hw
  have hb := (Below.refl w.heap.size w).alloc (Nat.le_refl _) (.cells #[.bool false, sl, .int .i64 c, .int .i64 a, .bool f] 24)
  have hd := Desc.new w false sl c a f
  have he := h.below hb
  have hs0 := hs.below hb
  have HFEW := Lib.hid (fun w hs => few_any false sl l c a f w hs hl)
  unfold errD at HFEW ⊢
  obtain ⟨w0, hw0⟩ : ∃ w0, w0 = w.alloc (.cells #[.bool false, sl, .int .i64 c, .int .i64 a, .bool f] 24) := ⟨_, rfl⟩
  rw [← hw0] at hb hd he hs0
  have HB := Lib.hid hb
  have HD := Lib.hid hd
  have HE := Lib.hid he
  have HS := Lib.hid hs0
  have HW := Lib.hid hw0
  clear hb hd he hs0 hw0 h hs hl
  go_enter Tryd.func4, Tryd.ntmps4
  go_wp2_with fail
  rw [← HW.out]
  refine (fawake_any _ HE.out).mono ?_
  rintro e w1 ⟨rfl, b1⟩
  have HB1 := Lib.hid (HB.out.trans (b1.mono HB.out.size))
  have HE1 := Lib.hid (HE.out.below b1)
  have HD1 := Lib.hid (HD.out.below b1)
  have HS1 := Lib.hid (HS.out.below b1)
  clear b1 HB HE HD HS HW
  obtain ⟨c0, c1, c2, c3, c4⟩ := HD1.out
  go_wp2_with fail
  refine (HFEW.out _ HS1.out).mono ?_
  rintro e w2 ⟨rfl, b2⟩
  have HB2 := Lib.hid (HB1.out.trans (b2.mono HB1.out.size))
  have HE2 := Lib.hid (HE1.out.below b2)
  have HD2 := Lib.hid (HD1.out.below b2)
  have HS2 := Lib.hid (HS1.out.below b2)
  clear b2 HB1 HE1 HD1 HS1 c0 c1 c2 c3 c4 HFEW
  rw [HU.out]
  obtain ⟨c0, c1, c2, c3, c4⟩ := HD2.out
  go_wp2_with fail
  refine (HBU.out _ HS2.out).mono ?_
  rintro e w3 ⟨rfl, b3⟩
  have HB3 := Lib.hid (HB2.out.trans (b3.mono HB2.out.size))
  have HE3 := Lib.hid (HE2.out.below b3)
  have HD3 := Lib.hid (HD2.out.below b3)
  clear b3 HB2 HE2 HD2 HS2 c0 c1 c2 c3 c4
  go_wp2_with fail
  refine (HSH.out _ HE3.out.1).mono ?_
  rintro e w4 ⟨rfl, b4⟩
  have HB4 := Lib.hid (HB3.out.trans (b4.mono HB3.out.size))
  have HE4 := Lib.hid (HE3.out.below b4)
  have HD4 := Lib.hid (HD3.out.below b4)
  clear b4 HB3 HE3 HD3
  obtain ⟨c0, c1, c2, c3, c4⟩ := HD4.out
  go_wp2_with fail
  refine (HCO.out _ HE4.out.1).mono ?_
  rintro e w5 ⟨rfl, b5⟩
  have HB5 := Lib.hid (HB4.out.trans (b5.mono HB4.out.size))
  have HE5 := Lib.hid (HE4.out.below b5)
  have HD5 := Lib.hid (HD4.out.below b5)
  clear b5 HB4 HE4 HD4 c0 c1 c2 c3 c4
  go_wp2_with fail
  refine (HAT.out _ HE5.out.1).mono ?_
  rintro e w6 ⟨rfl, b6⟩
  have HB6 := Lib.hid (HB5.out.trans (b6.mono HB5.out.size))
  have HD6 := Lib.hid (HD5.out.below b6)
  clear b6 HB5 HE5 HD5
  obtain ⟨c0, c1, c2, c3, c4⟩ := HD6.out
  cases f with
  | true =>
    rw [show offOf true a = a from rfl]
    have HCM : Hid ((a + n == n + a) = true) := by show _ = _; rw [Int.add_comm]; exact beq_self_eq_true _
    go_wp2_with fail
    all_goals go_ret
    all_goals exact ⟨ret_b HCM.out, HB6.out⟩
  | false =>
    rw [show offOf false a + n = n from Int.zero_add n]
    go_wp2_with fail
    all_goals go_ret
    all_goals exact ⟨rfl, HB6.out⟩

theorem shifts_walk (nl f : Bool) (sl : Value) (l : List ByteArray) (c a n : Int) (w : World) (h : EnvF w) (hs : Strs w sl l) (hl : l.length ≤ 9223372036854775807) (hc0 : -9223372036854775808 ≤ c) (hc1 : c ≤ 9223372036854775807) (hn0 : -2147483648 ≤ n) (hn1 : n ≤ 2147483647) :
    Calls Tryd.prog 4 #[errD nl sl c a f, .int .i32 n] w fun e w' => e = .returned (.bool true) ∧ Below w.heap.size w w' := by
  by_cases hw : fewB l a = true
  · cases nl with
    | true => exact shifts_rest true f sl l c a n w h hs hl hc0 hc1 hn0 hn1 (.inr rfl)
    | false =>
      have hu := few_use hw
      have ho : -1152921504606846976 < offOf f a ∧ offOf f a < 1152921504606846976 := by
        unfold offOf; split
        · exact hu.2.2
        · omega
      exact shifts_step f sl _ l c a n w h hs hl hw hn0 hn1 hu.2.2.1 hu.2.2.2 (fun w hs => build_any sl l c a f w hs (by have := hu.1; omega)) (fun w hg => shift_W f c a n l.reverse w hg (by omega) (by omega))
  · exact shifts_rest nl f sl l c a n w h hs hl hc0 hc1 hn0 hn1 (.inl (by simpa using hw))
end Go.Proofs.YtnbeeahfohfgoaaDoor
