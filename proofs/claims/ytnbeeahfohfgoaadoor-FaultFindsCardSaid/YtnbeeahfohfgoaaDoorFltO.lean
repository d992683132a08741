/-
  vestrylaw02.FaultFinds: the walk.
-/
import Derived.Test.YtnbeeahfohfgoaaDoorFltN
namespace Go.Proofs.YtnbeeahfohfgoaaDoor
open Go.ChangeShapes Go.WideShapes Go.ChangeAt Go.RowKit Go.Extern Go.Stop Go.Extern.Stop errAs
set_option linter.unusedVariables false

set_option maxRecDepth 100000 in
set_option maxHeartbeats 4000000 in
theorem finds_stepC (f : Bool) (sl v : Value) (l : List ByteArray) (c a : Int) (tx : ByteArray) (w : World) (h : EnvF w) (hs : Strs w sl l) (hl : l.length ≤ 9223372036854775807) (hw : fewB l a = true)
    (hbu : ∀ w, Strs w sl l → Calls Tryd.prog 8 #[errD false sl c a f] w fun e w' => e = .returned (.iface 30 v) ∧ Below w.heap.size w w')
    (hco : ∀ w, ErrT w → Calls Tryd.prog 9 #[.iface 30 v] w fun e w' => e = .returned (.tuple #[.int .i64 c, .bool true]) ∧ Below w.heap.size w w')
    (hat : ∀ w, ErrT w → Calls Tryd.prog 10 #[.iface 30 v] w fun e w' => e = .returned (.tuple #[.int .i64 (offOf f a), .bool f]) ∧ Below w.heap.size w w')
    (hx : ∀ w, TabT w → Calls Tryd.prog 64 #[v] w fun e w' => e = .returned (.string tx) ∧ Below w.heap.size w w')
    (htx : ∀ w, Strs w sl l → Calls Tryd.prog 11 #[errD false sl c a f] w fun e w' => e = .returned (.string tx) ∧ Below w.heap.size w w') :
    Calls Tryd.prog 3 #[errD false sl c a f] w fun e w' => e = .returned (.bool true) ∧ Below w.heap.size w w' := by
  have HBU := Lib.hid hbu
  have HCO := Lib.hid hco
  have HAT := Lib.hid hat
  have HX := Lib.hid hx
  have HTX := Lib.hid htx
  have HU := Lib.hid hw
  have hm := method_C v
  unfold errD at HBU HTX
  clear hbu hco hat hx htx hw
  have hb := (Below.refl w.heap.size w).alloc (Nat.le_refl _) (.cells #[.bool false, sl, .int .i64 c, .int .i64 a, .bool f] 24)
  have hd := Desc.new w false sl c a f
  have he := h.below hb
  have hs0 := hs.below hb
  have HFEW := Lib.hid (fun w hs => few_any false sl l c a f w hs hl)
  unfold errD at HFEW ⊢
  obtain ⟨w0, hw0⟩ : ∃ w0, w0 = w.alloc (.cells #[.bool false, sl, .int .i64 c, .int .i64 a, .bool f] 24) := ⟨_, rfl⟩
  rw [← hw0] at hb hd he hs0
  have HB := Lib.hid hb
  have HD := Lib.hid hd
  have HE := Lib.hid he
  have HS := Lib.hid hs0
  have HW := Lib.hid hw0
  clear hb hd he hs0 hw0 h hs hl
  go_enter Tryd.func3, Tryd.ntmps3
  go_wp2_with fail
  rw [← HW.out]
  refine (fawake_any _ HE.out).mono ?_
  rintro e w1 ⟨rfl, b1⟩
  have HB1 := Lib.hid (HB.out.trans (b1.mono HB.out.size))
  have HE1 := Lib.hid (HE.out.below b1)
  have HD1 := Lib.hid (HD.out.below b1)
  have HS1 := Lib.hid (HS.out.below b1)
  clear b1 HB HE HD HS HW
  obtain ⟨c0, c1, c2, c3, c4⟩ := HD1.out
  go_wp2_with fail
  refine (HFEW.out _ HS1.out).mono ?_
  rintro e w2 ⟨rfl, b2⟩
  have HB2 := Lib.hid (HB1.out.trans (b2.mono HB1.out.size))
  have HE2 := Lib.hid (HE1.out.below b2)
  have HD2 := Lib.hid (HD1.out.below b2)
  have HS2 := Lib.hid (HS1.out.below b2)
  clear b2 HB1 HE1 HD1 HS1 c0 c1 c2 c3 c4 HFEW
  rw [HU.out]
  obtain ⟨c0, c1, c2, c3, c4⟩ := HD2.out
  go_wp2_with fail
  refine (HBU.out _ HS2.out).mono ?_
  rintro e w3 ⟨rfl, b3⟩
  have HB3 := Lib.hid (HB2.out.trans (b3.mono HB2.out.size))
  have HE3 := Lib.hid (HE2.out.below b3)
  have HD3 := Lib.hid (HD2.out.below b3)
  have HS3 := Lib.hid (HS2.out.below b3)
  clear b3 HB2 HE2 HD2 HS2 c0 c1 c2 c3 c4
  go_wp2_with fail
  refine (HCO.out _ HE3.out.1).mono ?_
  rintro e w4 ⟨rfl, b4⟩
  have HB4 := Lib.hid (HB3.out.trans (b4.mono HB3.out.size))
  have HE4 := Lib.hid (HE3.out.below b4)
  have HD4 := Lib.hid (HD3.out.below b4)
  have HS4 := Lib.hid (HS3.out.below b4)
  clear b4 HB3 HE3 HD3 HS3
  go_wp2_with fail
  refine (HAT.out _ HE4.out.1).mono ?_
  rintro e w5 ⟨rfl, b5⟩
  have HB5 := Lib.hid (HB4.out.trans (b5.mono HB4.out.size))
  have HE5 := Lib.hid (HE4.out.below b5)
  have HD5 := Lib.hid (HD4.out.below b5)
  have HS5 := Lib.hid (HS4.out.below b5)
  clear b5 HB4 HE4 HD4 HS4
  obtain ⟨c0, c1, c2, c3, c4⟩ := HD5.out
  go_wp2_with fail
  have HH : Hid (Held w sl l c a f w5.drew) := ⟨below_dr HB5.out 1, HD5.out, HS5.out, HE5.out.2.2⟩
  have HXC : Hid (∀ w', Held w sl l c a f w' → Calls Tryd.prog 64 #[v] w' fun e w'' => e = .returned (.string tx) ∧ Held w sl l c a f w'') := fun w' h => (HX.out w' h.2.2.2).mono fun _ _ ⟨h1, h2⟩ => ⟨h1, h.below h2⟩
  have HTC : Hid (∀ w', Held w sl l c a f w' → Calls Tryd.prog 11 #[.agg #[.bool false, sl, .int .i64 c, .int .i64 a, .bool f]] w' fun e w'' => e = .returned (.string tx) ∧ Held w sl l c a f w'') := fun w' h => (HTX.out w' h.2.2.1).mono fun _ _ ⟨h1, h2⟩ => ⟨h1, h.below h2⟩
  clear HB5 HE5 HD5 HS5 HX HTX c0 c1 c2 c3 c4
  cases f with
  | true =>
    rw [show offOf true a = a from rfl]
    refine wp_region_quiet (C := Held w sl l c a true) (by kernel_rfl) (by kernel_rfl) HH.out ?_
    dsimp only
    repeat (first
      | go_big_quiet_skip
      | (go_big_quiet_want; first
          | (refine quiet_run (v := ?_) ?_ ?_; rotate_left; (focus (intro w' hC; obtain ⟨j0, j1, j2, j3, j4⟩ := hC.cells; clear hC; go_simp; try with_reducible rfl)); simp only [Act.put, List.setIfInBounds_toArray, List.set_cons_zero, List.set_cons_succ]; go_big_quiet_on)
          | (refine quiet_enter ?_ HXC.out ?_; (focus (intro w' hC; clear hC; go_simp; try with_reducible rfl)); simp only [Act.put, List.setIfInBounds_toArray, List.set_cons_zero, List.set_cons_succ]; go_big_quiet_on)
          | (refine quiet_enter ?_ HTC.out ?_; (focus (intro w' hC; clear hC; go_simp; try with_reducible rfl)); simp only [Act.put, List.setIfInBounds_toArray, List.set_cons_zero, List.set_cons_succ]; go_big_quiet_on)))
    refine wpQuiet_nil ?_
    intro w7 H7
    all_goals go_wp2_with fail
    all_goals go_ret
    all_goals exact ⟨rfl, H7.1⟩
  | false =>
    rw [show offOf false a = 0 from rfl]
    refine wp_region_quiet (C := Held w sl l c a false) (by kernel_rfl) (by kernel_rfl) HH.out ?_
    dsimp only
    repeat (first
      | go_big_quiet_skip
      | (go_big_quiet_want; first
          | (refine quiet_run (v := ?_) ?_ ?_; rotate_left; (focus (intro w' hC; obtain ⟨j0, j1, j2, j3, j4⟩ := hC.cells; clear hC; go_simp; try with_reducible rfl)); simp only [Act.put, List.setIfInBounds_toArray, List.set_cons_zero, List.set_cons_succ]; go_big_quiet_on)
          | (refine quiet_enter ?_ HXC.out ?_; (focus (intro w' hC; clear hC; go_simp; try with_reducible rfl)); simp only [Act.put, List.setIfInBounds_toArray, List.set_cons_zero, List.set_cons_succ]; go_big_quiet_on)
          | (refine quiet_enter ?_ HTC.out ?_; (focus (intro w' hC; clear hC; go_simp; try with_reducible rfl)); simp only [Act.put, List.setIfInBounds_toArray, List.set_cons_zero, List.set_cons_succ]; go_big_quiet_on)))
    refine wpQuiet_nil ?_
    intro w7 H7
    all_goals go_wp2_with fail
    all_goals go_ret
    all_goals exact ⟨rfl, H7.1⟩

set_option maxRecDepth 100000 in
set_option maxHeartbeats 4000000 in
theorem finds_stepF (f : Bool) (sl v : Value) (l : List ByteArray) (c a : Int) (tx : ByteArray) (w : World) (h : EnvF w) (hs : Strs w sl l) (hl : l.length ≤ 9223372036854775807) (hw : fewB l a = true)
    (hbu : ∀ w, Strs w sl l → Calls Tryd.prog 8 #[errD false sl c a f] w fun e w' => e = .returned (.iface 47 v) ∧ Below w.heap.size w w')
    (hco : ∀ w, ErrT w → Calls Tryd.prog 9 #[.iface 47 v] w fun e w' => e = .returned (.tuple #[.int .i64 c, .bool true]) ∧ Below w.heap.size w w')
    (hat : ∀ w, ErrT w → Calls Tryd.prog 10 #[.iface 47 v] w fun e w' => e = .returned (.tuple #[.int .i64 (offOf f a), .bool f]) ∧ Below w.heap.size w w')
    (hx : ∀ w, TabT w → Calls Tryd.prog 65 #[v] w fun e w' => e = .returned (.string tx) ∧ Below w.heap.size w w')
    (htx : ∀ w, Strs w sl l → Calls Tryd.prog 11 #[errD false sl c a f] w fun e w' => e = .returned (.string tx) ∧ Below w.heap.size w w') :
    Calls Tryd.prog 3 #[errD false sl c a f] w fun e w' => e = .returned (.bool true) ∧ Below w.heap.size w w' := by
  have HBU := Lib.hid hbu
  have HCO := Lib.hid hco
  have HAT := Lib.hid hat
  have HX := Lib.hid hx
  have HTX := Lib.hid htx
  have HU := Lib.hid hw
  have hm := method_F v
  unfold errD at HBU HTX
  clear hbu hco hat hx htx hw
  have hb := (Below.refl w.heap.size w).alloc (Nat.le_refl _) (.cells #[.bool false, sl, .int .i64 c, .int .i64 a, .bool f] 24)
  have hd := Desc.new w false sl c a f
  have he := h.below hb
  have hs0 := hs.below hb
  have HFEW := Lib.hid (fun w hs => few_any false sl l c a f w hs hl)
  unfold errD at HFEW ⊢
  obtain ⟨w0, hw0⟩ : ∃ w0, w0 = w.alloc (.cells #[.bool false, sl, .int .i64 c, .int .i64 a, .bool f] 24) := ⟨_, rfl⟩
  rw [← hw0] at hb hd he hs0
  have HB := Lib.hid hb
  have HD := Lib.hid hd
  have HE := Lib.hid he
  have HS := Lib.hid hs0
  have HW := Lib.hid hw0
  clear hb hd he hs0 hw0 h hs hl
  go_enter Tryd.func3, Tryd.ntmps3
  go_wp2_with fail
  rw [← HW.out]
  refine (fawake_any _ HE.out).mono ?_
  rintro e w1 ⟨rfl, b1⟩
  have HB1 := Lib.hid (HB.out.trans (b1.mono HB.out.size))
  have HE1 := Lib.hid (HE.out.below b1)
  have HD1 := Lib.hid (HD.out.below b1)
  have HS1 := Lib.hid (HS.out.below b1)
  clear b1 HB HE HD HS HW
  obtain ⟨c0, c1, c2, c3, c4⟩ := HD1.out
  go_wp2_with fail
  refine (HFEW.out _ HS1.out).mono ?_
  rintro e w2 ⟨rfl, b2⟩
  have HB2 := Lib.hid (HB1.out.trans (b2.mono HB1.out.size))
  have HE2 := Lib.hid (HE1.out.below b2)
  have HD2 := Lib.hid (HD1.out.below b2)
  have HS2 := Lib.hid (HS1.out.below b2)
  clear b2 HB1 HE1 HD1 HS1 c0 c1 c2 c3 c4 HFEW
  rw [HU.out]
  obtain ⟨c0, c1, c2, c3, c4⟩ := HD2.out
  go_wp2_with fail
  refine (HBU.out _ HS2.out).mono ?_
  rintro e w3 ⟨rfl, b3⟩
  have HB3 := Lib.hid (HB2.out.trans (b3.mono HB2.out.size))
  have HE3 := Lib.hid (HE2.out.below b3)
  have HD3 := Lib.hid (HD2.out.below b3)
  have HS3 := Lib.hid (HS2.out.below b3)
  clear b3 HB2 HE2 HD2 HS2 c0 c1 c2 c3 c4
  go_wp2_with fail
  refine (HCO.out _ HE3.out.1).mono ?_
  rintro e w4 ⟨rfl, b4⟩
  have HB4 := Lib.hid (HB3.out.trans (b4.mono HB3.out.size))
  have HE4 := Lib.hid (HE3.out.below b4)
  have HD4 := Lib.hid (HD3.out.below b4)
  have HS4 := Lib.hid (HS3.out.below b4)
  clear b4 HB3 HE3 HD3 HS3
  go_wp2_with fail
  refine (HAT.out _ HE4.out.1).mono ?_
  rintro e w5 ⟨rfl, b5⟩
  have HB5 := Lib.hid (HB4.out.trans (b5.mono HB4.out.size))
  have HE5 := Lib.hid (HE4.out.below b5)
  have HD5 := Lib.hid (HD4.out.below b5)
  have HS5 := Lib.hid (HS4.out.below b5)
  clear b5 HB4 HE4 HD4 HS4
  obtain ⟨c0, c1, c2, c3, c4⟩ := HD5.out
  go_wp2_with fail
  have HH : Hid (Held w sl l c a f w5.drew) := ⟨below_dr HB5.out 1, HD5.out, HS5.out, HE5.out.2.2⟩
  have HXC : Hid (∀ w', Held w sl l c a f w' → Calls Tryd.prog 65 #[v] w' fun e w'' => e = .returned (.string tx) ∧ Held w sl l c a f w'') := fun w' h => (HX.out w' h.2.2.2).mono fun _ _ ⟨h1, h2⟩ => ⟨h1, h.below h2⟩
  have HTC : Hid (∀ w', Held w sl l c a f w' → Calls Tryd.prog 11 #[.agg #[.bool false, sl, .int .i64 c, .int .i64 a, .bool f]] w' fun e w'' => e = .returned (.string tx) ∧ Held w sl l c a f w'') := fun w' h => (HTX.out w' h.2.2.1).mono fun _ _ ⟨h1, h2⟩ => ⟨h1, h.below h2⟩
  clear HB5 HE5 HD5 HS5 HX HTX c0 c1 c2 c3 c4
  cases f with
  | true =>
    rw [show offOf true a = a from rfl]
    refine wp_region_quiet (C := Held w sl l c a true) (by kernel_rfl) (by kernel_rfl) HH.out ?_
    dsimp only
    repeat (first
      | go_big_quiet_skip
      | (go_big_quiet_want; first
          | (refine quiet_run (v := ?_) ?_ ?_; rotate_left; (focus (intro w' hC; obtain ⟨j0, j1, j2, j3, j4⟩ := hC.cells; clear hC; go_simp; try with_reducible rfl)); simp only [Act.put, List.setIfInBounds_toArray, List.set_cons_zero, List.set_cons_succ]; go_big_quiet_on)
          | (refine quiet_enter ?_ HXC.out ?_; (focus (intro w' hC; clear hC; go_simp; try with_reducible rfl)); simp only [Act.put, List.setIfInBounds_toArray, List.set_cons_zero, List.set_cons_succ]; go_big_quiet_on)
          | (refine quiet_enter ?_ HTC.out ?_; (focus (intro w' hC; clear hC; go_simp; try with_reducible rfl)); simp only [Act.put, List.setIfInBounds_toArray, List.set_cons_zero, List.set_cons_succ]; go_big_quiet_on)))
    refine wpQuiet_nil ?_
    intro w7 H7
    all_goals go_wp2_with fail
    all_goals go_ret
    all_goals exact ⟨rfl, H7.1⟩
  | false =>
    rw [show offOf false a = 0 from rfl]
    refine wp_region_quiet (C := Held w sl l c a false) (by kernel_rfl) (by kernel_rfl) HH.out ?_
    dsimp only
    repeat (first
      | go_big_quiet_skip
      | (go_big_quiet_want; first
          | (refine quiet_run (v := ?_) ?_ ?_; rotate_left; (focus (intro w' hC; obtain ⟨j0, j1, j2, j3, j4⟩ := hC.cells; clear hC; go_simp; try with_reducible rfl)); simp only [Act.put, List.setIfInBounds_toArray, List.set_cons_zero, List.set_cons_succ]; go_big_quiet_on)
          | (refine quiet_enter ?_ HXC.out ?_; (focus (intro w' hC; clear hC; go_simp; try with_reducible rfl)); simp only [Act.put, List.setIfInBounds_toArray, List.set_cons_zero, List.set_cons_succ]; go_big_quiet_on)
          | (refine quiet_enter ?_ HTC.out ?_; (focus (intro w' hC; clear hC; go_simp; try with_reducible rfl)); simp only [Act.put, List.setIfInBounds_toArray, List.set_cons_zero, List.set_cons_succ]; go_big_quiet_on)))
    refine wpQuiet_nil ?_
    intro w7 H7
    all_goals go_wp2_with fail
    all_goals go_ret
    all_goals exact ⟨rfl, H7.1⟩

set_option maxRecDepth 100000 in
set_option maxHeartbeats 4000000 in
theorem finds_stepW (f : Bool) (sl v : Value) (l : List ByteArray) (c a : Int) (tx : ByteArray) (w : World) (h : EnvF w) (hs : Strs w sl l) (hl : l.length ≤ 9223372036854775807) (hw : fewB l a = true)
    (hbu : ∀ w, Strs w sl l → Calls Tryd.prog 8 #[errD false sl c a f] w fun e w' => e = .returned (.iface 52 v) ∧ Below w.heap.size w w')
    (hco : ∀ w, ErrT w → Calls Tryd.prog 9 #[.iface 52 v] w fun e w' => e = .returned (.tuple #[.int .i64 c, .bool true]) ∧ Below w.heap.size w w')
    (hat : ∀ w, ErrT w → Calls Tryd.prog 10 #[.iface 52 v] w fun e w' => e = .returned (.tuple #[.int .i64 (offOf f a), .bool f]) ∧ Below w.heap.size w w')
    (hx : ∀ w, TabT w → Calls Tryd.prog 67 #[v] w fun e w' => e = .returned (.string tx) ∧ Below w.heap.size w w')
    (htx : ∀ w, Strs w sl l → Calls Tryd.prog 11 #[errD false sl c a f] w fun e w' => e = .returned (.string tx) ∧ Below w.heap.size w w') :
    Calls Tryd.prog 3 #[errD false sl c a f] w fun e w' => e = .returned (.bool true) ∧ Below w.heap.size w w' := by
  have HBU := Lib.hid hbu
  have HCO := Lib.hid hco
  have HAT := Lib.hid hat
  have HX := Lib.hid hx
  have HTX := Lib.hid htx
  have HU := Lib.hid hw
  have hm := method_W v
  unfold errD at HBU HTX
  clear hbu hco hat hx htx hw
  have hb := (Below.refl w.heap.size w).alloc (Nat.le_refl _) (.cells #[.bool false, sl, .int .i64 c, .int .i64 a, .bool f] 24)
  have hd := Desc.new w false sl c a f
  have he := h.below hb
  have hs0 := hs.below hb
  have HFEW := Lib.hid (fun w hs => few_any false sl l c a f w hs hl)
  unfold errD at HFEW ⊢
  obtain ⟨w0, hw0⟩ : ∃ w0, w0 = w.alloc (.cells #[.bool false, sl, .int .i64 c, .int .i64 a, .bool f] 24) := ⟨_, rfl⟩
  rw [← hw0] at hb hd he hs0
  have HB := Lib.hid hb
  have HD := Lib.hid hd
  have HE := Lib.hid he
  have HS := Lib.hid hs0
  have HW := Lib.hid hw0
  clear hb hd he hs0 hw0 h hs hl
  go_enter Tryd.func3, Tryd.ntmps3
  go_wp2_with fail
  rw [← HW.out]
  refine (fawake_any _ HE.out).mono ?_
  rintro e w1 ⟨rfl, b1⟩
  have HB1 := Lib.hid (HB.out.trans (b1.mono HB.out.size))
  have HE1 := Lib.hid (HE.out.below b1)
  have HD1 := Lib.hid (HD.out.below b1)
  have HS1 := Lib.hid (HS.out.below b1)
  clear b1 HB HE HD HS HW
  obtain ⟨c0, c1, c2, c3, c4⟩ := HD1.out
  go_wp2_with fail
  refine (HFEW.out _ HS1.out).mono ?_
  rintro e w2 ⟨rfl, b2⟩
  have HB2 := Lib.hid (HB1.out.trans (b2.mono HB1.out.size))
  have HE2 := Lib.hid (HE1.out.below b2)
  have HD2 := Lib.hid (HD1.out.below b2)
  have HS2 := Lib.hid (HS1.out.below b2)
  clear b2 HB1 HE1 HD1 HS1 c0 c1 c2 c3 c4 HFEW
  rw [HU.out]
  obtain ⟨c0, c1, c2, c3, c4⟩ := HD2.out
  go_wp2_with fail
  refine (HBU.out _ HS2.out).mono ?_
  rintro e w3 ⟨rfl, b3⟩
  have HB3 := Lib.hid (HB2.out.trans (b3.mono HB2.out.size))
  have HE3 := Lib.hid (HE2.out.below b3)
  have HD3 := Lib.hid (HD2.out.below b3)
  have HS3 := Lib.hid (HS2.out.below b3)
  clear b3 HB2 HE2 HD2 HS2 c0 c1 c2 c3 c4
  go_wp2_with fail
  refine (HCO.out _ HE3.out.1).mono ?_
  rintro e w4 ⟨rfl, b4⟩
  have HB4 := Lib.hid (HB3.out.trans (b4.mono HB3.out.size))
  have HE4 := Lib.hid (HE3.out.below b4)
  have HD4 := Lib.hid (HD3.out.below b4)
  have HS4 := Lib.hid (HS3.out.below b4)
  clear b4 HB3 HE3 HD3 HS3
  go_wp2_with fail
  refine (HAT.out _ HE4.out.1).mono ?_
  rintro e w5 ⟨rfl, b5⟩
  have HB5 := Lib.hid (HB4.out.trans (b5.mono HB4.out.size))
  have HE5 := Lib.hid (HE4.out.below b5)
  have HD5 := Lib.hid (HD4.out.below b5)
  have HS5 := Lib.hid (HS4.out.below b5)
  clear b5 HB4 HE4 HD4 HS4
  obtain ⟨c0, c1, c2, c3, c4⟩ := HD5.out
  go_wp2_with fail
  have HH : Hid (Held w sl l c a f w5.drew) := ⟨below_dr HB5.out 1, HD5.out, HS5.out, HE5.out.2.2⟩
  have HXC : Hid (∀ w', Held w sl l c a f w' → Calls Tryd.prog 67 #[v] w' fun e w'' => e = .returned (.string tx) ∧ Held w sl l c a f w'') := fun w' h => (HX.out w' h.2.2.2).mono fun _ _ ⟨h1, h2⟩ => ⟨h1, h.below h2⟩
  have HTC : Hid (∀ w', Held w sl l c a f w' → Calls Tryd.prog 11 #[.agg #[.bool false, sl, .int .i64 c, .int .i64 a, .bool f]] w' fun e w'' => e = .returned (.string tx) ∧ Held w sl l c a f w'') := fun w' h => (HTX.out w' h.2.2.1).mono fun _ _ ⟨h1, h2⟩ => ⟨h1, h.below h2⟩
  clear HB5 HE5 HD5 HS5 HX HTX c0 c1 c2 c3 c4
  cases f with
  | true =>
    rw [show offOf true a = a from rfl]
    refine wp_region_quiet (C := Held w sl l c a true) (by kernel_rfl) (by kernel_rfl) HH.out ?_
    dsimp only
    repeat (first
      | go_big_quiet_skip
      | (go_big_quiet_want; first
          | (refine quiet_run (v := ?_) ?_ ?_; rotate_left; (focus (intro w' hC; obtain ⟨j0, j1, j2, j3, j4⟩ := hC.cells; clear hC; go_simp; try with_reducible rfl)); simp only [Act.put, List.setIfInBounds_toArray, List.set_cons_zero, List.set_cons_succ]; go_big_quiet_on)
          | (refine quiet_enter ?_ HXC.out ?_; (focus (intro w' hC; clear hC; go_simp; try with_reducible rfl)); simp only [Act.put, List.setIfInBounds_toArray, List.set_cons_zero, List.set_cons_succ]; go_big_quiet_on)
          | (refine quiet_enter ?_ HTC.out ?_; (focus (intro w' hC; clear hC; go_simp; try with_reducible rfl)); simp only [Act.put, List.setIfInBounds_toArray, List.set_cons_zero, List.set_cons_succ]; go_big_quiet_on)))
    refine wpQuiet_nil ?_
    intro w7 H7
    all_goals go_wp2_with fail
    all_goals go_ret
    all_goals exact ⟨rfl, H7.1⟩
  | false =>
    rw [show offOf false a = 0 from rfl]
    refine wp_region_quiet (C := Held w sl l c a false) (by kernel_rfl) (by kernel_rfl) HH.out ?_
    dsimp only
    repeat (first
      | go_big_quiet_skip
      | (go_big_quiet_want; first
          | (refine quiet_run (v := ?_) ?_ ?_; rotate_left; (focus (intro w' hC; obtain ⟨j0, j1, j2, j3, j4⟩ := hC.cells; clear hC; go_simp; try with_reducible rfl)); simp only [Act.put, List.setIfInBounds_toArray, List.set_cons_zero, List.set_cons_succ]; go_big_quiet_on)
          | (refine quiet_enter ?_ HXC.out ?_; (focus (intro w' hC; clear hC; go_simp; try with_reducible rfl)); simp only [Act.put, List.setIfInBounds_toArray, List.set_cons_zero, List.set_cons_succ]; go_big_quiet_on)
          | (refine quiet_enter ?_ HTC.out ?_; (focus (intro w' hC; clear hC; go_simp; try with_reducible rfl)); simp only [Act.put, List.setIfInBounds_toArray, List.set_cons_zero, List.set_cons_succ]; go_big_quiet_on)))
    refine wpQuiet_nil ?_
    intro w7 H7
    all_goals go_wp2_with fail
    all_goals go_ret
    all_goals exact ⟨rfl, H7.1⟩
theorem finds_walk (nl f : Bool) (sl : Value) (l : List ByteArray) (c a : Int) (w : World) (h : EnvF w) (hs : Strs w sl l) (hl : l.length ≤ 9223372036854775807) (hc0 : -9223372036854775808 ≤ c) (hc1 : c ≤ 9223372036854775807) :
    Calls Tryd.prog 3 #[errD nl sl c a f] w fun e w' => e = .returned (.bool true) ∧ Below w.heap.size w w' := by
  by_cases hw : fewB l a = true
  · cases nl with
    | true => exact finds_rest true f sl l c a w h hs hl hc0 hc1 (.inr rfl)
    | false =>
      have hu := few_use hw
      have hbu := fun w hs => build_any sl l c a f w hs (by have := hu.1; omega)
      have htx := fun w hs => rtext_any false f sl l c a hc0 hc1 w hs (by have := hu.1; omega) (fun q hq => by have := hu.2.1 q hq; omega)
      have hq : ∀ q ∈ l.reverse, q.size ≤ 1000 := fun q hq => by have := hu.2.1 q (List.mem_reverse.1 hq); omega
      have hn : l.reverse.length ≤ 1000 := by rw [List.length_reverse]; have := hu.1; omega
      generalize l.reverse = ps at *
      cases ps with
      | nil =>
        cases f with
        | true => exact finds_stepF true sl (.agg #[.int .i64 c, .int .i64 a]) l c a (textW c []) w h hs hl hw hbu (code_W true c a []) (at_W true c a []) (fun w ht => fault_error c a hc0 hc1 w ht) htx
        | false => exact finds_stepC false sl (.int .i64 c) l c a (textW c []) w h hs hl hw hbu (code_W false c a []) (at_W false c a []) (fun w ht => code_error c hc0 hc1 w ht) htx
      | cons p ps =>
        exact finds_stepW f sl (.agg #[.string p, errW f c a ps]) l c a (textW c (p :: ps)) w h hs hl hw hbu (code_W f c a (p :: ps)) (at_W f c a (p :: ps))
          (fun w ht => within_error f c a hc0 hc1 ps p hq (by rw [List.length_cons] at hn; omega) w ht) htx
  · exact finds_rest nl f sl l c a w h hs hl hc0 hc1 (.inl (by simpa using hw))
end Go.Proofs.YtnbeeahfohfgoaaDoor
