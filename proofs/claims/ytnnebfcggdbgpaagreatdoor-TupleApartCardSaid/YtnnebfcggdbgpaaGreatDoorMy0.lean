/-
  vestryref18.Put, Read, ParseBytes.
-/
import Derived.Test.YtnnebfcggdbgpaaGreatDoorTuL
import Derived.Test.YtnnebfcggdbgpaaGreatDoorMu0
import Derived.Test.YtnnebfcggdbgpaaGreatDoorTuG
import Derived.Test.YtnnebfcggdbgpaaGreatDoorStepC
import Derived.Test.YtnnebfcggdbgpaaGreatDoorSame
import Derived.Deep.RegionHeld3
import Derived.RegionTactic
import Derived.BigRegion
namespace Go.Proofs.YtnnebfcggdbgpaaGreatDoor
open Go.ChangeShapes Go.WideShapes Go.ChangeAt Go.RowKit
set_option linter.unusedVariables false
set_option linter.unusedSimpArgs false

set_option maxRecDepth 100000 in
set_option maxHeartbeats 4000000 in
theorem rput_any (t : Tu) (hz : sizesT t 1000) (w : World) : Calls Tryz.prog 23 #[tuV t] w fun e w' => ∃ v, e = .returned v ∧ Held w.heap.size w' v (putT t) ∧ Below w.heap.size w w' := by
  have HSZ : Hid (sizesT t 1000) := hz
  obtain ⟨c0, c1, c2, c3, c4, c5⟩ := tcells w t 25
  have HB0 := Lib.hid (below_tu w t 25)
  clear hz
  go_enter Tryz.func23, Tryz.ntmps23
  go_upto_region 3 with fail
  have b1 : Below (w.alloc (.cells (tc t).toArray 25)).heap.size (w.alloc (.cells (tc t).toArray 25)) ((w.alloc (.cells (tc t).toArray 25)).alloc (.cells #[.string t.ot, .string t.oi, .string t.re, .string t.st, .string t.si, .string t.us] 9)) := (Below.refl _ _).alloc (Nat.le_refl _) _
  have HB1 := Lib.hid (HB0.out.trans (b1.mono HB0.out.size))
  have HA1 := Lib.hid (Arr.new' (w.alloc (.cells (tc t).toArray 25)) 9 #[.string t.ot, .string t.oi, .string t.re, .string t.st, .string t.si, .string t.us] _ rfl)
  rw [show (w.alloc (.cells (tc t).toArray 25)).heap.size = w.heap.size + 1 by simp] at HA1
  have HNW : Hid (w.heap.size ≤ w.heap.size + 1) := Nat.le_succ _
  generalize (w.alloc (.cells (tc t).toArray 25)).alloc (.cells #[.string t.ot, .string t.oi, .string t.re, .string t.st, .string t.si, .string t.us] 9) = w1 at HB1 HA1 ⊢
  generalize w.heap.size + 1 = n at HA1 HNW ⊢
  have HH1 : Hid (Held (n + 1) w1 (.slice none 0 0) []) := .inl ⟨rfl, rfl⟩
  have HPT : Hid (([] : List UInt8) ++ putS t.ot ++ putS t.oi ++ putS t.re ++ putS t.st ++ putS t.si ++ putS t.us = putT t) := by
    show _ = _
    simp only [putT, List.nil_append, List.append_assoc]
  have HPZ : Hid ((putS t.ot).length ≤ 1010 ∧ (putS t.oi).length ≤ 1010 ∧ (putS t.re).length ≤ 1010 ∧ (putS t.st).length ≤ 1010 ∧ (putS t.si).length ≤ 1010) :=
    ⟨putS_small _ HSZ.out.1, putS_small _ HSZ.out.2.1, putS_small _ HSZ.out.2.2.1, putS_small _ HSZ.out.2.2.2.1, putS_small _ HSZ.out.2.2.2.2.1⟩
  clear b1 HB0 c0 c1 c2 c3 c4 c5
  go_wp2_with fail
  refine wp_loop_rounds 7 ?_
  rw [rounds_succ]
  have c0 := HA1.out.cell 0
  simp only [List.getElem?_cons_zero, List.getElem?_cons_succ] at c0
  go_wp2_with fail
  refine (rtext_any t.ot (by have := HSZ.out.1; omega) _).mono ?_
  rintro e w2 ⟨v2, rfl, o2, b2⟩
  have HO2 : Hid (Rd w2.heap.size w2 v2 (putS t.ot)) := Rd.of_own o2
  have HB2 := Lib.hid (HB1.out.trans (b2.mono HB1.out.size))
  have HA2 := Lib.hid (HA1.out.later b2)
  have HH2 := Lib.hid (HH1.out.later b2)
  have HLE2 : Hid (([] : List UInt8).length + (putS t.ot).length ≤ 140737488355328) := by
    have := HPZ.out
    have := putS_small t.ot HSZ.out.1
    show _ ≤ _
    simp only [List.length_append, List.length_nil] at this ⊢
    omega
  have HNL2 : Hid (n < w2.heap.size ∧ w.heap.size ≤ n) := ⟨HA2.out.lt, HNW.out⟩
  clear o2 b2 HB1 HA1 HH1 c0
  go_wp2_with (at_builtin; refine app_held rfl _ _ rfl rfl HH2.out rfl HO2.out HLE2.out HNL2.out.1 ?_; intro v3 w3 hA bA; have HB3 := Lib.hid (HB2.out.trans (bA.mono (by have := HNL2.out; omega))); have HA3 := Lib.hid (HA2.out.below bA (Nat.lt_succ_self _)); have HH3 := Lib.hid hA; obtain ⟨q3, m3, p3, hv3⟩ := held_sl hA; subst hv3; clear hA bA HB2 HA2 HH2 HO2 HLE2)
  rw [rounds_succ]
  have c1 := HA3.out.cell 1
  simp only [List.getElem?_cons_zero, List.getElem?_cons_succ] at c1
  go_wp2_with fail
  refine (rtext_any t.oi (by have := HSZ.out.2.1; omega) _).mono ?_
  rintro e w4 ⟨v4, rfl, o4, b4⟩
  have HO4 : Hid (Rd w4.heap.size w4 v4 (putS t.oi)) := Rd.of_own o4
  have HB4 := Lib.hid (HB3.out.trans (b4.mono HB3.out.size))
  have HA4 := Lib.hid (HA3.out.later b4)
  have HH4 := Lib.hid (HH3.out.later b4)
  have HLE4 : Hid ((([] : List UInt8) ++ putS t.ot).length + (putS t.oi).length ≤ 140737488355328) := by
    have := HPZ.out
    have := putS_small t.oi HSZ.out.2.1
    show _ ≤ _
    simp only [List.length_append, List.length_nil] at this ⊢
    omega
  have HNL4 : Hid (n < w4.heap.size ∧ w.heap.size ≤ n) := ⟨HA4.out.lt, HNW.out⟩
  clear o4 b4 HB3 HA3 HH3 c1
  go_wp2_with (at_builtin; refine app_held rfl _ _ rfl rfl HH4.out rfl HO4.out HLE4.out HNL4.out.1 ?_; intro v5 w5 hA bA; have HB5 := Lib.hid (HB4.out.trans (bA.mono (by have := HNL4.out; omega))); have HA5 := Lib.hid (HA4.out.below bA (Nat.lt_succ_self _)); have HH5 := Lib.hid hA; obtain ⟨q5, m5, p5, hv5⟩ := held_sl hA; subst hv5; clear hA bA HB4 HA4 HH4 HO4 HLE4)
  rw [rounds_succ]
  have c2 := HA5.out.cell 2
  simp only [List.getElem?_cons_zero, List.getElem?_cons_succ] at c2
  go_wp2_with fail
  refine (rtext_any t.re (by have := HSZ.out.2.2.1; omega) _).mono ?_
  rintro e w6 ⟨v6, rfl, o6, b6⟩
  have HO6 : Hid (Rd w6.heap.size w6 v6 (putS t.re)) := Rd.of_own o6
  have HB6 := Lib.hid (HB5.out.trans (b6.mono HB5.out.size))
  have HA6 := Lib.hid (HA5.out.later b6)
  have HH6 := Lib.hid (HH5.out.later b6)
  have HLE6 : Hid (((([] : List UInt8) ++ putS t.ot) ++ putS t.oi).length + (putS t.re).length ≤ 140737488355328) := by
    have := HPZ.out
    have := putS_small t.re HSZ.out.2.2.1
    show _ ≤ _
    simp only [List.length_append, List.length_nil] at this ⊢
    omega
  have HNL6 : Hid (n < w6.heap.size ∧ w.heap.size ≤ n) := ⟨HA6.out.lt, HNW.out⟩
  clear o6 b6 HB5 HA5 HH5 c2
  go_wp2_with (at_builtin; refine app_held rfl _ _ rfl rfl HH6.out rfl HO6.out HLE6.out HNL6.out.1 ?_; intro v7 w7 hA bA; have HB7 := Lib.hid (HB6.out.trans (bA.mono (by have := HNL6.out; omega))); have HA7 := Lib.hid (HA6.out.below bA (Nat.lt_succ_self _)); have HH7 := Lib.hid hA; obtain ⟨q7, m7, p7, hv7⟩ := held_sl hA; subst hv7; clear hA bA HB6 HA6 HH6 HO6 HLE6)
  rw [rounds_succ]
  have c3 := HA7.out.cell 3
  simp only [List.getElem?_cons_zero, List.getElem?_cons_succ] at c3
  go_wp2_with fail
  refine (rtext_any t.st (by have := HSZ.out.2.2.2.1; omega) _).mono ?_
  rintro e w8 ⟨v8, rfl, o8, b8⟩
  have HO8 : Hid (Rd w8.heap.size w8 v8 (putS t.st)) := Rd.of_own o8
  have HB8 := Lib.hid (HB7.out.trans (b8.mono HB7.out.size))
  have HA8 := Lib.hid (HA7.out.later b8)
  have HH8 := Lib.hid (HH7.out.later b8)
  have HLE8 : Hid ((((([] : List UInt8) ++ putS t.ot) ++ putS t.oi) ++ putS t.re).length + (putS t.st).length ≤ 140737488355328) := by
    have := HPZ.out
    have := putS_small t.st HSZ.out.2.2.2.1
    show _ ≤ _
    simp only [List.length_append, List.length_nil] at this ⊢
    omega
  have HNL8 : Hid (n < w8.heap.size ∧ w.heap.size ≤ n) := ⟨HA8.out.lt, HNW.out⟩
  clear o8 b8 HB7 HA7 HH7 c3
  go_wp2_with (at_builtin; refine app_held rfl _ _ rfl rfl HH8.out rfl HO8.out HLE8.out HNL8.out.1 ?_; intro v9 w9 hA bA; have HB9 := Lib.hid (HB8.out.trans (bA.mono (by have := HNL8.out; omega))); have HA9 := Lib.hid (HA8.out.below bA (Nat.lt_succ_self _)); have HH9 := Lib.hid hA; obtain ⟨q9, m9, p9, hv9⟩ := held_sl hA; subst hv9; clear hA bA HB8 HA8 HH8 HO8 HLE8)
  rw [rounds_succ]
  have c4 := HA9.out.cell 4
  simp only [List.getElem?_cons_zero, List.getElem?_cons_succ] at c4
  go_wp2_with fail
  refine (rtext_any t.si (by have := HSZ.out.2.2.2.2.1; omega) _).mono ?_
  rintro e w10 ⟨v10, rfl, o10, b10⟩
  have HO10 : Hid (Rd w10.heap.size w10 v10 (putS t.si)) := Rd.of_own o10
  have HB10 := Lib.hid (HB9.out.trans (b10.mono HB9.out.size))
  have HA10 := Lib.hid (HA9.out.later b10)
  have HH10 := Lib.hid (HH9.out.later b10)
  have HLE10 : Hid (((((([] : List UInt8) ++ putS t.ot) ++ putS t.oi) ++ putS t.re) ++ putS t.st).length + (putS t.si).length ≤ 140737488355328) := by
    have := HPZ.out
    have := putS_small t.si HSZ.out.2.2.2.2.1
    show _ ≤ _
    simp only [List.length_append, List.length_nil] at this ⊢
    omega
  have HNL10 : Hid (n < w10.heap.size ∧ w.heap.size ≤ n) := ⟨HA10.out.lt, HNW.out⟩
  clear o10 b10 HB9 HA9 HH9 c4
  go_wp2_with (at_builtin; refine app_held rfl _ _ rfl rfl HH10.out rfl HO10.out HLE10.out HNL10.out.1 ?_; intro v11 w11 hA bA; have HB11 := Lib.hid (HB10.out.trans (bA.mono (by have := HNL10.out; omega))); have HA11 := Lib.hid (HA10.out.below bA (Nat.lt_succ_self _)); have HH11 := Lib.hid hA; obtain ⟨q11, m11, p11, hv11⟩ := held_sl hA; subst hv11; clear hA bA HB10 HA10 HH10 HO10 HLE10)
  rw [rounds_succ]
  have c5 := HA11.out.cell 5
  simp only [List.getElem?_cons_zero, List.getElem?_cons_succ] at c5
  go_wp2_with fail
  refine (rtext_any t.us (by have := HSZ.out.2.2.2.2.2; omega) _).mono ?_
  rintro e w12 ⟨v12, rfl, o12, b12⟩
  have HO12 : Hid (Rd w12.heap.size w12 v12 (putS t.us)) := Rd.of_own o12
  have HB12 := Lib.hid (HB11.out.trans (b12.mono HB11.out.size))
  have HA12 := Lib.hid (HA11.out.later b12)
  have HH12 := Lib.hid (HH11.out.later b12)
  have HLE12 : Hid ((((((([] : List UInt8) ++ putS t.ot) ++ putS t.oi) ++ putS t.re) ++ putS t.st) ++ putS t.si).length + (putS t.us).length ≤ 140737488355328) := by
    have := HPZ.out
    have := putS_small t.us HSZ.out.2.2.2.2.2
    show _ ≤ _
    simp only [List.length_append, List.length_nil] at this ⊢
    omega
  have HNL12 : Hid (n < w12.heap.size ∧ w.heap.size ≤ n) := ⟨HA12.out.lt, HNW.out⟩
  clear o12 b12 HB11 HA11 HH11 c5
  go_wp2_with (at_builtin; refine app_held rfl _ _ rfl rfl HH12.out rfl HO12.out HLE12.out HNL12.out.1 ?_; intro v13 w13 hA bA; have HB13 := Lib.hid (HB12.out.trans (bA.mono (by have := HNL12.out; omega))); have HA13 := Lib.hid (HA12.out.below bA (Nat.lt_succ_self _)); have HH13 := Lib.hid hA; obtain ⟨q13, m13, p13, hv13⟩ := held_sl hA; subst hv13; clear hA bA HB12 HA12 HH12 HO12 HLE12)
  rw [rounds_succ]
  go_wp2_with fail
  go_ret
  exact ⟨_, rfl, by rw [← HPT.out]; exact HH13.out.mono (Nat.le_succ_of_le HNW.out), HB13.out⟩
end Go.Proofs.YtnnebfcggdbgpaaGreatDoor
/-
  vestryref18.Read, ParseBytes.
-/
namespace Go.Proofs.YtnnebfcggdbgpaaGreatDoor
open Go.ChangeShapes Go.WideShapes Go.ChangeAt Go.RowKit
set_option linter.unusedVariables false
set_option linter.unusedSimpArgs false

theorem readT_of {b : List UInt8} {A : Nat} {S : Tu × Nat × Nat} (h : readS b A = S) (hc : S.2.2 ≠ 0) : readT b A = (t0, S.2.1, S.2.2) := by unfold readT; rw [h, if_neg hc]
theorem readT_ok {b : List UInt8} {A : Nat} {S : Tu × Nat × Nat} (h : readS b A = S) (hc : S.2.2 = 0) : readT b A = S := by unfold readT; rw [h, if_pos hc]
set_option maxRecDepth 100000 in
set_option maxHeartbeats 8000000 in
theorem rtread_any {B : Nat} {w : World} {vb : Value} {b : List UInt8} (hr : Rd B w vb b) (hB : B ≤ w.heap.size) (hl : b.length ≤ 1000000) (At0 : Nat) (hat : At0 ≤ b.length) :
    Calls Tryz.prog 29 #[vb, .int .i64 At0] w fun e w' => e = .returned (.tuple #[tuV (readT b At0).1, .int .i64 ((readT b At0).2.1 : Nat), .int .i64 ((readT b At0).2.2 : Nat)]) ∧ Below w.heap.size w w' := by
  have b0 : Below w.heap.size w ((w.alloc (.cells #[.string ⟨#[]⟩, .string ⟨#[]⟩, .string ⟨#[]⟩, .string ⟨#[]⟩, .string ⟨#[]⟩, .string ⟨#[]⟩] 25)).alloc (.cells #[.string ⟨#[]⟩, .string ⟨#[]⟩, .string ⟨#[]⟩, .string ⟨#[]⟩, .string ⟨#[]⟩, .string ⟨#[]⟩] 111)) := ((Below.refl _ _).alloc (Nat.le_refl _) _).alloc (by simp) _
  have HB0 := Lib.hid b0
  have HX0 : Hid (TuAt ((w.alloc (.cells #[.string ⟨#[]⟩, .string ⟨#[]⟩, .string ⟨#[]⟩, .string ⟨#[]⟩, .string ⟨#[]⟩, .string ⟨#[]⟩] 25)).alloc (.cells #[.string ⟨#[]⟩, .string ⟨#[]⟩, .string ⟨#[]⟩, .string ⟨#[]⟩, .string ⟨#[]⟩, .string ⟨#[]⟩] 111)) w.heap.size t0) := (tu_new w t0).alloc _
  have HA0 : Hid (Arr ((w.alloc (.cells #[.string ⟨#[]⟩, .string ⟨#[]⟩, .string ⟨#[]⟩, .string ⟨#[]⟩, .string ⟨#[]⟩, .string ⟨#[]⟩] 25)).alloc (.cells #[.string ⟨#[]⟩, .string ⟨#[]⟩, .string ⟨#[]⟩, .string ⟨#[]⟩, .string ⟨#[]⟩, .string ⟨#[]⟩] 111)) 111 (w.heap.size + 1) [.string ⟨#[]⟩, .string ⟨#[]⟩, .string ⟨#[]⟩, .string ⟨#[]⟩, .string ⟨#[]⟩, .string ⟨#[]⟩]) := Arr.new2 w _ 111 #[.string ⟨#[]⟩, .string ⟨#[]⟩, .string ⟨#[]⟩, .string ⟨#[]⟩, .string ⟨#[]⟩, .string ⟨#[]⟩] _ rfl
  have HR0 : Hid (Rd w.heap.size ((w.alloc (.cells #[.string ⟨#[]⟩, .string ⟨#[]⟩, .string ⟨#[]⟩, .string ⟨#[]⟩, .string ⟨#[]⟩, .string ⟨#[]⟩] 25)).alloc (.cells #[.string ⟨#[]⟩, .string ⟨#[]⟩, .string ⟨#[]⟩, .string ⟨#[]⟩, .string ⟨#[]⟩, .string ⟨#[]⟩] 111)) vb b) := (hr.mono hB).below b0 (Nat.le_refl _)
  have HLN := Lib.hid hl
  have HAT0 : Hid (At0 ≤ b.length) := hat
  obtain ⟨A, hA⟩ : ∃ A, A = At0 := ⟨_, rfl⟩
  obtain ⟨T0, hT0⟩ : ∃ T, T = t0 := ⟨_, rfl⟩
  have HCH0 : Hid (readS b A = stepR b 2 5 (stepR b 1 4 (stepR b 0 3 (stepR b 0 2 (stepR b 1 1 (stepR b 0 0 ((T0, At0, 0)))))))) := by show _ = _; rw [hA, hT0]; rfl
  have HT0 := Lib.hid hT0
  obtain ⟨qb, cb, rfl⟩ := rd_form hr
  rw [← hA]
  rw [show (.int .i64 (A : Int) : Value) = .int .i64 (At0 : Int) by rw [hA]]
  clear b0 hr hat hl hA hT0
  go_enter Tryz.func29, Tryz.ntmps29
  go_upto_region 2 with fail
  have HNW : Hid (w.heap.size < w.heap.size + 1) := Nat.lt_succ_self _
  generalize ((w.alloc (.cells #[.string ⟨#[]⟩, .string ⟨#[]⟩, .string ⟨#[]⟩, .string ⟨#[]⟩, .string ⟨#[]⟩, .string ⟨#[]⟩] 25)).alloc (.cells #[.string ⟨#[]⟩, .string ⟨#[]⟩, .string ⟨#[]⟩, .string ⟨#[]⟩, .string ⟨#[]⟩, .string ⟨#[]⟩] 111)) = w0 at HB0 HX0 HA0 HR0 ⊢
  obtain ⟨n, hn⟩ : ∃ n, n = w.heap.size + 1 := ⟨_, rfl⟩
  rw [← hn] at HA0 HNW ⊢
  clear hn
  go_wp2_with fail
  refine wp_loop_rounds 7 ?_
  rw [rounds_succ]
  go_wp2_with fail
  refine (rread_at HR0.out HLN.out At0 HAT0.out 64 (by omega)).mono ?_
  rintro e w' ⟨rfl, hw'⟩
  subst hw'
  obtain ⟨P0, hP0⟩ : ∃ P, P = partP 64 (b.drop At0) := ⟨_, rfl⟩
  rw [← hP0]
  have HPS := Lib.hid (partP_small 64 (b.drop At0))
  have HPB := Lib.hid (fun h : (partP 64 (b.drop At0)).2.2 = 0 => (part_back h).1)
  rw [← hP0] at HPS HPB
  by_cases hc0 : P0.2.2 = 0
  · have HSY := Lib.hid (fun h3 : isName (str P0.1) = true => stepR_yes (b := b) (k := 0) (i := 0) (S := (T0, At0, 0)) rfl (by show (partP 64 (b.drop At0)).2.2 = 0; rw [← hP0]; exact hc0) (by show isName (str (partP 64 (b.drop At0)).1) = true; rw [← hP0]; exact h3))
    have HSN := Lib.hid (fun h3 : isName (str P0.1) = false => stepR_name (b := b) (k := 0) (i := 0) (S := (T0, At0, 0)) rfl (by show (partP 64 (b.drop At0)).2.2 = 0; rw [← hP0]; exact hc0) (by show isName (str (partP 64 (b.drop At0)).1) = false; rw [← hP0]; exact h3))
    rw [show mostK 0 = 64 from rfl] at HSY
    simp only [← hP0] at HSY
    have hsz0 : (str P0.1).size ≤ 64 := HPB.out hc0
    have hat1 : At0 + P0.2.1 ≤ b.length := by have := HPS.out; have := HAT0.out; rw [List.length_drop] at *; omega
    rw [hc0]
    obtain ⟨s0, hs0⟩ : ∃ s, s = str P0.1 := ⟨_, rfl⟩
    obtain ⟨At1, hA1⟩ : ∃ n, n = At0 + P0.2.1 := ⟨_, rfl⟩
    rw [← hs0] at HSY HSN hsz0 ⊢
    rw [← hA1] at HSY hat1 ⊢
    have HAT1 := Lib.hid hat1
    have HSZ0 := Lib.hid hsz0
    clear hs0 hA1 hat1 hsz0 hP0 hc0 HPS HPB
    rw [show ((0 : Nat) : Int) = 0 from rfl]
    go_wp2_with fail
    refine (risName_any s0 (by have := HSZ0.out; omega) _).mono ?_
    rintro e w' ⟨rfl, hw'⟩
    subst hw'
    cases hv0 : isName s0 with
    | false =>
      have HV0 := Lib.hid hv0
      clear hv0
      have HRT : Hid (readT b A = (t0, At0, 5)) := by
        refine readT_of (S := (T0, At0, 5)) ?_ (show (5 : Nat) ≠ 0 by decide)
        rw [HCH0.out, HSN.out HV0.out]
        rw [stepR_stop (S := (T0, At0, 5)) (show (5 : Nat) ≠ 0 by decide)]
        rw [stepR_stop (S := (T0, At0, 5)) (show (5 : Nat) ≠ 0 by decide)]
        rw [stepR_stop (S := (T0, At0, 5)) (show (5 : Nat) ≠ 0 by decide)]
        rw [stepR_stop (S := (T0, At0, 5)) (show (5 : Nat) ≠ 0 by decide)]
        rw [stepR_stop (S := (T0, At0, 5)) (show (5 : Nat) ≠ 0 by decide)]
      clear HSY HSN
      have hA := HX0.out
      go_wp2_with ((with_reducible refine storeT (x := .tmp 4) (y := .tmp 53) (u := t0) (o := ⟨none, .store _ _ _, _, _, _, _⟩) hA ?_ ?_); exact ⟨rfl, rfl, rfl, rfl⟩)
      refine bodyPost_ret (resT2 rfl (hA.row _) rfl) rfl ⟨?_, below_row HB0.out (Nat.le_refl _) _⟩
      rw [HRT.out]; rfl
    | true =>
      have HV0 := Lib.hid hv0
      clear hv0
      obtain ⟨T1, hT1⟩ : ∃ T, T = T0.set 0 s0 := ⟨_, rfl⟩
      have HCH1 : Hid (readS b A = stepR b 2 5 (stepR b 1 4 (stepR b 0 3 (stepR b 0 2 (stepR b 1 1 ((T1, At1, 0))))))) := by
        show _ = _
        rw [HCH0.out, HSY.out HV0.out, hT1]
      have HT1 := Lib.hid hT1
      have c0 := HA0.out.cell 0
      have f0 := HA0.out.free 0
      simp only [List.getElem?_cons_zero, List.getElem?_cons_succ] at c0
      have HA1 : Hid (Arr (w0.setCell ⟨n, 0, none⟩ (.string s0)) 111 n [.string s0, .string ⟨#[]⟩, .string ⟨#[]⟩, .string ⟨#[]⟩, .string ⟨#[]⟩, .string ⟨#[]⟩]) := HA0.out.set 0 (.string s0)
      have HX1 : Hid (TuAt (w0.setCell ⟨n, 0, none⟩ (.string s0)) w.heap.size t0) := HX0.out.setCell (a := ⟨n, 0, none⟩) (Nat.ne_of_lt HNW.out) _
      have HB1 : Hid (Below w.heap.size w (w0.setCell ⟨n, 0, none⟩ (.string s0))) := HB0.out.setCell (p := ⟨n, 0, none⟩) (Nat.le_of_lt HNW.out) _
      have HR1 : Hid (Rd w.heap.size (w0.setCell ⟨n, 0, none⟩ (.string s0)) (.slice qb b.length cb) b) := HR0.out.below ((Below.refl w.heap.size w0).setCell (p := ⟨n, 0, none⟩) (Nat.le_of_lt HNW.out) _) (Nat.le_refl _)
      clear hT1 HSY HSN HCH0
      go_wp2_with fail
      generalize w0.setCell ⟨n, 0, none⟩ (.string s0) = w1 at HA1 HX1 HB1 HR1 ⊢
      clear c0 f0 HA0 HX0 HB0 HR0
      rw [rounds_succ]
      go_wp2_with fail
      refine (rread_at HR1.out HLN.out At1 HAT1.out 128 (by omega)).mono ?_
      rintro e w' ⟨rfl, hw'⟩
      subst hw'
      obtain ⟨P1, hP1⟩ : ∃ P, P = partP 128 (b.drop At1) := ⟨_, rfl⟩
      rw [← hP1]
      have HPS := Lib.hid (partP_small 128 (b.drop At1))
      have HPB := Lib.hid (fun h : (partP 128 (b.drop At1)).2.2 = 0 => (part_back h).1)
      rw [← hP1] at HPS HPB
      by_cases hc1 : P1.2.2 = 0
      · have HSY := Lib.hid (fun h3 : isId (str P1.1) = true => stepR_yes (b := b) (k := 1) (i := 1) (S := (T1, At1, 0)) rfl (by show (partP 128 (b.drop At1)).2.2 = 0; rw [← hP1]; exact hc1) (by show isId (str (partP 128 (b.drop At1)).1) = true; rw [← hP1]; exact h3))
        have HSN := Lib.hid (fun h3 : isId (str P1.1) = false => stepR_name (b := b) (k := 1) (i := 1) (S := (T1, At1, 0)) rfl (by show (partP 128 (b.drop At1)).2.2 = 0; rw [← hP1]; exact hc1) (by show isId (str (partP 128 (b.drop At1)).1) = false; rw [← hP1]; exact h3))
        rw [show mostK 1 = 128 from rfl] at HSY
        simp only [← hP1] at HSY
        have hsz1 : (str P1.1).size ≤ 128 := HPB.out hc1
        have hat2 : At1 + P1.2.1 ≤ b.length := by have := HPS.out; have := HAT1.out; rw [List.length_drop] at *; omega
        rw [hc1]
        obtain ⟨s1, hs1⟩ : ∃ s, s = str P1.1 := ⟨_, rfl⟩
        obtain ⟨At2, hA2⟩ : ∃ n, n = At1 + P1.2.1 := ⟨_, rfl⟩
        rw [← hs1] at HSY HSN hsz1 ⊢
        rw [← hA2] at HSY hat2 ⊢
        have HAT2 := Lib.hid hat2
        have HSZ1 := Lib.hid hsz1
        clear hs1 hA2 hat2 hsz1 hP1 hc1 HPS HPB
        rw [show ((0 : Nat) : Int) = 0 from rfl]
        go_wp2_with fail
        refine (risName_any s1 (by have := HSZ1.out; omega) _).mono ?_
        rintro e w' ⟨rfl, hw'⟩
        subst hw'
        go_wp2_with fail
        refine (risId_any s1 (by have := HSZ1.out; omega) _).mono ?_
        rintro e w' ⟨rfl, hw'⟩
        subst hw'
        cases hv1 : isId s1 with
        | false =>
          have HV1 := Lib.hid hv1
          clear hv1
          have HRT : Hid (readT b A = (t0, At1, 5)) := by
            refine readT_of (S := (T1, At1, 5)) ?_ (show (5 : Nat) ≠ 0 by decide)
            rw [HCH1.out, HSN.out HV1.out]
            rw [stepR_stop (S := (T1, At1, 5)) (show (5 : Nat) ≠ 0 by decide)]
            rw [stepR_stop (S := (T1, At1, 5)) (show (5 : Nat) ≠ 0 by decide)]
            rw [stepR_stop (S := (T1, At1, 5)) (show (5 : Nat) ≠ 0 by decide)]
            rw [stepR_stop (S := (T1, At1, 5)) (show (5 : Nat) ≠ 0 by decide)]
          clear HSY HSN
          have hA := HX1.out
          go_wp2_with ((with_reducible refine storeT (x := .tmp 4) (y := .tmp 53) (u := t0) (o := ⟨none, .store _ _ _, _, _, _, _⟩) hA ?_ ?_); exact ⟨rfl, rfl, rfl, rfl⟩)
          refine bodyPost_ret (resT2 rfl (hA.row _) rfl) rfl ⟨?_, below_row HB1.out (Nat.le_refl _) _⟩
          rw [HRT.out]; rfl
        | true =>
          have HV1 := Lib.hid hv1
          clear hv1
          obtain ⟨T2, hT2⟩ : ∃ T, T = T1.set 1 s1 := ⟨_, rfl⟩
          have HCH2 : Hid (readS b A = stepR b 2 5 (stepR b 1 4 (stepR b 0 3 (stepR b 0 2 ((T2, At2, 0)))))) := by
            show _ = _
            rw [HCH1.out, HSY.out HV1.out, hT2]
          have HT2 := Lib.hid hT2
          have c1 := HA1.out.cell 1
          have f1 := HA1.out.free 1
          simp only [List.getElem?_cons_zero, List.getElem?_cons_succ] at c1
          have HA2 : Hid (Arr (w1.setCell ⟨n, 1, none⟩ (.string s1)) 111 n [.string s0, .string s1, .string ⟨#[]⟩, .string ⟨#[]⟩, .string ⟨#[]⟩, .string ⟨#[]⟩]) := HA1.out.set 1 (.string s1)
          have HX2 : Hid (TuAt (w1.setCell ⟨n, 1, none⟩ (.string s1)) w.heap.size t0) := HX1.out.setCell (a := ⟨n, 1, none⟩) (Nat.ne_of_lt HNW.out) _
          have HB2 : Hid (Below w.heap.size w (w1.setCell ⟨n, 1, none⟩ (.string s1))) := HB1.out.setCell (p := ⟨n, 1, none⟩) (Nat.le_of_lt HNW.out) _
          have HR2 : Hid (Rd w.heap.size (w1.setCell ⟨n, 1, none⟩ (.string s1)) (.slice qb b.length cb) b) := HR1.out.below ((Below.refl w.heap.size w1).setCell (p := ⟨n, 1, none⟩) (Nat.le_of_lt HNW.out) _) (Nat.le_refl _)
          clear hT2 HSY HSN HCH1
          go_wp2_with fail
          generalize w1.setCell ⟨n, 1, none⟩ (.string s1) = w2 at HA2 HX2 HB2 HR2 ⊢
          clear c1 f1 HA1 HX1 HB1 HR1
          rw [rounds_succ]
          go_wp2_with fail
          refine (rread_at HR2.out HLN.out At2 HAT2.out 64 (by omega)).mono ?_
          rintro e w' ⟨rfl, hw'⟩
          subst hw'
          obtain ⟨P2, hP2⟩ : ∃ P, P = partP 64 (b.drop At2) := ⟨_, rfl⟩
          rw [← hP2]
          have HPS := Lib.hid (partP_small 64 (b.drop At2))
          have HPB := Lib.hid (fun h : (partP 64 (b.drop At2)).2.2 = 0 => (part_back h).1)
          rw [← hP2] at HPS HPB
          by_cases hc2 : P2.2.2 = 0
          · have HSY := Lib.hid (fun h3 : isName (str P2.1) = true => stepR_yes (b := b) (k := 0) (i := 2) (S := (T2, At2, 0)) rfl (by show (partP 64 (b.drop At2)).2.2 = 0; rw [← hP2]; exact hc2) (by show isName (str (partP 64 (b.drop At2)).1) = true; rw [← hP2]; exact h3))
            have HSN := Lib.hid (fun h3 : isName (str P2.1) = false => stepR_name (b := b) (k := 0) (i := 2) (S := (T2, At2, 0)) rfl (by show (partP 64 (b.drop At2)).2.2 = 0; rw [← hP2]; exact hc2) (by show isName (str (partP 64 (b.drop At2)).1) = false; rw [← hP2]; exact h3))
            rw [show mostK 0 = 64 from rfl] at HSY
            simp only [← hP2] at HSY
            have hsz2 : (str P2.1).size ≤ 64 := HPB.out hc2
            have hat3 : At2 + P2.2.1 ≤ b.length := by have := HPS.out; have := HAT2.out; rw [List.length_drop] at *; omega
            rw [hc2]
            obtain ⟨s2, hs2⟩ : ∃ s, s = str P2.1 := ⟨_, rfl⟩
            obtain ⟨At3, hA3⟩ : ∃ n, n = At2 + P2.2.1 := ⟨_, rfl⟩
            rw [← hs2] at HSY HSN hsz2 ⊢
            rw [← hA3] at HSY hat3 ⊢
            have HAT3 := Lib.hid hat3
            have HSZ2 := Lib.hid hsz2
            clear hs2 hA3 hat3 hsz2 hP2 hc2 HPS HPB
            rw [show ((0 : Nat) : Int) = 0 from rfl]
            go_wp2_with fail
            refine (risName_any s2 (by have := HSZ2.out; omega) _).mono ?_
            rintro e w' ⟨rfl, hw'⟩
            subst hw'
            cases hv2 : isName s2 with
            | false =>
              have HV2 := Lib.hid hv2
              clear hv2
              have HRT : Hid (readT b A = (t0, At2, 5)) := by
                refine readT_of (S := (T2, At2, 5)) ?_ (show (5 : Nat) ≠ 0 by decide)
                rw [HCH2.out, HSN.out HV2.out]
                rw [stepR_stop (S := (T2, At2, 5)) (show (5 : Nat) ≠ 0 by decide)]
                rw [stepR_stop (S := (T2, At2, 5)) (show (5 : Nat) ≠ 0 by decide)]
                rw [stepR_stop (S := (T2, At2, 5)) (show (5 : Nat) ≠ 0 by decide)]
              clear HSY HSN
              have hA := HX2.out
              go_wp2_with ((with_reducible refine storeT (x := .tmp 4) (y := .tmp 53) (u := t0) (o := ⟨none, .store _ _ _, _, _, _, _⟩) hA ?_ ?_); exact ⟨rfl, rfl, rfl, rfl⟩)
              refine bodyPost_ret (resT2 rfl (hA.row _) rfl) rfl ⟨?_, below_row HB2.out (Nat.le_refl _) _⟩
              rw [HRT.out]; rfl
            | true =>
              have HV2 := Lib.hid hv2
              clear hv2
              obtain ⟨T3, hT3⟩ : ∃ T, T = T2.set 2 s2 := ⟨_, rfl⟩
              have HCH3 : Hid (readS b A = stepR b 2 5 (stepR b 1 4 (stepR b 0 3 ((T3, At3, 0))))) := by
                show _ = _
                rw [HCH2.out, HSY.out HV2.out, hT3]
              have HT3 := Lib.hid hT3
              have c2 := HA2.out.cell 2
              have f2 := HA2.out.free 2
              simp only [List.getElem?_cons_zero, List.getElem?_cons_succ] at c2
              have HA3 : Hid (Arr (w2.setCell ⟨n, 2, none⟩ (.string s2)) 111 n [.string s0, .string s1, .string s2, .string ⟨#[]⟩, .string ⟨#[]⟩, .string ⟨#[]⟩]) := HA2.out.set 2 (.string s2)
              have HX3 : Hid (TuAt (w2.setCell ⟨n, 2, none⟩ (.string s2)) w.heap.size t0) := HX2.out.setCell (a := ⟨n, 2, none⟩) (Nat.ne_of_lt HNW.out) _
              have HB3 : Hid (Below w.heap.size w (w2.setCell ⟨n, 2, none⟩ (.string s2))) := HB2.out.setCell (p := ⟨n, 2, none⟩) (Nat.le_of_lt HNW.out) _
              have HR3 : Hid (Rd w.heap.size (w2.setCell ⟨n, 2, none⟩ (.string s2)) (.slice qb b.length cb) b) := HR2.out.below ((Below.refl w.heap.size w2).setCell (p := ⟨n, 2, none⟩) (Nat.le_of_lt HNW.out) _) (Nat.le_refl _)
              clear hT3 HSY HSN HCH2
              go_wp2_with fail
              generalize w2.setCell ⟨n, 2, none⟩ (.string s2) = w3 at HA3 HX3 HB3 HR3 ⊢
              clear c2 f2 HA2 HX2 HB2 HR2
              rw [rounds_succ]
              go_wp2_with fail
              refine (rread_at HR3.out HLN.out At3 HAT3.out 64 (by omega)).mono ?_
              rintro e w' ⟨rfl, hw'⟩
              subst hw'
              obtain ⟨P3, hP3⟩ : ∃ P, P = partP 64 (b.drop At3) := ⟨_, rfl⟩
              rw [← hP3]
              have HPS := Lib.hid (partP_small 64 (b.drop At3))
              have HPB := Lib.hid (fun h : (partP 64 (b.drop At3)).2.2 = 0 => (part_back h).1)
              rw [← hP3] at HPS HPB
              by_cases hc3 : P3.2.2 = 0
              · have HSY := Lib.hid (fun h3 : isName (str P3.1) = true => stepR_yes (b := b) (k := 0) (i := 3) (S := (T3, At3, 0)) rfl (by show (partP 64 (b.drop At3)).2.2 = 0; rw [← hP3]; exact hc3) (by show isName (str (partP 64 (b.drop At3)).1) = true; rw [← hP3]; exact h3))
                have HSN := Lib.hid (fun h3 : isName (str P3.1) = false => stepR_name (b := b) (k := 0) (i := 3) (S := (T3, At3, 0)) rfl (by show (partP 64 (b.drop At3)).2.2 = 0; rw [← hP3]; exact hc3) (by show isName (str (partP 64 (b.drop At3)).1) = false; rw [← hP3]; exact h3))
                rw [show mostK 0 = 64 from rfl] at HSY
                simp only [← hP3] at HSY
                have hsz3 : (str P3.1).size ≤ 64 := HPB.out hc3
                have hat4 : At3 + P3.2.1 ≤ b.length := by have := HPS.out; have := HAT3.out; rw [List.length_drop] at *; omega
                rw [hc3]
                obtain ⟨s3, hs3⟩ : ∃ s, s = str P3.1 := ⟨_, rfl⟩
                obtain ⟨At4, hA4⟩ : ∃ n, n = At3 + P3.2.1 := ⟨_, rfl⟩
                rw [← hs3] at HSY HSN hsz3 ⊢
                rw [← hA4] at HSY hat4 ⊢
                have HAT4 := Lib.hid hat4
                have HSZ3 := Lib.hid hsz3
                clear hs3 hA4 hat4 hsz3 hP3 hc3 HPS HPB
                rw [show ((0 : Nat) : Int) = 0 from rfl]
                go_wp2_with fail
                refine (risName_any s3 (by have := HSZ3.out; omega) _).mono ?_
                rintro e w' ⟨rfl, hw'⟩
                subst hw'
                cases hv3 : isName s3 with
                | false =>
                  have HV3 := Lib.hid hv3
                  clear hv3
                  have HRT : Hid (readT b A = (t0, At3, 5)) := by
                    refine readT_of (S := (T3, At3, 5)) ?_ (show (5 : Nat) ≠ 0 by decide)
                    rw [HCH3.out, HSN.out HV3.out]
                    rw [stepR_stop (S := (T3, At3, 5)) (show (5 : Nat) ≠ 0 by decide)]
                    rw [stepR_stop (S := (T3, At3, 5)) (show (5 : Nat) ≠ 0 by decide)]
                  clear HSY HSN
                  have hA := HX3.out
                  go_wp2_with ((with_reducible refine storeT (x := .tmp 4) (y := .tmp 53) (u := t0) (o := ⟨none, .store _ _ _, _, _, _, _⟩) hA ?_ ?_); exact ⟨rfl, rfl, rfl, rfl⟩)
                  refine bodyPost_ret (resT2 rfl (hA.row _) rfl) rfl ⟨?_, below_row HB3.out (Nat.le_refl _) _⟩
                  rw [HRT.out]; rfl
                | true =>
                  have HV3 := Lib.hid hv3
                  clear hv3
                  obtain ⟨T4, hT4⟩ : ∃ T, T = T3.set 3 s3 := ⟨_, rfl⟩
                  have HCH4 : Hid (readS b A = stepR b 2 5 (stepR b 1 4 ((T4, At4, 0)))) := by
                    show _ = _
                    rw [HCH3.out, HSY.out HV3.out, hT4]
                  have HT4 := Lib.hid hT4
                  have c3 := HA3.out.cell 3
                  have f3 := HA3.out.free 3
                  simp only [List.getElem?_cons_zero, List.getElem?_cons_succ] at c3
                  have HA4 : Hid (Arr (w3.setCell ⟨n, 3, none⟩ (.string s3)) 111 n [.string s0, .string s1, .string s2, .string s3, .string ⟨#[]⟩, .string ⟨#[]⟩]) := HA3.out.set 3 (.string s3)
                  have HX4 : Hid (TuAt (w3.setCell ⟨n, 3, none⟩ (.string s3)) w.heap.size t0) := HX3.out.setCell (a := ⟨n, 3, none⟩) (Nat.ne_of_lt HNW.out) _
                  have HB4 : Hid (Below w.heap.size w (w3.setCell ⟨n, 3, none⟩ (.string s3))) := HB3.out.setCell (p := ⟨n, 3, none⟩) (Nat.le_of_lt HNW.out) _
                  have HR4 : Hid (Rd w.heap.size (w3.setCell ⟨n, 3, none⟩ (.string s3)) (.slice qb b.length cb) b) := HR3.out.below ((Below.refl w.heap.size w3).setCell (p := ⟨n, 3, none⟩) (Nat.le_of_lt HNW.out) _) (Nat.le_refl _)
                  clear hT4 HSY HSN HCH3
                  go_wp2_with fail
                  generalize w3.setCell ⟨n, 3, none⟩ (.string s3) = w4 at HA4 HX4 HB4 HR4 ⊢
                  clear c3 f3 HA3 HX3 HB3 HR3
                  rw [rounds_succ]
                  go_wp2_with fail
                  refine (rread_at HR4.out HLN.out At4 HAT4.out 128 (by omega)).mono ?_
                  rintro e w' ⟨rfl, hw'⟩
                  subst hw'
                  obtain ⟨P4, hP4⟩ : ∃ P, P = partP 128 (b.drop At4) := ⟨_, rfl⟩
                  rw [← hP4]
                  have HPS := Lib.hid (partP_small 128 (b.drop At4))
                  have HPB := Lib.hid (fun h : (partP 128 (b.drop At4)).2.2 = 0 => (part_back h).1)
                  rw [← hP4] at HPS HPB
                  by_cases hc4 : P4.2.2 = 0
                  · have HSY := Lib.hid (fun h3 : isId (str P4.1) = true => stepR_yes (b := b) (k := 1) (i := 4) (S := (T4, At4, 0)) rfl (by show (partP 128 (b.drop At4)).2.2 = 0; rw [← hP4]; exact hc4) (by show isId (str (partP 128 (b.drop At4)).1) = true; rw [← hP4]; exact h3))
                    have HSN := Lib.hid (fun h3 : isId (str P4.1) = false => stepR_name (b := b) (k := 1) (i := 4) (S := (T4, At4, 0)) rfl (by show (partP 128 (b.drop At4)).2.2 = 0; rw [← hP4]; exact hc4) (by show isId (str (partP 128 (b.drop At4)).1) = false; rw [← hP4]; exact h3))
                    rw [show mostK 1 = 128 from rfl] at HSY
                    simp only [← hP4] at HSY
                    have hsz4 : (str P4.1).size ≤ 128 := HPB.out hc4
                    have hat5 : At4 + P4.2.1 ≤ b.length := by have := HPS.out; have := HAT4.out; rw [List.length_drop] at *; omega
                    rw [hc4]
                    obtain ⟨s4, hs4⟩ : ∃ s, s = str P4.1 := ⟨_, rfl⟩
                    obtain ⟨At5, hA5⟩ : ∃ n, n = At4 + P4.2.1 := ⟨_, rfl⟩
                    rw [← hs4] at HSY HSN hsz4 ⊢
                    rw [← hA5] at HSY hat5 ⊢
                    have HAT5 := Lib.hid hat5
                    have HSZ4 := Lib.hid hsz4
                    clear hs4 hA5 hat5 hsz4 hP4 hc4 HPS HPB
                    rw [show ((0 : Nat) : Int) = 0 from rfl]
                    go_wp2_with fail
                    refine (risName_any s4 (by have := HSZ4.out; omega) _).mono ?_
                    rintro e w' ⟨rfl, hw'⟩
                    subst hw'
                    go_wp2_with fail
                    refine (risId_any s4 (by have := HSZ4.out; omega) _).mono ?_
                    rintro e w' ⟨rfl, hw'⟩
                    subst hw'
                    cases hv4 : isId s4 with
                    | false =>
                      have HV4 := Lib.hid hv4
                      clear hv4
                      have HRT : Hid (readT b A = (t0, At4, 5)) := by
                        refine readT_of (S := (T4, At4, 5)) ?_ (show (5 : Nat) ≠ 0 by decide)
                        rw [HCH4.out, HSN.out HV4.out]
                        rw [stepR_stop (S := (T4, At4, 5)) (show (5 : Nat) ≠ 0 by decide)]
                      clear HSY HSN
                      have hA := HX4.out
                      go_wp2_with ((with_reducible refine storeT (x := .tmp 4) (y := .tmp 53) (u := t0) (o := ⟨none, .store _ _ _, _, _, _, _⟩) hA ?_ ?_); exact ⟨rfl, rfl, rfl, rfl⟩)
                      refine bodyPost_ret (resT2 rfl (hA.row _) rfl) rfl ⟨?_, below_row HB4.out (Nat.le_refl _) _⟩
                      rw [HRT.out]; rfl
                    | true =>
                      have HV4 := Lib.hid hv4
                      clear hv4
                      obtain ⟨T5, hT5⟩ : ∃ T, T = T4.set 4 s4 := ⟨_, rfl⟩
                      have HCH5 : Hid (readS b A = stepR b 2 5 ((T5, At5, 0))) := by
                        show _ = _
                        rw [HCH4.out, HSY.out HV4.out, hT5]
                      have HT5 := Lib.hid hT5
                      have c4 := HA4.out.cell 4
                      have f4 := HA4.out.free 4
                      simp only [List.getElem?_cons_zero, List.getElem?_cons_succ] at c4
                      have HA5 : Hid (Arr (w4.setCell ⟨n, 4, none⟩ (.string s4)) 111 n [.string s0, .string s1, .string s2, .string s3, .string s4, .string ⟨#[]⟩]) := HA4.out.set 4 (.string s4)
                      have HX5 : Hid (TuAt (w4.setCell ⟨n, 4, none⟩ (.string s4)) w.heap.size t0) := HX4.out.setCell (a := ⟨n, 4, none⟩) (Nat.ne_of_lt HNW.out) _
                      have HB5 : Hid (Below w.heap.size w (w4.setCell ⟨n, 4, none⟩ (.string s4))) := HB4.out.setCell (p := ⟨n, 4, none⟩) (Nat.le_of_lt HNW.out) _
                      have HR5 : Hid (Rd w.heap.size (w4.setCell ⟨n, 4, none⟩ (.string s4)) (.slice qb b.length cb) b) := HR4.out.below ((Below.refl w.heap.size w4).setCell (p := ⟨n, 4, none⟩) (Nat.le_of_lt HNW.out) _) (Nat.le_refl _)
                      clear hT5 HSY HSN HCH4
                      go_wp2_with fail
                      generalize w4.setCell ⟨n, 4, none⟩ (.string s4) = w5 at HA5 HX5 HB5 HR5 ⊢
                      clear c4 f4 HA4 HX4 HB4 HR4
                      rw [rounds_succ]
                      go_wp2_with fail
                      refine (rread_at HR5.out HLN.out At5 HAT5.out 64 (by omega)).mono ?_
                      rintro e w' ⟨rfl, hw'⟩
                      subst hw'
                      obtain ⟨P5, hP5⟩ : ∃ P, P = partP 64 (b.drop At5) := ⟨_, rfl⟩
                      rw [← hP5]
                      have HPS := Lib.hid (partP_small 64 (b.drop At5))
                      have HPB := Lib.hid (fun h : (partP 64 (b.drop At5)).2.2 = 0 => (part_back h).1)
                      rw [← hP5] at HPS HPB
                      by_cases hc5 : P5.2.2 = 0
                      · have HSY := Lib.hid (fun h3 : isUs (str P5.1) = true => stepR_yes (b := b) (k := 2) (i := 5) (S := (T5, At5, 0)) rfl (by show (partP 64 (b.drop At5)).2.2 = 0; rw [← hP5]; exact hc5) (by show isUs (str (partP 64 (b.drop At5)).1) = true; rw [← hP5]; exact h3))
                        have HSN := Lib.hid (fun h3 : isUs (str P5.1) = false => stepR_name (b := b) (k := 2) (i := 5) (S := (T5, At5, 0)) rfl (by show (partP 64 (b.drop At5)).2.2 = 0; rw [← hP5]; exact hc5) (by show isUs (str (partP 64 (b.drop At5)).1) = false; rw [← hP5]; exact h3))
                        rw [show mostK 2 = 64 from rfl] at HSY
                        simp only [← hP5] at HSY
                        have hsz5 : (str P5.1).size ≤ 64 := HPB.out hc5
                        have hat6 : At5 + P5.2.1 ≤ b.length := by have := HPS.out; have := HAT5.out; rw [List.length_drop] at *; omega
                        rw [hc5]
                        obtain ⟨s5, hs5⟩ : ∃ s, s = str P5.1 := ⟨_, rfl⟩
                        obtain ⟨At6, hA6⟩ : ∃ n, n = At5 + P5.2.1 := ⟨_, rfl⟩
                        rw [← hs5] at HSY HSN hsz5 ⊢
                        rw [← hA6] at HSY hat6 ⊢
                        have HAT6 := Lib.hid hat6
                        have HSZ5 := Lib.hid hsz5
                        clear hs5 hA6 hat6 hsz5 hP5 hc5 HPS HPB
                        rw [show ((0 : Nat) : Int) = 0 from rfl]
                        go_wp2_with fail
                        refine (risName_any s5 (by have := HSZ5.out; omega) _).mono ?_
                        rintro e w' ⟨rfl, hw'⟩
                        subst hw'
                        by_cases he : s5 = e0
                        · have HV5 : Hid (isUs s5 = true) := by show _ = _; rw [he]; rfl
                          have hnn : isName s5 = false := by rw [he]; decide +kernel
                          rw [hnn]
                          have hempty : s5.toList.isEmpty = true := by rw [he, toList_data]; rfl
                          have hempty2 : s5.toList = [] := by rw [he, toList_data]; rfl
                          clear he hnn
                          obtain ⟨T6, hT6⟩ : ∃ T, T = T5.set 5 s5 := ⟨_, rfl⟩
                          have HCH6 : Hid (readS b A = (T6, At6, 0)) := by
                            show _ = _
                            rw [HCH5.out, HSY.out HV5.out, hT6]
                          have HT6 := Lib.hid hT6
                          have c5 := HA5.out.cell 5
                          have f5 := HA5.out.free 5
                          simp only [List.getElem?_cons_zero, List.getElem?_cons_succ] at c5
                          have HA6 : Hid (Arr (w5.setCell ⟨n, 5, none⟩ (.string s5)) 111 n [.string s0, .string s1, .string s2, .string s3, .string s4, .string s5]) := HA5.out.set 5 (.string s5)
                          have HX6 : Hid (TuAt (w5.setCell ⟨n, 5, none⟩ (.string s5)) w.heap.size t0) := HX5.out.setCell (a := ⟨n, 5, none⟩) (Nat.ne_of_lt HNW.out) _
                          have HB6 : Hid (Below w.heap.size w (w5.setCell ⟨n, 5, none⟩ (.string s5))) := HB5.out.setCell (p := ⟨n, 5, none⟩) (Nat.le_of_lt HNW.out) _
                          have HR6 : Hid (Rd w.heap.size (w5.setCell ⟨n, 5, none⟩ (.string s5)) (.slice qb b.length cb) b) := HR5.out.below ((Below.refl w.heap.size w5).setCell (p := ⟨n, 5, none⟩) (Nat.le_of_lt HNW.out) _) (Nat.le_refl _)
                          clear hT6 HSY HSN HCH5
                          go_wp2_with fail
                          generalize w5.setCell ⟨n, 5, none⟩ (.string s5) = w6 at HA6 HX6 HB6 HR6 ⊢
                          clear c5 f5 HA5 HX5 HB5 HR5
                          rw [rounds_succ]
                          have HRT : Hid (readT b A = (⟨s0, s1, s2, s3, s4, s5⟩, At6, 0)) := by
                            show _ = _
                            rw [readT_ok HCH6.out rfl, HT6.out, HT5.out, HT4.out, HT3.out, HT2.out, HT1.out, HT0.out, sets6]
                          have d0 := HA6.out.cell 0
                          have d1 := HA6.out.cell 1
                          have d2 := HA6.out.cell 2
                          have d3 := HA6.out.cell 3
                          have d4 := HA6.out.cell 4
                          have d5 := HA6.out.cell 5
                          simp only [List.getElem?_cons_zero, List.getElem?_cons_succ] at d0 d1 d2 d3 d4 d5
                          have hA := HX6.out
                          go_wp2_with ((with_reducible refine storeT (x := .tmp 4) (y := .tmp 73) (u := ⟨s0, s1, s2, s3, s4, s5⟩) (o := ⟨none, .store _ _ _, _, _, _, _⟩) hA ?_ ?_); exact ⟨rfl, rfl, rfl, rfl⟩)
                          refine bodyPost_ret (resT2 rfl (hA.row _) rfl) rfl ⟨?_, below_row HB6.out (Nat.le_refl _) _⟩
                          rw [HRT.out]; rfl
                        · obtain ⟨n1, n2⟩ := empty_ne he
                          have hie : isUs s5 = isName s5 := by unfold isUs; simp [he]
                          clear he
                          cases hv5 : isName s5 with
                          | false =>
                            have HV5 : Hid (isUs s5 = false) := by show _ = _; rw [hie, hv5]
                            clear hv5 hie
                            have HRT : Hid (readT b A = (t0, At5, 5)) := by
                              refine readT_of (S := (T5, At5, 5)) ?_ (show (5 : Nat) ≠ 0 by decide)
                              rw [HCH5.out, HSN.out HV5.out]
                            clear HSY HSN
                            have hA := HX5.out
                            go_wp2_with ((with_reducible refine storeT (x := .tmp 4) (y := .tmp 53) (u := t0) (o := ⟨none, .store _ _ _, _, _, _, _⟩) hA ?_ ?_); exact ⟨rfl, rfl, rfl, rfl⟩)
                            refine bodyPost_ret (resT2 rfl (hA.row _) rfl) rfl ⟨?_, below_row HB5.out (Nat.le_refl _) _⟩
                            rw [HRT.out]; rfl
                          | true =>
                            have HV5 : Hid (isUs s5 = true) := by show _ = _; rw [hie, hv5]
                            clear hv5 hie n1 n2
                            obtain ⟨T6, hT6⟩ : ∃ T, T = T5.set 5 s5 := ⟨_, rfl⟩
                            have HCH6 : Hid (readS b A = (T6, At6, 0)) := by
                              show _ = _
                              rw [HCH5.out, HSY.out HV5.out, hT6]
                            have HT6 := Lib.hid hT6
                            have c5 := HA5.out.cell 5
                            have f5 := HA5.out.free 5
                            simp only [List.getElem?_cons_zero, List.getElem?_cons_succ] at c5
                            have HA6 : Hid (Arr (w5.setCell ⟨n, 5, none⟩ (.string s5)) 111 n [.string s0, .string s1, .string s2, .string s3, .string s4, .string s5]) := HA5.out.set 5 (.string s5)
                            have HX6 : Hid (TuAt (w5.setCell ⟨n, 5, none⟩ (.string s5)) w.heap.size t0) := HX5.out.setCell (a := ⟨n, 5, none⟩) (Nat.ne_of_lt HNW.out) _
                            have HB6 : Hid (Below w.heap.size w (w5.setCell ⟨n, 5, none⟩ (.string s5))) := HB5.out.setCell (p := ⟨n, 5, none⟩) (Nat.le_of_lt HNW.out) _
                            have HR6 : Hid (Rd w.heap.size (w5.setCell ⟨n, 5, none⟩ (.string s5)) (.slice qb b.length cb) b) := HR5.out.below ((Below.refl w.heap.size w5).setCell (p := ⟨n, 5, none⟩) (Nat.le_of_lt HNW.out) _) (Nat.le_refl _)
                            clear hT6 HSY HSN HCH5
                            go_wp2_with fail
                            generalize w5.setCell ⟨n, 5, none⟩ (.string s5) = w6 at HA6 HX6 HB6 HR6 ⊢
                            clear c5 f5 HA5 HX5 HB5 HR5
                            rw [rounds_succ]
                            have HRT : Hid (readT b A = (⟨s0, s1, s2, s3, s4, s5⟩, At6, 0)) := by
                              show _ = _
                              rw [readT_ok HCH6.out rfl, HT6.out, HT5.out, HT4.out, HT3.out, HT2.out, HT1.out, HT0.out, sets6]
                            have d0 := HA6.out.cell 0
                            have d1 := HA6.out.cell 1
                            have d2 := HA6.out.cell 2
                            have d3 := HA6.out.cell 3
                            have d4 := HA6.out.cell 4
                            have d5 := HA6.out.cell 5
                            simp only [List.getElem?_cons_zero, List.getElem?_cons_succ] at d0 d1 d2 d3 d4 d5
                            have hA := HX6.out
                            go_wp2_with ((with_reducible refine storeT (x := .tmp 4) (y := .tmp 73) (u := ⟨s0, s1, s2, s3, s4, s5⟩) (o := ⟨none, .store _ _ _, _, _, _, _⟩) hA ?_ ?_); exact ⟨rfl, rfl, rfl, rfl⟩)
                            refine bodyPost_ret (resT2 rfl (hA.row _) rfl) rfl ⟨?_, below_row HB6.out (Nat.le_refl _) _⟩
                            rw [HRT.out]; rfl
                      · have HSB := Lib.hid (stepR_bad (b := b) (k := 2) (i := 5) (S := (T5, At5, 0)) rfl (by show (partP 64 (b.drop At5)).2.2 ≠ 0; rw [← hP5]; exact hc5))
                        rw [show mostK 2 = 64 from rfl] at HSB
                        simp only [← hP5] at HSB
                        have hb0 := partP_bad (most := 64) (r := b.drop At5) (by rw [← hP5]; exact hc5)
                        rw [← hP5] at hb0
                        rw [hb0.1, hb0.2, Nat.add_zero]
                        obtain ⟨cd, hcd⟩ : ∃ c, c = P5.2.2 := ⟨_, rfl⟩
                        rw [← hcd] at HSB hc5 ⊢
                        have HCD := Lib.hid hc5
                        have z1 : ¬ (cd : Int) = 0 := by omega
                        have z2 : ((cd : Int) != 0) = true := by rw [bne_iff_ne]; exact z1
                        clear hb0 hcd hP5 hc5 HPS HPB
                        have HRT : Hid (readT b A = (t0, At5, cd)) := by
                          refine readT_of (S := (T5, At5, cd)) ?_ HCD.out
                          rw [HCH5.out, HSB.out]
                        clear HSB
                        have hA := HX5.out
                        go_wp2_with ((with_reducible refine storeT (x := .tmp 4) (y := .tmp 34) (u := t0) (o := ⟨none, .store _ _ _, _, _, _, _⟩) hA ?_ ?_); exact ⟨rfl, rfl, rfl, rfl⟩)
                        refine bodyPost_ret (resT2 rfl (hA.row _) rfl) rfl ⟨?_, below_row HB5.out (Nat.le_refl _) _⟩
                        rw [HRT.out]; rfl
                  · have HSB := Lib.hid (stepR_bad (b := b) (k := 1) (i := 4) (S := (T4, At4, 0)) rfl (by show (partP 128 (b.drop At4)).2.2 ≠ 0; rw [← hP4]; exact hc4))
                    rw [show mostK 1 = 128 from rfl] at HSB
                    simp only [← hP4] at HSB
                    have hb0 := partP_bad (most := 128) (r := b.drop At4) (by rw [← hP4]; exact hc4)
                    rw [← hP4] at hb0
                    rw [hb0.1, hb0.2, Nat.add_zero]
                    obtain ⟨cd, hcd⟩ : ∃ c, c = P4.2.2 := ⟨_, rfl⟩
                    rw [← hcd] at HSB hc4 ⊢
                    have HCD := Lib.hid hc4
                    have z1 : ¬ (cd : Int) = 0 := by omega
                    have z2 : ((cd : Int) != 0) = true := by rw [bne_iff_ne]; exact z1
                    clear hb0 hcd hP4 hc4 HPS HPB
                    have HRT : Hid (readT b A = (t0, At4, cd)) := by
                      refine readT_of (S := (T4, At4, cd)) ?_ HCD.out
                      rw [HCH4.out, HSB.out]
                      rw [stepR_stop (S := (T4, At4, cd)) HCD.out]
                    clear HSB
                    have hA := HX4.out
                    go_wp2_with ((with_reducible refine storeT (x := .tmp 4) (y := .tmp 34) (u := t0) (o := ⟨none, .store _ _ _, _, _, _, _⟩) hA ?_ ?_); exact ⟨rfl, rfl, rfl, rfl⟩)
                    refine bodyPost_ret (resT2 rfl (hA.row _) rfl) rfl ⟨?_, below_row HB4.out (Nat.le_refl _) _⟩
                    rw [HRT.out]; rfl
              · have HSB := Lib.hid (stepR_bad (b := b) (k := 0) (i := 3) (S := (T3, At3, 0)) rfl (by show (partP 64 (b.drop At3)).2.2 ≠ 0; rw [← hP3]; exact hc3))
                rw [show mostK 0 = 64 from rfl] at HSB
                simp only [← hP3] at HSB
                have hb0 := partP_bad (most := 64) (r := b.drop At3) (by rw [← hP3]; exact hc3)
                rw [← hP3] at hb0
                rw [hb0.1, hb0.2, Nat.add_zero]
                obtain ⟨cd, hcd⟩ : ∃ c, c = P3.2.2 := ⟨_, rfl⟩
                rw [← hcd] at HSB hc3 ⊢
                have HCD := Lib.hid hc3
                have z1 : ¬ (cd : Int) = 0 := by omega
                have z2 : ((cd : Int) != 0) = true := by rw [bne_iff_ne]; exact z1
                clear hb0 hcd hP3 hc3 HPS HPB
                have HRT : Hid (readT b A = (t0, At3, cd)) := by
                  refine readT_of (S := (T3, At3, cd)) ?_ HCD.out
                  rw [HCH3.out, HSB.out]
                  rw [stepR_stop (S := (T3, At3, cd)) HCD.out]
                  rw [stepR_stop (S := (T3, At3, cd)) HCD.out]
                clear HSB
                have hA := HX3.out
                go_wp2_with ((with_reducible refine storeT (x := .tmp 4) (y := .tmp 34) (u := t0) (o := ⟨none, .store _ _ _, _, _, _, _⟩) hA ?_ ?_); exact ⟨rfl, rfl, rfl, rfl⟩)
                refine bodyPost_ret (resT2 rfl (hA.row _) rfl) rfl ⟨?_, below_row HB3.out (Nat.le_refl _) _⟩
                rw [HRT.out]; rfl
          · have HSB := Lib.hid (stepR_bad (b := b) (k := 0) (i := 2) (S := (T2, At2, 0)) rfl (by show (partP 64 (b.drop At2)).2.2 ≠ 0; rw [← hP2]; exact hc2))
            rw [show mostK 0 = 64 from rfl] at HSB
            simp only [← hP2] at HSB
            have hb0 := partP_bad (most := 64) (r := b.drop At2) (by rw [← hP2]; exact hc2)
            rw [← hP2] at hb0
            rw [hb0.1, hb0.2, Nat.add_zero]
            obtain ⟨cd, hcd⟩ : ∃ c, c = P2.2.2 := ⟨_, rfl⟩
            rw [← hcd] at HSB hc2 ⊢
            have HCD := Lib.hid hc2
            have z1 : ¬ (cd : Int) = 0 := by omega
            have z2 : ((cd : Int) != 0) = true := by rw [bne_iff_ne]; exact z1
            clear hb0 hcd hP2 hc2 HPS HPB
            have HRT : Hid (readT b A = (t0, At2, cd)) := by
              refine readT_of (S := (T2, At2, cd)) ?_ HCD.out
              rw [HCH2.out, HSB.out]
              rw [stepR_stop (S := (T2, At2, cd)) HCD.out]
              rw [stepR_stop (S := (T2, At2, cd)) HCD.out]
              rw [stepR_stop (S := (T2, At2, cd)) HCD.out]
            clear HSB
            have hA := HX2.out
            go_wp2_with ((with_reducible refine storeT (x := .tmp 4) (y := .tmp 34) (u := t0) (o := ⟨none, .store _ _ _, _, _, _, _⟩) hA ?_ ?_); exact ⟨rfl, rfl, rfl, rfl⟩)
            refine bodyPost_ret (resT2 rfl (hA.row _) rfl) rfl ⟨?_, below_row HB2.out (Nat.le_refl _) _⟩
            rw [HRT.out]; rfl
      · have HSB := Lib.hid (stepR_bad (b := b) (k := 1) (i := 1) (S := (T1, At1, 0)) rfl (by show (partP 128 (b.drop At1)).2.2 ≠ 0; rw [← hP1]; exact hc1))
        rw [show mostK 1 = 128 from rfl] at HSB
        simp only [← hP1] at HSB
        have hb0 := partP_bad (most := 128) (r := b.drop At1) (by rw [← hP1]; exact hc1)
        rw [← hP1] at hb0
        rw [hb0.1, hb0.2, Nat.add_zero]
        obtain ⟨cd, hcd⟩ : ∃ c, c = P1.2.2 := ⟨_, rfl⟩
        rw [← hcd] at HSB hc1 ⊢
        have HCD := Lib.hid hc1
        have z1 : ¬ (cd : Int) = 0 := by omega
        have z2 : ((cd : Int) != 0) = true := by rw [bne_iff_ne]; exact z1
        clear hb0 hcd hP1 hc1 HPS HPB
        have HRT : Hid (readT b A = (t0, At1, cd)) := by
          refine readT_of (S := (T1, At1, cd)) ?_ HCD.out
          rw [HCH1.out, HSB.out]
          rw [stepR_stop (S := (T1, At1, cd)) HCD.out]
          rw [stepR_stop (S := (T1, At1, cd)) HCD.out]
          rw [stepR_stop (S := (T1, At1, cd)) HCD.out]
          rw [stepR_stop (S := (T1, At1, cd)) HCD.out]
        clear HSB
        have hA := HX1.out
        go_wp2_with ((with_reducible refine storeT (x := .tmp 4) (y := .tmp 34) (u := t0) (o := ⟨none, .store _ _ _, _, _, _, _⟩) hA ?_ ?_); exact ⟨rfl, rfl, rfl, rfl⟩)
        refine bodyPost_ret (resT2 rfl (hA.row _) rfl) rfl ⟨?_, below_row HB1.out (Nat.le_refl _) _⟩
        rw [HRT.out]; rfl
  · have HSB := Lib.hid (stepR_bad (b := b) (k := 0) (i := 0) (S := (T0, At0, 0)) rfl (by show (partP 64 (b.drop At0)).2.2 ≠ 0; rw [← hP0]; exact hc0))
    rw [show mostK 0 = 64 from rfl] at HSB
    simp only [← hP0] at HSB
    have hb0 := partP_bad (most := 64) (r := b.drop At0) (by rw [← hP0]; exact hc0)
    rw [← hP0] at hb0
    rw [hb0.1, hb0.2, Nat.add_zero]
    obtain ⟨cd, hcd⟩ : ∃ c, c = P0.2.2 := ⟨_, rfl⟩
    rw [← hcd] at HSB hc0 ⊢
    have HCD := Lib.hid hc0
    have z1 : ¬ (cd : Int) = 0 := by omega
    have z2 : ((cd : Int) != 0) = true := by rw [bne_iff_ne]; exact z1
    clear hb0 hcd hP0 hc0 HPS HPB
    have HRT : Hid (readT b A = (t0, At0, cd)) := by
      refine readT_of (S := (T0, At0, cd)) ?_ HCD.out
      rw [HCH0.out, HSB.out]
      rw [stepR_stop (S := (T0, At0, cd)) HCD.out]
      rw [stepR_stop (S := (T0, At0, cd)) HCD.out]
      rw [stepR_stop (S := (T0, At0, cd)) HCD.out]
      rw [stepR_stop (S := (T0, At0, cd)) HCD.out]
      rw [stepR_stop (S := (T0, At0, cd)) HCD.out]
    clear HSB
    have hA := HX0.out
    go_wp2_with ((with_reducible refine storeT (x := .tmp 4) (y := .tmp 34) (u := t0) (o := ⟨none, .store _ _ _, _, _, _, _⟩) hA ?_ ?_); exact ⟨rfl, rfl, rfl, rfl⟩)
    refine bodyPost_ret (resT2 rfl (hA.row _) rfl) rfl ⟨?_, below_row HB0.out (Nat.le_refl _) _⟩
    rw [HRT.out]; rfl
end Go.Proofs.YtnnebfcggdbgpaaGreatDoor
/-
  vestryref18.ParseBytes.
-/
namespace Go.Proofs.YtnnebfcggdbgpaaGreatDoor
open Go.ChangeShapes Go.WideShapes Go.ChangeAt Go.RowKit
set_option linter.unusedVariables false

set_option maxRecDepth 100000 in
set_option maxHeartbeats 2000000 in
theorem rtparseB_any {B : Nat} {w : World} {vb : Value} {b : List UInt8} (hr : Rd B w vb b) (hB : B ≤ w.heap.size) (hl : b.length ≤ 1000000) :
    Calls Tryz.prog 26 #[vb] w fun e w' => e = .returned (.tuple #[tuV (parseB b).1, .int .i64 ((parseB b).2.1 : Nat), .int .i64 ((parseB b).2.2 : Nat)]) ∧ Below w.heap.size w w' := by
  obtain ⟨T, hT⟩ : ∃ T, T = readT b 0 := ⟨_, rfl⟩
  have hP : parseB b = endB b.length T := by rw [hT]; rfl
  have b0 : Below w.heap.size w (w.alloc (.cells (tc t0).toArray 25)) := (Below.refl _ _).alloc (Nat.le_refl _) _
  have HRD := Lib.hid (rtread_any (hr.below b0 hB) (Nat.le_trans hB b0.size) hl 0 (Nat.zero_le _))
  rw [← hT] at HRD
  have HAT : Hid (T.2.1 ≤ b.length) := by rw [hT]; exact (readT_at (Nat.zero_le _)).2
  have HB0 := Lib.hid b0
  have HX0 := Lib.hid (tu_new w t0)
  have HP := Lib.hid hP
  obtain ⟨qb, cb, rfl⟩ := rd_form hr
  have hbl : (b.length : Int) ≤ 1000000 := by omega
  clear hr hB hl hT hP b0
  obtain ⟨t, n, cd⟩ := T
  go_enter Tryz.func26, Tryz.ntmps26
  go_wp2_with fail
  refine HRD.out.mono ?_
  rintro e w2 ⟨rfl, b2⟩
  have HB2 := Lib.hid (HB0.out.trans (b2.mono HB0.out.size))
  have HX2 := Lib.hid (HX0.out.later b2)
  have b3 : Below w2.heap.size w2 (w2.alloc (.cells (tc t).toArray 25)) := (Below.refl _ _).alloc (Nat.le_refl _) _
  have HB3 := Lib.hid (HB2.out.trans (b3.mono HB2.out.size))
  have HX3 := Lib.hid (HX2.out.later b3)
  have HT3 := Lib.hid (tu_new w2 t)
  clear b2 b3 HRD HB0 HX0 HB2 HX2
  go_upto_region 2 with ((with_reducible refine atT w2.heap.size (x := .tmp 5) (y := .tmp 11) (u := t) (o := ⟨none, .store _ _ _, _, _, _, _⟩) ?_ ?_); exact ⟨rfl, rfl, rfl, rfl, rfl, rfl⟩)
  generalize w2.alloc (.cells (tc t).toArray 25) = w3 at HB3 HX3 HT3 ⊢
  generalize w2.heap.size = g3 at HT3 ⊢
  have hA := HX3.out
  by_cases hc : cd = 0
  · subst hc
    by_cases hlt : n < b.length
    · have HP2 : Hid (parseB b = (t0, 16, n)) := by show _ = _; rw [HP.out]; exact endB_long rfl hlt
      have h1 : (n : Int) < b.length := by omega
      clear HP hlt
      go_wp2_with ((with_reducible refine storeT (x := .tmp 2) (y := .tmp 24) (u := t0) (o := ⟨none, .store _ _ _, _, _, _, _⟩) hA ?_ ?_); exact ⟨rfl, rfl, rfl, rfl⟩)
      refine bodyPost_ret (resT2 rfl (hA.row _) rfl) rfl ⟨?_, below_row HB3.out (Nat.le_refl _) _⟩
      rw [HP2.out]; rfl
    · have HP2 : Hid (parseB b = (t, 0, 0)) := by show _ = _; rw [HP.out]; exact endB_yes rfl hlt
      have h1 : ¬ (n : Int) < b.length := by omega
      clear HP hlt
      go_wp2_with (first
        | ((with_reducible refine loadT (x := .tmp 5) (o := ⟨some 27, _, _, _, _, _⟩) HT3.out ?_ ?_); exact ⟨rfl, rfl, rfl⟩)
        | ((with_reducible refine storeT (x := .tmp 2) (y := .tmp 27) (u := t) (o := ⟨none, .store _ _ _, _, _, _, _⟩) hA ?_ ?_); exact ⟨rfl, rfl, rfl, rfl⟩))
      refine bodyPost_ret (resT2 rfl (hA.row _) rfl) rfl ⟨?_, below_row HB3.out (Nat.le_refl _) _⟩
      rw [HP2.out]; rfl
  · have HP2 : Hid (parseB b = (t0, cd, n)) := by show _ = _; rw [HP.out]; exact endB_bad hc
    have z0 : ((cd : Int) == 0) = false := by rw [beq_eq_false_iff_ne]; omega
    have z1 : ¬ (cd : Int) = 0 := by omega
    have z2 : ((cd : Int) != 0) = true := by rw [bne_iff_ne]; exact z1
    clear HP hc
    go_wp2_with ((with_reducible refine storeT (x := .tmp 2) (y := .tmp 24) (u := t0) (o := ⟨none, .store _ _ _, _, _, _, _⟩) hA ?_ ?_); exact ⟨rfl, rfl, rfl, rfl⟩)
    refine bodyPost_ret (resT2 rfl (hA.row _) rfl) rfl ⟨?_, below_row HB3.out (Nat.le_refl _) _⟩
    rw [HP2.out]; rfl
end Go.Proofs.YtnnebfcggdbgpaaGreatDoor
/-
  vestrylaw18.TupleMatchesReference: the walk.
-/
namespace Go.Proofs.YtnnebfcggdbgpaaGreatDoor
open Go.ChangeShapes Go.WideShapes Go.ChangeAt Go.RowKit
open errAs (ErrT)
set_option linter.unusedVariables false

theorem sizesT.mono {t : Tu} {n m : Nat} (h : sizesT t n) (hm : n ≤ m) : sizesT t m := ⟨Nat.le_trans h.1 hm, Nat.le_trans h.2.1 hm, Nat.le_trans h.2.2.1 hm, Nat.le_trans h.2.2.2.1 hm, Nat.le_trans h.2.2.2.2.1 hm, Nat.le_trans h.2.2.2.2.2 hm⟩
theorem rd_now {B : Nat} {w w' : World} {v : Value} {l : List UInt8} (h : Rd w.heap.size w v l) (hb : Below w.heap.size w w') : Rd w'.heap.size w' v l := (h.below hb (Nat.le_refl _)).mono hb.size
/-- What the law's region holds on to. -/
def MS (w : World) (g : Nat) (t : Tu) (W : World) : Prop := Below w.heap.size w W ∧ Env W ∧ Arr W 25 g (tc t)
theorem MS.later {w W W' : World} {g : Nat} {t : Tu} (h : MS w g t W) (b : Below W.heap.size W W') : MS w g t W' := ⟨h.1.trans (b.mono h.1.size), h.2.1.below b, h.2.2.later b⟩
theorem MS.right {w W : World} {g : Nat} {t : Tu} (h : MS w g t W) : Calls Tryz.prog 17 #[tuV t] W fun e W' => ∃ v, e = .returned v ∧ v = .bool (rightT t) ∧ MS w g t W' :=
  (right_any' t W h.2.1.1).mono fun _ _ ⟨he, hb⟩ => ⟨_, he, rfl, h.later hb⟩
theorem MS.rright {w W : World} {g : Nat} {t : Tu} (h : MS w g t W) (hs : sizesT t 1000000) : Calls Tryz.prog 18 #[tuV t] W fun e W' => ∃ v, e = .returned v ∧ v = .bool (rightT t) ∧ MS w g t W' :=
  (rrightT_any t hs W).mono fun _ _ ⟨he, hb⟩ => ⟨_, he, rfl, h.later hb⟩
theorem takeT {ops : Array Oper} {md : Region.Mode} {S : World → Prop} {Q : Exit → Act → World → Prop} {i : Nat} {o : Oper} {fuel : Nat} {listed : Array Bool} {a : Act} {w : World} {u : Tu} (hi : ops[i]? = some o) (hs : Region.noSelect ops = true) (hf : Region.free md ops listed i = true) (hr : (Region.ready md ops listed).contains i = true)
    (hQ : ∀ c a w, Q (.panic c) (a.put o.dst (tuV u)) w → Q (.panic c) a w) (hwt : Region.wanted o (yielded ops a.tmps) = true) {x : Operand} {b off : Nat} (ho : o.op = .load 25 x ∧ a.eval x = .pointer (some ⟨b, off, none⟩)) (hS : ∀ w, S w → w.rangeAt b off (tc u)) (hw : S w)
    (h : wpAnyH Tryz.prog md ops Q S fuel (listed.setIfInBounds i true) (a.put o.dst (tuV u)) w) : wpAnyH Tryz.prog md ops Q S (fuel + 1) listed a w :=
  wpAnyH_take hi hs hf hr hQ (yieldsIf_load_mid hwt _ x ho.1 b off ho.2 (tc u) _ hS Tryz.underlying25 rfl (by kernel_rfl)) hw h
theorem takeE {ops : Array Oper} {md : Region.Mode} {S : World → Prop} {Q : Exit → Act → World → Prop} {i : Nat} {o : Oper} {fuel : Nat} {listed : Array Bool} {a : Act} {w : World} {u v : Tu} (hi : ops[i]? = some o) (hs : Region.noSelect ops = true) (hf : Region.free md ops listed i = true) (hr : (Region.ready md ops listed).contains i = true)
    (hQ : ∀ c a w, Q (.panic c) (a.put o.dst (.bool (eqT u v))) w → Q (.panic c) a w) (hwt : Region.wanted o (yielded ops a.tmps) = true) {x y : Operand} {t : TypeId} (ho : o.op = .binOp .eql 25 x y t ∧ a.eval x = tuV u ∧ a.eval y = tuV v) (hw : S w)
    (h : wpAnyH Tryz.prog md ops Q S fuel (listed.setIfInBounds i true) (a.put o.dst (.bool (eqT u v))) w) : wpAnyH Tryz.prog md ops Q S (fuel + 1) listed a w :=
  wpAnyH_take hi hs hf hr hQ (.inl ⟨hwt, fun w' _ => by
    have hg : Tryz.prog.eqGuardType Tryz.prog.depth 25 = false := by kernel_rfl
    unfold execOp
    simp only [ho.1, ho.2.1, ho.2.2, Sem.run_bind, run_eqGuard_agg (hm := hg), Result.andThen_ok, eqlT, Sem.run_pure]⟩) hw h
def MS2 (w : World) (g : Nat) (t : Tu) (w0 W : World) : Prop := MS w g t W ∧ Below w0.heap.size w0 W
theorem MS2.later {w w0 W W' : World} {g : Nat} {t : Tu} (h : MS2 w g t w0 W) (b : Below W.heap.size W W') : MS2 w g t w0 W' := ⟨h.1.later b, h.2.trans (b.mono h.2.size)⟩
theorem MS2.right {w w0 W : World} {g : Nat} {t : Tu} (h : MS2 w g t w0 W) : Calls Tryz.prog 17 #[tuV t] W fun e W' => ∃ v, e = .returned v ∧ v = .bool (rightT t) ∧ MS2 w g t w0 W' :=
  (right_any' t W h.1.2.1.1).mono fun _ _ ⟨he, hb⟩ => ⟨_, he, rfl, h.later hb⟩
theorem MS2.rright {w w0 W : World} {g : Nat} {t : Tu} (h : MS2 w g t w0 W) (hs : sizesT t 1000000) : Calls Tryz.prog 18 #[tuV t] W fun e W' => ∃ v, e = .returned v ∧ v = .bool (rightT t) ∧ MS2 w g t w0 W' :=
  (rrightT_any t hs W).mono fun _ _ ⟨he, hb⟩ => ⟨_, he, rfl, h.later hb⟩
set_option maxRecDepth 100000 in
set_option maxHeartbeats 4000000 in
theorem tmatch_law (t : Tu) (hz : sizesT t 140737488355328) (w : World) (hE : Env w) : Calls Tryz.prog 3 #[tuV t] w fun e w' => e = .returned (.bool true) ∧ Below w.heap.size w w' := by
  have b0 : Below w.heap.size w (w.alloc (.cells (tc t).toArray 25)) := (Below.refl _ _).alloc (Nat.le_refl _) _
  have HB0 := Lib.hid b0
  have HE0 := Lib.hid (hE.below b0)
  have HA0 := Lib.hid (tu_new w t)
  have HAW := Lib.hid (tawake_any _ HE0.out)
  have HSH := Lib.hid (short_any t hz)
  rcases hs : shortT t with _ | _
  · have HSF := Lib.hid hs
    clear b0 hE hz hs
    go_enter Tryz.func3, Tryz.ntmps3
    go_wp2_with fail
    generalize w.alloc (.cells (tc t).toArray 25) = w0 at HB0 HE0 HA0 HAW HSH ⊢
    refine HAW.out.mono ?_
    rintro e w1 ⟨rfl, b1⟩
    have HSH1 := Lib.hid (HSH.out w1)
    have HB1 := Lib.hid (HB0.out.trans (b1.mono HB0.out.size))
    have HE1 := Lib.hid (HE0.out.below b1)
    have HA1 := Lib.hid (HA0.out.later b1)
    clear b1 HB0 HE0 HA0 HAW HSH
    go_wp2_with ((with_reducible refine loadT (x := .tmp 1) (u := t) (o := ⟨some 14, _, _, _, _, _⟩) HA1.out ?_ ?_); exact ⟨rfl, rfl, rfl⟩)
    refine HSH1.out.mono ?_
    rintro e w2 ⟨rfl, b2⟩
    have HB2 := Lib.hid (HB1.out.trans (b2.mono HB1.out.size))
    have HE2 := Lib.hid (HE1.out.below b2)
    have HA2 := Lib.hid (HA1.out.later b2)
    clear b2 HB1 HE1 HA1 HSH1
    rw [HSF.out]
    have HAW3 := Lib.hid (tawake_any w2 HE2.out)
    go_wp2_with fail
    refine HAW3.out.mono ?_
    rintro e w3 ⟨rfl, b3⟩
    have HB3 := Lib.hid (HB2.out.trans (b3.mono HB2.out.size))
    have HE3 := Lib.hid (HE2.out.below b3)
    have HA3 := Lib.hid (HA2.out.later b3)
    clear b3 HB2 HE2 HA2 
    go_wp2_with fail
    go_ret
    exact ⟨rfl, HB3.out⟩
  · have HST := Lib.hid hs
    have HS6 : Hid (sizesT t 1000000) := (shortT_sizes hs).mono (by decide)
    clear b0 hE hz hs
    rcases hr : rightT t with _ | _
    · have HR := Lib.hid hr
      clear hr
      go_enter Tryz.func3, Tryz.ntmps3
      go_wp2_with fail
      generalize w.alloc (.cells (tc t).toArray 25) = w0 at HB0 HE0 HA0 HAW HSH ⊢
      refine HAW.out.mono ?_
      rintro e w1 ⟨rfl, b1⟩
      have HSH1 := Lib.hid (HSH.out w1)
      have HB1 := Lib.hid (HB0.out.trans (b1.mono HB0.out.size))
      have HE1 := Lib.hid (HE0.out.below b1)
      have HA1 := Lib.hid (HA0.out.later b1)
      clear b1 HB0 HE0 HA0 HAW HSH
      go_wp2_with ((with_reducible refine loadT (x := .tmp 1) (u := t) (o := ⟨some 14, _, _, _, _, _⟩) HA1.out ?_ ?_); exact ⟨rfl, rfl, rfl⟩)
      refine HSH1.out.mono ?_
      rintro e w2 ⟨rfl, b2⟩
      have HB2 := Lib.hid (HB1.out.trans (b2.mono HB1.out.size))
      have HE2 := Lib.hid (HE1.out.below b2)
      have HA2 := Lib.hid (HA1.out.later b2)
      clear b2 HB1 HE1 HA1 HSH1
      rw [HST.out]
      have HTX := Lib.hid (text_no t HR.out w2 HE2.out)
      go_wp2_with ((with_reducible refine loadT (x := .tmp 1) (u := t) (o := ⟨some 20, _, _, _, _, _⟩) HA2.out ?_ ?_); exact ⟨rfl, rfl, rfl⟩)
      refine HTX.out.mono ?_
      rintro e w3 ⟨rfl, b3⟩
      have HB3 := Lib.hid (HB2.out.trans (b3.mono HB2.out.size))
      have HE3 := Lib.hid (HE2.out.below b3)
      have HA3 := Lib.hid (HA2.out.later b3)
      clear b3 HB2 HE2 HA2 HTX
      have HPU := Lib.hid (put_no t HR.out w3 HE3.out.1)
      go_wp2_with ((with_reducible refine loadT (x := .tmp 1) (u := t) (o := ⟨some 25, _, _, _, _, _⟩) HA3.out ?_ ?_); exact ⟨rfl, rfl, rfl⟩)
      refine HPU.out.mono ?_
      rintro e w4 ⟨rfl, b4⟩
      have HB4 := Lib.hid (HB3.out.trans (b4.mono HB3.out.size))
      have HE4 := Lib.hid (HE3.out.below b4)
      have HA4 := Lib.hid (HA3.out.later b4)
      clear b4 HB3 HE3 HA3 HPU
      go_wp2_with fail
      have HM : Hid (MS w w.heap.size t w4) := ⟨HB4.out, HE4.out, HA4.out⟩
      clear HB4 HE4 HA4
      refine wp_region_noPanic ?_
      refine wp_region_held_drew (S := MS w w.heap.size t) (by kernel_rfl) (HM.out.later (Below.refl _ _).drew) (fun hHeld => ?_)
      try simp only [Act.put]
      generalize w4.drew = wd at hHeld ⊢
      clear HM
      refine takeT (i := 0) (o := ⟨some 29, _, _, _, _, _⟩) (u := t) rfl (by kernel_rfl) (by kernel_rfl) (by kernel_rfl) (fun _ _ _ h => h) (by rfl) ⟨rfl, rfl⟩ (fun _ h => h.2.2.range) hHeld ?_
      try simp only [Act.put, List.setIfInBounds_toArray, List.set_cons_zero, List.set_cons_succ]
      refine takeT (i := 2) (o := ⟨some 31, _, _, _, _, _⟩) (u := t) rfl (by kernel_rfl) (by kernel_rfl) (by kernel_rfl) (fun _ _ _ h => h) (by rfl) ⟨rfl, rfl⟩ (fun _ h => h.2.2.range) hHeld ?_
      try simp only [Act.put, List.setIfInBounds_toArray, List.set_cons_zero, List.set_cons_succ]
      refine wpAnyH_ready (rs := [1]) (by kernel_rfl) (by simp) ?_
      refine AllReadyH.cons (o := ⟨some 30, _, _, _, _, _⟩) rfl (fun K' hK' => ?_) AllReadyH.nil
      refine stepw_call (by rfl) ?_ (hHeld.right) ?_
      focus go_simp
      rintro v wa ⟨rfl, hkn⟩
      refine hK'.out _ _ hkn (fun _ => ?_)
      clear hK' K' hHeld
      have hHeld := hkn
      clear hkn
      try simp only [Act.put, List.setIfInBounds_toArray, List.set_cons_zero, List.set_cons_succ]
      refine wpAnyH_ready (rs := [3]) (by kernel_rfl) (by simp) ?_
      refine AllReadyH.cons (o := ⟨some 32, _, _, _, _, _⟩) rfl (fun K' hK' => ?_) AllReadyH.nil
      refine stepw_call (by rfl) ?_ (hHeld.rright HS6.out) ?_
      focus go_simp
      rintro v wb ⟨rfl, hkn⟩
      refine hK'.out _ _ hkn (fun _ => ?_)
      clear hK' K' hHeld
      have hHeld := hkn
      clear hkn
      try simp only [Act.put, List.setIfInBounds_toArray, List.set_cons_zero, List.set_cons_succ]
      rw [HR.out]
      refine wpAnyH_take (i := 4) (oi := ⟨some 33, _, _, _, _, _⟩) (v := .bool false) rfl (by kernel_rfl) (by kernel_rfl) (by kernel_rfl) (fun _ _ _ h => h) (.inl ⟨by rfl, fun w' hSw => ?_⟩) hHeld ?_
      focus (skip; clear hHeld; go_simp)
      try simp only [Act.put, List.setIfInBounds_toArray, List.set_cons_zero, List.set_cons_succ]
      refine wpAnyH_done (by kernel_rfl) ?_ _
      refine NoPanic.normal ?_
      have HB5 := Lib.hid hHeld.1
      have HE5 := Lib.hid hHeld.2.1
      have HA5 := Lib.hid hHeld.2.2
      clear hHeld
      generalize wb = w5 at HB5 HE5 HA5 ⊢
      have HRR := Lib.hid (rrightT_any t HS6.out w5)
      rw [HR.out] at HRR
      go_wp2_with ((with_reducible refine loadT (x := .tmp 1) (u := t) (o := ⟨some 34, _, _, _, _, _⟩) HA5.out ?_ ?_); exact ⟨rfl, rfl, rfl⟩)
      refine HRR.out.mono ?_
      rintro e w6 ⟨rfl, b6⟩
      have HB6 := Lib.hid (HB5.out.trans (b6.mono HB5.out.size))
      have HE6 := Lib.hid (HE5.out.below b6)
      have HA6 := Lib.hid (HA5.out.later b6)
      clear b6 HB5 HE5 HA5 HRR
      go_wp2_with fail
      go_ret
      exact ⟨rfl, HB6.out⟩
    · have HR := Lib.hid hr
      have HS3 : Hid (sizesT t 1000) := (sizes_right hr).mono (by decide)
      clear hr
      go_enter Tryz.func3, Tryz.ntmps3
      go_wp2_with fail
      generalize w.alloc (.cells (tc t).toArray 25) = w0 at HB0 HE0 HA0 HAW HSH ⊢
      refine HAW.out.mono ?_
      rintro e w1 ⟨rfl, b1⟩
      have HSH1 := Lib.hid (HSH.out w1)
      have HB1 := Lib.hid (HB0.out.trans (b1.mono HB0.out.size))
      have HE1 := Lib.hid (HE0.out.below b1)
      have HA1 := Lib.hid (HA0.out.later b1)
      clear b1 HB0 HE0 HA0 HAW HSH
      go_wp2_with ((with_reducible refine loadT (x := .tmp 1) (u := t) (o := ⟨some 14, _, _, _, _, _⟩) HA1.out ?_ ?_); exact ⟨rfl, rfl, rfl⟩)
      refine HSH1.out.mono ?_
      rintro e w2 ⟨rfl, b2⟩
      have HB2 := Lib.hid (HB1.out.trans (b2.mono HB1.out.size))
      have HE2 := Lib.hid (HE1.out.below b2)
      have HA2 := Lib.hid (HA1.out.later b2)
      clear b2 HB1 HE1 HA1 HSH1
      rw [HST.out]
      have HTX := Lib.hid (text_yes t HR.out w2 HE2.out)
      go_wp2_with ((with_reducible refine loadT (x := .tmp 1) (u := t) (o := ⟨some 20, _, _, _, _, _⟩) HA2.out ?_ ?_); exact ⟨rfl, rfl, rfl⟩)
      refine HTX.out.mono ?_
      rintro e w3 ⟨rfl, b3⟩
      have HB3 := Lib.hid (HB2.out.trans (b3.mono HB2.out.size))
      have HE3 := Lib.hid (HE2.out.below b3)
      have HA3 := Lib.hid (HA2.out.later b3)
      clear b3 HB2 HE2 HA2 HTX
      obtain ⟨tx, htx⟩ : ∃ tx, tx = textT t := ⟨_, rfl⟩
      rw [← htx]
      have HTE := Lib.hid htx
      have HTZ : Hid (tx.size ≤ 1000000) := by show tx.size ≤ 1000000; rw [htx]; exact Nat.le_trans (textT_len HR.out) (by decide)
      clear htx
      have HPU := Lib.hid (put_yes t HR.out w3 HE3.out.1)
      go_wp2_with ((with_reducible refine loadT (x := .tmp 1) (u := t) (o := ⟨some 25, _, _, _, _, _⟩) HA3.out ?_ ?_); exact ⟨rfl, rfl, rfl⟩)
      refine HPU.out.mono ?_
      rintro e w4 ⟨v, rfl, hh, b4⟩
      have HRD : Hid (Rd w4.heap.size w4 v (putT t)) := hh.rd
      obtain ⟨pv, cv, rfl⟩ := rd_form hh.rd
      clear hh
      obtain ⟨pl, hpl⟩ : ∃ pl, pl = putT t := ⟨_, rfl⟩
      rw [← hpl] at HRD ⊢
      have HPE := Lib.hid hpl
      have HPZ : Hid (pl.length ≤ 1000000) := by show pl.length ≤ 1000000; rw [hpl]; exact Nat.le_trans (putT_len HR.out) (by decide)
      clear hpl
      have HB4 := Lib.hid (HB3.out.trans (b4.mono HB3.out.size))
      have HE4 := Lib.hid (HE3.out.below b4)
      have HA4 := Lib.hid (HA3.out.later b4)
      clear b4 HB3 HE3 HA3 HPU
      go_wp2_with fail
      have HM : Hid (MS2 w w.heap.size t w4 w4) := ⟨⟨HB4.out, HE4.out, HA4.out⟩, Below.refl _ _⟩
      clear HB4 HE4 HA4
      refine wp_region_noPanic ?_
      refine wp_region_held_drew (S := MS2 w w.heap.size t w4) (by kernel_rfl) (HM.out.later (Below.refl _ _).drew) (fun hHeld => ?_)
      try simp only [Act.put]
      generalize w4.drew = wd at hHeld ⊢
      clear HM
      refine takeT (i := 0) (o := ⟨some 29, _, _, _, _, _⟩) (u := t) rfl (by kernel_rfl) (by kernel_rfl) (by kernel_rfl) (fun _ _ _ h => h) (by rfl) ⟨rfl, rfl⟩ (fun _ h => h.1.2.2.range) hHeld ?_
      try simp only [Act.put, List.setIfInBounds_toArray, List.set_cons_zero, List.set_cons_succ]
      refine takeT (i := 2) (o := ⟨some 31, _, _, _, _, _⟩) (u := t) rfl (by kernel_rfl) (by kernel_rfl) (by kernel_rfl) (fun _ _ _ h => h) (by rfl) ⟨rfl, rfl⟩ (fun _ h => h.1.2.2.range) hHeld ?_
      try simp only [Act.put, List.setIfInBounds_toArray, List.set_cons_zero, List.set_cons_succ]
      refine wpAnyH_ready (rs := [1]) (by kernel_rfl) (by simp) ?_
      refine AllReadyH.cons (o := ⟨some 30, _, _, _, _, _⟩) rfl (fun K' hK' => ?_) AllReadyH.nil
      refine stepw_call (by rfl) ?_ (hHeld.right) ?_
      focus go_simp
      rintro v wa ⟨rfl, hkn⟩
      refine hK'.out _ _ hkn (fun _ => ?_)
      clear hK' K' hHeld
      have hHeld := hkn
      clear hkn
      try simp only [Act.put, List.setIfInBounds_toArray, List.set_cons_zero, List.set_cons_succ]
      refine wpAnyH_ready (rs := [3]) (by kernel_rfl) (by simp) ?_
      refine AllReadyH.cons (o := ⟨some 32, _, _, _, _, _⟩) rfl (fun K' hK' => ?_) AllReadyH.nil
      refine stepw_call (by rfl) ?_ (hHeld.rright HS6.out) ?_
      focus go_simp
      rintro v wb ⟨rfl, hkn⟩
      refine hK'.out _ _ hkn (fun _ => ?_)
      clear hK' K' hHeld
      have hHeld := hkn
      clear hkn
      try simp only [Act.put, List.setIfInBounds_toArray, List.set_cons_zero, List.set_cons_succ]
      rw [HR.out]
      refine wpAnyH_take (i := 4) (oi := ⟨some 33, _, _, _, _, _⟩) (v := .bool false) rfl (by kernel_rfl) (by kernel_rfl) (by kernel_rfl) (fun _ _ _ h => h) (.inl ⟨by rfl, fun w' hSw => ?_⟩) hHeld ?_
      focus (skip; clear hHeld; go_simp)
      try simp only [Act.put, List.setIfInBounds_toArray, List.set_cons_zero, List.set_cons_succ]
      refine wpAnyH_done (by kernel_rfl) ?_ _
      refine NoPanic.normal ?_
      have HB5 := Lib.hid hHeld.1.1
      have HE5 := Lib.hid hHeld.1.2.1
      have HA5 := Lib.hid hHeld.1.2.2
      have HRD5 := Lib.hid (rd_now (B := 0) HRD.out hHeld.2)
      clear HRD
      clear hHeld
      generalize wb = w5 at HB5 HE5 HA5 HRD5 ⊢
      have HRR := Lib.hid (rrightT_any t HS6.out w5)
      rw [HR.out] at HRR
      go_wp2_with ((with_reducible refine loadT (x := .tmp 1) (u := t) (o := ⟨some 34, _, _, _, _, _⟩) HA5.out ?_ ?_); exact ⟨rfl, rfl, rfl⟩)
      refine HRR.out.mono ?_
      rintro e w6 ⟨rfl, b6⟩
      have HB6 := Lib.hid (HB5.out.trans (b6.mono HB5.out.size))
      have HE6 := Lib.hid (HE5.out.below b6)
      have HA6 := Lib.hid (HA5.out.later b6)
      have HRD6 := Lib.hid (rd_now (B := 0) HRD5.out b6)
      clear b6 HB5 HE5 HA5 HRR HRD5
      have HPA : Hid (Calls Tryz.prog 19 #[.string tx] w6 fun e w' => e = .returned (.tuple #[tuV t, .nilIface]) ∧ Below w6.heap.size w6 w') := by
        have h := tparse_any tx w6 HE6.out HTZ.out
        rw [show parseT tx = (t, 0, 0) by rw [HTE.out, parse_text HR.out]] at h
        exact h
      go_wp2_with fail
      refine HPA.out.mono ?_
      rintro e w7 ⟨rfl, b7⟩
      have hb8 : Below w7.heap.size w7 (w7.alloc (.cells (tc t).toArray 25)) := (Below.refl _ _).alloc (Nat.le_refl _) _
      have HB8 := Lib.hid ((HB6.out.trans (b7.mono HB6.out.size)).trans (hb8.mono (HB6.out.trans (b7.mono HB6.out.size)).size))
      have HE8 := Lib.hid ((HE6.out.below b7).below hb8)
      have HA8 := Lib.hid ((HA6.out.later b7).later hb8)
      have HRD8 := Lib.hid (rd_now (B := 0) (rd_now (B := 0) HRD6.out b7) hb8)
      have HX8 := Lib.hid (tu_new w7 t)
      clear b7 hb8 HPA HB6 HE6 HA6 HRD6
      go_upto_region 10 with ((with_reducible refine atT w7.heap.size (x := .tmp 7) (y := .tmp 55) (u := t) (o := ⟨none, .store _ _ _, _, _, _, _⟩) ?_ ?_); exact ⟨rfl, rfl, rfl, rfl, rfl, rfl⟩)
      generalize w7.alloc (.cells (tc t).toArray 25) = w8 at HB8 HE8 HA8 HX8 HRD8 ⊢
      generalize w7.heap.size = g8 at HX8 ⊢
      have HPB : Hid (Calls Tryz.prog 20 #[.slice pv pl.length cv] w8 fun e w' => e = .returned (.tuple #[tuV t, .nilIface]) ∧ Below w8.heap.size w8 w') := by
        have h := tparseB_any HRD8.out (Nat.le_refl _) HPZ.out HE8.out
        rw [show parseB pl = (t, 0, 0) by rw [HPE.out, parseB_put HR.out]] at h
        exact h
      go_wp2_with fail
      refine HPB.out.mono ?_
      rintro e w9 ⟨rfl, b9⟩
      have hb10 : Below w9.heap.size w9 (w9.alloc (.cells (tc t).toArray 25)) := (Below.refl _ _).alloc (Nat.le_refl _) _
      have HB10 := Lib.hid ((HB8.out.trans (b9.mono HB8.out.size)).trans (hb10.mono (HB8.out.trans (b9.mono HB8.out.size)).size))
      have HE10 := Lib.hid ((HE8.out.below b9).below hb10)
      have HA10 := Lib.hid ((HA8.out.later b9).later hb10)
      have HRD10 := Lib.hid (rd_now (B := 0) (rd_now (B := 0) HRD8.out b9) hb10)
      have HX10 := Lib.hid ((HX8.out.later b9).later hb10)
      have HY10 := Lib.hid (tu_new w9 t)
      clear b9 hb10 HPB HB8 HE8 HA8 HRD8 HX8
      go_upto_region 11 with ((with_reducible refine atT w9.heap.size (x := .tmp 9) (y := .tmp 60) (u := t) (o := ⟨none, .store _ _ _, _, _, _, _⟩) ?_ ?_); exact ⟨rfl, rfl, rfl, rfl, rfl, rfl⟩)
      generalize w9.alloc (.cells (tc t).toArray 25) = w10 at HB10 HE10 HA10 HX10 HY10 HRD10 ⊢
      generalize w9.heap.size = g10 at HY10 ⊢
      have HRT := Lib.hid (rtextT_any t HS6.out w10)
      rw [← HTE.out] at HRT
      go_wp2_with ((with_reducible refine loadT (x := .tmp 1) (u := t) (o := ⟨some 68, _, _, _, _, _⟩) HA10.out ?_ ?_); exact ⟨rfl, rfl, rfl⟩)
      refine HRT.out.mono ?_
      rintro e w11 ⟨rfl, b11⟩
      have HB11 := Lib.hid (HB10.out.trans (b11.mono HB10.out.size))
      have HE11 := Lib.hid (HE10.out.below b11)
      have HA11 := Lib.hid (HA10.out.later b11)
      have HRD11 := Lib.hid (rd_now (B := 0) HRD10.out b11)
      have HX11 := Lib.hid (HX10.out.later b11)
      have HY11 := Lib.hid (HY10.out.later b11)
      clear b11 HB10 HE10 HA10 HRT HRD10 HX10 HY10
      have HRU := Lib.hid (rput_any t HS3.out w11)
      rw [← HPE.out] at HRU
      go_wp2_with ((with_reducible refine loadT (x := .tmp 1) (u := t) (o := ⟨some 74, _, _, _, _, _⟩) HA11.out ?_ ?_); exact ⟨rfl, rfl, rfl⟩)
      refine HRU.out.mono ?_
      rintro e w12 ⟨v12, rfl, hh12, b12⟩
      have HSM := Lib.hid (same_any (rd_now (B := 0) HRD11.out b12) hh12.rd)
      rw [eqB_refl] at HSM
      obtain ⟨p12, c12, rfl⟩ := rd_form hh12.rd
      clear hh12
      have HB12 := Lib.hid (HB11.out.trans (b12.mono HB11.out.size))
      have HE12 := Lib.hid (HE11.out.below b12)
      have HA12 := Lib.hid (HA11.out.later b12)
      have HX12 := Lib.hid (HX11.out.later b12)
      have HY12 := Lib.hid (HY11.out.later b12)
      clear b12 HB11 HE11 HA11 HRU HRD11 HX11 HY11
      go_wp2_with fail
      refine HSM.out.mono ?_
      rintro e w13 ⟨rfl, n13, rfl⟩
      have b13 := below_drewN (Below.refl w12.heap.size w12) n13
      generalize w12.drewN n13 = w13 at b13 ⊢
      have HB13 := Lib.hid (HB12.out.trans (b13.mono HB12.out.size))
      have HE13 := Lib.hid (HE12.out.below b13)
      have HA13 := Lib.hid (HA12.out.later b13)
      have HX13 := Lib.hid (HX12.out.later b13)
      have HY13 := Lib.hid (HY12.out.later b13)
      clear b13 HB12 HE12 HA12 HSM HX12 HY12
      have hee : Hid (eqT t t = true) := eqT_refl t
      go_wp2_with (first
        | ((with_reducible refine loadT (x := .tmp 7) (u := t) (o := ⟨some 83, _, _, _, _, _⟩) HX13.out ?_ ?_); exact ⟨rfl, rfl, rfl⟩)
        | ((with_reducible refine loadT (x := .tmp 1) (u := t) (o := ⟨some 84, _, _, _, _, _⟩) HA13.out ?_ ?_); exact ⟨rfl, rfl, rfl⟩)
        | ((with_reducible refine eqW hee.out (t := 25) (x := .tmp 83) (y := .tmp 84) (o := ⟨some 85, _, _, _, _, _⟩) ?_ ?_); exact ⟨rfl, rfl, rfl, rfl⟩)
        | ((with_reducible refine loadT (x := .tmp 9) (u := t) (o := ⟨some 92, _, _, _, _, _⟩) HY13.out ?_ ?_); exact ⟨rfl, rfl, rfl⟩)
        | ((with_reducible refine loadT (x := .tmp 1) (u := t) (o := ⟨some 93, _, _, _, _, _⟩) HA13.out ?_ ?_); exact ⟨rfl, rfl, rfl⟩)
        | ((with_reducible refine eqW hee.out (t := 25) (x := .tmp 92) (y := .tmp 93) (o := ⟨some 94, _, _, _, _, _⟩) ?_ ?_); exact ⟨rfl, rfl, rfl, rfl⟩))
      go_ret
      exact ⟨rfl, HB13.out⟩
end Go.Proofs.YtnnebfcggdbgpaaGreatDoor
/-
  vestrylaw18.TupleApart: the walk.
-/
namespace Go.Proofs.YtnnebfcggdbgpaaGreatDoor
open Go.ChangeShapes Go.WideShapes Go.ChangeAt Go.RowKit
open errAs (ErrT)
set_option linter.unusedVariables false

def AS (w : World) (g h : Nat) (ta tb : Tu) (va vb : Value) (la lb : List UInt8) (W : World) : Prop := Below w.heap.size w W ∧ Arr W 25 g (tc ta) ∧ Arr W 25 h (tc tb) ∧ Rd W.heap.size W va la ∧ Rd W.heap.size W vb lb
theorem AS.later {w W W' : World} {g h : Nat} {ta tb : Tu} {va vb : Value} {la lb : List UInt8} (H : AS w g h ta tb va vb la lb W) (b : Below W.heap.size W W') : AS w g h ta tb va vb la lb W' :=
  ⟨H.1.trans (b.mono H.1.size), H.2.1.later b, H.2.2.1.later b, rd_now (B := 0) H.2.2.2.1 b, rd_now (B := 0) H.2.2.2.2 b⟩
theorem AS.same {w W : World} {g h : Nat} {ta tb : Tu} {va vb : Value} {la lb : List UInt8} {r : Bool} (H : AS w g h ta tb va vb la lb W) (hr : eqB la lb = r) : Calls Tryz.prog 22 #[va, vb] W fun e W' => ∃ v, e = .returned v ∧ v = .bool r ∧ AS w g h ta tb va vb la lb W' := by
  refine (same_any H.2.2.2.1 H.2.2.2.2).mono fun e W' ⟨he, n, hw⟩ => ⟨_, he, by rw [hr], ?_⟩
  rw [hw]
  exact H.later (below_drewN (Below.refl _ _) n)
set_option maxRecDepth 100000 in
set_option maxHeartbeats 4000000 in
theorem tapart_law (ta tb : Tu) (hza : sizesT ta 140737488355328) (hzb : sizesT tb 140737488355328) (w : World) (hE : Env w) : Calls Tryz.prog 7 #[tuV ta, tuV tb] w fun e w' => e = .returned (.bool true) ∧ Below w.heap.size w w' := by
  have b0 : Below w.heap.size w ((w.alloc (.cells (tc ta).toArray 25)).alloc (.cells (tc tb).toArray 25)) := ((Below.refl _ _).alloc (Nat.le_refl _) _).alloc (by simp) _
  have HB0 := Lib.hid b0
  have HE0 := Lib.hid (hE.below b0)
  have HA0 := Lib.hid ((tu_new w ta).alloc (.cells (tc tb).toArray 25))
  have HX0 := Lib.hid (Arr.new2 w (.cells (tc ta).toArray 25) 25 (tc tb).toArray (tc tb) rfl)
  have HAW := Lib.hid (tawake_any _ HE0.out)
  have HZA := Lib.hid hza
  have HZB := Lib.hid hzb
  clear b0 hE hza hzb
  go_enter Tryz.func7, Tryz.ntmps7
  go_wp2_with fail
  generalize (w.alloc (.cells (tc ta).toArray 25)).alloc (.cells (tc tb).toArray 25) = w0 at HB0 HE0 HA0 HX0 HAW ⊢
  refine HAW.out.mono ?_
  rintro e w1 ⟨rfl, b1⟩
  have HB1 := Lib.hid (HB0.out.trans (b1.mono HB0.out.size))
  have HE1 := Lib.hid (HE0.out.below b1)
  have HA1 := Lib.hid (HA0.out.later b1)
  have HX1 := Lib.hid (HX0.out.later b1)
  clear b1 HB0 HE0 HA0 HX0 HAW
  have HS1 := Lib.hid (short_any ta HZA.out w1)
  go_wp2_with ((with_reducible refine loadT (x := .tmp 2) (u := ta) (o := ⟨some 16, _, _, _, _, _⟩) HA1.out ?_ ?_); exact ⟨rfl, rfl, rfl⟩)
  refine HS1.out.mono ?_
  rintro e w2 ⟨rfl, b2⟩
  have HB2 := Lib.hid (HB1.out.trans (b2.mono HB1.out.size))
  have HE2 := Lib.hid (HE1.out.below b2)
  have HA2 := Lib.hid (HA1.out.later b2)
  have HX2 := Lib.hid (HX1.out.later b2)
  clear b2 HB1 HE1 HA1 HX1 HS1
  rcases hs1 : shortT ta with _ | _
  · have HAW2 := Lib.hid (tawake_any w2 HE2.out)
    go_wp2_with fail
    refine HAW2.out.mono ?_
    rintro e w3 ⟨rfl, b3⟩
    have HB3 := Lib.hid (HB2.out.trans (b3.mono HB2.out.size))
    have HE3 := Lib.hid (HE2.out.below b3)
    clear b3 HB2 HE2  
    go_wp2_with fail
    go_ret
    exact ⟨rfl, HB3.out⟩
  · have HSA := Lib.hid (shortT_sizes hs1)
    have HS2 := Lib.hid (short_any tb HZB.out w2)
    go_wp2_with ((with_reducible refine loadT (x := .tmp 3) (u := tb) (o := ⟨some 21, _, _, _, _, _⟩) HX2.out ?_ ?_); exact ⟨rfl, rfl, rfl⟩)
    refine HS2.out.mono ?_
    rintro e w3 ⟨rfl, b3⟩
    have HB3 := Lib.hid (HB2.out.trans (b3.mono HB2.out.size))
    have HE3 := Lib.hid (HE2.out.below b3)
    have HA3 := Lib.hid (HA2.out.later b3)
    have HX3 := Lib.hid (HX2.out.later b3)
    clear b3 HB2 HE2 HA2 HX2 HS2
    rcases hs2 : shortT tb with _ | _
    · have HAW3 := Lib.hid (tawake_any w3 HE3.out)
      go_wp2_with fail
      refine HAW3.out.mono ?_
      rintro e w4 ⟨rfl, b4⟩
      have HB4 := Lib.hid (HB3.out.trans (b4.mono HB3.out.size))
      have HE4 := Lib.hid (HE3.out.below b4)
      clear b4 HB3 HE3  
      go_wp2_with fail
      go_ret
      exact ⟨rfl, HB4.out⟩
    · have HSB := Lib.hid (shortT_sizes hs2)
      have HS3 := Lib.hid (rrightT_any ta (HSA.out.mono (by decide)) w3)
      go_wp2_with ((with_reducible refine loadT (x := .tmp 2) (u := ta) (o := ⟨some 26, _, _, _, _, _⟩) HA3.out ?_ ?_); exact ⟨rfl, rfl, rfl⟩)
      refine HS3.out.mono ?_
      rintro e w4 ⟨rfl, b4⟩
      have HB4 := Lib.hid (HB3.out.trans (b4.mono HB3.out.size))
      have HE4 := Lib.hid (HE3.out.below b4)
      have HA4 := Lib.hid (HA3.out.later b4)
      have HX4 := Lib.hid (HX3.out.later b4)
      clear b4 HB3 HE3 HA3 HX3 HS3
      rcases hs3 : rightT ta with _ | _
      · have HAW4 := Lib.hid (tawake_any w4 HE4.out)
        go_wp2_with fail
        refine HAW4.out.mono ?_
        rintro e w5 ⟨rfl, b5⟩
        have HB5 := Lib.hid (HB4.out.trans (b5.mono HB4.out.size))
        have HE5 := Lib.hid (HE4.out.below b5)
        clear b5 HB4 HE4  
        go_wp2_with fail
        go_ret
        exact ⟨rfl, HB5.out⟩
      · have HRA := Lib.hid hs3
        have HS4 := Lib.hid (rrightT_any tb (HSB.out.mono (by decide)) w4)
        go_wp2_with ((with_reducible refine loadT (x := .tmp 3) (u := tb) (o := ⟨some 31, _, _, _, _, _⟩) HX4.out ?_ ?_); exact ⟨rfl, rfl, rfl⟩)
        refine HS4.out.mono ?_
        rintro e w5 ⟨rfl, b5⟩
        have HB5 := Lib.hid (HB4.out.trans (b5.mono HB4.out.size))
        have HE5 := Lib.hid (HE4.out.below b5)
        have HA5 := Lib.hid (HA4.out.later b5)
        have HX5 := Lib.hid (HX4.out.later b5)
        clear b5 HB4 HE4 HA4 HX4 HS4
        rcases hs4 : rightT tb with _ | _
        · have HAW5 := Lib.hid (tawake_any w5 HE5.out)
          go_wp2_with fail
          refine HAW5.out.mono ?_
          rintro e w6 ⟨rfl, b6⟩
          have HB6 := Lib.hid (HB5.out.trans (b6.mono HB5.out.size))
          have HE6 := Lib.hid (HE5.out.below b6)
          clear b6 HB5 HE5  
          go_wp2_with fail
          go_ret
          exact ⟨rfl, HB6.out⟩
        · have HRB := Lib.hid hs4
          clear hs1 hs2 hs3 hs4 HZA HZB HSA HSB
          have HT1 := Lib.hid (text_yes ta HRA.out w5 HE5.out)
          go_wp2_with ((with_reducible refine loadT (x := .tmp 2) (u := ta) (o := ⟨some 37, _, _, _, _, _⟩) HA5.out ?_ ?_); exact ⟨rfl, rfl, rfl⟩)
          refine HT1.out.mono ?_
          rintro e w6 ⟨rfl, b6⟩
          have HB6 := Lib.hid (HB5.out.trans (b6.mono HB5.out.size))
          have HE6 := Lib.hid (HE5.out.below b6)
          have HA6 := Lib.hid (HA5.out.later b6)
          have HX6 := Lib.hid (HX5.out.later b6)
          clear b6 HB5 HE5 HA5 HX5 HT1
          have HT2 := Lib.hid (text_yes tb HRB.out w6 HE6.out)
          go_wp2_with ((with_reducible refine loadT (x := .tmp 3) (u := tb) (o := ⟨some 42, _, _, _, _, _⟩) HX6.out ?_ ?_); exact ⟨rfl, rfl, rfl⟩)
          refine HT2.out.mono ?_
          rintro e w7 ⟨rfl, b7⟩
          have HB7 := Lib.hid (HB6.out.trans (b7.mono HB6.out.size))
          have HE7 := Lib.hid (HE6.out.below b7)
          have HA7 := Lib.hid (HA6.out.later b7)
          have HX7 := Lib.hid (HX6.out.later b7)
          clear b7 HB6 HE6 HA6 HX6 HT2
          obtain ⟨r, hr⟩ : ∃ r, r = eqT ta tb := ⟨_, rfl⟩
          have HQT : Hid (((textT ta).toList == (textT tb).toList) = r) := by
            show _ = _
            rw [strEq, hr]
            rcases he : eqT ta tb with _ | _
            · exact decide_eq_false fun h => by rw [text_apart HRA.out HRB.out h, eqT_refl] at he; cases he
            · rw [(eqT_iff _ _).1 he]; simp
          have HQP : Hid (eqB (putT ta) (putT tb) = r) := by
            show _ = _
            rw [hr]
            rcases he : eqT ta tb with _ | _
            · unfold eqB
              exact beq_eq_false_iff_ne.2 fun h => by rw [put_apart HRA.out HRB.out h, eqT_refl] at he; cases he
            · rw [(eqT_iff _ _).1 he]; exact eqB_refl _
          have HR := Lib.hid hr
          clear hr
          obtain ⟨xa, hxa⟩ : ∃ x, textT ta = x := ⟨_, rfl⟩
          obtain ⟨xb, hxb⟩ : ∃ x, textT tb = x := ⟨_, rfl⟩
          rw [hxa, hxb] at HQT
          rw [hxa, hxb]
          clear hxa hxb
          have HP1 := Lib.hid (put_yes ta HRA.out w7 HE7.out.1)
          go_wp2_with ((with_reducible refine loadT (x := .tmp 2) (u := ta) (o := ⟨some 47, _, _, _, _, _⟩) HA7.out ?_ ?_); exact ⟨rfl, rfl, rfl⟩)
          refine HP1.out.mono ?_
          rintro e w8 ⟨va, rfl, hh1, b8⟩
          have HB8 := Lib.hid (HB7.out.trans (b8.mono HB7.out.size))
          have HE8 := Lib.hid (HE7.out.below b8)
          have HA8 := Lib.hid (HA7.out.later b8)
          have HX8 := Lib.hid (HX7.out.later b8)
          have HRD8 : Hid (Rd w8.heap.size w8 va (putT ta)) := hh1.rd
          obtain ⟨pa, ca, rfl⟩ := rd_form hh1.rd
          clear hh1
          clear b8 HB7 HE7 HA7 HX7 HP1
          have HP2 := Lib.hid (put_yes tb HRB.out w8 HE8.out.1)
          go_wp2_with ((with_reducible refine loadT (x := .tmp 3) (u := tb) (o := ⟨some 52, _, _, _, _, _⟩) HX8.out ?_ ?_); exact ⟨rfl, rfl, rfl⟩)
          refine HP2.out.mono ?_
          rintro e w9 ⟨vb, rfl, hh2, b9⟩
          have HB9 := Lib.hid (HB8.out.trans (b9.mono HB8.out.size))
          have HE9 := Lib.hid (HE8.out.below b9)
          have HA9 := Lib.hid (HA8.out.later b9)
          have HX9 := Lib.hid (HX8.out.later b9)
          have HRD9 := Lib.hid (rd_now (B := 0) HRD8.out b9)
          have HRE9 : Hid (Rd w9.heap.size w9 vb (putT tb)) := hh2.rd
          obtain ⟨pb, cb, rfl⟩ := rd_form hh2.rd
          clear hh2 HRD8
          clear b9 HB8 HE8 HA8 HX8 HP2
          obtain ⟨la, hla⟩ : ∃ l, putT ta = l := ⟨_, rfl⟩
          obtain ⟨lb, hlb⟩ : ∃ l, putT tb = l := ⟨_, rfl⟩
          rw [hla, hlb] at HQP
          rw [hla] at HRD9
          rw [hlb] at HRE9
          rw [hla, hlb]
          clear hla hlb
          go_wp2_with fail
          have HM : Hid (AS w w.heap.size (w.heap.size + 1) ta tb (.slice pa la.length ca) (.slice pb lb.length cb) la lb w9) := ⟨HB9.out, HA9.out, HX9.out, HRD9.out, HRE9.out⟩
          clear HB9 HE9 HA9 HX9 HRD9 HRE9
          refine wp_region_noPanic ?_
          refine wp_region_held_drew (S := AS w w.heap.size (w.heap.size + 1) ta tb (.slice pa la.length ca) (.slice pb lb.length cb) la lb) (by kernel_rfl) (HM.out.later (Below.refl _ _).drew) (fun hHeld => ?_)
          try simp only [Act.put]
          generalize w9.drew = wd at hHeld ⊢
          clear HM
          refine wpAnyH_take (i := 0) (oi := ⟨some 56, _, _, _, _, _⟩) (v := .string xa) rfl (by kernel_rfl) (by kernel_rfl) (by kernel_rfl) (fun _ _ _ h => h) (.inl ⟨by rfl, fun w' hSw => ?_⟩) hHeld ?_
          focus (skip; clear hHeld; go_simp)
          try simp only [Act.put, List.setIfInBounds_toArray, List.set_cons_zero, List.set_cons_succ]
          refine wpAnyH_take (i := 1) (oi := ⟨some 57, _, _, _, _, _⟩) (v := .string xb) rfl (by kernel_rfl) (by kernel_rfl) (by kernel_rfl) (fun _ _ _ h => h) (.inl ⟨by rfl, fun w' hSw => ?_⟩) hHeld ?_
          focus (skip; clear hHeld; go_simp)
          try simp only [Act.put, List.setIfInBounds_toArray, List.set_cons_zero, List.set_cons_succ]
          refine wpAnyH_take (i := 2) (oi := ⟨some 58, _, _, _, _, _⟩) (v := .bool r) rfl (by kernel_rfl) (by kernel_rfl) (by kernel_rfl) (fun _ _ _ h => h) (.inl ⟨by rfl, fun w' hSw => ?_⟩) hHeld ?_
          focus (have hq' := HQT.out; clear hHeld; go_simp)
          try simp only [Act.put, List.setIfInBounds_toArray, List.set_cons_zero, List.set_cons_succ]
          refine takeT (i := 3) (o := ⟨some 59, _, _, _, _, _⟩) (u := ta) rfl (by kernel_rfl) (by kernel_rfl) (by kernel_rfl) (fun _ _ _ h => h) (by rfl) ⟨rfl, rfl⟩ (fun _ h => h.2.1.range) hHeld ?_
          try simp only [Act.put, List.setIfInBounds_toArray, List.set_cons_zero, List.set_cons_succ]
          refine takeT (i := 4) (o := ⟨some 60, _, _, _, _, _⟩) (u := tb) rfl (by kernel_rfl) (by kernel_rfl) (by kernel_rfl) (fun _ _ _ h => h) (by rfl) ⟨rfl, rfl⟩ (fun _ h => h.2.2.1.range) hHeld ?_
          try simp only [Act.put, List.setIfInBounds_toArray, List.set_cons_zero, List.set_cons_succ]
          refine takeE (i := 5) (o := ⟨some 61, _, _, _, _, _⟩) (u := ta) (v := tb) rfl (by kernel_rfl) (by kernel_rfl) (by kernel_rfl) (fun _ _ _ h => h) (by rfl) ⟨rfl, rfl, rfl⟩ hHeld ?_
          rw [← HR.out]
          try simp only [Act.put, List.setIfInBounds_toArray, List.set_cons_zero, List.set_cons_succ]
          refine wpAnyH_take (i := 6) (oi := ⟨some 62, _, _, _, _, _⟩) (v := .bool true) rfl (by kernel_rfl) (by kernel_rfl) (by kernel_rfl) (fun _ _ _ h => h) (.inl ⟨by rfl, fun w' hSw => ?_⟩) hHeld ?_
          focus (skip; clear hHeld; go_simp)
          try simp only [Act.put, List.setIfInBounds_toArray, List.set_cons_zero, List.set_cons_succ]
          refine wpAnyH_take (i := 7) (oi := ⟨some 63, _, _, _, _, _⟩) (v := .bool true) rfl (by kernel_rfl) (by kernel_rfl) (by kernel_rfl) (fun _ _ _ h => h) (.inl ⟨by rfl, fun w' hSw => ?_⟩) hHeld ?_
          focus (skip; clear hHeld; go_simp)
          try simp only [Act.put, List.setIfInBounds_toArray, List.set_cons_zero, List.set_cons_succ]
          refine wpAnyH_take (i := 8) (oi := ⟨some 64, _, _, _, _, _⟩) (v := .slice pa la.length ca) rfl (by kernel_rfl) (by kernel_rfl) (by kernel_rfl) (fun _ _ _ h => h) (.inl ⟨by rfl, fun w' hSw => ?_⟩) hHeld ?_
          focus (skip; clear hHeld; go_simp)
          try simp only [Act.put, List.setIfInBounds_toArray, List.set_cons_zero, List.set_cons_succ]
          refine wpAnyH_take (i := 9) (oi := ⟨some 65, _, _, _, _, _⟩) (v := .slice pb lb.length cb) rfl (by kernel_rfl) (by kernel_rfl) (by kernel_rfl) (fun _ _ _ h => h) (.inl ⟨by rfl, fun w' hSw => ?_⟩) hHeld ?_
          focus (skip; clear hHeld; go_simp)
          try simp only [Act.put, List.setIfInBounds_toArray, List.set_cons_zero, List.set_cons_succ]
          refine takeT (i := 11) (o := ⟨some 67, _, _, _, _, _⟩) (u := ta) rfl (by kernel_rfl) (by kernel_rfl) (by kernel_rfl) (fun _ _ _ h => h) (by rfl) ⟨rfl, rfl⟩ (fun _ h => h.2.1.range) hHeld ?_
          try simp only [Act.put, List.setIfInBounds_toArray, List.set_cons_zero, List.set_cons_succ]
          refine takeT (i := 12) (o := ⟨some 68, _, _, _, _, _⟩) (u := tb) rfl (by kernel_rfl) (by kernel_rfl) (by kernel_rfl) (fun _ _ _ h => h) (by rfl) ⟨rfl, rfl⟩ (fun _ h => h.2.2.1.range) hHeld ?_
          try simp only [Act.put, List.setIfInBounds_toArray, List.set_cons_zero, List.set_cons_succ]
          refine takeE (i := 13) (o := ⟨some 69, _, _, _, _, _⟩) (u := ta) (v := tb) rfl (by kernel_rfl) (by kernel_rfl) (by kernel_rfl) (fun _ _ _ h => h) (by rfl) ⟨rfl, rfl, rfl⟩ hHeld ?_
          rw [← HR.out]
          try simp only [Act.put, List.setIfInBounds_toArray, List.set_cons_zero, List.set_cons_succ]
          refine wpAnyH_ready (rs := [10]) (by kernel_rfl) (by simp) ?_
          refine AllReadyH.cons (o := ⟨some 66, _, _, _, _, _⟩) rfl (fun K' hK' => ?_) AllReadyH.nil
          refine stepw_call (by rfl) ?_ (hHeld.same HQP.out) ?_
          focus go_simp
          rintro v wb ⟨rfl, hkn⟩
          refine hK'.out _ _ hkn (fun _ => ?_)
          clear hK' K' hHeld
          have hHeld := hkn
          clear hkn
          try simp only [Act.put, List.setIfInBounds_toArray, List.set_cons_zero, List.set_cons_succ]
          refine wpAnyH_take (i := 14) (oi := ⟨some 70, _, _, _, _, _⟩) (v := .bool true) rfl (by kernel_rfl) (by kernel_rfl) (by kernel_rfl) (fun _ _ _ h => h) (.inl ⟨by rfl, fun w' hSw => ?_⟩) hHeld ?_
          focus (skip; clear hHeld; go_simp)
          try simp only [Act.put, List.setIfInBounds_toArray, List.set_cons_zero, List.set_cons_succ]
          refine wpAnyH_take (i := 15) (oi := ⟨some 71, _, _, _, _, _⟩) (v := .bool true) rfl (by kernel_rfl) (by kernel_rfl) (by kernel_rfl) (fun _ _ _ h => h) (.inl ⟨by rfl, fun w' hSw => ?_⟩) hHeld ?_
          focus (skip; clear hHeld; go_simp)
          try simp only [Act.put, List.setIfInBounds_toArray, List.set_cons_zero, List.set_cons_succ]
          refine wpAnyH_take (i := 16) (oi := ⟨some 4, _, _, _, _, _⟩) (v := .bool true) rfl (by kernel_rfl) (by kernel_rfl) (by kernel_rfl) (fun _ _ _ h => h) (.inl ⟨by rfl, fun w' hSw => ?_⟩) hHeld ?_
          focus (skip; clear hHeld; go_simp)
          try simp only [Act.put, List.setIfInBounds_toArray, List.set_cons_zero, List.set_cons_succ]
          refine wpAnyH_done (by kernel_rfl) ?_ _
          refine NoPanic.normal ?_
          have HBZ := Lib.hid hHeld.1
          clear hHeld
          go_wp2_with fail
          go_ret
          exact ⟨rfl, HBZ.out⟩
end Go.Proofs.YtnnebfcggdbgpaaGreatDoor
