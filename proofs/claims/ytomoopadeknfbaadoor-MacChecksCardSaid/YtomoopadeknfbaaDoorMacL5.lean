/-
  vestrylaw07.MacChecks: the walk, given awake's.
-/
import Derived.Test.YtomoopadeknfbaaDoorMacL4
import Derived.Test.YtomoopadeknfbaaDoorMacE
namespace Go.Proofs.YtomoopadeknfbaaDoor
open Go.ChangeShapes Go.WideShapes Go.ChangeAt Go.RowKit
set_option linter.unusedVariables false

theorem set_eq (C : List UInt8) (i : Nat) (c x : UInt8) (hx : x = C.getD i 0) (hi : i < C.length) : (C == C.set i c) = decide (x = c) := by
  rw [Bool.eq_iff_iff, beq_iff_eq, decide_eq_true_eq, hx, List.getD_eq_getElem?_getD, List.getElem?_eq_getElem hi, Option.getD_some]
  constructor
  · intro h
    have : (C.set i c)[i]? = some C[i] := by rw [← h, List.getElem?_eq_getElem hi]
    rw [List.getElem?_set_self hi] at this
    exact (Option.some.inj this).symm
  · intro h
    rw [← h, List.set_getElem_self]
set_option maxRecDepth 100000 in
set_option maxHeartbeats 4000000 in
theorem macchecks_walk {w : World} {v u : Value} {k l : List UInt8} (AW : ∀ w, Env w → Calls Tryd.prog 8 #[] w fun e w' => e = .returned (.bool true) ∧ Below w.heap.size w w') (n at' : Nat) (c : UInt8) (hn : n < 256) (hat : at' < 256) (hk : k.length ≤ 200) (hl : l.length ≤ 500) (hv : Rd w.heap.size w v k) (hr : Rd w.heap.size w u l) (he : Env w) :
    Calls Tryd.prog 5 #[v, u, .int .u8 n, .int .u8 at', .int .u8 c.toNat] w fun e w' => e = .returned (.bool true) ∧ Below w.heap.size w w' := by
  have HAW := Lib.hid AW
  have HE := Lib.hid he
  have HV := Lib.hid hv
  have HR := Lib.hid hr
  obtain ⟨q, ck, rfl, _, _⟩ := hv.form
  obtain ⟨q2, cl, rfl, _, _⟩ := hr.form
  have h1 : ¬ (200 : Int) < k.length := by omega
  have h2 : ¬ (500 : Int) < l.length := by omega
  clear AW hv hr he
  go_enter Tryd.func5, Tryd.ntmps5
  go_wp2_with fail
  refine (HAW.out _ HE.out).mono ?_
  rintro e w1 ⟨rfl, b1⟩
  have HB1 := Lib.hid b1
  have HV1 := Lib.hid ((HV.out.below b1 (Nat.le_refl _)).mono b1.size)
  have HR1 := Lib.hid ((HR.out.below b1 (Nat.le_refl _)).mono b1.size)
  clear b1 HV HR
  go_wp2_with fail
  refine (rmac_any HV1.out (by omega) HR1.out (by omega)).mono ?_
  rintro e w2 ⟨rfl, b2⟩
  have HB2 := Lib.hid (HB1.out.trans (b2.mono HB1.out.size))
  have HV2 := Lib.hid ((HV1.out.below b2 (Nat.le_refl _)).mono b2.size)
  have HR2 := Lib.hid ((HR1.out.below b2 (Nat.le_refl _)).mono b2.size)
  obtain ⟨D, hD⟩ : ∃ D, D = hmac k l := ⟨_, rfl⟩
  rw [← hD]
  have HDL : Hid (D.length = 32) := by rw [hD]; exact hmac_length _ _
  have HDE := Lib.hid hD
  clear b2 hD HV1 HR1 HB1
  obtain ⟨m, hm⟩ : ∃ m, m = n % 34 := ⟨_, rfl⟩
  have hmi : (n : Int) % 34 = (m : Int) := by omega
  have hm33 : m ≤ 33 := by omega
  have n0 : (0 : Int) ≤ n := by omega
  have m0 : (0 : Int) ≤ m := by omega
  clear hm
  have hb3 : Below w2.heap.size w2 (w2.alloc (.cells (bvs D).toArray 26)) := (Below.refl _ _).alloc (Nat.le_refl _) _
  have hs3 : (w2.alloc (.cells (bvs D).toArray 26)).heap.size = w2.heap.size + 1 := by simp
  have hA3 := Arr.new' w2 26 (bvs D).toArray (bvs D) (by simp)
  have hb4 : Below (w2.alloc (.cells (bvs D).toArray 26)).heap.size (w2.alloc (.cells (bvs D).toArray 26)) ((w2.alloc (.cells (bvs D).toArray 26)).alloc (.cells #[] 5)) := (Below.refl _ _).alloc (Nat.le_refl _) _
  have hs4 : ((w2.alloc (.cells (bvs D).toArray 26)).alloc (.cells #[] 5)).heap.size = w2.heap.size + 1 + 1 := by simp
  have hd4 := arr_rd (hA3.later hb4) (by rw [HDL.out]; unfold maxLen; omega)
  rw [HDL.out] at hd4
  have HD4 := Lib.hid hd4
  have hb24 := hb3.trans (hb4.mono hb3.size)
  have HB4 := Lib.hid (HB2.out.trans (hb24.mono HB2.out.size))
  have HH4 : Hid (Held (w2.heap.size + 1) ((w2.alloc (.cells (bvs D).toArray 26)).alloc (.cells #[] 5)) (.slice (some ⟨w2.heap.size + 1, 0, none⟩) 0 0) []) :=
    .inr ⟨w2.heap.size + 1, 0, 0, rfl, Nat.le_refl _, Nat.zero_le _, Nat.le_refl _, by rw [hs4]; omega, fun i hi => absurd hi (Nat.not_lt_zero _), fun i hi => absurd hi (Nat.not_lt_zero _)⟩
  have HL4 : Hid (([] : List UInt8).length + D.length ≤ 140737488355328) := by show _ ≤ _; rw [HDL.out]; simp
  have HS4 : Hid (w2.heap.size + 1 ≤ ((w2.alloc (.cells (bvs D).toArray 26)).alloc (.cells #[] 5)).heap.size) := by show _ ≤ _; rw [hs4]; omega
  have HV4 := Lib.hid (HV2.out.below hb24 (Nat.le_refl _))
  have HR4 := Lib.hid (HR2.out.below hb24 (Nat.le_refl _))
  have HV2w : Hid (∀ w', Below w2.heap.size w2 w' → Rd w2.heap.size w' (.slice q k.length ck) k) := fun w' h => HV2.out.below h (Nat.le_refl _)
  have HR2w : Hid (∀ w', Below w2.heap.size w2 w' → Rd w2.heap.size w' (.slice q2 l.length cl) l) := fun w' h => HR2.out.below h (Nat.le_refl _)
  have HB24 := Lib.hid hb24
  have HB2s : Hid (w.heap.size ≤ w2.heap.size) := HB2.out.size
  clear hb3 hs3 hA3 hb4 hs4 hd4 hb24 HB2
  go_wp2_with (first
    | ((with_reducible refine at32b w2.heap.size (x := .tmp 11) (y := .tmp 31) (l := D) (o := ⟨none, .store _ _ _, _, _, _, _⟩) HDL.out ?_ ?_); exact ⟨rfl, rfl, rfl, rfl, rfl, rfl⟩)
    | (at_builtin; refine app_held rfl (.tmp 32) (.tmp 33) rfl rfl HH4.out rfl HD4.out HL4.out HS4.out ?_))
  intro v5 w5 h5 b5
  have HB25 := Lib.hid (HB24.out.trans (b5.mono (Nat.le_succ _)))
  have HB5 := Lib.hid (HB4.out.trans (b5.mono (Nat.le_trans HB2s.out (Nat.le_succ _))))
  have HV5 := Lib.hid (HV4.out.below b5 (Nat.le_succ _))
  have HR5 := Lib.hid (HR4.out.below b5 (Nat.le_succ _))
  have hS5 : w2.heap.size + 1 ≤ w5.heap.size := Nat.le_trans HS4.out b5.size
  have hb6 : Below w5.heap.size w5 (w5.alloc (.cells #[.int .u8 7] 5)) := (Below.refl _ _).alloc (Nat.le_refl _) _
  have HB26 := Lib.hid (HB25.out.trans (hb6.mono HB25.out.size))
  have HB6 := Lib.hid (HB5.out.trans (hb6.mono HB5.out.size))
  have HV6 := Lib.hid (HV5.out.below hb6 (by omega))
  have HR6 := Lib.hid (HR5.out.below hb6 (by omega))
  have HH6 := Lib.hid (h5.later hb6)
  have HL6 : Hid (D.length + ([7] : List UInt8).length ≤ 140737488355328) := by show _ ≤ _; rw [HDL.out]; simp
  have HS6 : Hid (w2.heap.size + 1 ≤ (w5.alloc (.cells #[.int .u8 7] 5)).heap.size) := Nat.le_trans hS5 hb6.size
  have H7 := Lib.hid (rd_lit w5 [7] #[.int .u8 7] rfl 1 rfl (by simp [maxLen]))
  clear h5 b5 hb6 hS5 HB5 HV5 HR5 HB4 HV4 HR4 HH4 HD4 HL4 HS4
  go_wp2_with (at_builtin; refine app_held rfl (.tmp 34) (.tmp 35) rfl rfl HH6.out rfl H7.out HL6.out HS6.out ?_)
  intro v7 w7 h7 b7
  have HB27 := Lib.hid (HB26.out.trans (b7.mono (Nat.le_succ _)))
  have HB7 := Lib.hid (HB6.out.trans (b7.mono (Nat.le_trans HB2s.out (Nat.le_succ _))))
  have HV7 := Lib.hid (HV6.out.below b7 (Nat.le_succ _))
  have HR7 := Lib.hid (HR6.out.below b7 (Nat.le_succ _))
  have HS7 : Hid (w2.heap.size + 1 ≤ w7.heap.size) := Nat.le_trans HS6.out b7.size
  have HH7 := Lib.hid h7
  obtain ⟨qc, cc, rfl, hc1, hc2⟩ := h7.form
  have e33 : (D ++ [7]).length = 33 := by rw [List.length_append, HDL.out]; rfl
  rw [e33] at HH7 hc1 ⊢
  have HCD := Lib.hid (HH7.out.take (k := m) (by rw [e33]; omega))
  obtain ⟨C, hC⟩ : ∃ C, C = (D ++ [7]).take m := ⟨_, rfl⟩
  rw [← hC] at HCD
  have HCL : Hid (C.length = m) := by show C.length = m; rw [hC, List.length_take, e33]; omega
  have HCE := Lib.hid hC
  have hmc : (m : Int) ≤ cc := by omega
  clear h7 b7 HB6 HV6 HR6 HH6 HL6 HS6 H7 hC e33 hc1 hc2 HH7
  have HK1 : Hid ((decide (16 ≤ C.length ∧ C.length ≤ 32) && (hmac k [l].flatten).take C.length == C) = decide (16 ≤ m ∧ m ≤ 32)) := by
    show _ = _
    rw [show [l].flatten = l by simp, ← HDE.out, HCL.out]
    by_cases h : m ≤ 32
    · rw [show D.take m = C by rw [HCE.out, List.take_append_of_le_length (by rw [HDL.out]; exact h)], beq_self_eq_true, Bool.and_true]
    · rw [show decide (16 ≤ m ∧ m ≤ 32) = false by rw [decide_eq_false_iff_not]; omega, Bool.false_and]
  have HB28 := Lib.hid (HB27.out.trans (((Below.refl w7.heap.size w7).alloc (Nat.le_refl _) (.cells #[.slice q2 l.length cl] 22)).mono HB27.out.size))
  have HB28 := Lib.hid (HB27.out.trans (((Below.refl w7.heap.size w7).alloc (Nat.le_refl _) (.cells #[.slice q2 l.length cl] 22)).mono HB27.out.size))
  have HB28 := Lib.hid (HB27.out.trans (((Below.refl w7.heap.size w7).alloc (Nat.le_refl _) (.cells #[.slice q2 l.length cl] 22)).mono HB27.out.size))
  have hb8 : Below w7.heap.size w7 (w7.alloc (.cells #[.slice q2 l.length cl] 22)) := (Below.refl _ _).alloc (Nat.le_refl _) _
  have HB8 := Lib.hid (HB7.out.trans (hb8.mono HB7.out.size))
  have HV8 := Lib.hid (((HV7.out.mono (Nat.le_trans (Nat.le_succ _) HS7.out)).below hb8 (Nat.le_refl _)).mono hb8.size)
  have hr7 := HR7.out.mono (Nat.le_trans (Nat.le_succ _) HS7.out)
  have HR8 := Lib.hid ((hr7.below hb8 (Nat.le_refl _)).mono hb8.size)
  have HC8 := Lib.hid (HCD.out.later hb8)
  have HE8 := Lib.hid (HE.out.below HB8.out)
  have HS8 : Hid (w2.heap.size + 1 ≤ (w7.alloc (.cells #[.slice q2 l.length cl] 22)).heap.size) := Nat.le_trans HS7.out hb8.size
  have hra8 := rd_one (t := 22) hr7 (Nat.le_refl _)
  rw [show w7.heap.size + 1 = (w7.alloc (.cells #[.slice q2 l.length cl] 22)).heap.size by simp] at hra8
  have HA8 := Lib.hid hra8
  clear hb8 hr7 hra8 HB7 HV7 HR7 HS7 HCD
  rcases (by omega : m = 0 ∨ (0 < m ∧ m < 16) ∨ (16 ≤ m ∧ m ≤ 32) ∨ m = 33) with hc | hc | hc | hc
  · subst hc
    go_wp2_with fail
    refine (mcheck_any (cap := 1) (ls := [l]) HV8.out (by omega) HC8.out.rd HA8.out (by simp) (by simp only [total, List.flatten_cons, List.flatten_nil, List.append_nil]; omega) HE8.out).mono ?_
    rintro e w9 ⟨rfl, b9⟩
    rw [HK1.out, show decide (16 ≤ 0 ∧ 0 ≤ 32) = false by simp <;> omega]
    have HB29 := Lib.hid (HB28.out.trans (b9.mono HB28.out.size))
    have HB9 := Lib.hid (HB8.out.trans (b9.mono HB8.out.size))
    have HV9 := Lib.hid ((HV8.out.below b9 (Nat.le_refl _)).mono b9.size)
    have HR9 := Lib.hid ((HR8.out.below b9 (Nat.le_refl _)).mono b9.size)
    have HC9 := Lib.hid (HC8.out.later b9)
    have HS9 : Hid (w2.heap.size + 1 ≤ w9.heap.size) := Nat.le_trans HS8.out b9.size
    clear b9 HB8 HV8 HR8 HC8 HA8 HE8 HS8
    go_wp2_with fail
    go_ret
    exact ⟨rfl, HB9.out⟩
  · have w1' : ¬ (16 : Int) ≤ m := by omega
    have w2' : (m : Int) < 16 := by omega
    go_wp2_with fail
    refine (mcheck_any (cap := 1) (ls := [l]) HV8.out (by omega) HC8.out.rd HA8.out (by simp) (by simp only [total, List.flatten_cons, List.flatten_nil, List.append_nil]; omega) HE8.out).mono ?_
    rintro e w9 ⟨rfl, b9⟩
    rw [HK1.out, show decide (16 ≤ m ∧ m ≤ 32) = false by simp <;> omega]
    have HB29 := Lib.hid (HB28.out.trans (b9.mono HB28.out.size))
    have HB9 := Lib.hid (HB8.out.trans (b9.mono HB8.out.size))
    have HV9 := Lib.hid ((HV8.out.below b9 (Nat.le_refl _)).mono b9.size)
    have HR9 := Lib.hid ((HR8.out.below b9 (Nat.le_refl _)).mono b9.size)
    have HC9 := Lib.hid (HC8.out.later b9)
    have HS9 : Hid (w2.heap.size + 1 ≤ w9.heap.size) := Nat.le_trans HS8.out b9.size
    clear b9 HB8 HV8 HR8 HC8 HA8 HE8 HS8
    obtain ⟨i, hi⟩ : ∃ i, i = at' % m := ⟨_, rfl⟩
    have hii : (at' : Int) % (m : Nat) = (i : Int) := by omega
    have hii2 : (at' : Int) % m = (i : Int) := by omega
    have him : i < m := by rw [hi]; exact Nat.mod_lt _ (by omega)
    have hi0 : (0 : Int) ≤ i := by omega
    have hi1 : (i : Int) < m := by omega
    have at0 : (0 : Int) ≤ at' := by omega
    have HIM := Lib.hid him
    have HC9' := HC9.out
    rcases HC9' with ⟨_, h0⟩ | ⟨g, off, cp2, hv2, _, _, h9, h10, h11, h12⟩
    · exact absurd HCL.out (by rw [h0]; simp <;> omega)
    simp only [Value.slice.injEq] at hv2
    obtain ⟨rfl, hx0, rfl⟩ := hv2
    clear hx0
    have hcl := h11 i (by rw [HCL.out]; exact him)
    have hfr := (h12 i (by omega)).2
    obtain ⟨x, hx⟩ : ∃ x, x = C.getD i 0 := ⟨_, rfl⟩
    rw [← hx] at hcl
    unfold bv at hcl
    have HX := Lib.hid hx
    have HG9 := Lib.hid h9
    clear h9 h10 h11 h12 hx hi him
    have HA := Lib.hid (HC9.out.put (i := i) (by rw [HCL.out]; exact HIM.out) c)
    have hbA : Below (w2.heap.size + 1) w9 (w9.setCell ⟨g, off + i, none⟩ (.int .u8 c.toNat)) := (Below.refl _ _).setCell HG9.out _
    have hsA : (w9.setCell ⟨g, off + i, none⟩ (.int .u8 c.toNat)).heap.size = w9.heap.size := by simp [World.setCell]
    have HVA := Lib.hid (show Rd w2.heap.size (w9.setCell ⟨g, off + i, none⟩ (.int .u8 c.toNat)) (.slice q k.length ck) k from HV2w.out _ (HB29.out.trans (hbA.mono (Nat.le_succ _))))
    have HRA := Lib.hid (show Rd w2.heap.size (w9.setCell ⟨g, off + i, none⟩ (.int .u8 c.toNat)) (.slice q2 l.length cl) l from HR2w.out _ (HB29.out.trans (hbA.mono (Nat.le_succ _))))
    have HBA : Hid (Below w.heap.size w (w9.setCell ⟨g, off + i, none⟩ (.int .u8 c.toNat))) := HB9.out.trans (hbA.mono (Nat.le_trans HB2s.out (Nat.le_succ _)))
    generalize hwA : w9.setCell ⟨g, off + i, none⟩ (.int .u8 c.toNat) = wA at HA hbA hsA HVA HRA HBA
    have hsz : w2.heap.size ≤ wA.heap.size := by rw [hsA]; exact Nat.le_trans (Nat.le_succ _) HS9.out
    have hb8 : Below wA.heap.size wA (wA.alloc (.cells #[.slice q2 l.length cl] 22)) := (Below.refl _ _).alloc (Nat.le_refl _) _
    have HB8 := Lib.hid (HBA.out.trans (hb8.mono HBA.out.size))
    have HV8 := Lib.hid (((HVA.out.mono hsz).below hb8 (Nat.le_refl _)).mono hb8.size)
    have HC8 := Lib.hid (HA.out.later hb8)
    have HE8 := Lib.hid (HE.out.below HB8.out)
    have hra8 := rd_one (t := 22) (HRA.out.mono hsz) (Nat.le_refl _)
    rw [show wA.heap.size + 1 = (wA.alloc (.cells #[.slice q2 l.length cl] 22)).heap.size by simp] at hra8
    rw [hsA] at hra8
    have HA8 := Lib.hid hra8
    have HWA := Lib.hid hwA
    have HSL : Hid ((C.set i c).length = m) := by show (C.set i c).length = m; rw [List.length_set, HCL.out]
    have HK2 : Hid ((decide (16 ≤ (C.set i c).length ∧ (C.set i c).length ≤ 32) && (hmac k [l].flatten).take (C.set i c).length == C.set i c) = (false && decide (x = c))) := by
      show _ = _
      have hw : decide (16 ≤ m ∧ m ≤ 32) = false := by simp <;> omega
      rw [HSL.out, hw, show [l].flatten = l by simp, ← HDE.out]
      rw [Bool.false_and, Bool.false_and]
    have HCHK := Lib.hid (mcheck_any (cap := 1) (ls := [l]) HV8.out (by omega) HC8.out.rd HA8.out (by simp) (by simp only [total, List.flatten_cons, List.flatten_nil, List.append_nil]; omega) HE8.out)
    rw [HK2.out, ← HWA.out] at HCHK
    rw [← HWA.out] at HB8
    clear HA hbA hsA HVA HRA HBA hsz hb8 HV8 HC8 HE8 hra8 HA8 hwA
    by_cases hxc : x = c
    · have hxn : (x.toNat : Int) = c.toNat := by rw [hxc]
      rw [show decide (x = c) = true from decide_eq_true hxc] at HCHK
      go_wp2_with fail
      refine HCHK.out.mono ?_
      rintro e wz ⟨rfl, bz⟩
      have HBZ := Lib.hid (HB8.out.trans (bz.mono HB8.out.size))
      go_wp2_with fail
      go_ret
      exact ⟨rfl, HBZ.out⟩
    · have hxn : ¬ (x.toNat : Int) = c.toNat := by
        intro e; exact hxc (UInt8.toNat_inj.1 (by omega))
      rw [show decide (x = c) = false from decide_eq_false hxc] at HCHK
      go_wp2_with fail
      refine HCHK.out.mono ?_
      rintro e wz ⟨rfl, bz⟩
      have HBZ := Lib.hid (HB8.out.trans (bz.mono HB8.out.size))
      go_wp2_with fail
      go_ret
      have hbq : (((x.toNat : Nat) : Int) == ((c.toNat : Nat) : Int)) = false := beq_eq_false_iff_ne.2 hxn
      first | exact ⟨rfl, HBZ.out⟩ | exact ⟨by rw [hbq]; rfl, HBZ.out⟩
  · have w1' : (16 : Int) ≤ m := by omega
    have w2' : (m : Int) ≤ 32 := by omega
    go_wp2_with fail
    refine (mcheck_any (cap := 1) (ls := [l]) HV8.out (by omega) HC8.out.rd HA8.out (by simp) (by simp only [total, List.flatten_cons, List.flatten_nil, List.append_nil]; omega) HE8.out).mono ?_
    rintro e w9 ⟨rfl, b9⟩
    rw [HK1.out, show decide (16 ≤ m ∧ m ≤ 32) = true by simp <;> omega]
    have HB29 := Lib.hid (HB28.out.trans (b9.mono HB28.out.size))
    have HB9 := Lib.hid (HB8.out.trans (b9.mono HB8.out.size))
    have HV9 := Lib.hid ((HV8.out.below b9 (Nat.le_refl _)).mono b9.size)
    have HR9 := Lib.hid ((HR8.out.below b9 (Nat.le_refl _)).mono b9.size)
    have HC9 := Lib.hid (HC8.out.later b9)
    have HS9 : Hid (w2.heap.size + 1 ≤ w9.heap.size) := Nat.le_trans HS8.out b9.size
    clear b9 HB8 HV8 HR8 HC8 HA8 HE8 HS8
    obtain ⟨i, hi⟩ : ∃ i, i = at' % m := ⟨_, rfl⟩
    have hii : (at' : Int) % (m : Nat) = (i : Int) := by omega
    have hii2 : (at' : Int) % m = (i : Int) := by omega
    have him : i < m := by rw [hi]; exact Nat.mod_lt _ (by omega)
    have hi0 : (0 : Int) ≤ i := by omega
    have hi1 : (i : Int) < m := by omega
    have at0 : (0 : Int) ≤ at' := by omega
    have HIM := Lib.hid him
    have HC9' := HC9.out
    rcases HC9' with ⟨_, h0⟩ | ⟨g, off, cp2, hv2, _, _, h9, h10, h11, h12⟩
    · exact absurd HCL.out (by rw [h0]; simp <;> omega)
    simp only [Value.slice.injEq] at hv2
    obtain ⟨rfl, hx0, rfl⟩ := hv2
    clear hx0
    have hcl := h11 i (by rw [HCL.out]; exact him)
    have hfr := (h12 i (by omega)).2
    obtain ⟨x, hx⟩ : ∃ x, x = C.getD i 0 := ⟨_, rfl⟩
    rw [← hx] at hcl
    unfold bv at hcl
    have HX := Lib.hid hx
    have HG9 := Lib.hid h9
    clear h9 h10 h11 h12 hx hi him
    have HA := Lib.hid (HC9.out.put (i := i) (by rw [HCL.out]; exact HIM.out) c)
    have hbA : Below (w2.heap.size + 1) w9 (w9.setCell ⟨g, off + i, none⟩ (.int .u8 c.toNat)) := (Below.refl _ _).setCell HG9.out _
    have hsA : (w9.setCell ⟨g, off + i, none⟩ (.int .u8 c.toNat)).heap.size = w9.heap.size := by simp [World.setCell]
    have HVA := Lib.hid (show Rd w2.heap.size (w9.setCell ⟨g, off + i, none⟩ (.int .u8 c.toNat)) (.slice q k.length ck) k from HV2w.out _ (HB29.out.trans (hbA.mono (Nat.le_succ _))))
    have HRA := Lib.hid (show Rd w2.heap.size (w9.setCell ⟨g, off + i, none⟩ (.int .u8 c.toNat)) (.slice q2 l.length cl) l from HR2w.out _ (HB29.out.trans (hbA.mono (Nat.le_succ _))))
    have HBA : Hid (Below w.heap.size w (w9.setCell ⟨g, off + i, none⟩ (.int .u8 c.toNat))) := HB9.out.trans (hbA.mono (Nat.le_trans HB2s.out (Nat.le_succ _)))
    generalize hwA : w9.setCell ⟨g, off + i, none⟩ (.int .u8 c.toNat) = wA at HA hbA hsA HVA HRA HBA
    have hsz : w2.heap.size ≤ wA.heap.size := by rw [hsA]; exact Nat.le_trans (Nat.le_succ _) HS9.out
    have hb8 : Below wA.heap.size wA (wA.alloc (.cells #[.slice q2 l.length cl] 22)) := (Below.refl _ _).alloc (Nat.le_refl _) _
    have HB8 := Lib.hid (HBA.out.trans (hb8.mono HBA.out.size))
    have HV8 := Lib.hid (((HVA.out.mono hsz).below hb8 (Nat.le_refl _)).mono hb8.size)
    have HC8 := Lib.hid (HA.out.later hb8)
    have HE8 := Lib.hid (HE.out.below HB8.out)
    have hra8 := rd_one (t := 22) (HRA.out.mono hsz) (Nat.le_refl _)
    rw [show wA.heap.size + 1 = (wA.alloc (.cells #[.slice q2 l.length cl] 22)).heap.size by simp] at hra8
    rw [hsA] at hra8
    have HA8 := Lib.hid hra8
    have HWA := Lib.hid hwA
    have HSL : Hid ((C.set i c).length = m) := by show (C.set i c).length = m; rw [List.length_set, HCL.out]
    have HK2 : Hid ((decide (16 ≤ (C.set i c).length ∧ (C.set i c).length ≤ 32) && (hmac k [l].flatten).take (C.set i c).length == C.set i c) = (true && decide (x = c))) := by
      show _ = _
      have hw : decide (16 ≤ m ∧ m ≤ 32) = true := by simp <;> omega
      rw [HSL.out, hw, show [l].flatten = l by simp, ← HDE.out]
      rw [Bool.true_and, Bool.true_and, show D.take m = C by rw [HCE.out, List.take_append_of_le_length (by rw [HDL.out]; omega)]]
      exact set_eq C i c x HX.out (by rw [HCL.out]; exact HIM.out)
    have HCHK := Lib.hid (mcheck_any (cap := 1) (ls := [l]) HV8.out (by omega) HC8.out.rd HA8.out (by simp) (by simp only [total, List.flatten_cons, List.flatten_nil, List.append_nil]; omega) HE8.out)
    rw [HK2.out, ← HWA.out] at HCHK
    rw [← HWA.out] at HB8
    clear HA hbA hsA HVA HRA HBA hsz hb8 HV8 HC8 HE8 hra8 HA8 hwA
    by_cases hxc : x = c
    · have hxn : (x.toNat : Int) = c.toNat := by rw [hxc]
      rw [show decide (x = c) = true from decide_eq_true hxc] at HCHK
      go_wp2_with fail
      refine HCHK.out.mono ?_
      rintro e wz ⟨rfl, bz⟩
      have HBZ := Lib.hid (HB8.out.trans (bz.mono HB8.out.size))
      go_wp2_with fail
      go_ret
      exact ⟨rfl, HBZ.out⟩
    · have hxn : ¬ (x.toNat : Int) = c.toNat := by
        intro e; exact hxc (UInt8.toNat_inj.1 (by omega))
      rw [show decide (x = c) = false from decide_eq_false hxc] at HCHK
      go_wp2_with fail
      refine HCHK.out.mono ?_
      rintro e wz ⟨rfl, bz⟩
      have HBZ := Lib.hid (HB8.out.trans (bz.mono HB8.out.size))
      go_wp2_with fail
      go_ret
      have hbq : (((x.toNat : Nat) : Int) == ((c.toNat : Nat) : Int)) = false := beq_eq_false_iff_ne.2 hxn
      first | exact ⟨rfl, HBZ.out⟩ | exact ⟨by rw [hbq]; rfl, HBZ.out⟩
  · subst hc
    go_wp2_with fail
    refine (mcheck_any (cap := 1) (ls := [l]) HV8.out (by omega) HC8.out.rd HA8.out (by simp) (by simp only [total, List.flatten_cons, List.flatten_nil, List.append_nil]; omega) HE8.out).mono ?_
    rintro e w9 ⟨rfl, b9⟩
    rw [HK1.out, show decide (16 ≤ 33 ∧ 33 ≤ 32) = false by simp <;> omega]
    have HB29 := Lib.hid (HB28.out.trans (b9.mono HB28.out.size))
    have HB9 := Lib.hid (HB8.out.trans (b9.mono HB8.out.size))
    have HV9 := Lib.hid ((HV8.out.below b9 (Nat.le_refl _)).mono b9.size)
    have HR9 := Lib.hid ((HR8.out.below b9 (Nat.le_refl _)).mono b9.size)
    have HC9 := Lib.hid (HC8.out.later b9)
    have HS9 : Hid (w2.heap.size + 1 ≤ w9.heap.size) := Nat.le_trans HS8.out b9.size
    clear b9 HB8 HV8 HR8 HC8 HA8 HE8 HS8
    obtain ⟨i, hi⟩ : ∃ i, i = at' % 33 := ⟨_, rfl⟩
    have hii : (at' : Int) % (33 : Nat) = (i : Int) := by omega
    have hii2 : (at' : Int) % 33 = (i : Int) := by omega
    have him : i < 33 := by rw [hi]; exact Nat.mod_lt _ (by omega)
    have hi0 : (0 : Int) ≤ i := by omega
    have hi1 : (i : Int) < 33 := by omega
    have at0 : (0 : Int) ≤ at' := by omega
    have HIM := Lib.hid him
    have HC9' := HC9.out
    rcases HC9' with ⟨_, h0⟩ | ⟨g, off, cp2, hv2, _, _, h9, h10, h11, h12⟩
    · exact absurd HCL.out (by rw [h0]; simp <;> omega)
    simp only [Value.slice.injEq] at hv2
    obtain ⟨rfl, hx0, rfl⟩ := hv2
    clear hx0
    have hcl := h11 i (by rw [HCL.out]; exact him)
    have hfr := (h12 i (by omega)).2
    obtain ⟨x, hx⟩ : ∃ x, x = C.getD i 0 := ⟨_, rfl⟩
    rw [← hx] at hcl
    unfold bv at hcl
    have HX := Lib.hid hx
    have HG9 := Lib.hid h9
    clear h9 h10 h11 h12 hx hi him
    have HA := Lib.hid (HC9.out.put (i := i) (by rw [HCL.out]; exact HIM.out) c)
    have hbA : Below (w2.heap.size + 1) w9 (w9.setCell ⟨g, off + i, none⟩ (.int .u8 c.toNat)) := (Below.refl _ _).setCell HG9.out _
    have hsA : (w9.setCell ⟨g, off + i, none⟩ (.int .u8 c.toNat)).heap.size = w9.heap.size := by simp [World.setCell]
    have HVA := Lib.hid (show Rd w2.heap.size (w9.setCell ⟨g, off + i, none⟩ (.int .u8 c.toNat)) (.slice q k.length ck) k from HV2w.out _ (HB29.out.trans (hbA.mono (Nat.le_succ _))))
    have HRA := Lib.hid (show Rd w2.heap.size (w9.setCell ⟨g, off + i, none⟩ (.int .u8 c.toNat)) (.slice q2 l.length cl) l from HR2w.out _ (HB29.out.trans (hbA.mono (Nat.le_succ _))))
    have HBA : Hid (Below w.heap.size w (w9.setCell ⟨g, off + i, none⟩ (.int .u8 c.toNat))) := HB9.out.trans (hbA.mono (Nat.le_trans HB2s.out (Nat.le_succ _)))
    generalize hwA : w9.setCell ⟨g, off + i, none⟩ (.int .u8 c.toNat) = wA at HA hbA hsA HVA HRA HBA
    have hsz : w2.heap.size ≤ wA.heap.size := by rw [hsA]; exact Nat.le_trans (Nat.le_succ _) HS9.out
    have hb8 : Below wA.heap.size wA (wA.alloc (.cells #[.slice q2 l.length cl] 22)) := (Below.refl _ _).alloc (Nat.le_refl _) _
    have HB8 := Lib.hid (HBA.out.trans (hb8.mono HBA.out.size))
    have HV8 := Lib.hid (((HVA.out.mono hsz).below hb8 (Nat.le_refl _)).mono hb8.size)
    have HC8 := Lib.hid (HA.out.later hb8)
    have HE8 := Lib.hid (HE.out.below HB8.out)
    have hra8 := rd_one (t := 22) (HRA.out.mono hsz) (Nat.le_refl _)
    rw [show wA.heap.size + 1 = (wA.alloc (.cells #[.slice q2 l.length cl] 22)).heap.size by simp] at hra8
    rw [hsA] at hra8
    have HA8 := Lib.hid hra8
    have HWA := Lib.hid hwA
    have HSL : Hid ((C.set i c).length = 33) := by show (C.set i c).length = 33; rw [List.length_set, HCL.out]
    have HK2 : Hid ((decide (16 ≤ (C.set i c).length ∧ (C.set i c).length ≤ 32) && (hmac k [l].flatten).take (C.set i c).length == C.set i c) = (false && decide (x = c))) := by
      show _ = _
      have hw : decide (16 ≤ 33 ∧ 33 ≤ 32) = false := by simp <;> omega
      rw [HSL.out, hw, show [l].flatten = l by simp, ← HDE.out]
      rw [Bool.false_and, Bool.false_and]
    have HCHK := Lib.hid (mcheck_any (cap := 1) (ls := [l]) HV8.out (by omega) HC8.out.rd HA8.out (by simp) (by simp only [total, List.flatten_cons, List.flatten_nil, List.append_nil]; omega) HE8.out)
    rw [HK2.out, ← HWA.out] at HCHK
    rw [← HWA.out] at HB8
    clear HA hbA hsA HVA HRA HBA hsz hb8 HV8 HC8 HE8 hra8 HA8 hwA
    by_cases hxc : x = c
    · have hxn : (x.toNat : Int) = c.toNat := by rw [hxc]
      rw [show decide (x = c) = true from decide_eq_true hxc] at HCHK
      go_wp2_with fail
      refine HCHK.out.mono ?_
      rintro e wz ⟨rfl, bz⟩
      have HBZ := Lib.hid (HB8.out.trans (bz.mono HB8.out.size))
      go_wp2_with fail
      go_ret
      exact ⟨rfl, HBZ.out⟩
    · have hxn : ¬ (x.toNat : Int) = c.toNat := by
        intro e; exact hxc (UInt8.toNat_inj.1 (by omega))
      rw [show decide (x = c) = false from decide_eq_false hxc] at HCHK
      go_wp2_with fail
      refine HCHK.out.mono ?_
      rintro e wz ⟨rfl, bz⟩
      have HBZ := Lib.hid (HB8.out.trans (bz.mono HB8.out.size))
      go_wp2_with fail
      go_ret
      have hbq : (((x.toNat : Nat) : Int) == ((c.toNat : Nat) : Int)) = false := beq_eq_false_iff_ne.2 hxn
      first | exact ⟨rfl, HBZ.out⟩ | exact ⟨by rw [hbq]; rfl, HBZ.out⟩
set_option maxRecDepth 100000 in
set_option maxHeartbeats 2000000 in
theorem macchecks_full {w : World} {v u : Value} {k l : List UInt8} (AW : ∀ w, Env w → Calls Tryd.prog 8 #[] w fun e w' => e = .returned (.bool true) ∧ Below w.heap.size w w') (n at' : Nat) (c : UInt8) (hn : n < 256) (hat : at' < 256) (hv : Rd w.heap.size w v k) (hr : Rd w.heap.size w u l) (he : Env w) :
    Calls Tryd.prog 5 #[v, u, .int .u8 n, .int .u8 at', .int .u8 c.toNat] w fun e w' => e = .returned (.bool true) ∧ Below w.heap.size w w' := by
  by_cases hk : k.length ≤ 200
  · by_cases hl : l.length ≤ 500
    · exact macchecks_walk AW n at' c hn hat hk hl hv hr he
    · have HAW := Lib.hid AW
      have HE := Lib.hid he
      obtain ⟨q, ck, rfl, _, _⟩ := hv.form
      obtain ⟨q2, cl, rfl, _, _⟩ := hr.form
      clear AW he hv hr
      have h1 : ¬ (200 : Int) < k.length := by omega
      have h2 : (500 : Int) < l.length := by omega
      go_enter Tryd.func5, Tryd.ntmps5
      go_wp2_with fail
      refine (HAW.out _ HE.out).mono ?_
      rintro e w1 ⟨rfl, b1⟩
      have HB1 := Lib.hid b1
      have HE1 := Lib.hid (HE.out.below b1)
      clear b1
      go_wp2_with fail
      refine (HAW.out _ HE1.out).mono ?_
      rintro e w2 ⟨rfl, b2⟩
      have HB2 := Lib.hid (HB1.out.trans (b2.mono HB1.out.size))
      clear b2
      go_wp2_with fail
      go_ret
      exact ⟨rfl, HB2.out⟩
  · have HAW := Lib.hid AW
    have HE := Lib.hid he
    obtain ⟨q, ck, rfl, _, _⟩ := hv.form
    obtain ⟨q2, cl, rfl, _, _⟩ := hr.form
    clear AW he hv hr
    have h1 : (200 : Int) < k.length := by omega
    go_enter Tryd.func5, Tryd.ntmps5
    go_wp2_with fail
    refine (HAW.out _ HE.out).mono ?_
    rintro e w1 ⟨rfl, b1⟩
    have HB1 := Lib.hid b1
    have HE1 := Lib.hid (HE.out.below b1)
    clear b1
    go_wp2_with fail
    refine (HAW.out _ HE1.out).mono ?_
    rintro e w2 ⟨rfl, b2⟩
    have HB2 := Lib.hid (HB1.out.trans (b2.mono HB1.out.size))
    clear b2
    go_wp2_with fail
    go_ret
    exact ⟨rfl, HB2.out⟩
end Go.Proofs.YtomoopadeknfbaaDoor
