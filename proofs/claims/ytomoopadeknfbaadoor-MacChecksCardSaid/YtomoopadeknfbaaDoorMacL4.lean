/-
  vestrylaw07.MacDerives: the walk, given awake's.
-/
import Derived.Test.YtomoopadeknfbaaDoorMacL2
import Derived.Test.YtomoopadeknfbaaDoorMacF
import Derived.Test.YtomoopadeknfbaaDoorLit
namespace Go.Proofs.YtomoopadeknfbaaDoor
open Go.ChangeShapes Go.WideShapes Go.ChangeAt Go.RowKit
set_option linter.unusedVariables false

theorem derive_zero (k lab : List UInt8) : derive k lab 0 = [] := by simp [derive]
theorem mderive_int {w : World} {v : Value} {k : List UInt8} {lab : ByteArray} (n : Int) (hv : Rd w.heap.size w v k) (hk : k.length ≤ 90000000000000) (hlab : lab.size ≤ 1000) (hn : n ≤ 8160) (he : Env w) :
    Calls Tryd.prog 12 #[v, .string lab, .int .i64 n] w fun e w' => ∃ v', e = .returned v' ∧ Held w.heap.size w' v' (derive k lab.data.toList n.toNat) ∧ Below w.heap.size w w' := by
  by_cases h : n < 0
  · refine (mderive_out n (.inl h)).mono fun e w' ⟨h1, h2⟩ => ⟨_, h1, .inl ⟨rfl, ?_⟩, h2 ▸ Below.refl _ _⟩
    rw [show n.toNat = 0 by omega, derive_zero]
  · obtain ⟨m, rfl⟩ : ∃ m : Nat, n = m := ⟨n.toNat, by omega⟩
    exact mderive_any m hv hk hlab (by omega) he
theorem rderive_int {w : World} {v : Value} {k : List UInt8} {lab : ByteArray} (n : Int) (hv : Rd w.heap.size w v k) (hk : k.length ≤ 900000) (hlab : lab.size ≤ 1000) (hn : n ≤ 8160) :
    Calls Tryd.prog 14 #[v, .string lab, .int .i64 n] w fun e w' => ∃ v', e = .returned v' ∧ Held w.heap.size w' v' (derive k lab.data.toList n.toNat) ∧ Below w.heap.size w w' := by
  by_cases h : n < 0
  · refine (rderive_out n (.inl h)).mono fun e w' ⟨h1, h2⟩ => ⟨_, h1, .inl ⟨rfl, ?_⟩, h2 ▸ Below.refl _ _⟩
    rw [show n.toNat = 0 by omega, derive_zero]
  · obtain ⟨m, rfl⟩ : ∃ m : Nat, n = m := ⟨n.toNat, by omega⟩
    exact rderive_any m hv hk hlab (by omega)
theorem derive_take (k lab : List UInt8) (a b : Nat) (h : a ≤ b) : (derive k lab b).take a = derive k lab a := by
  rw [derive, derive, List.take_take, Nat.min_eq_left h]
  exact derN_take k lab _ _ a (by omega) (by omega)
theorem u8inc (x : UInt8) : ((x.toNat : Int) + 1) % 256 = ((x + 1).toNat : Int) := by
  rw [UInt8.toNat_add]; simp
theorem Held.put {base : Nat} {w : World} {g off n cap i : Nat} {l : List UInt8} (h : Held base w (.slice (some ⟨g, off, none⟩) n cap) l) (hi : i < l.length) (y : UInt8) : Held base (w.setCell ⟨g, off + i, none⟩ (.int .u8 y.toNat)) (.slice (some ⟨g, off, none⟩) n cap) (l.set i y) := by
  rcases h with ⟨hv, _⟩ | ⟨g', off', cap', hv, h1, h2, h3, h4, h5, h6⟩
  · cases hv
  · simp only [Value.slice.injEq, Option.some.injEq, Addr.mk.injEq] at hv
    obtain ⟨⟨rfl, rfl, _⟩, rfl, rfl⟩ := hv
    refine .inr ⟨g, off, cap, by rw [List.length_set], by rw [List.length_set]; exact h1, h2, h3, by simpa [World.setCell] using h4, fun j hj => ?_, fun j hj => ?_⟩
    · rw [List.length_set] at hj
      by_cases e : j = i
      · subst e
        rw [World.cell?_setCell_same _ _ _ (h5 j hj)]
        simp [List.getD_eq_getElem?_getD, hj, bv]
      · rw [World.cell?_setCell_other _ _ _ _ (by intro e'; have := (Addr.mk.inj e').2.1; omega), h5 j hj]
        simp [List.getD_eq_getElem?_getD, Ne.symm e]
    · obtain ⟨q1, q2⟩ := h6 j hj
      refine ⟨?_, by rw [World.frozen?_setCell]; exact q2⟩
      obtain ⟨u, hu⟩ := Option.isSome_iff_exists.1 q1
      by_cases e : j = i
      · subst e; rw [World.cell?_setCell_same _ _ _ hu]; rfl
      · rw [World.cell?_setCell_other _ _ _ _ (by intro e'; have := (Addr.mk.inj e').2.1; omega), hu]; rfl
/-- What the last region keeps. -/
def Sd (w0 : World) (vk va vx : Value) (k a x : List UInt8) (w' : World) : Prop := Rd w'.heap.size w' vk k ∧ Rd w'.heap.size w' va a ∧ Rd w'.heap.size w' vx x ∧ Env w' ∧ Below w0.heap.size w0 w'
theorem Sd.later {w0 w1 w2 : World} {vk va vx : Value} {k a x : List UInt8} (h : Sd w0 vk va vx k a x w1) (hb : Below w1.heap.size w1 w2) : Sd w0 vk va vx k a x w2 :=
  ⟨(h.1.below hb (Nat.le_refl _)).mono hb.size, (h.2.1.below hb (Nat.le_refl _)).mono hb.size, (h.2.2.1.below hb (Nat.le_refl _)).mono hb.size, h.2.2.2.1.below (hb.mono (Nat.le_refl _)), h.2.2.2.2.trans (hb.mono h.2.2.2.2.size)⟩
set_option maxRecDepth 100000 in
set_option maxHeartbeats 2000000 in
theorem macderives_walk {w : World} {v : Value} {k : List UInt8} {lab : ByteArray} (AW : ∀ w, Env w → Calls Tryd.prog 8 #[] w fun e w' => e = .returned (.bool true) ∧ Below w.heap.size w w') (n : Int) (less : Nat) (hn : n ≤ 500) (hn0 : -9223372036854775808 ≤ n) (hless : less < 256) (hk : k.length ≤ 200) (hlab : lab.size ≤ 100) (hv : Rd w.heap.size w v k) (he : Env w) :
    Calls Tryd.prog 4 #[v, .string lab, .int .i64 n, .int .u8 less] w fun e w' => e = .returned (.bool true) ∧ Below w.heap.size w w' := by
  have HAW := Lib.hid AW
  have HE := Lib.hid he
  have HV := Lib.hid hv
  have HLAB : Hid (lab.size ≤ 1000) := Nat.le_trans hlab (by omega)
  obtain ⟨q, c, rfl, _, _⟩ := hv.form
  have h1 : ¬ (200 : Int) < k.length := by omega
  have h2 : ¬ (100 : Int) < lab.size := by omega
  have h3 : ¬ (500 : Int) < n := by omega
  clear AW hv he hlab
  go_enter Tryd.func4, Tryd.ntmps4
  go_wp2_with fail
  refine (HAW.out _ HE.out).mono ?_
  rintro e w1 ⟨rfl, b1⟩
  have HB1 := Lib.hid b1
  have HE1 := Lib.hid (HE.out.below b1)
  have HV1 := Lib.hid ((HV.out.below b1 (Nat.le_refl _)).mono b1.size)
  clear b1
  go_wp2_with fail
  refine (mderive_int n HV1.out (by omega) HLAB.out (by omega) HE1.out).mono ?_
  rintro e w2 ⟨v2, rfl, H2, b2⟩
  have HB2 := Lib.hid (HB1.out.trans (b2.mono HB1.out.size))
  have HE2 := Lib.hid (HE1.out.below (b2.mono (Nat.le_refl _)))
  have HV2 := Lib.hid ((HV1.out.below b2 (Nat.le_refl _)).mono b2.size)
  have HH2 := Lib.hid H2
  clear b2 H2 HV1 HE1
  obtain ⟨N, hN⟩ : ∃ N, N = n.toNat := ⟨_, rfl⟩
  have hdl := derive_length k lab.data.toList N
  rw [← hN] at HH2
  have hN5 : N ≤ 500 := by omega
  have HN := Lib.hid hN
  obtain ⟨T, hT⟩ : ∃ T, T = derive k lab.data.toList N := ⟨_, rfl⟩
  rw [← hT] at HH2 hdl
  have HT := Lib.hid hT
  obtain ⟨qa, ca, rfl, hca, _⟩ := HH2.out.form
  rw [hdl] at HH2 hca ⊢
  have HDL := Lib.hid hdl
  clear hT hdl hN
  go_wp2_with fail
  refine (rderive_int n HV2.out (by omega) HLAB.out (by omega)).mono ?_
  rintro e w3 ⟨v3, rfl, H3, b3⟩
  have HB3 := Lib.hid (HB2.out.trans (b3.mono HB2.out.size))
  have HE3 := Lib.hid (HE2.out.below (b3.mono (Nat.le_refl _)))
  have HV3 := Lib.hid ((HV2.out.below b3 (Nat.le_refl _)).mono b3.size)
  have HH3 := Lib.hid (HH2.out.later b3)
  rw [← HN.out, ← HT.out] at H3
  have HSA := Lib.hid (same_any HH3.out.rd H3.rd)
  rw [eqB_beq, beq_self_eq_true] at HSA
  clear b3 H3 HV2 HE2 HB2 HH2
  go_wp2_with fail
  refine HSA.out.mono ?_
  rintro e w4 ⟨rfl, d4, rfl⟩
  have hb4 := Joins.below_draws w3.heap.size w3 d4
  have HB4 := Lib.hid (HB3.out.trans (hb4.mono HB3.out.size))
  have HE4 := Lib.hid (HE3.out.below (hb4.mono (Nat.le_refl _)))
  have HV4 := Lib.hid ((HV3.out.below hb4 (Nat.le_refl _)).mono hb4.size)
  have HH4 := Lib.hid (HH3.out.later hb4)
  clear hb4 HV3 HE3 HB3 HH3 HSA
  generalize w3.drewN d4 = w4 at HB4 HE4 HV4 HH4 ⊢
  obtain ⟨m, hm⟩ : ∃ m, m = N - less := ⟨_, rfl⟩
  have hmi : max ((N : Int) - less) 0 = (m : Int) := by omega
  have hmi2 : max 0 ((N : Int) - less) = (m : Int) := by omega
  have HM := Lib.hid hm
  have hmN : (m : Int) ≤ ca := by omega
  have hmN0 : (0 : Int) ≤ m := by omega
  clear hm hca
  have HAT : Hid (∀ x n' c', Value.slice qa N ca = .slice (some x) n' c' → x.block < w4.heap.size) := HH4.out.lt
  go_wp2_with fail
  refine (mderive_any m HV4.out (by omega) HLAB.out (by have := HM.out; omega) HE4.out).mono ?_
  rintro e w5 ⟨v5, rfl, H5, b5⟩
  have HB45 := Lib.hid HB4.out
  have HB5 := Lib.hid (HB4.out.trans (b5.mono HB4.out.size))
  have HE5 := Lib.hid (HE4.out.below (b5.mono (Nat.le_refl _)))
  have HV5 := Lib.hid (HV4.out.below b5 (Nat.le_refl _))
  have HH5 := Lib.hid (HH4.out.later b5)
  have hb5s := b5.size
  have HTA : Hid (Held w1.heap.size w5 (.slice qa m ca) (derive k lab.data.toList m)) := by
    have := HH5.out.take (k := m) (by rw [HDL.out]; have := HM.out; omega)
    rw [HT.out, derive_take k _ m N (by have := HM.out; omega)] at this
    exact this
  have hdm := derive_length k lab.data.toList m
  obtain ⟨U, hU⟩ : ∃ U, U = derive k lab.data.toList m := ⟨_, rfl⟩
  rw [← hU] at H5 HTA hdm
  have HU := Lib.hid hU
  have HSB := Lib.hid (same_any H5.rd HTA.out.rd)
  rw [eqB_beq, beq_self_eq_true] at HSB
  have HHU := Lib.hid H5
  obtain ⟨qb, cb, rfl, _, _⟩ := HHU.out.form
  rw [hdm] at HHU HSB ⊢
  have HUL := Lib.hid hdm
  have HS5 := Lib.hid (And.intro hb5s (Nat.le_trans HB4.out.size hb5s))
  clear b5 H5 HE4 HB4 hU hdm HTA hb5s
  go_wp2_with fail
  refine HSB.out.mono ?_
  rintro e w6 ⟨rfl, d6, rfl⟩
  have hb6 := Joins.below_draws w5.heap.size w5 d6
  have HB6 := Lib.hid (HB5.out.trans (hb6.mono HB5.out.size))
  have HV6 := Lib.hid (HV5.out.below hb6 HS5.out.1)
  have HH6 := Lib.hid (HH5.out.later hb6)
  have HU6 := Lib.hid (HHU.out.later hb6)
  have HS6 : Hid (w4.heap.size ≤ (w5.drewN d6).heap.size) := Nat.le_trans HS5.out.1 hb6.size
  clear hb6 HV5 HE5 HB5 HH5 HSB HHU HS5
  generalize w5.drewN d6 = w6 at HB6 HV6 HH6 HU6 HS6 ⊢
  go_wp2_with fail
  go_loopw [12] (fun iv wr => ∃ (i : Nat) (lb : List UInt8), i ≤ m ∧ iv = .int .i64 i ∧ lb.length = m ∧ Hid (Held w4.heap.size wr (.slice qb m cb) lb ∧ Below w4.heap.size w6 wr)) (fun iv _ => m - (intOf iv).toNat)
  case atStart => exact ⟨0, U, by omega, rfl, HUL.out, HU6.out, Below.refl _ _⟩
  case round =>
    obtain ⟨i, lb, hi, rfl, hlb, HR⟩ := hrel
    clear HU6
    have hi0 : (0 : Int) ≤ i := by omega
    have HLB := Lib.hid hlb
    by_cases hlt : i < m
    · have hlt1 : (i : Int) < m := by omega
      have HRR := HR.out.1
      rcases HRR with ⟨_, h0⟩ | ⟨g, off, cp2, hv2, _, _, h9, h10, h11, h12⟩
      · rw [h0] at hlb; simp at hlb; omega
      simp only [Value.slice.injEq] at hv2
      obtain ⟨rfl, _, rfl⟩ := hv2
      have hc := h11 i (by omega)
      have hf := (h12 i (by omega)).2
      obtain ⟨x, hx⟩ : ∃ x, x = lb.getD i 0 := ⟨_, rfl⟩
      rw [← hx] at hc
      unfold bv at hc
      have hic := u8inc x
      obtain ⟨y, hy⟩ : ∃ y, y = x + 1 := ⟨_, rfl⟩
      rw [← hy] at hic
      have HG9 := Lib.hid h9
      clear h9 h10 h11 h12 hlb hx hy
      go_wp2_with fail
      go_roundw
      case rel =>
        refine ⟨i + 1, lb.set i y, by omega, by go_num, by rw [List.length_set]; exact HLB.out, ?_⟩
        exact ⟨HR.out.1.put (by rw [HLB.out]; exact hlt) y, HR.out.2.setCell HG9.out _⟩
      case measure => simp [intOf]; omega
    · obtain rfl : i = m := by omega
      have HB := Lib.hid HR.out.2
      have HV7 := Lib.hid ((HV6.out.below HB.out (Nat.le_refl _)).mono (Nat.le_trans HS6.out HB.out.size))
      have HH7 := Lib.hid (HH6.out.under HAT.out HB.out)
      have HB7 : Hid (Below w.heap.size w wr) := HB6.out.trans (HB.out.mono HB45.out.size)
      have HE7 := Lib.hid (HE.out.below HB7.out)
      clear HR HB6 HB HV6 HH6 HLB hlt hi hi0
      go_wp2_with fail
      refine (mkey_any HV7.out (by omega) HLAB.out HE7.out).mono ?_
      rintro e w8 ⟨rfl, b8⟩
      have HB8 := Lib.hid (HB7.out.trans (b8.mono HB7.out.size))
      have HE8 := Lib.hid (HE7.out.below (b8.mono (Nat.le_refl _)))
      have HV8 := Lib.hid ((HV7.out.below b8 (Nat.le_refl _)).mono b8.size)
      have HH8 := Lib.hid (HH7.out.later b8)
      obtain ⟨D, hD⟩ : ∃ D, D = derive k lab.data.toList 16 := ⟨_, rfl⟩
      rw [← hD]
      have HD16 : Hid (D.length = 16) := by rw [hD]; exact derive_length _ _ _
      have HDE := Lib.hid hD
      clear b8 hD HB7 HE7 HV7 HH7
      have hb9 : Below w8.heap.size w8 (w8.alloc (.cells (bvs D).toArray 32)) := (Below.refl _ _).alloc (Nat.le_refl _) _
      have HB9 := Lib.hid (HB8.out.trans (hb9.mono HB8.out.size))
      have HE9 := Lib.hid (HE8.out.below (hb9.mono (Nat.le_refl _)))
      have HV9 := Lib.hid ((HV8.out.below hb9 (Nat.le_refl _)).mono hb9.size)
      have HH9 := Lib.hid (HH8.out.later hb9)
      have HX9 : Hid (Rd (w8.alloc (.cells (bvs D).toArray 32)).heap.size (w8.alloc (.cells (bvs D).toArray 32)) (.slice (some ⟨w8.heap.size, 0, none⟩) 16 16) D) := by
        have := arr_rd (Arr.new' w8 32 (bvs D).toArray (bvs D) (by simp)) (by rw [HD16.out]; unfold maxLen; omega)
        rw [HD16.out] at this
        exact this
      clear hb9 HB8 HE8 HV8 HH8
      go_wp2_with ((with_reducible refine at16b w8.heap.size (x := .tmp 13) (y := .tmp 72) (l := D) (o := ⟨none, .store _ _ _, _, _, _, _⟩) HD16.out ?_ ?_); exact ⟨rfl, rfl, rfl, rfl, rfl, rfl⟩)
      have HKS : Hid (Sd w (.slice q k.length c) (.slice qa N ca) (.slice (some ⟨w8.heap.size, 0, none⟩) 16 16) k T D (w8.alloc (.cells (bvs D).toArray 32))) := ⟨HV9.out, HH9.out.rd, HX9.out, HE9.out, HB9.out⟩
      generalize w8.alloc (.cells (bvs D).toArray 32) = w9 at HKS ⊢
      generalize w8.heap.size = X at HKS ⊢
      clear HV9 HH9 HX9 HE9 HB9
      refine wp_region_noPanic ?_
      refine wp_region_held_drew (S := Sd w (.slice q k.length c) (.slice qa N ca) (.slice (some ⟨X, 0, none⟩) 16 16) k T D) (by kernel_rfl) (HKS.out.later (Below.refl _ _).drew) (fun hHeld => ?_)
      try simp only [Act.put]
      generalize w9.drew = w10 at hHeld ⊢
      clear HKS
      refine wpAnyH_take (i := 0) (oi := ⟨some 73, _, _, _, _, _⟩) (v := .slice q k.length c) rfl (by kernel_rfl) (by kernel_rfl) (by kernel_rfl) (fun _ _ _ h => h) (.inl ⟨by rfl, fun w' hSw => ?_⟩) hHeld ?_
      focus (skip; clear hHeld; go_simp)
      try simp only [Act.put, List.setIfInBounds_toArray, List.set_cons_zero, List.set_cons_succ]
      refine wpAnyH_take (i := 1) (oi := ⟨some 74, _, _, _, _, _⟩) (v := .string lab) rfl (by kernel_rfl) (by kernel_rfl) (by kernel_rfl) (fun _ _ _ h => h) (.inl ⟨by rfl, fun w' hSw => ?_⟩) hHeld ?_
      focus (skip; clear hHeld; go_simp)
      try simp only [Act.put, List.setIfInBounds_toArray, List.set_cons_zero, List.set_cons_succ]
      refine wpAnyH_take (i := 2) (oi := ⟨some 75, _, _, _, _, _⟩) (v := .int .i64 n) rfl (by kernel_rfl) (by kernel_rfl) (by kernel_rfl) (fun _ _ _ h => h) (.inl ⟨by rfl, fun w' hSw => ?_⟩) hHeld ?_
      focus (skip; clear hHeld; go_simp)
      try simp only [Act.put, List.setIfInBounds_toArray, List.set_cons_zero, List.set_cons_succ]
      refine wpAnyH_take (i := 4) (oi := ⟨some 77, _, _, _, _, _⟩) (v := .slice qa N ca) rfl (by kernel_rfl) (by kernel_rfl) (by kernel_rfl) (fun _ _ _ h => h) (.inl ⟨by rfl, fun w' hSw => ?_⟩) hHeld ?_
      focus (skip; clear hHeld; go_simp)
      try simp only [Act.put, List.setIfInBounds_toArray, List.set_cons_zero, List.set_cons_succ]
      refine wpAnyH_ready (rs := [3]) (by kernel_rfl) (by simp) ?_
      refine AllReadyH.cons (o := ⟨some 76, _, _, _, _, _⟩) rfl (fun K' hK' => ?_) AllReadyH.nil
      refine stepw_call (R := fun v w'' => Rd w''.heap.size w'' v (derive k lab.data.toList n.toNat) ∧ Sd w (.slice q k.length c) (.slice qa N ca) (.slice (some ⟨X, 0, none⟩) 16 16) k T D w'') (by rfl) ?_ ((mderive_int n hHeld.1 (by omega) HLAB.out (by omega) hHeld.2.2.2.1).mono fun e w'' ⟨v', h1, h2, h3⟩ => ⟨v', h1, h2.rd, hHeld.later h3⟩) ?_
      focus go_simp
      rintro v w11 ⟨R76, hkn⟩
      refine hK'.out _ _ hkn (fun _ => ?_)
      clear hK' K' hHeld
      have hHeld := hkn
      clear hkn
      try simp only [Act.put, List.setIfInBounds_toArray, List.set_cons_zero, List.set_cons_succ]
      rw [← HN.out, ← HT.out] at R76
      refine wpAnyH_ready (rs := [5]) (by kernel_rfl) (by simp) ?_
      refine AllReadyH.cons (o := ⟨some 78, _, _, _, _, _⟩) rfl (fun K' hK' => ?_) AllReadyH.nil
      refine stepw_call (R := fun v w'' => v = .bool true ∧ Sd w (.slice q k.length c) (.slice qa N ca) (.slice (some ⟨X, 0, none⟩) 16 16) k T D w'') (by rfl) ?_ ((same_any R76 hHeld.2.1).mono fun e w'' ⟨h1, d, h2⟩ => ⟨_, h1, by rw [eqB_beq, beq_self_eq_true], hHeld.later (h2 ▸ Joins.below_draws _ _ d)⟩) ?_
      focus go_simp
      rintro v w12 ⟨rfl, hkn⟩
      refine hK'.out _ _ hkn (fun _ => ?_)
      clear hK' K' hHeld
      have hHeld := hkn
      clear hkn
      try simp only [Act.put, List.setIfInBounds_toArray, List.set_cons_zero, List.set_cons_succ]
      clear R76
      refine wpAnyH_take (i := 6) (oi := ⟨some 79, _, _, _, _, _⟩) (v := .bool true) rfl (by kernel_rfl) (by kernel_rfl) (by kernel_rfl) (fun _ _ _ h => h) (.inl ⟨by rfl, fun w' hSw => ?_⟩) hHeld ?_
      focus (skip; clear hHeld; go_simp)
      try simp only [Act.put, List.setIfInBounds_toArray, List.set_cons_zero, List.set_cons_succ]
      refine wpAnyH_take (i := 7) (oi := ⟨some 80, _, _, _, _, _⟩) (v := .slice (some ⟨X, 0, none⟩) 16 16) rfl (by kernel_rfl) (by kernel_rfl) (by kernel_rfl) (fun _ _ _ h => h) (.inl ⟨by rfl, fun w' hSw => ?_⟩) hHeld ?_
      focus (skip; clear hHeld; go_simp)
      try simp only [Act.put, List.setIfInBounds_toArray, List.set_cons_zero, List.set_cons_succ]
      refine wpAnyH_take (i := 8) (oi := ⟨some 81, _, _, _, _, _⟩) (v := .slice q k.length c) rfl (by kernel_rfl) (by kernel_rfl) (by kernel_rfl) (fun _ _ _ h => h) (.inl ⟨by rfl, fun w' hSw => ?_⟩) hHeld ?_
      focus (skip; clear hHeld; go_simp)
      try simp only [Act.put, List.setIfInBounds_toArray, List.set_cons_zero, List.set_cons_succ]
      refine wpAnyH_take (i := 9) (oi := ⟨some 82, _, _, _, _, _⟩) (v := .string lab) rfl (by kernel_rfl) (by kernel_rfl) (by kernel_rfl) (fun _ _ _ h => h) (.inl ⟨by rfl, fun w' hSw => ?_⟩) hHeld ?_
      focus (skip; clear hHeld; go_simp)
      try simp only [Act.put, List.setIfInBounds_toArray, List.set_cons_zero, List.set_cons_succ]
      refine wpAnyH_ready (rs := [10]) (by kernel_rfl) (by simp) ?_
      refine AllReadyH.cons (o := ⟨some 83, _, _, _, _, _⟩) rfl (fun K' hK' => ?_) AllReadyH.nil
      refine stepw_call (R := fun v w'' => Rd w''.heap.size w'' v D ∧ Sd w (.slice q k.length c) (.slice qa N ca) (.slice (some ⟨X, 0, none⟩) 16 16) k T D w'') (by rfl) ?_ ((rderive_int 16 hHeld.1 (by omega) HLAB.out (by omega)).mono fun e w'' ⟨v', h1, h2, h3⟩ => ⟨v', h1, by rw [HDE.out]; exact h2.rd, hHeld.later h3⟩) ?_
      focus go_simp
      rintro v w13 ⟨R83, hkn⟩
      refine hK'.out _ _ hkn (fun _ => ?_)
      clear hK' K' hHeld
      have hHeld := hkn
      clear hkn
      try simp only [Act.put, List.setIfInBounds_toArray, List.set_cons_zero, List.set_cons_succ]
      refine wpAnyH_ready (rs := [11]) (by kernel_rfl) (by simp) ?_
      refine AllReadyH.cons (o := ⟨some 84, _, _, _, _, _⟩) rfl (fun K' hK' => ?_) AllReadyH.nil
      refine stepw_call (R := fun v w'' => v = .bool true ∧ Sd w (.slice q k.length c) (.slice qa N ca) (.slice (some ⟨X, 0, none⟩) 16 16) k T D w'') (by rfl) ?_ ((same_any hHeld.2.2.1 R83).mono fun e w'' ⟨h1, d, h2⟩ => ⟨_, h1, by rw [eqB_beq, beq_self_eq_true], hHeld.later (h2 ▸ Joins.below_draws _ _ d)⟩) ?_
      focus go_simp
      rintro v w14 ⟨rfl, hkn⟩
      refine hK'.out _ _ hkn (fun _ => ?_)
      clear hK' K' hHeld
      have hHeld := hkn
      clear hkn
      try simp only [Act.put, List.setIfInBounds_toArray, List.set_cons_zero, List.set_cons_succ]
      refine wpAnyH_take (i := 12) (oi := ⟨some 85, _, _, _, _, _⟩) (v := .bool true) rfl (by kernel_rfl) (by kernel_rfl) (by kernel_rfl) (fun _ _ _ h => h) (.inl ⟨by rfl, fun w' hSw => ?_⟩) hHeld ?_
      focus (skip; clear hHeld; go_simp)
      try simp only [Act.put, List.setIfInBounds_toArray, List.set_cons_zero, List.set_cons_succ]
      refine wpAnyH_take (i := 13) (oi := ⟨some 8, _, _, _, _, _⟩) (v := .bool true) rfl (by kernel_rfl) (by kernel_rfl) (by kernel_rfl) (fun _ _ _ h => h) (.inl ⟨by rfl, fun w' hSw => ?_⟩) hHeld ?_
      focus (skip; clear hHeld; go_simp)
      try simp only [Act.put, List.setIfInBounds_toArray, List.set_cons_zero, List.set_cons_succ]
      refine wpAnyH_done (by kernel_rfl) ?_ _
      refine NoPanic.normal ?_
      have HBZ := Lib.hid hHeld.2.2.2.2
      clear hHeld
      go_wp2_with fail
      go_ret
      exact ⟨rfl, HBZ.out⟩
set_option maxRecDepth 100000 in
set_option maxHeartbeats 2000000 in
theorem macderives_full {w : World} {v : Value} {k : List UInt8} {lab : ByteArray} (AW : ∀ w, Env w → Calls Tryd.prog 8 #[] w fun e w' => e = .returned (.bool true) ∧ Below w.heap.size w w') (n : Int) (less : Nat) (hn0 : -9223372036854775808 ≤ n) (hless : less < 256) (hv : Rd w.heap.size w v k) (he : Env w) :
    Calls Tryd.prog 4 #[v, .string lab, .int .i64 n, .int .u8 less] w fun e w' => e = .returned (.bool true) ∧ Below w.heap.size w w' := by
  by_cases hk : k.length ≤ 200
  · by_cases hl : lab.size ≤ 100
    · by_cases hn : n ≤ 500
      · exact macderives_walk AW n less hn hn0 hless hk hl hv he
      · have HAW := Lib.hid AW
        have HE := Lib.hid he
        obtain ⟨q, c, rfl, _, _⟩ := hv.form
        clear AW he hv
        have h1 : ¬ (200 : Int) < k.length := by omega
        have h2 : ¬ (100 : Int) < lab.size := by omega
        have h3 : (500 : Int) < n := by omega
        go_enter Tryd.func4, Tryd.ntmps4
        go_wp2_with fail
        refine (HAW.out _ HE.out).mono ?_
        rintro e w1 ⟨rfl, b1⟩
        have HB1 := Lib.hid b1
        have HE1 := Lib.hid (HE.out.below b1)
        clear b1
        go_wp2_with fail
        refine (HAW.out _ HE1.out).mono ?_
        rintro e w2 ⟨rfl, b2⟩
        have HB2 := Lib.hid (HB1.out.trans (b2.mono HB1.out.size))
        clear b2
        go_wp2_with fail
        go_ret
        exact ⟨rfl, HB2.out⟩
    · have HAW := Lib.hid AW
      have HE := Lib.hid he
      obtain ⟨q, c, rfl, _, _⟩ := hv.form
      clear AW he hv
      have h1 : ¬ (200 : Int) < k.length := by omega
      have h2 : (100 : Int) < lab.size := by omega
      go_enter Tryd.func4, Tryd.ntmps4
      go_wp2_with fail
      refine (HAW.out _ HE.out).mono ?_
      rintro e w1 ⟨rfl, b1⟩
      have HB1 := Lib.hid b1
      have HE1 := Lib.hid (HE.out.below b1)
      clear b1
      go_wp2_with fail
      refine (HAW.out _ HE1.out).mono ?_
      rintro e w2 ⟨rfl, b2⟩
      have HB2 := Lib.hid (HB1.out.trans (b2.mono HB1.out.size))
      clear b2
      go_wp2_with fail
      go_ret
      exact ⟨rfl, HB2.out⟩
  · have HAW := Lib.hid AW
    have HE := Lib.hid he
    obtain ⟨q, c, rfl, _, _⟩ := hv.form
    clear AW he hv
    have h1 : (200 : Int) < k.length := by omega
    go_enter Tryd.func4, Tryd.ntmps4
    go_wp2_with fail
    refine (HAW.out _ HE.out).mono ?_
    rintro e w1 ⟨rfl, b1⟩
    have HB1 := Lib.hid b1
    have HE1 := Lib.hid (HE.out.below b1)
    clear b1
    go_wp2_with fail
    refine (HAW.out _ HE1.out).mono ?_
    rintro e w2 ⟨rfl, b2⟩
    have HB2 := Lib.hid (HB1.out.trans (b2.mono HB1.out.size))
    clear b2
    go_wp2_with fail
    go_ret
    exact ⟨rfl, HB2.out⟩
end Go.Proofs.YtomoopadeknfbaaDoor
