/-
  vestrylaw06.ShaLimits: the walk.
-/
import Derived.Test.YtbnpnpoddnkaiaaDoorShaM
import Derived.Test.YtbnpnpoddnkaiaaDoorStepW
namespace Go.Proofs.YtbnpnpoddnkaiaaDoor
open Go.ChangeShapes Go.WideShapes Go.ChangeAt Go.RowKit
set_option linter.unusedVariables false

theorem rd_two {w : World} {t : TypeId} {v0 v1 : Value} {l0 l1 : List UInt8} (h0 : Rd w.heap.size w v0 l0) (h1 : Rd w.heap.size w v1 l1) :
    RdAll (w.alloc (.cells #[v0, v1] t)).heap.size (w.alloc (.cells #[v0, v1] t)) (some ⟨w.heap.size, 0, none⟩) [l0, l1] := by
  intro _
  have hb : Below w.heap.size w (w.alloc (.cells #[v0, v1] t)) := (Below.refl _ _).alloc (Nat.le_refl _) _
  refine ⟨w.heap.size, 0, rfl, by simp, fun i hi => ?_⟩
  have hi2 : i < 2 := by simpa using hi
  rcases (show i = 0 ∨ i = 1 by omega) with rfl | rfl
  · refine ⟨v0, ?_, (h0.below hb (Nat.le_refl _)).mono hb.size⟩
    rw [cell_of_row _ _ _ #[v0, v1] t (0, 0) (heap_alloc_new w _)]; rfl
  · refine ⟨v1, ?_, (h1.below hb (Nat.le_refl _)).mono hb.size⟩
    rw [cell_of_row _ _ _ #[v0, v1] t (0, 0) (heap_alloc_new w _)]; rfl
theorem rd_three {w : World} {t : TypeId} {v0 v1 v2 : Value} {l0 l1 l2 : List UInt8} (h0 : Rd w.heap.size w v0 l0) (h1 : Rd w.heap.size w v1 l1) (h2 : Rd w.heap.size w v2 l2) :
    RdAll (w.alloc (.cells #[v0, v1, v2] t)).heap.size (w.alloc (.cells #[v0, v1, v2] t)) (some ⟨w.heap.size, 0, none⟩) [l0, l1, l2] := by
  intro _
  have hb : Below w.heap.size w (w.alloc (.cells #[v0, v1, v2] t)) := (Below.refl _ _).alloc (Nat.le_refl _) _
  refine ⟨w.heap.size, 0, rfl, by simp, fun i hi => ?_⟩
  have hi2 : i < 3 := by simpa using hi
  rcases (show i = 0 ∨ i = 1 ∨ i = 2 by omega) with rfl | rfl | rfl
  · refine ⟨v0, ?_, (h0.below hb (Nat.le_refl _)).mono hb.size⟩
    rw [cell_of_row _ _ _ #[v0, v1, v2] t (0, 0) (heap_alloc_new w _)]; rfl
  · refine ⟨v1, ?_, (h1.below hb (Nat.le_refl _)).mono hb.size⟩
    rw [cell_of_row _ _ _ #[v0, v1, v2] t (0, 0) (heap_alloc_new w _)]; rfl
  · refine ⟨v2, ?_, (h2.below hb (Nat.le_refl _)).mono hb.size⟩
    rw [cell_of_row _ _ _ #[v0, v1, v2] t (0, 0) (heap_alloc_new w _)]; rfl
theorem RdAll.mono {B C : Nat} {w : World} {oa : Option Addr} {ls : List (List UInt8)} (h : RdAll B w oa ls) (hB : B ≤ C) : RdAll C w oa ls := by
  intro h0
  obtain ⟨b, off, e, h1, hc⟩ := h h0
  refine ⟨b, off, e, by omega, fun i hi => ?_⟩
  obtain ⟨u, hu, hr⟩ := hc i hi
  exact ⟨u, hu, hr.mono hB⟩
/-- What the last region keeps. -/
def Kl (w0 : World) (X g off cap : Nat) (l D : List UInt8) (w' : World) : Prop := Arr w' 26 X (bvs D) ∧ Held w0.heap.size w' (.slice (some ⟨g, off, none⟩) l.length cap) l ∧ Env w' ∧ Below w0.heap.size w0 w'
theorem Kl.later {w0 w1 w2 : World} {X g off cap : Nat} {l D : List UInt8} (h : Kl w0 X g off cap l D w1) (hb : Below w1.heap.size w1 w2) : Kl w0 X g off cap l D w2 :=
  ⟨h.1.later hb, h.2.1.later hb, h.2.2.1.below hb, h.2.2.2.trans (hb.mono h.2.2.2.size)⟩
set_option maxRecDepth 100000 in
set_option maxHeartbeats 2000000 in
theorem shalimits_walk (n : Nat) (c : UInt8) (hn : n < 256) (w : World) (he : Env w) :
    Calls Tryd.prog 7 #[.int .u8 n, .int .u8 c.toNat] w fun e w' => e = .returned (.bool true) ∧ Below w.heap.size w w' := by
  obtain ⟨k, hk⟩ : ∃ k, k = 54 + n % 76 := ⟨_, rfl⟩
  have hki : 54 + (n : Int) % 76 = (k : Int) := by omega
  have hk1 : k ≤ 129 := by omega
  have hk0 : 54 ≤ k := by omega
  have n0 : (0 : Int) ≤ n := by omega
  have HE := Lib.hid he
  clear he hk
  go_enter Tryd.func7, Tryd.ntmps7
  go_wp2_with fail
  refine (shawake_any _ HE.out).mono ?_
  rintro e w1 ⟨rfl, B1⟩
  have HE1 := Lib.hid (HE.out.below B1)
  have HB1 := Lib.hid B1
  clear B1
  go_wp2_with fail
  have HSZ1 : Hid (w.heap.size ≤ w1.heap.size) := HB1.out.size
  go_loopw [6, 7] (fun v iv wr => ∃ i : Nat, i ≤ k ∧ iv = .int .i64 i ∧ Hid (Held w.heap.size wr v (List.replicate i c) ∧ Below w.heap.size w wr)) (fun _ iv _ => k - (intOf iv).toNat)
  case atStart => exact ⟨0, by omega, rfl, .inl ⟨rfl, rfl⟩, HB1.out⟩
  case round =>
    obtain ⟨i, hi, rfl, HM⟩ := hrel
    have hi0 : (0 : Int) ≤ i := by omega
    by_cases hlt : i < k
    · have hlt1 : (i : Int) < k := by omega
      have hb : Below wr.heap.size wr (wr.alloc (.cells #[.int .u8 c.toNat] 5)) := (Below.refl _ _).alloc (Nat.le_refl _) _
      have HH := Lib.hid (HM.out.1.later hb)
      have HB := Lib.hid (HM.out.2.trans (hb.mono HM.out.2.size))
      have HR := Lib.hid (rd_lit wr [c] #[.int .u8 c.toNat] rfl 1 rfl (by simp [maxLen]))
      have HLN : Hid ((List.replicate i c).length + ([c] : List UInt8).length ≤ 140737488355328) := by show _ ≤ _; simp; omega
      clear hb HM
      go_wp2_with (at_builtin; refine app_held rfl (.tmp 20) (.tmp 22) rfl rfl HH.out rfl HR.out HLN.out HB.out.size ?_; intro v2 w2 h2 b2)
      have HM2 : Hid (Held w.heap.size w2 v2 (List.replicate (i + 1) c) ∧ Below w.heap.size w w2) := by
        refine ⟨?_, HB.out.trans b2⟩
        rw [List.replicate_succ']; exact h2
      clear h2 b2
      go_wp2_with fail
      go_roundw
      case rel => exact ⟨i + 1, by omega, by go_num, HM2.out⟩
      case measure => simp [intOf]; omega
    · obtain rfl : i = k := by omega
      obtain ⟨l, hl⟩ : ∃ l, l = List.replicate i c := ⟨_, rfl⟩
      have hll : l.length = i := by rw [hl]; simp
      rw [← hl] at HM
      obtain ⟨q, cp, rfl, hc1, hc2⟩ := HM.out.1.form
      have hb : Below wr.heap.size wr (wr.alloc (.cells #[.slice q l.length cp] 24)) := (Below.refl _ _).alloc (Nat.le_refl _) _
      have HRA : Hid (RdAll (wr.heap.size + 1) (wr.alloc (.cells #[.slice q l.length cp] 24)) (some ⟨wr.heap.size, 0, none⟩) [l]) := rd_one (HM.out.1.rd) (Nat.le_refl _)
      have HH2 := Lib.hid (HM.out.1.later hb)
      have HB2 := Lib.hid (HM.out.2.trans (hb.mono HM.out.2.size))
      have HE2 := Lib.hid (HE.out.below HB2.out)
      have HLL := Lib.hid hll
      clear hb hl hll hki hi hlt HM
      rw [← HLL.out]
      go_wp2_with fail
      refine (sum_any (cap := 1) HRA.out (by simp) (by simp) (by simp only [total, List.flatten_cons, List.flatten_nil, List.append_nil]; have := HLL.out; omega) HE2.out).mono ?_
      rintro e w3 ⟨rfl, b3⟩
      rw [show [l].flatten = l from by simp]
      have HB3 := Lib.hid (HB2.out.trans (b3.mono HB2.out.size))
      have HE3 := Lib.hid (HE2.out.below (b3.mono (Nat.le_refl _)))
      have HH3 := Lib.hid (HH2.out.later b3)
      have HLE : Hid (l.length ≤ 129) := by have := HLL.out; show _ ≤ _; omega
      clear b3 HB2 HE2 HH2 HRA
      obtain ⟨D, hD⟩ : ∃ D, D = digest l := ⟨_, rfl⟩
      rw [← hD]
      have HDL : Hid (D.length = 32) := by rw [hD]; exact digest_length _
      have HDD := Lib.hid hD
      clear hD
      have hb4 : Below w3.heap.size w3 (w3.alloc (.cells (bvs D).toArray 26)) := (Below.refl _ _).alloc (Nat.le_refl _) _
      have HB4 := Lib.hid (HB3.out.trans (hb4.mono HB3.out.size))
      have HE4 := Lib.hid (HE3.out.below (hb4.mono (Nat.le_refl _)))
      have HH4 := Lib.hid (HH3.out.later hb4)
      have HA4 := Lib.hid (Arr.new' w3 26 (bvs D).toArray (bvs D) (by simp))
      clear hb4
      go_wp2_with ((with_reducible refine at32b w3.heap.size (x := .tmp 8) (y := .tmp 26) (l := D) (o := ⟨none, .store _ _ _, _, _, _, _⟩) HDL.out ?_ ?_); exact ⟨rfl, rfl, rfl, rfl, rfl, rfl⟩)
      have HB := HH4.out
      rcases HB with ⟨_, h0⟩ | ⟨g, off, cp2, hv, hx1, hx2, hx3, hx4, hx5, hx6⟩
      · have := HLL.out; rw [h0] at this; simp at this; omega
      simp only [Value.slice.injEq] at hv
      obtain ⟨rfl, hx0, rfl⟩ := hv
      clear hx0 hx1 hx2 hx3 hx4 hx5 hx6 hc1 hc2
      have hgX : g < w3.heap.size := HH3.out.lt ⟨g, off, none⟩ _ _ rfl
      have hks : Kl w w3.heap.size g off cp l D (w3.alloc (.cells (bvs D).toArray 26)) := ⟨HA4.out, HH4.out, HE4.out, HB4.out⟩
      generalize w3.alloc (.cells (bvs D).toArray 26) = w4 at hks ⊢
      generalize w3.heap.size = X at hgX hks ⊢
      have HKS := Lib.hid hks
      have HGX : Hid (X ≠ g) := Nat.ne_of_gt hgX
      clear HB4 HE4 HH4 HA4 HH3 HE3 HB3 hks hgX HB1 HE1 HSZ1 hk1
      have HI32 : Hid ((Tryd.prog.info? 26).map (·.size) = some (bvs D).length) := by show _ = _; rw [bvs_length, HDL.out]; kernel_rfl
      have hq : ∀ w' : World, (Op.equalIn 10000 26 (.agg (bvs D).toArray) (.agg (bvs D).toArray)).run Tryd.prog w' = .ok true w' := by
        intro w'
        have := run_equalIn_bytes (P := Tryd.prog) w' 9998 26 5 32 rfl rfl (fun _ => rfl) D D HDL.out HDL.out
        rw [beq_self_eq_true] at this
        exact this
      obtain ⟨D2, hD2⟩ : ∃ D2, D2 = digest (l ++ [c]) := ⟨_, rfl⟩
      have HD2 : Hid (D2 = digest (l ++ [c])) := hD2
      have HD : Hid (D = digest l) := HDD.out
      have hp : ∀ w' : World, (Op.equalIn 10000 26 (.agg (bvs D2).toArray) (.agg (bvs D2).toArray)).run Tryd.prog w' = .ok true w' := by
        intro w'
        have := run_equalIn_bytes (P := Tryd.prog) w' 9998 26 5 32 rfl rfl (fun _ => rfl) D2 D2 (by rw [hD2]; exact digest_length _) (by rw [hD2]; exact digest_length _)
        rw [beq_self_eq_true] at this
        exact this
      have HT2 : Hid (total [l, [c]] ≤ 100000000000000) := by have := HLE.out; show total [l, [c]] ≤ _; simp only [total, List.flatten_cons, List.flatten_nil, List.append_nil, List.length_append, List.length_singleton]; omega
      have HT3 : Hid (l.length + ([c] : List UInt8).length ≤ 140737488355328) := by have := HLE.out; show _ ≤ _; simp only [List.length_singleton]; omega
      have HT4 : Hid ((l ++ [c]).length ≤ 1000000) := by have := HLE.out; show _ ≤ _; simp only [List.length_append, List.length_singleton]; omega
      have HT5 : Hid (total [[], l, []] ≤ 100000000000000) := by have := HLE.out; show total [[], l, []] ≤ _; simp only [total, List.flatten_cons, List.flatten_nil, List.append_nil, List.nil_append]; omega
      clear hD2
      have HQ2 : Hid (∀ w' : World, Kl w X g off cp l D w' → Calls Tryd.prog 11 #[.slice (some ⟨g, off, none⟩) l.length cp] w' fun e w'' => ∃ v, e = .returned v ∧ (v = .agg (bvs D).toArray ∧ Kl w X g off cp l D w'')) := by
        intro w' hk
        exact (rsum_any hk.2.1.rd (Nat.le_trans HLE.out (by omega))).mono fun e w'' ⟨h1, h2⟩ => ⟨_, h1, by rw [HDD.out], hk.later h2⟩
      refine wp_region_noPanic ?_
      refine wp_region_held_drew (S := Kl w X g off cp l D) (by kernel_rfl) (HKS.out.later (Below.refl _ _).drew) (fun hHeld => ?_)
      clear HKS
      simp only [Act.put]
      refine takew_arr (i := 0) (o := ⟨some 27, _, _, _, _, _⟩) rfl (by kernel_rfl) (by kernel_rfl) (by kernel_rfl) (fun _ _ _ h => h) (by rfl) (cs := bvs D) rfl ⟨rfl, rfl⟩ (fun _ h => h.1.range) Tryd.underlying26 rfl HI32.out hHeld ?_
      try simp only [Act.put, List.setIfInBounds_toArray, List.set_cons_zero, List.set_cons_succ]
      refine wpAnyH_take (i := 1) (oi := ⟨some 28, _, _, _, _, _⟩) (v := .slice (some ⟨g, off, none⟩) l.length cp) rfl (by kernel_rfl) (by kernel_rfl) (by kernel_rfl) (fun _ _ _ h => h) (.inl ⟨by rfl, fun w' _ => ?_⟩) hHeld ?_
      focus (have hq' := hq w'; have hp' := hp w'; clear hq hp; go_simp)
      try simp only [Act.put, List.setIfInBounds_toArray, List.set_cons_zero, List.set_cons_succ]
      refine wpAnyH_ready (rs := [2]) (by kernel_rfl) (by simp) ?_
      refine AllReadyH.cons (o := ⟨some 29, _, _, _, _, _⟩) rfl (fun K hK => ?_) AllReadyH.nil
      refine stepw_call (by rfl) ?_ (HQ2.out _ hHeld) ?_
      focus go_simp
      rintro v wn ⟨rfl, hkn⟩
      refine hK.out _ _ hkn (fun _ => ?_)
      clear hK K hHeld
      have hHeld := hkn
      clear hkn
      try simp only [Act.put, List.setIfInBounds_toArray, List.set_cons_zero, List.set_cons_succ]
      refine wpAnyH_take (i := 3) (oi := ⟨some 30, _, _, _, _, _⟩) (v := .bool true) rfl (by kernel_rfl) (by kernel_rfl) (by kernel_rfl) (fun _ _ _ h => h) (.inl ⟨by rfl, fun w' _ => ?_⟩) hHeld ?_
      focus (have hq' := hq w'; have hp' := hp w'; clear hq hp; go_simp)
      try simp only [Act.put, List.setIfInBounds_toArray, List.set_cons_zero, List.set_cons_succ]
      refine wpAnyH_take (i := 4) (oi := ⟨some 31, _, _, _, _, _⟩) (v := .bool true) rfl (by kernel_rfl) (by kernel_rfl) (by kernel_rfl) (fun _ _ _ h => h) (.inl ⟨by rfl, fun w' _ => ?_⟩) hHeld ?_
      focus (have hq' := hq w'; have hp' := hp w'; clear hq hp; go_simp)
      try simp only [Act.put, List.setIfInBounds_toArray, List.set_cons_zero, List.set_cons_succ]
      refine wpAnyH_take (i := 5) (oi := ⟨some 32, _, _, _, _, _⟩) (v := .slice (some ⟨g, off, none⟩) l.length cp) rfl (by kernel_rfl) (by kernel_rfl) (by kernel_rfl) (fun _ _ _ h => h) (.inl ⟨by rfl, fun w' _ => ?_⟩) hHeld ?_
      focus (have hq' := hq w'; have hp' := hp w'; clear hq hp; go_simp)
      try simp only [Act.put, List.setIfInBounds_toArray, List.set_cons_zero, List.set_cons_succ]
      refine wpAnyH_take (i := 6) (oi := ⟨some 33, _, _, _, _, _⟩) (v := .int .u8 c.toNat) rfl (by kernel_rfl) (by kernel_rfl) (by kernel_rfl) (fun _ _ _ h => h) (.inl ⟨by rfl, fun w' _ => ?_⟩) hHeld ?_
      focus (have hq' := hq w'; have hp' := hp w'; clear hq hp; go_simp)
      try simp only [Act.put, List.setIfInBounds_toArray, List.set_cons_zero, List.set_cons_succ]
      refine wpAnyH_take (i := 10) (oi := ⟨some 37, _, _, _, _, _⟩) (v := .slice (some ⟨g, off, none⟩) l.length cp) rfl (by kernel_rfl) (by kernel_rfl) (by kernel_rfl) (fun _ _ _ h => h) (.inl ⟨by rfl, fun w' _ => ?_⟩) hHeld ?_
      focus (have hq' := hq w'; have hp' := hp w'; clear hq hp; go_simp)
      try simp only [Act.put, List.setIfInBounds_toArray, List.set_cons_zero, List.set_cons_succ]
      refine wpAnyH_take (i := 11) (oi := ⟨some 38, _, _, _, _, _⟩) (v := .int .u8 c.toNat) rfl (by kernel_rfl) (by kernel_rfl) (by kernel_rfl) (fun _ _ _ h => h) (.inl ⟨by rfl, fun w' _ => ?_⟩) hHeld ?_
      focus (have hq' := hq w'; have hp' := hp w'; clear hq hp; go_simp)
      try simp only [Act.put, List.setIfInBounds_toArray, List.set_cons_zero, List.set_cons_succ]
      refine wpAnyH_ready (rs := [7, 12]) (by kernel_rfl) (by simp) ?_
      refine AllReadyH.cons (o := ⟨some 34, _, _, _, _, _⟩) rfl (fun K hK => ?_) (AllReadyH.cons (o := ⟨some 39, _, _, _, _, _⟩) rfl (fun K hK => ?_) AllReadyH.nil)
      · go_simp
        have hb : Below wn.heap.size wn (wn.alloc (.cells #[.int .u8 c.toNat] 5)) := (Below.refl _ _).alloc (Nat.le_refl _) _
        have hkn := hHeld.later hb
        have R34 : Rd (wn.alloc (.cells #[.int .u8 c.toNat] 5)).heap.size (wn.alloc (.cells #[.int .u8 c.toNat] 5)) (.slice (some ⟨wn.heap.size, 0, none⟩) 1 1) [c] := (rd_lit wn [c] #[.int .u8 c.toNat] rfl 1 rfl (by simp [maxLen])).mono (by simp)
        clear hb
        generalize wn.alloc (.cells #[.int .u8 c.toNat] 5) = wa at hkn R34 ⊢
        obtain ⟨G34, hG34⟩ : ∃ x, x = wn.heap.size := ⟨_, rfl⟩
        rw [← hG34] at R34 ⊢
        clear hG34
        refine hK.out _ _ hkn (fun _ => ?_)
        clear hK K hHeld
        have hHeld := hkn
        clear hkn
        try simp only [Act.put, List.setIfInBounds_toArray, List.set_cons_zero, List.set_cons_succ]
        refine wpAnyH_ready (rs := [8, 12]) (by kernel_rfl) (by simp) ?_
        refine AllReadyH.cons (o := ⟨some 35, _, _, _, _, _⟩) rfl (fun K hK => ?_) (AllReadyH.cons (o := ⟨some 39, _, _, _, _, _⟩) rfl (fun K hK => ?_) AllReadyH.nil)
        · go_simp
          have hb : Below wa.heap.size wa (wa.alloc (.cells #[.slice (some ⟨g, off, none⟩) l.length cp, .slice (some ⟨G34, 0, none⟩) 1 1] 24)) := (Below.refl _ _).alloc (Nat.le_refl _) _
          have hkn := hHeld.later hb
          have P35 : RdAll (wa.alloc (.cells #[.slice (some ⟨g, off, none⟩) l.length cp, .slice (some ⟨G34, 0, none⟩) 1 1] 24)).heap.size (wa.alloc (.cells #[.slice (some ⟨g, off, none⟩) l.length cp, .slice (some ⟨G34, 0, none⟩) 1 1] 24)) (some ⟨wa.heap.size, 0, none⟩) [l, [c]] := rd_two hHeld.2.1.rd R34
          clear hb
          generalize wa.alloc (.cells #[.slice (some ⟨g, off, none⟩) l.length cp, .slice (some ⟨G34, 0, none⟩) 1 1] 24) = wb at hkn P35 ⊢
          generalize wa.heap.size = P35a at P35 ⊢
          refine hK.out _ _ hkn (fun _ => ?_)
          clear hK K hHeld
          have hHeld := hkn
          clear hkn
          try simp only [Act.put, List.setIfInBounds_toArray, List.set_cons_zero, List.set_cons_succ]
          refine wpAnyH_ready (rs := [9, 12]) (by kernel_rfl) (by simp) ?_
          refine AllReadyH.cons (o := ⟨some 36, _, _, _, _, _⟩) rfl (fun K hK => ?_) (AllReadyH.cons (o := ⟨some 39, _, _, _, _, _⟩) rfl (fun K hK => ?_) AllReadyH.nil)
          · refine stepw_call (R := fun v w'' => v = .agg (bvs D2).toArray ∧ Below _ _ w'') (by rfl) ?_ ((sum_any (cap := 2) P35 (Nat.le_refl _) (by simp) HT2.out hHeld.2.2.1).mono fun e w'' ⟨h1, h2⟩ => ⟨_, h1, by rw [HD2.out]; try simp, h2⟩) ?_
            focus go_simp
            rintro v wc ⟨rfl, hb⟩
            have hkn := hHeld.later hb
            clear hb
            refine hK.out _ _ hkn (fun _ => ?_)
            clear hK K hHeld
            have hHeld := hkn
            clear hkn
            try simp only [Act.put, List.setIfInBounds_toArray, List.set_cons_zero, List.set_cons_succ]
            refine wpAnyH_ready (rs := [12]) (by kernel_rfl) (by simp) ?_
            refine AllReadyH.cons (o := ⟨some 39, _, _, _, _, _⟩) rfl (fun K hK => ?_) AllReadyH.nil
            go_simp
            have hb : Below wc.heap.size wc (wc.alloc (.cells #[.int .u8 c.toNat] 5)) := (Below.refl _ _).alloc (Nat.le_refl _) _
            have hkn := hHeld.later hb
            have R39 : Rd (wc.alloc (.cells #[.int .u8 c.toNat] 5)).heap.size (wc.alloc (.cells #[.int .u8 c.toNat] 5)) (.slice (some ⟨wc.heap.size, 0, none⟩) 1 1) [c] := (rd_lit wc [c] #[.int .u8 c.toNat] rfl 1 rfl (by simp [maxLen])).mono (by simp)
            clear hb
            generalize wc.alloc (.cells #[.int .u8 c.toNat] 5) = wd at hkn R39 ⊢
            obtain ⟨G39, hG39⟩ : ∃ x, x = wc.heap.size := ⟨_, rfl⟩
            rw [← hG39] at R39 ⊢
            clear hG39
            refine hK.out _ _ hkn (fun _ => ?_)
            clear hK K hHeld
            have hHeld := hkn
            clear hkn
            try simp only [Act.put, List.setIfInBounds_toArray, List.set_cons_zero, List.set_cons_succ]
            refine wpAnyH_ready (rs := [13]) (by kernel_rfl) (by simp) ?_
            refine AllReadyH.cons (o := ⟨some 40, _, _, _, _, _⟩) rfl (fun K hK => ?_) AllReadyH.nil
            refine stepw_held2 (by rfl) (.tmp 37) (.tmp 39) rfl rfl hHeld.2.1 rfl R39 HT3.out hHeld.2.2.2.size ?_
            intro V40 wp h40 hb40 bb harr
            have hkn : Kl w X g off cp l D wp := ⟨harr _ _ _ HGX.out hHeld.1, hb40, HE.out.below (hHeld.2.2.2.trans bb), hHeld.2.2.2.trans bb⟩
            clear hb40 bb harr R39
            refine hK.out _ _ hkn (fun _ => ?_)
            clear hK K hHeld
            have hHeld := hkn
            clear hkn
            try simp only [Act.put, List.setIfInBounds_toArray, List.set_cons_zero, List.set_cons_succ]
            refine wpAnyH_ready (rs := [14]) (by kernel_rfl) (by simp) ?_
            refine AllReadyH.cons (o := ⟨some 41, _, _, _, _, _⟩) rfl (fun K hK => ?_) AllReadyH.nil
            refine stepw_call (R := fun v w'' => v = .agg (bvs D2).toArray ∧ Below _ _ w'') (by rfl) ?_ ((rsum_any h40.rd HT4.out).mono fun e w'' ⟨h1, h2⟩ => ⟨_, h1, by rw [HD2.out]; try simp, h2⟩) ?_
            focus go_simp
            rintro v wq ⟨rfl, hb⟩
            have hkn := hHeld.later hb
            clear hb
            refine hK.out _ _ hkn (fun _ => ?_)
            clear hK K hHeld
            have hHeld := hkn
            clear hkn
            try simp only [Act.put, List.setIfInBounds_toArray, List.set_cons_zero, List.set_cons_succ]
            refine wpAnyH_take (i := 15) (oi := ⟨some 42, _, _, _, _, _⟩) (v := .bool true) rfl (by kernel_rfl) (by kernel_rfl) (by kernel_rfl) (fun _ _ _ h => h) (.inl ⟨by rfl, fun w' _ => ?_⟩) hHeld ?_
            focus (have hq' := hq w'; have hp' := hp w'; clear hq hp; go_simp)
            try simp only [Act.put, List.setIfInBounds_toArray, List.set_cons_zero, List.set_cons_succ]
            refine wpAnyH_take (i := 16) (oi := ⟨some 43, _, _, _, _, _⟩) (v := .bool true) rfl (by kernel_rfl) (by kernel_rfl) (by kernel_rfl) (fun _ _ _ h => h) (.inl ⟨by rfl, fun w' _ => ?_⟩) hHeld ?_
            focus (have hq' := hq w'; have hp' := hp w'; clear hq hp; go_simp)
            try simp only [Act.put, List.setIfInBounds_toArray, List.set_cons_zero, List.set_cons_succ]
            refine wpAnyH_take (i := 17) (oi := ⟨some 44, _, _, _, _, _⟩) (v := .bool true) rfl (by kernel_rfl) (by kernel_rfl) (by kernel_rfl) (fun _ _ _ h => h) (.inl ⟨by rfl, fun w' _ => ?_⟩) hHeld ?_
            focus (have hq' := hq w'; have hp' := hp w'; clear hq hp; go_simp)
            try simp only [Act.put, List.setIfInBounds_toArray, List.set_cons_zero, List.set_cons_succ]
            refine wpAnyH_take (i := 18) (oi := ⟨some 45, _, _, _, _, _⟩) (v := .slice (some ⟨g, off, none⟩) l.length cp) rfl (by kernel_rfl) (by kernel_rfl) (by kernel_rfl) (fun _ _ _ h => h) (.inl ⟨by rfl, fun w' _ => ?_⟩) hHeld ?_
            focus (have hq' := hq w'; have hp' := hp w'; clear hq hp; go_simp)
            try simp only [Act.put, List.setIfInBounds_toArray, List.set_cons_zero, List.set_cons_succ]
            refine takew_arr (i := 21) (o := ⟨some 48, _, _, _, _, _⟩) rfl (by kernel_rfl) (by kernel_rfl) (by kernel_rfl) (fun _ _ _ h => h) (by rfl) (cs := bvs D) rfl ⟨rfl, rfl⟩ (fun _ h => h.1.range) Tryd.underlying26 rfl HI32.out hHeld ?_
            try simp only [Act.put, List.setIfInBounds_toArray, List.set_cons_zero, List.set_cons_succ]
            refine wpAnyH_ready (rs := [19]) (by kernel_rfl) (by simp) ?_
            refine AllReadyH.cons (o := ⟨some 46, _, _, _, _, _⟩) rfl (fun K hK => ?_) AllReadyH.nil
            go_simp
            have hb : Below wq.heap.size wq (wq.alloc (.cells #[.slice none 0 0, .slice (some ⟨g, off, none⟩) l.length cp, .slice none 0 0] 24)) := (Below.refl _ _).alloc (Nat.le_refl _) _
            have hkn := hHeld.later hb
            have P46 : RdAll (wq.alloc (.cells #[.slice none 0 0, .slice (some ⟨g, off, none⟩) l.length cp, .slice none 0 0] 24)).heap.size (wq.alloc (.cells #[.slice none 0 0, .slice (some ⟨g, off, none⟩) l.length cp, .slice none 0 0] 24)) (some ⟨wq.heap.size, 0, none⟩) [[], l, []] := rd_three (.inl ⟨none, rfl, rfl⟩) hHeld.2.1.rd (.inl ⟨none, rfl, rfl⟩)
            clear hb
            generalize wq.alloc (.cells #[.slice none 0 0, .slice (some ⟨g, off, none⟩) l.length cp, .slice none 0 0] 24) = wr2 at hkn P46 ⊢
            generalize wq.heap.size = P46a at P46 ⊢
            refine hK.out _ _ hkn (fun _ => ?_)
            clear hK K hHeld
            have hHeld := hkn
            clear hkn
            try simp only [Act.put, List.setIfInBounds_toArray, List.set_cons_zero, List.set_cons_succ]
            refine wpAnyH_ready (rs := [20]) (by kernel_rfl) (by simp) ?_
            refine AllReadyH.cons (o := ⟨some 47, _, _, _, _, _⟩) rfl (fun K hK => ?_) AllReadyH.nil
            refine stepw_call (R := fun v w'' => v = .agg (bvs D).toArray ∧ Below _ _ w'') (by rfl) ?_ ((sum_any (cap := 3) P46 (Nat.le_refl _) (by simp) HT5.out hHeld.2.2.1).mono fun e w'' ⟨h1, h2⟩ => ⟨_, h1, by rw [HD.out]; try simp, h2⟩) ?_
            focus go_simp
            rintro v ws ⟨rfl, hb⟩
            have hkn := hHeld.later hb
            clear hb
            refine hK.out _ _ hkn (fun _ => ?_)
            clear hK K hHeld
            have hHeld := hkn
            clear hkn
            try simp only [Act.put, List.setIfInBounds_toArray, List.set_cons_zero, List.set_cons_succ]
            refine wpAnyH_take (i := 22) (oi := ⟨some 49, _, _, _, _, _⟩) (v := .bool true) rfl (by kernel_rfl) (by kernel_rfl) (by kernel_rfl) (fun _ _ _ h => h) (.inl ⟨by rfl, fun w' _ => ?_⟩) hHeld ?_
            focus (have hq' := hq w'; have hp' := hp w'; clear hq hp; go_simp)
            try simp only [Act.put, List.setIfInBounds_toArray, List.set_cons_zero, List.set_cons_succ]
            refine wpAnyH_take (i := 23) (oi := ⟨some 50, _, _, _, _, _⟩) (v := .bool true) rfl (by kernel_rfl) (by kernel_rfl) (by kernel_rfl) (fun _ _ _ h => h) (.inl ⟨by rfl, fun w' _ => ?_⟩) hHeld ?_
            focus (have hq' := hq w'; have hp' := hp w'; clear hq hp; go_simp)
            try simp only [Act.put, List.setIfInBounds_toArray, List.set_cons_zero, List.set_cons_succ]
            refine wpAnyH_take (i := 24) (oi := ⟨some 4, _, _, _, _, _⟩) (v := .bool true) rfl (by kernel_rfl) (by kernel_rfl) (by kernel_rfl) (fun _ _ _ h => h) (.inl ⟨by rfl, fun w' _ => ?_⟩) hHeld ?_
            focus (have hq' := hq w'; have hp' := hp w'; clear hq hp; go_simp)
            try simp only [Act.put, List.setIfInBounds_toArray, List.set_cons_zero, List.set_cons_succ]
            refine wpAnyH_done (by kernel_rfl) ?_ _
            refine NoPanic.normal ?_
            have HBZ := Lib.hid hHeld.2.2.2
            clear hHeld hq hp
            go_wp2_with fail
            go_ret
            exact ⟨rfl, HBZ.out⟩
          · go_simp
            have hb : Below wb.heap.size wb (wb.alloc (.cells #[.int .u8 c.toNat] 5)) := (Below.refl _ _).alloc (Nat.le_refl _) _
            have hkn := hHeld.later hb
            have P35' := (P35.below hb (Nat.le_refl _)).mono hb.size
            have R39 : Rd (wb.alloc (.cells #[.int .u8 c.toNat] 5)).heap.size (wb.alloc (.cells #[.int .u8 c.toNat] 5)) (.slice (some ⟨wb.heap.size, 0, none⟩) 1 1) [c] := (rd_lit wb [c] #[.int .u8 c.toNat] rfl 1 rfl (by simp [maxLen])).mono (by simp)
            clear hb
            clear P35
            have P35 := P35'
            clear P35'
            generalize wb.alloc (.cells #[.int .u8 c.toNat] 5) = wc at hkn R39 P35 ⊢
            obtain ⟨G39, hG39⟩ : ∃ x, x = wb.heap.size := ⟨_, rfl⟩
            rw [← hG39] at R39 ⊢
            clear hG39
            refine hK.out _ _ hkn (fun _ => ?_)
            clear hK K hHeld
            have hHeld := hkn
            clear hkn
            try simp only [Act.put, List.setIfInBounds_toArray, List.set_cons_zero, List.set_cons_succ]
            refine wpAnyH_ready (rs := [9]) (by kernel_rfl) (by simp) ?_
            refine AllReadyH.cons (o := ⟨some 36, _, _, _, _, _⟩) rfl (fun K hK => ?_) AllReadyH.nil
            refine stepw_call (R := fun v w'' => v = .agg (bvs D2).toArray ∧ Below _ _ w'') (by rfl) ?_ ((sum_any (cap := 2) P35 (Nat.le_refl _) (by simp) HT2.out hHeld.2.2.1).mono fun e w'' ⟨h1, h2⟩ => ⟨_, h1, by rw [HD2.out]; try simp, h2⟩) ?_
            focus go_simp
            rintro v wd ⟨rfl, hb⟩
            have hkn := hHeld.later hb
            have R39' := (R39.below hb (Nat.le_refl _)).mono hb.size
            clear hb
            clear R39
            have R39 := R39'
            clear R39'
            refine hK.out _ _ hkn (fun _ => ?_)
            clear hK K hHeld
            have hHeld := hkn
            clear hkn
            try simp only [Act.put, List.setIfInBounds_toArray, List.set_cons_zero, List.set_cons_succ]
            refine wpAnyH_ready (rs := [13]) (by kernel_rfl) (by simp) ?_
            refine AllReadyH.cons (o := ⟨some 40, _, _, _, _, _⟩) rfl (fun K hK => ?_) AllReadyH.nil
            refine stepw_held2 (by rfl) (.tmp 37) (.tmp 39) rfl rfl hHeld.2.1 rfl R39 HT3.out hHeld.2.2.2.size ?_
            intro V40 wp h40 hb40 bb harr
            have hkn : Kl w X g off cp l D wp := ⟨harr _ _ _ HGX.out hHeld.1, hb40, HE.out.below (hHeld.2.2.2.trans bb), hHeld.2.2.2.trans bb⟩
            clear hb40 bb harr R39
            refine hK.out _ _ hkn (fun _ => ?_)
            clear hK K hHeld
            have hHeld := hkn
            clear hkn
            try simp only [Act.put, List.setIfInBounds_toArray, List.set_cons_zero, List.set_cons_succ]
            refine wpAnyH_ready (rs := [14]) (by kernel_rfl) (by simp) ?_
            refine AllReadyH.cons (o := ⟨some 41, _, _, _, _, _⟩) rfl (fun K hK => ?_) AllReadyH.nil
            refine stepw_call (R := fun v w'' => v = .agg (bvs D2).toArray ∧ Below _ _ w'') (by rfl) ?_ ((rsum_any h40.rd HT4.out).mono fun e w'' ⟨h1, h2⟩ => ⟨_, h1, by rw [HD2.out]; try simp, h2⟩) ?_
            focus go_simp
            rintro v wq ⟨rfl, hb⟩
            have hkn := hHeld.later hb
            clear hb
            refine hK.out _ _ hkn (fun _ => ?_)
            clear hK K hHeld
            have hHeld := hkn
            clear hkn
            try simp only [Act.put, List.setIfInBounds_toArray, List.set_cons_zero, List.set_cons_succ]
            refine wpAnyH_take (i := 15) (oi := ⟨some 42, _, _, _, _, _⟩) (v := .bool true) rfl (by kernel_rfl) (by kernel_rfl) (by kernel_rfl) (fun _ _ _ h => h) (.inl ⟨by rfl, fun w' _ => ?_⟩) hHeld ?_
            focus (have hq' := hq w'; have hp' := hp w'; clear hq hp; go_simp)
            try simp only [Act.put, List.setIfInBounds_toArray, List.set_cons_zero, List.set_cons_succ]
            refine wpAnyH_take (i := 16) (oi := ⟨some 43, _, _, _, _, _⟩) (v := .bool true) rfl (by kernel_rfl) (by kernel_rfl) (by kernel_rfl) (fun _ _ _ h => h) (.inl ⟨by rfl, fun w' _ => ?_⟩) hHeld ?_
            focus (have hq' := hq w'; have hp' := hp w'; clear hq hp; go_simp)
            try simp only [Act.put, List.setIfInBounds_toArray, List.set_cons_zero, List.set_cons_succ]
            refine wpAnyH_take (i := 17) (oi := ⟨some 44, _, _, _, _, _⟩) (v := .bool true) rfl (by kernel_rfl) (by kernel_rfl) (by kernel_rfl) (fun _ _ _ h => h) (.inl ⟨by rfl, fun w' _ => ?_⟩) hHeld ?_
            focus (have hq' := hq w'; have hp' := hp w'; clear hq hp; go_simp)
            try simp only [Act.put, List.setIfInBounds_toArray, List.set_cons_zero, List.set_cons_succ]
            refine wpAnyH_take (i := 18) (oi := ⟨some 45, _, _, _, _, _⟩) (v := .slice (some ⟨g, off, none⟩) l.length cp) rfl (by kernel_rfl) (by kernel_rfl) (by kernel_rfl) (fun _ _ _ h => h) (.inl ⟨by rfl, fun w' _ => ?_⟩) hHeld ?_
            focus (have hq' := hq w'; have hp' := hp w'; clear hq hp; go_simp)
            try simp only [Act.put, List.setIfInBounds_toArray, List.set_cons_zero, List.set_cons_succ]
            refine takew_arr (i := 21) (o := ⟨some 48, _, _, _, _, _⟩) rfl (by kernel_rfl) (by kernel_rfl) (by kernel_rfl) (fun _ _ _ h => h) (by rfl) (cs := bvs D) rfl ⟨rfl, rfl⟩ (fun _ h => h.1.range) Tryd.underlying26 rfl HI32.out hHeld ?_
            try simp only [Act.put, List.setIfInBounds_toArray, List.set_cons_zero, List.set_cons_succ]
            refine wpAnyH_ready (rs := [19]) (by kernel_rfl) (by simp) ?_
            refine AllReadyH.cons (o := ⟨some 46, _, _, _, _, _⟩) rfl (fun K hK => ?_) AllReadyH.nil
            go_simp
            have hb : Below wq.heap.size wq (wq.alloc (.cells #[.slice none 0 0, .slice (some ⟨g, off, none⟩) l.length cp, .slice none 0 0] 24)) := (Below.refl _ _).alloc (Nat.le_refl _) _
            have hkn := hHeld.later hb
            have P46 : RdAll (wq.alloc (.cells #[.slice none 0 0, .slice (some ⟨g, off, none⟩) l.length cp, .slice none 0 0] 24)).heap.size (wq.alloc (.cells #[.slice none 0 0, .slice (some ⟨g, off, none⟩) l.length cp, .slice none 0 0] 24)) (some ⟨wq.heap.size, 0, none⟩) [[], l, []] := rd_three (.inl ⟨none, rfl, rfl⟩) hHeld.2.1.rd (.inl ⟨none, rfl, rfl⟩)
            clear hb
            generalize wq.alloc (.cells #[.slice none 0 0, .slice (some ⟨g, off, none⟩) l.length cp, .slice none 0 0] 24) = wr2 at hkn P46 ⊢
            generalize wq.heap.size = P46a at P46 ⊢
            refine hK.out _ _ hkn (fun _ => ?_)
            clear hK K hHeld
            have hHeld := hkn
            clear hkn
            try simp only [Act.put, List.setIfInBounds_toArray, List.set_cons_zero, List.set_cons_succ]
            refine wpAnyH_ready (rs := [20]) (by kernel_rfl) (by simp) ?_
            refine AllReadyH.cons (o := ⟨some 47, _, _, _, _, _⟩) rfl (fun K hK => ?_) AllReadyH.nil
            refine stepw_call (R := fun v w'' => v = .agg (bvs D).toArray ∧ Below _ _ w'') (by rfl) ?_ ((sum_any (cap := 3) P46 (Nat.le_refl _) (by simp) HT5.out hHeld.2.2.1).mono fun e w'' ⟨h1, h2⟩ => ⟨_, h1, by rw [HD.out]; try simp, h2⟩) ?_
            focus go_simp
            rintro v ws ⟨rfl, hb⟩
            have hkn := hHeld.later hb
            clear hb
            refine hK.out _ _ hkn (fun _ => ?_)
            clear hK K hHeld
            have hHeld := hkn
            clear hkn
            try simp only [Act.put, List.setIfInBounds_toArray, List.set_cons_zero, List.set_cons_succ]
            refine wpAnyH_take (i := 22) (oi := ⟨some 49, _, _, _, _, _⟩) (v := .bool true) rfl (by kernel_rfl) (by kernel_rfl) (by kernel_rfl) (fun _ _ _ h => h) (.inl ⟨by rfl, fun w' _ => ?_⟩) hHeld ?_
            focus (have hq' := hq w'; have hp' := hp w'; clear hq hp; go_simp)
            try simp only [Act.put, List.setIfInBounds_toArray, List.set_cons_zero, List.set_cons_succ]
            refine wpAnyH_take (i := 23) (oi := ⟨some 50, _, _, _, _, _⟩) (v := .bool true) rfl (by kernel_rfl) (by kernel_rfl) (by kernel_rfl) (fun _ _ _ h => h) (.inl ⟨by rfl, fun w' _ => ?_⟩) hHeld ?_
            focus (have hq' := hq w'; have hp' := hp w'; clear hq hp; go_simp)
            try simp only [Act.put, List.setIfInBounds_toArray, List.set_cons_zero, List.set_cons_succ]
            refine wpAnyH_take (i := 24) (oi := ⟨some 4, _, _, _, _, _⟩) (v := .bool true) rfl (by kernel_rfl) (by kernel_rfl) (by kernel_rfl) (fun _ _ _ h => h) (.inl ⟨by rfl, fun w' _ => ?_⟩) hHeld ?_
            focus (have hq' := hq w'; have hp' := hp w'; clear hq hp; go_simp)
            try simp only [Act.put, List.setIfInBounds_toArray, List.set_cons_zero, List.set_cons_succ]
            refine wpAnyH_done (by kernel_rfl) ?_ _
            refine NoPanic.normal ?_
            have HBZ := Lib.hid hHeld.2.2.2
            clear hHeld hq hp
            go_wp2_with fail
            go_ret
            exact ⟨rfl, HBZ.out⟩
        · go_simp
          have hb : Below wa.heap.size wa (wa.alloc (.cells #[.int .u8 c.toNat] 5)) := (Below.refl _ _).alloc (Nat.le_refl _) _
          have hkn := hHeld.later hb
          have R34' := (R34.below hb (Nat.le_refl _)).mono hb.size
          have R39 : Rd (wa.alloc (.cells #[.int .u8 c.toNat] 5)).heap.size (wa.alloc (.cells #[.int .u8 c.toNat] 5)) (.slice (some ⟨wa.heap.size, 0, none⟩) 1 1) [c] := (rd_lit wa [c] #[.int .u8 c.toNat] rfl 1 rfl (by simp [maxLen])).mono (by simp)
          clear hb
          clear R34
          have R34 := R34'
          clear R34'
          generalize wa.alloc (.cells #[.int .u8 c.toNat] 5) = wb at hkn R39 R34 ⊢
          obtain ⟨G39, hG39⟩ : ∃ x, x = wa.heap.size := ⟨_, rfl⟩
          rw [← hG39] at R39 ⊢
          clear hG39
          refine hK.out _ _ hkn (fun _ => ?_)
          clear hK K hHeld
          have hHeld := hkn
          clear hkn
          try simp only [Act.put, List.setIfInBounds_toArray, List.set_cons_zero, List.set_cons_succ]
          refine wpAnyH_ready (rs := [8]) (by kernel_rfl) (by simp) ?_
          refine AllReadyH.cons (o := ⟨some 35, _, _, _, _, _⟩) rfl (fun K hK => ?_) AllReadyH.nil
          go_simp
          have hb : Below wb.heap.size wb (wb.alloc (.cells #[.slice (some ⟨g, off, none⟩) l.length cp, .slice (some ⟨G34, 0, none⟩) 1 1] 24)) := (Below.refl _ _).alloc (Nat.le_refl _) _
          have hkn := hHeld.later hb
          have R39' := (R39.below hb (Nat.le_refl _)).mono hb.size
          have P35 : RdAll (wb.alloc (.cells #[.slice (some ⟨g, off, none⟩) l.length cp, .slice (some ⟨G34, 0, none⟩) 1 1] 24)).heap.size (wb.alloc (.cells #[.slice (some ⟨g, off, none⟩) l.length cp, .slice (some ⟨G34, 0, none⟩) 1 1] 24)) (some ⟨wb.heap.size, 0, none⟩) [l, [c]] := rd_two hHeld.2.1.rd R34
          clear hb
          clear R39
          have R39 := R39'
          clear R39'
          generalize wb.alloc (.cells #[.slice (some ⟨g, off, none⟩) l.length cp, .slice (some ⟨G34, 0, none⟩) 1 1] 24) = wc at hkn P35 R39 ⊢
          generalize wb.heap.size = P35a at P35 ⊢
          refine hK.out _ _ hkn (fun _ => ?_)
          clear hK K hHeld
          have hHeld := hkn
          clear hkn
          try simp only [Act.put, List.setIfInBounds_toArray, List.set_cons_zero, List.set_cons_succ]
          refine wpAnyH_ready (rs := [9]) (by kernel_rfl) (by simp) ?_
          refine AllReadyH.cons (o := ⟨some 36, _, _, _, _, _⟩) rfl (fun K hK => ?_) AllReadyH.nil
          refine stepw_call (R := fun v w'' => v = .agg (bvs D2).toArray ∧ Below _ _ w'') (by rfl) ?_ ((sum_any (cap := 2) P35 (Nat.le_refl _) (by simp) HT2.out hHeld.2.2.1).mono fun e w'' ⟨h1, h2⟩ => ⟨_, h1, by rw [HD2.out]; try simp, h2⟩) ?_
          focus go_simp
          rintro v wd ⟨rfl, hb⟩
          have hkn := hHeld.later hb
          have R39' := (R39.below hb (Nat.le_refl _)).mono hb.size
          clear hb
          clear R39
          have R39 := R39'
          clear R39'
          refine hK.out _ _ hkn (fun _ => ?_)
          clear hK K hHeld
          have hHeld := hkn
          clear hkn
          try simp only [Act.put, List.setIfInBounds_toArray, List.set_cons_zero, List.set_cons_succ]
          refine wpAnyH_ready (rs := [13]) (by kernel_rfl) (by simp) ?_
          refine AllReadyH.cons (o := ⟨some 40, _, _, _, _, _⟩) rfl (fun K hK => ?_) AllReadyH.nil
          refine stepw_held2 (by rfl) (.tmp 37) (.tmp 39) rfl rfl hHeld.2.1 rfl R39 HT3.out hHeld.2.2.2.size ?_
          intro V40 wp h40 hb40 bb harr
          have hkn : Kl w X g off cp l D wp := ⟨harr _ _ _ HGX.out hHeld.1, hb40, HE.out.below (hHeld.2.2.2.trans bb), hHeld.2.2.2.trans bb⟩
          clear hb40 bb harr R39
          refine hK.out _ _ hkn (fun _ => ?_)
          clear hK K hHeld
          have hHeld := hkn
          clear hkn
          try simp only [Act.put, List.setIfInBounds_toArray, List.set_cons_zero, List.set_cons_succ]
          refine wpAnyH_ready (rs := [14]) (by kernel_rfl) (by simp) ?_
          refine AllReadyH.cons (o := ⟨some 41, _, _, _, _, _⟩) rfl (fun K hK => ?_) AllReadyH.nil
          refine stepw_call (R := fun v w'' => v = .agg (bvs D2).toArray ∧ Below _ _ w'') (by rfl) ?_ ((rsum_any h40.rd HT4.out).mono fun e w'' ⟨h1, h2⟩ => ⟨_, h1, by rw [HD2.out]; try simp, h2⟩) ?_
          focus go_simp
          rintro v wq ⟨rfl, hb⟩
          have hkn := hHeld.later hb
          clear hb
          refine hK.out _ _ hkn (fun _ => ?_)
          clear hK K hHeld
          have hHeld := hkn
          clear hkn
          try simp only [Act.put, List.setIfInBounds_toArray, List.set_cons_zero, List.set_cons_succ]
          refine wpAnyH_take (i := 15) (oi := ⟨some 42, _, _, _, _, _⟩) (v := .bool true) rfl (by kernel_rfl) (by kernel_rfl) (by kernel_rfl) (fun _ _ _ h => h) (.inl ⟨by rfl, fun w' _ => ?_⟩) hHeld ?_
          focus (have hq' := hq w'; have hp' := hp w'; clear hq hp; go_simp)
          try simp only [Act.put, List.setIfInBounds_toArray, List.set_cons_zero, List.set_cons_succ]
          refine wpAnyH_take (i := 16) (oi := ⟨some 43, _, _, _, _, _⟩) (v := .bool true) rfl (by kernel_rfl) (by kernel_rfl) (by kernel_rfl) (fun _ _ _ h => h) (.inl ⟨by rfl, fun w' _ => ?_⟩) hHeld ?_
          focus (have hq' := hq w'; have hp' := hp w'; clear hq hp; go_simp)
          try simp only [Act.put, List.setIfInBounds_toArray, List.set_cons_zero, List.set_cons_succ]
          refine wpAnyH_take (i := 17) (oi := ⟨some 44, _, _, _, _, _⟩) (v := .bool true) rfl (by kernel_rfl) (by kernel_rfl) (by kernel_rfl) (fun _ _ _ h => h) (.inl ⟨by rfl, fun w' _ => ?_⟩) hHeld ?_
          focus (have hq' := hq w'; have hp' := hp w'; clear hq hp; go_simp)
          try simp only [Act.put, List.setIfInBounds_toArray, List.set_cons_zero, List.set_cons_succ]
          refine wpAnyH_take (i := 18) (oi := ⟨some 45, _, _, _, _, _⟩) (v := .slice (some ⟨g, off, none⟩) l.length cp) rfl (by kernel_rfl) (by kernel_rfl) (by kernel_rfl) (fun _ _ _ h => h) (.inl ⟨by rfl, fun w' _ => ?_⟩) hHeld ?_
          focus (have hq' := hq w'; have hp' := hp w'; clear hq hp; go_simp)
          try simp only [Act.put, List.setIfInBounds_toArray, List.set_cons_zero, List.set_cons_succ]
          refine takew_arr (i := 21) (o := ⟨some 48, _, _, _, _, _⟩) rfl (by kernel_rfl) (by kernel_rfl) (by kernel_rfl) (fun _ _ _ h => h) (by rfl) (cs := bvs D) rfl ⟨rfl, rfl⟩ (fun _ h => h.1.range) Tryd.underlying26 rfl HI32.out hHeld ?_
          try simp only [Act.put, List.setIfInBounds_toArray, List.set_cons_zero, List.set_cons_succ]
          refine wpAnyH_ready (rs := [19]) (by kernel_rfl) (by simp) ?_
          refine AllReadyH.cons (o := ⟨some 46, _, _, _, _, _⟩) rfl (fun K hK => ?_) AllReadyH.nil
          go_simp
          have hb : Below wq.heap.size wq (wq.alloc (.cells #[.slice none 0 0, .slice (some ⟨g, off, none⟩) l.length cp, .slice none 0 0] 24)) := (Below.refl _ _).alloc (Nat.le_refl _) _
          have hkn := hHeld.later hb
          have P46 : RdAll (wq.alloc (.cells #[.slice none 0 0, .slice (some ⟨g, off, none⟩) l.length cp, .slice none 0 0] 24)).heap.size (wq.alloc (.cells #[.slice none 0 0, .slice (some ⟨g, off, none⟩) l.length cp, .slice none 0 0] 24)) (some ⟨wq.heap.size, 0, none⟩) [[], l, []] := rd_three (.inl ⟨none, rfl, rfl⟩) hHeld.2.1.rd (.inl ⟨none, rfl, rfl⟩)
          clear hb
          generalize wq.alloc (.cells #[.slice none 0 0, .slice (some ⟨g, off, none⟩) l.length cp, .slice none 0 0] 24) = wr2 at hkn P46 ⊢
          generalize wq.heap.size = P46a at P46 ⊢
          refine hK.out _ _ hkn (fun _ => ?_)
          clear hK K hHeld
          have hHeld := hkn
          clear hkn
          try simp only [Act.put, List.setIfInBounds_toArray, List.set_cons_zero, List.set_cons_succ]
          refine wpAnyH_ready (rs := [20]) (by kernel_rfl) (by simp) ?_
          refine AllReadyH.cons (o := ⟨some 47, _, _, _, _, _⟩) rfl (fun K hK => ?_) AllReadyH.nil
          refine stepw_call (R := fun v w'' => v = .agg (bvs D).toArray ∧ Below _ _ w'') (by rfl) ?_ ((sum_any (cap := 3) P46 (Nat.le_refl _) (by simp) HT5.out hHeld.2.2.1).mono fun e w'' ⟨h1, h2⟩ => ⟨_, h1, by rw [HD.out]; try simp, h2⟩) ?_
          focus go_simp
          rintro v ws ⟨rfl, hb⟩
          have hkn := hHeld.later hb
          clear hb
          refine hK.out _ _ hkn (fun _ => ?_)
          clear hK K hHeld
          have hHeld := hkn
          clear hkn
          try simp only [Act.put, List.setIfInBounds_toArray, List.set_cons_zero, List.set_cons_succ]
          refine wpAnyH_take (i := 22) (oi := ⟨some 49, _, _, _, _, _⟩) (v := .bool true) rfl (by kernel_rfl) (by kernel_rfl) (by kernel_rfl) (fun _ _ _ h => h) (.inl ⟨by rfl, fun w' _ => ?_⟩) hHeld ?_
          focus (have hq' := hq w'; have hp' := hp w'; clear hq hp; go_simp)
          try simp only [Act.put, List.setIfInBounds_toArray, List.set_cons_zero, List.set_cons_succ]
          refine wpAnyH_take (i := 23) (oi := ⟨some 50, _, _, _, _, _⟩) (v := .bool true) rfl (by kernel_rfl) (by kernel_rfl) (by kernel_rfl) (fun _ _ _ h => h) (.inl ⟨by rfl, fun w' _ => ?_⟩) hHeld ?_
          focus (have hq' := hq w'; have hp' := hp w'; clear hq hp; go_simp)
          try simp only [Act.put, List.setIfInBounds_toArray, List.set_cons_zero, List.set_cons_succ]
          refine wpAnyH_take (i := 24) (oi := ⟨some 4, _, _, _, _, _⟩) (v := .bool true) rfl (by kernel_rfl) (by kernel_rfl) (by kernel_rfl) (fun _ _ _ h => h) (.inl ⟨by rfl, fun w' _ => ?_⟩) hHeld ?_
          focus (have hq' := hq w'; have hp' := hp w'; clear hq hp; go_simp)
          try simp only [Act.put, List.setIfInBounds_toArray, List.set_cons_zero, List.set_cons_succ]
          refine wpAnyH_done (by kernel_rfl) ?_ _
          refine NoPanic.normal ?_
          have HBZ := Lib.hid hHeld.2.2.2
          clear hHeld hq hp
          go_wp2_with fail
          go_ret
          exact ⟨rfl, HBZ.out⟩
      · go_simp
        have hb : Below wn.heap.size wn (wn.alloc (.cells #[.int .u8 c.toNat] 5)) := (Below.refl _ _).alloc (Nat.le_refl _) _
        have hkn := hHeld.later hb
        have R39 : Rd (wn.alloc (.cells #[.int .u8 c.toNat] 5)).heap.size (wn.alloc (.cells #[.int .u8 c.toNat] 5)) (.slice (some ⟨wn.heap.size, 0, none⟩) 1 1) [c] := (rd_lit wn [c] #[.int .u8 c.toNat] rfl 1 rfl (by simp [maxLen])).mono (by simp)
        clear hb
        generalize wn.alloc (.cells #[.int .u8 c.toNat] 5) = wa at hkn R39 ⊢
        obtain ⟨G39, hG39⟩ : ∃ x, x = wn.heap.size := ⟨_, rfl⟩
        rw [← hG39] at R39 ⊢
        clear hG39
        refine hK.out _ _ hkn (fun _ => ?_)
        clear hK K hHeld
        have hHeld := hkn
        clear hkn
        try simp only [Act.put, List.setIfInBounds_toArray, List.set_cons_zero, List.set_cons_succ]
        refine wpAnyH_ready (rs := [7]) (by kernel_rfl) (by simp) ?_
        refine AllReadyH.cons (o := ⟨some 34, _, _, _, _, _⟩) rfl (fun K hK => ?_) AllReadyH.nil
        go_simp
        have hb : Below wa.heap.size wa (wa.alloc (.cells #[.int .u8 c.toNat] 5)) := (Below.refl _ _).alloc (Nat.le_refl _) _
        have hkn := hHeld.later hb
        have R39' := (R39.below hb (Nat.le_refl _)).mono hb.size
        have R34 : Rd (wa.alloc (.cells #[.int .u8 c.toNat] 5)).heap.size (wa.alloc (.cells #[.int .u8 c.toNat] 5)) (.slice (some ⟨wa.heap.size, 0, none⟩) 1 1) [c] := (rd_lit wa [c] #[.int .u8 c.toNat] rfl 1 rfl (by simp [maxLen])).mono (by simp)
        clear hb
        clear R39
        have R39 := R39'
        clear R39'
        generalize wa.alloc (.cells #[.int .u8 c.toNat] 5) = wb at hkn R34 R39 ⊢
        obtain ⟨G34, hG34⟩ : ∃ x, x = wa.heap.size := ⟨_, rfl⟩
        rw [← hG34] at R34 ⊢
        clear hG34
        refine hK.out _ _ hkn (fun _ => ?_)
        clear hK K hHeld
        have hHeld := hkn
        clear hkn
        try simp only [Act.put, List.setIfInBounds_toArray, List.set_cons_zero, List.set_cons_succ]
        refine wpAnyH_ready (rs := [8]) (by kernel_rfl) (by simp) ?_
        refine AllReadyH.cons (o := ⟨some 35, _, _, _, _, _⟩) rfl (fun K hK => ?_) AllReadyH.nil
        go_simp
        have hb : Below wb.heap.size wb (wb.alloc (.cells #[.slice (some ⟨g, off, none⟩) l.length cp, .slice (some ⟨G34, 0, none⟩) 1 1] 24)) := (Below.refl _ _).alloc (Nat.le_refl _) _
        have hkn := hHeld.later hb
        have R39' := (R39.below hb (Nat.le_refl _)).mono hb.size
        have P35 : RdAll (wb.alloc (.cells #[.slice (some ⟨g, off, none⟩) l.length cp, .slice (some ⟨G34, 0, none⟩) 1 1] 24)).heap.size (wb.alloc (.cells #[.slice (some ⟨g, off, none⟩) l.length cp, .slice (some ⟨G34, 0, none⟩) 1 1] 24)) (some ⟨wb.heap.size, 0, none⟩) [l, [c]] := rd_two hHeld.2.1.rd R34
        clear hb
        clear R39
        have R39 := R39'
        clear R39'
        generalize wb.alloc (.cells #[.slice (some ⟨g, off, none⟩) l.length cp, .slice (some ⟨G34, 0, none⟩) 1 1] 24) = wc at hkn P35 R39 ⊢
        generalize wb.heap.size = P35a at P35 ⊢
        refine hK.out _ _ hkn (fun _ => ?_)
        clear hK K hHeld
        have hHeld := hkn
        clear hkn
        try simp only [Act.put, List.setIfInBounds_toArray, List.set_cons_zero, List.set_cons_succ]
        refine wpAnyH_ready (rs := [9]) (by kernel_rfl) (by simp) ?_
        refine AllReadyH.cons (o := ⟨some 36, _, _, _, _, _⟩) rfl (fun K hK => ?_) AllReadyH.nil
        refine stepw_call (R := fun v w'' => v = .agg (bvs D2).toArray ∧ Below _ _ w'') (by rfl) ?_ ((sum_any (cap := 2) P35 (Nat.le_refl _) (by simp) HT2.out hHeld.2.2.1).mono fun e w'' ⟨h1, h2⟩ => ⟨_, h1, by rw [HD2.out]; try simp, h2⟩) ?_
        focus go_simp
        rintro v wd ⟨rfl, hb⟩
        have hkn := hHeld.later hb
        have R39' := (R39.below hb (Nat.le_refl _)).mono hb.size
        clear hb
        clear R39
        have R39 := R39'
        clear R39'
        refine hK.out _ _ hkn (fun _ => ?_)
        clear hK K hHeld
        have hHeld := hkn
        clear hkn
        try simp only [Act.put, List.setIfInBounds_toArray, List.set_cons_zero, List.set_cons_succ]
        refine wpAnyH_ready (rs := [13]) (by kernel_rfl) (by simp) ?_
        refine AllReadyH.cons (o := ⟨some 40, _, _, _, _, _⟩) rfl (fun K hK => ?_) AllReadyH.nil
        refine stepw_held2 (by rfl) (.tmp 37) (.tmp 39) rfl rfl hHeld.2.1 rfl R39 HT3.out hHeld.2.2.2.size ?_
        intro V40 wp h40 hb40 bb harr
        have hkn : Kl w X g off cp l D wp := ⟨harr _ _ _ HGX.out hHeld.1, hb40, HE.out.below (hHeld.2.2.2.trans bb), hHeld.2.2.2.trans bb⟩
        clear hb40 bb harr R39
        refine hK.out _ _ hkn (fun _ => ?_)
        clear hK K hHeld
        have hHeld := hkn
        clear hkn
        try simp only [Act.put, List.setIfInBounds_toArray, List.set_cons_zero, List.set_cons_succ]
        refine wpAnyH_ready (rs := [14]) (by kernel_rfl) (by simp) ?_
        refine AllReadyH.cons (o := ⟨some 41, _, _, _, _, _⟩) rfl (fun K hK => ?_) AllReadyH.nil
        refine stepw_call (R := fun v w'' => v = .agg (bvs D2).toArray ∧ Below _ _ w'') (by rfl) ?_ ((rsum_any h40.rd HT4.out).mono fun e w'' ⟨h1, h2⟩ => ⟨_, h1, by rw [HD2.out]; try simp, h2⟩) ?_
        focus go_simp
        rintro v wq ⟨rfl, hb⟩
        have hkn := hHeld.later hb
        clear hb
        refine hK.out _ _ hkn (fun _ => ?_)
        clear hK K hHeld
        have hHeld := hkn
        clear hkn
        try simp only [Act.put, List.setIfInBounds_toArray, List.set_cons_zero, List.set_cons_succ]
        refine wpAnyH_take (i := 15) (oi := ⟨some 42, _, _, _, _, _⟩) (v := .bool true) rfl (by kernel_rfl) (by kernel_rfl) (by kernel_rfl) (fun _ _ _ h => h) (.inl ⟨by rfl, fun w' _ => ?_⟩) hHeld ?_
        focus (have hq' := hq w'; have hp' := hp w'; clear hq hp; go_simp)
        try simp only [Act.put, List.setIfInBounds_toArray, List.set_cons_zero, List.set_cons_succ]
        refine wpAnyH_take (i := 16) (oi := ⟨some 43, _, _, _, _, _⟩) (v := .bool true) rfl (by kernel_rfl) (by kernel_rfl) (by kernel_rfl) (fun _ _ _ h => h) (.inl ⟨by rfl, fun w' _ => ?_⟩) hHeld ?_
        focus (have hq' := hq w'; have hp' := hp w'; clear hq hp; go_simp)
        try simp only [Act.put, List.setIfInBounds_toArray, List.set_cons_zero, List.set_cons_succ]
        refine wpAnyH_take (i := 17) (oi := ⟨some 44, _, _, _, _, _⟩) (v := .bool true) rfl (by kernel_rfl) (by kernel_rfl) (by kernel_rfl) (fun _ _ _ h => h) (.inl ⟨by rfl, fun w' _ => ?_⟩) hHeld ?_
        focus (have hq' := hq w'; have hp' := hp w'; clear hq hp; go_simp)
        try simp only [Act.put, List.setIfInBounds_toArray, List.set_cons_zero, List.set_cons_succ]
        refine wpAnyH_take (i := 18) (oi := ⟨some 45, _, _, _, _, _⟩) (v := .slice (some ⟨g, off, none⟩) l.length cp) rfl (by kernel_rfl) (by kernel_rfl) (by kernel_rfl) (fun _ _ _ h => h) (.inl ⟨by rfl, fun w' _ => ?_⟩) hHeld ?_
        focus (have hq' := hq w'; have hp' := hp w'; clear hq hp; go_simp)
        try simp only [Act.put, List.setIfInBounds_toArray, List.set_cons_zero, List.set_cons_succ]
        refine takew_arr (i := 21) (o := ⟨some 48, _, _, _, _, _⟩) rfl (by kernel_rfl) (by kernel_rfl) (by kernel_rfl) (fun _ _ _ h => h) (by rfl) (cs := bvs D) rfl ⟨rfl, rfl⟩ (fun _ h => h.1.range) Tryd.underlying26 rfl HI32.out hHeld ?_
        try simp only [Act.put, List.setIfInBounds_toArray, List.set_cons_zero, List.set_cons_succ]
        refine wpAnyH_ready (rs := [19]) (by kernel_rfl) (by simp) ?_
        refine AllReadyH.cons (o := ⟨some 46, _, _, _, _, _⟩) rfl (fun K hK => ?_) AllReadyH.nil
        go_simp
        have hb : Below wq.heap.size wq (wq.alloc (.cells #[.slice none 0 0, .slice (some ⟨g, off, none⟩) l.length cp, .slice none 0 0] 24)) := (Below.refl _ _).alloc (Nat.le_refl _) _
        have hkn := hHeld.later hb
        have P46 : RdAll (wq.alloc (.cells #[.slice none 0 0, .slice (some ⟨g, off, none⟩) l.length cp, .slice none 0 0] 24)).heap.size (wq.alloc (.cells #[.slice none 0 0, .slice (some ⟨g, off, none⟩) l.length cp, .slice none 0 0] 24)) (some ⟨wq.heap.size, 0, none⟩) [[], l, []] := rd_three (.inl ⟨none, rfl, rfl⟩) hHeld.2.1.rd (.inl ⟨none, rfl, rfl⟩)
        clear hb
        generalize wq.alloc (.cells #[.slice none 0 0, .slice (some ⟨g, off, none⟩) l.length cp, .slice none 0 0] 24) = wr2 at hkn P46 ⊢
        generalize wq.heap.size = P46a at P46 ⊢
        refine hK.out _ _ hkn (fun _ => ?_)
        clear hK K hHeld
        have hHeld := hkn
        clear hkn
        try simp only [Act.put, List.setIfInBounds_toArray, List.set_cons_zero, List.set_cons_succ]
        refine wpAnyH_ready (rs := [20]) (by kernel_rfl) (by simp) ?_
        refine AllReadyH.cons (o := ⟨some 47, _, _, _, _, _⟩) rfl (fun K hK => ?_) AllReadyH.nil
        refine stepw_call (R := fun v w'' => v = .agg (bvs D).toArray ∧ Below _ _ w'') (by rfl) ?_ ((sum_any (cap := 3) P46 (Nat.le_refl _) (by simp) HT5.out hHeld.2.2.1).mono fun e w'' ⟨h1, h2⟩ => ⟨_, h1, by rw [HD.out]; try simp, h2⟩) ?_
        focus go_simp
        rintro v ws ⟨rfl, hb⟩
        have hkn := hHeld.later hb
        clear hb
        refine hK.out _ _ hkn (fun _ => ?_)
        clear hK K hHeld
        have hHeld := hkn
        clear hkn
        try simp only [Act.put, List.setIfInBounds_toArray, List.set_cons_zero, List.set_cons_succ]
        refine wpAnyH_take (i := 22) (oi := ⟨some 49, _, _, _, _, _⟩) (v := .bool true) rfl (by kernel_rfl) (by kernel_rfl) (by kernel_rfl) (fun _ _ _ h => h) (.inl ⟨by rfl, fun w' _ => ?_⟩) hHeld ?_
        focus (have hq' := hq w'; have hp' := hp w'; clear hq hp; go_simp)
        try simp only [Act.put, List.setIfInBounds_toArray, List.set_cons_zero, List.set_cons_succ]
        refine wpAnyH_take (i := 23) (oi := ⟨some 50, _, _, _, _, _⟩) (v := .bool true) rfl (by kernel_rfl) (by kernel_rfl) (by kernel_rfl) (fun _ _ _ h => h) (.inl ⟨by rfl, fun w' _ => ?_⟩) hHeld ?_
        focus (have hq' := hq w'; have hp' := hp w'; clear hq hp; go_simp)
        try simp only [Act.put, List.setIfInBounds_toArray, List.set_cons_zero, List.set_cons_succ]
        refine wpAnyH_take (i := 24) (oi := ⟨some 4, _, _, _, _, _⟩) (v := .bool true) rfl (by kernel_rfl) (by kernel_rfl) (by kernel_rfl) (fun _ _ _ h => h) (.inl ⟨by rfl, fun w' _ => ?_⟩) hHeld ?_
        focus (have hq' := hq w'; have hp' := hp w'; clear hq hp; go_simp)
        try simp only [Act.put, List.setIfInBounds_toArray, List.set_cons_zero, List.set_cons_succ]
        refine wpAnyH_done (by kernel_rfl) ?_ _
        refine NoPanic.normal ?_
        have HBZ := Lib.hid hHeld.2.2.2
        clear hHeld hq hp
        go_wp2_with fail
        go_ret
        exact ⟨rfl, HBZ.out⟩
end Go.Proofs.YtbnpnpoddnkaiaaDoor
