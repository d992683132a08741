/-
  vestrylaw07.MacKeys: the walk, given awake's.
-/
import Derived.Test.YtomoopadeknfbaaDoorMacL2
import Derived.Test.YtomoopadeknfbaaDoorLit
namespace Go.Proofs.YtomoopadeknfbaaDoor
open Go.ChangeShapes Go.WideShapes Go.ChangeAt Go.RowKit
set_option linter.unusedVariables false

theorem padK_zero (k : List UInt8) (h : k.length ≤ 63) : padK (k ++ [0]) = padK k := by
  have h1 : keyOf (k ++ [0]) = k ++ [0] := by unfold keyOf; rw [if_neg (by simp; omega)]
  have h2 : keyOf k = k := by unfold keyOf; rw [if_neg (by omega)]
  rw [padK, padK, h1, h2, List.length_append, List.length_singleton, List.append_assoc, show 64 - k.length = (64 - (k.length + 1)) + 1 by omega, List.replicate_succ]
  rfl
theorem hmac_zero (k l : List UInt8) (h : k.length ≤ 63) : hmac (k ++ [0]) l = hmac k l := by unfold hmac; rw [padK_zero k h]
theorem row_all {w : World} {gp : Nat} {v : Value} {l : List UInt8} (hp : w.heap[gp]? = some (.cells #[v] 22 (0, 0))) (hr : Rd w.heap.size w v l) : RdAll w.heap.size w (some ⟨gp, 0, none⟩) [l] := by
  intro _
  refine ⟨gp, 0, rfl, (Array.getElem?_eq_some_iff.1 hp).1, fun i hi => ?_⟩
  obtain rfl : i = 0 := by simpa using hi
  exact ⟨_, by rw [cell_of_row w gp _ _ _ (0, 0) hp]; rfl, hr⟩
/-- What the regions keep. -/
def Sk (w0 : World) (X : Nat) (D : List UInt8) (vk : Value) (k : List UInt8) (vl : Value) (l : List UInt8) (w' : World) : Prop := Arr w' 26 X (bvs D) ∧ Rd w'.heap.size w' vk k ∧ Rd w'.heap.size w' vl l ∧ Env w' ∧ Below w0.heap.size w0 w'
theorem Sk.later {w0 w1 w2 : World} {X : Nat} {D k l : List UInt8} {vk vl : Value} (h : Sk w0 X D vk k vl l w1) (hb : Below w1.heap.size w1 w2) : Sk w0 X D vk k vl l w2 :=
  ⟨h.1.later hb, (h.2.1.below hb (Nat.le_refl _)).mono hb.size, (h.2.2.1.below hb (Nat.le_refl _)).mono hb.size, h.2.2.2.1.below (hb.mono (Nat.le_refl _)), h.2.2.2.2.trans (hb.mono h.2.2.2.2.size)⟩
/-- What the last region keeps: all that lies below B. -/
def S2 (w0 : World) (B X : Nat) (D : List UInt8) (vk : Value) (k : List UInt8) (vl : Value) (l : List UInt8) (w' : World) : Prop := Arr w' 26 X (bvs D) ∧ X < B ∧ Rd B w' vk k ∧ Rd B w' vl l ∧ Env w' ∧ Below w0.heap.size w0 w' ∧ B ≤ w'.heap.size ∧ w0.heap.size ≤ B
theorem S2.below {w0 w1 w2 : World} {B X : Nat} {D k l : List UInt8} {vk vl : Value} (h : S2 w0 B X D vk k vl l w1) (he : Env w0) (hb : Below B w1 w2) : S2 w0 B X D vk k vl l w2 :=
  have hw := h.2.2.2.2.2.1.trans (hb.mono h.2.2.2.2.2.2.2)
  ⟨h.1.below hb h.2.1, h.2.1, h.2.2.1.below hb (Nat.le_refl _), h.2.2.2.1.below hb (Nat.le_refl _), he.below hw, hw, Nat.le_trans h.2.2.2.2.2.2.1 hb.size, h.2.2.2.2.2.2.2⟩
theorem S2.later {w0 w1 w2 : World} {B X : Nat} {D k l : List UInt8} {vk vl : Value} (h : S2 w0 B X D vk k vl l w1) (he : Env w0) (hb : Below w1.heap.size w1 w2) : S2 w0 B X D vk k vl l w2 := h.below he (hb.mono h.2.2.2.2.2.2.1)
section
variable {ops : Array Oper} {o : Oper} {a : Act} {w : World} {K : Act → World → Prop} {Q : Exit → Act → World → Prop} {E : Prop}
theorem stepw_held3 (hw : Region.wanted o (yielded ops a.tmps) = true) (s x : Operand)
    (ho : o.op = .call { callee := .builtin .append, args := #[s, x], argTypes := #[22, 22] })
    {base C : Nat} {v vx : Value} {l m : List UInt8} (hs : a.eval s = v) (hh : Held base w v l) (hx : a.eval x = vx) (hr : Rd C w vx m) (hlen : l.length + m.length ≤ 140737488355328) (hbase : base ≤ w.heap.size)
    (hK : ∀ v' w', Held base w' v' (l ++ m) → Below base w w' → (∀ k, k < w.heap.size → (∀ a n c, v = .slice (some a) n c → a.block ≠ k) → w'.heap[k]? = w.heap[k]?) →
      (∀ a n c, v' = .slice (some a) n c → (∃ a0 n0 c0, v = .slice (some a0) n0 c0 ∧ a.block = a0.block) ∨ w.heap.size ≤ a.block) → K (a.put o.dst v') w') : if Region.wanted o (yielded ops a.tmps) = true then Oper.wp Tryd.prog o a w K Q else E := by
  rw [if_pos hw]
  obtain ⟨v', w', hrun, r1, r2, r3, r4⟩ := run_held3 hh hr hlen hbase o.type
  unfold Oper.wp
  simp [execOp, ho, resolve, invoke, builtin, hs, hx, hrun, Result.andThen]
  exact hK v' w' r1 r2 r3 r4
end
set_option maxRecDepth 100000 in
set_option maxHeartbeats 20000000 in
theorem mackeys_walk {w : World} {v : Value} {l : List UInt8} (AW : ∀ w, Env w → Calls Tryd.prog 8 #[] w fun e w' => e = .returned (.bool true) ∧ Below w.heap.size w w') (s n : Nat) (hs : s < lim64) (hn : n < 256) (hv : Rd w.heap.size w v l) (he : Env w) :
    Calls Tryd.prog 7 #[.int .u64 s, .int .u8 n, v] w fun e w' => e = .returned (.bool true) ∧ Below w.heap.size w w' := by
  have HAW := Lib.hid AW
  have HE := Lib.hid he
  have HV := Lib.hid hv
  have HS := Lib.hid hs
  obtain ⟨q, c, rfl, _, _⟩ := hv.form
  obtain ⟨m, hm⟩ : ∃ m, m = 40 + n % 50 := ⟨_, rfl⟩
  have hmi : 40 + (n : Int) % 50 = (m : Int) := by omega
  have hm1 : m ≤ 89 := by omega
  have n0 : (0 : Int) ≤ n := by omega
  clear AW hv he hm hs
  by_cases hl : 300 < l.length
  · have h1 : (300 : Int) < l.length := by omega
    go_enter Tryd.func7, Tryd.ntmps7
    go_wp2_with fail
    refine (HAW.out _ HE.out).mono ?_
    rintro e w1 ⟨rfl, b1⟩
    have HB1 := Lib.hid b1
    have HE1 := Lib.hid (HE.out.below b1)
    clear b1
    go_wp2_with fail
    refine (HAW.out _ HE1.out).mono ?_
    rintro e w2 ⟨rfl, b2⟩
    have HB2 := Lib.hid (HB1.out.trans (b2.mono HB1.out.size))
    clear b2
    go_wp2_with fail
    go_ret
    exact ⟨rfl, HB2.out⟩
  · have h1 : ¬ (300 : Int) < l.length := by omega
    go_enter Tryd.func7, Tryd.ntmps7
    go_wp2_with fail
    refine (HAW.out _ HE.out).mono ?_
    rintro e w1 ⟨rfl, b1⟩
    have HB1 := Lib.hid b1
    have HE1 := Lib.hid (HE.out.below b1)
    have HV1 := Lib.hid ((HV.out.below b1 (Nat.le_refl _)).mono b1.size)
    clear b1 HV
    go_wp2_with fail
    refine (spread_any s HS.out m (by omega) _).mono ?_
    rintro e w2 ⟨k, hkl, v2, rfl, o2, b2⟩
    have HB2 := Lib.hid (HB1.out.trans (b2.mono HB1.out.size))
    have HE2 := Lib.hid (HE1.out.below (b2.mono (Nat.le_refl _)))
    have HV2 := Lib.hid ((HV1.out.below b2 (Nat.le_refl _)).mono b2.size)
    have HK2 := Lib.hid (Rd.of_own o2)
    obtain ⟨q2, c2, rfl, _, _⟩ := HK2.out.form
    have HKL := Lib.hid hkl
    rw [hkl] at HK2 ⊢
    clear o2 b2 HV1 HE1 HB1 hkl
    go_wp2_with fail
    refine (rmac_any HK2.out (by have := HKL.out; omega) HV2.out (by omega)).mono ?_
    rintro e w3 ⟨rfl, b3⟩
    have HB3 := Lib.hid (HB2.out.trans (b3.mono HB2.out.size))
    have HE3 := Lib.hid (HE2.out.below (b3.mono (Nat.le_refl _)))
    have HV3 := Lib.hid ((HV2.out.below b3 (Nat.le_refl _)).mono b3.size)
    have HK3 := Lib.hid ((HK2.out.below b3 (Nat.le_refl _)).mono b3.size)
    obtain ⟨D, hD⟩ : ∃ D, D = hmac k l := ⟨_, rfl⟩
    rw [← hD]
    have HDL : Hid (D.length = 32) := by rw [hD]; exact hmac_length _ _
    have HDE := Lib.hid hD
    clear b3 HV2 HK2 HE2 HB2 hD
    have hb4 : Below w3.heap.size w3 (w3.alloc (.cells (bvs D).toArray 26)) := (Below.refl _ _).alloc (Nat.le_refl _) _
    have hA4 := Arr.new' w3 26 (bvs D).toArray (bvs D) (by simp)
    have HKS : Hid (Sk w w3.heap.size D (.slice q2 m c2) k (.slice q l.length c) l (w3.alloc (.cells (bvs D).toArray 26))) := ⟨hA4, (HK3.out.below hb4 (Nat.le_refl _)).mono hb4.size, (HV3.out.below hb4 (Nat.le_refl _)).mono hb4.size, HE3.out.below (hb4.mono (Nat.le_refl _)), HB3.out.trans (hb4.mono HB3.out.size)⟩
    clear hb4 hA4 HB3 HE3 HV3 HK3
    go_wp2_with ((with_reducible refine at32b w3.heap.size (x := .tmp 8) (y := .tmp 25) (l := D) (o := ⟨none, .store _ _ _, _, _, _, _⟩) HDL.out ?_ ?_); exact ⟨rfl, rfl, rfl, rfl, rfl, rfl⟩)
    generalize w3.alloc (.cells (bvs D).toArray 26) = w4 at HKS ⊢
    generalize w3.heap.size = X at HKS ⊢
    have HI32 : Hid ((Tryd.prog.info? 26).map (·.size) = some (bvs D).length) := by show _ = _; rw [bvs_length, HDL.out]; kernel_rfl
    have hq : ∀ w' : World, (Op.equalIn 10000 26 (.agg (bvs D).toArray) (.agg (bvs D).toArray)).run Tryd.prog w' = .ok true w' := by
      intro w'
      have := run_equalIn_bytes (P := Tryd.prog) w' 9998 26 5 32 rfl rfl (fun _ => rfl) D D HDL.out HDL.out
      rw [beq_self_eq_true] at this
      exact this
    refine wp_region_noPanic ?_
    refine wp_region_held_drew (S := Sk w X D (.slice q2 m c2) k (.slice q l.length c) l) (by kernel_rfl) (HKS.out.later (Below.refl _ _).drew) (fun hHeld => ?_)
    try simp only [Act.put]
    refine wpAnyH_take (i := 0) (oi := ⟨some 26, _, _, _, _, _⟩) (v := .slice q2 m c2) rfl (by kernel_rfl) (by kernel_rfl) (by kernel_rfl) (fun _ _ _ h => h) (.inl ⟨by rfl, fun w' hSw => ?_⟩) hHeld ?_
    focus (have hq' := hq w'; clear hq; clear hHeld; go_simp)
    try simp only [Act.put, List.setIfInBounds_toArray, List.set_cons_zero, List.set_cons_succ]
    refine wpAnyH_take (i := 1) (oi := ⟨some 27, _, _, _, _, _⟩) (v := .slice q l.length c) rfl (by kernel_rfl) (by kernel_rfl) (by kernel_rfl) (fun _ _ _ h => h) (.inl ⟨by rfl, fun w' hSw => ?_⟩) hHeld ?_
    focus (have hq' := hq w'; clear hq; clear hHeld; go_simp)
    try simp only [Act.put, List.setIfInBounds_toArray, List.set_cons_zero, List.set_cons_succ]
    refine takew_arr (i := 4) (o := ⟨some 30, _, _, _, _, _⟩) rfl (by kernel_rfl) (by kernel_rfl) (by kernel_rfl) (fun _ _ _ h => h) (by rfl) (cs := bvs D) rfl ⟨rfl, rfl⟩ (fun _ h => h.1.range) Tryd.underlying26 rfl HI32.out hHeld ?_
    try simp only [Act.put, List.setIfInBounds_toArray, List.set_cons_zero, List.set_cons_succ]
    refine wpAnyH_ready (rs := [2]) (by kernel_rfl) (by simp) ?_
    refine AllReadyH.cons (o := ⟨some 28, _, _, _, _, _⟩) rfl (fun K' hK' => ?_) AllReadyH.nil
    go_simp
    have hb : Below w4.drew.heap.size w4.drew (w4.drew.alloc (.cells #[.slice q l.length c] 22)) := (Below.refl _ _).alloc (Nat.le_refl _) _
    have hkn := hHeld.later hb
    have hr5 := rd_one (t := 22) hHeld.2.2.1 (Nat.le_refl _)
    have hs5 : (w4.drew.alloc (.cells #[.slice q l.length c] 22)).heap.size = w4.drew.heap.size + 1 := by simp
    rw [← hs5] at hr5
    clear hb hs5
    refine hK'.out _ _ hkn (fun _ => ?_)
    clear hK' K' hHeld
    have hHeld := hkn
    clear hkn
    try simp only [Act.put, List.setIfInBounds_toArray, List.set_cons_zero, List.set_cons_succ]
    refine wpAnyH_ready (rs := [3]) (by kernel_rfl) (by simp) ?_
    refine AllReadyH.cons (o := ⟨some 29, _, _, _, _, _⟩) rfl (fun K' hK' => ?_) AllReadyH.nil
    refine stepw_call (R := fun v w'' => v = .agg (bvs D).toArray ∧ Below _ _ w'') (by rfl) ?_ ((msum_any (cap := 1) hHeld.2.1 (by have := HKL.out; omega) hr5 (by simp) (by simp only [total, List.flatten_cons, List.flatten_nil, List.append_nil]; omega) hHeld.2.2.2.1).mono fun e w'' ⟨h1, h2⟩ => ⟨_, h1, by rw [show [l].flatten = l by simp, ← HDE.out], h2⟩) ?_
    focus go_simp
    rintro v w6 ⟨rfl, hb⟩
    have hkn := hHeld.later hb
    clear hb hr5
    refine hK'.out _ _ hkn (fun _ => ?_)
    clear hK' K' hHeld
    have hHeld := hkn
    clear hkn
    try simp only [Act.put, List.setIfInBounds_toArray, List.set_cons_zero, List.set_cons_succ]
    refine wpAnyH_take (i := 5) (oi := ⟨some 31, _, _, _, _, _⟩) (v := .bool false) rfl (by kernel_rfl) (by kernel_rfl) (by kernel_rfl) (fun _ _ _ h => h) (.inl ⟨by rfl, fun w' hSw => ?_⟩) hHeld ?_
    focus (have hq' := hq w'; clear hq; clear hHeld; go_simp)
    try simp only [Act.put, List.setIfInBounds_toArray, List.set_cons_zero, List.set_cons_succ]
    refine wpAnyH_done (by kernel_rfl) ?_ _
    refine NoPanic.normal ?_
    have HKT := Lib.hid hHeld
    clear hHeld HKS
    by_cases h63 : 63 < m
    · have h63' : (63 : Int) < m := by omega
      go_wp2_with fail
      have HKU : Hid (S2 w w6.heap.size X D (.slice q2 m c2) k (.slice q l.length c) l w6) := ⟨HKT.out.1, HKT.out.1.lt, HKT.out.2.1, HKT.out.2.2.1, HKT.out.2.2.2.1, HKT.out.2.2.2.2, Nat.le_refl _, HKT.out.2.2.2.2.size⟩
      have m63 : ((m : Int) > 63) = ((63 : Int) < m) := rfl
      clear HKT
      refine wp_region_noPanic ?_
      refine wp_region_held_drew (S := S2 w w6.heap.size X D (.slice q2 m c2) k (.slice q l.length c) l) (by kernel_rfl) (HKU.out.later HE.out (Below.refl _ _).drew) (fun hHeld => ?_)
      try simp only [Act.put]
      generalize w6.drew = wst at hHeld ⊢
      refine wpAnyH_take (i := 0) (oi := ⟨some 32, _, _, _, _, _⟩) (v := .slice q2 m c2) rfl (by kernel_rfl) (by kernel_rfl) (by kernel_rfl) (fun _ _ _ h => h) (.inl ⟨by rfl, fun w' hSw => ?_⟩) hHeld ?_
      focus (have hq' := hq w'; clear hq; clear hHeld; go_simp)
      try simp only [Act.put, List.setIfInBounds_toArray, List.set_cons_zero, List.set_cons_succ]
      refine wpAnyH_take (i := 1) (oi := ⟨some 33, _, _, _, _, _⟩) (v := .int .i64 m) rfl (by kernel_rfl) (by kernel_rfl) (by kernel_rfl) (fun _ _ _ h => h) (.inl ⟨by rfl, fun w' hSw => ?_⟩) hHeld ?_
      focus (have hq' := hq w'; clear hq; clear hHeld; go_simp)
      try simp only [Act.put, List.setIfInBounds_toArray, List.set_cons_zero, List.set_cons_succ]
      refine wpAnyH_take (i := 2) (oi := ⟨some 34, _, _, _, _, _⟩) (v := .bool true) rfl (by kernel_rfl) (by kernel_rfl) (by kernel_rfl) (fun _ _ _ h => h) (.inl ⟨by rfl, fun w' hSw => ?_⟩) hHeld ?_
      focus (have hq' := hq w'; clear hq; clear hHeld; go_simp)
      try simp only [Act.put, List.setIfInBounds_toArray, List.set_cons_zero, List.set_cons_succ]
      refine wpAnyH_take (i := 3) (oi := ⟨some 35, _, _, _, _, _⟩) (v := .bool true) rfl (by kernel_rfl) (by kernel_rfl) (by kernel_rfl) (fun _ _ _ h => h) (.inl ⟨by rfl, fun w' hSw => ?_⟩) hHeld ?_
      focus (have hq' := hq w'; clear hq; clear hHeld; go_simp)
      try simp only [Act.put, List.setIfInBounds_toArray, List.set_cons_zero, List.set_cons_succ]
      refine wpAnyH_take (i := 4) (oi := ⟨some 36, _, _, _, _, _⟩) (v := undef) rfl (by kernel_rfl) (by kernel_rfl) (by kernel_rfl) (fun _ _ _ h => h) (.inr ⟨by rfl, rfl⟩) hHeld ?_
      try simp only [Act.put, List.setIfInBounds_toArray, List.set_cons_zero, List.set_cons_succ]
      refine wpAnyH_take (i := 5) (oi := ⟨some 37, _, _, _, _, _⟩) (v := undef) rfl (by kernel_rfl) (by kernel_rfl) (by kernel_rfl) (fun _ _ _ h => h) (.inr ⟨by rfl, rfl⟩) hHeld ?_
      try simp only [Act.put, List.setIfInBounds_toArray, List.set_cons_zero, List.set_cons_succ]
      refine wpAnyH_take (i := 6) (oi := ⟨some 38, _, _, _, _, _⟩) (v := undef) rfl (by kernel_rfl) (by kernel_rfl) (by kernel_rfl) (fun _ _ _ h => h) (.inr ⟨by rfl, rfl⟩) hHeld ?_
      try simp only [Act.put, List.setIfInBounds_toArray, List.set_cons_zero, List.set_cons_succ]
      refine wpAnyH_take (i := 7) (oi := ⟨some 39, _, _, _, _, _⟩) (v := undef) rfl (by kernel_rfl) (by kernel_rfl) (by kernel_rfl) (fun _ _ _ h => h) (.inr ⟨by rfl, rfl⟩) hHeld ?_
      try simp only [Act.put, List.setIfInBounds_toArray, List.set_cons_zero, List.set_cons_succ]
      refine wpAnyH_take (i := 8) (oi := ⟨some 40, _, _, _, _, _⟩) (v := undef) rfl (by kernel_rfl) (by kernel_rfl) (by kernel_rfl) (fun _ _ _ h => h) (.inr ⟨by rfl, rfl⟩) hHeld ?_
      try simp only [Act.put, List.setIfInBounds_toArray, List.set_cons_zero, List.set_cons_succ]
      refine wpAnyH_take (i := 9) (oi := ⟨some 41, _, _, _, _, _⟩) (v := undef) rfl (by kernel_rfl) (by kernel_rfl) (by kernel_rfl) (fun _ _ _ h => h) (.inr ⟨by rfl, rfl⟩) hHeld ?_
      try simp only [Act.put, List.setIfInBounds_toArray, List.set_cons_zero, List.set_cons_succ]
      refine wpAnyH_take (i := 10) (oi := ⟨some 42, _, _, _, _, _⟩) (v := undef) rfl (by kernel_rfl) (by kernel_rfl) (by kernel_rfl) (fun _ _ _ h => h) (.inr ⟨by rfl, rfl⟩) hHeld ?_
      try simp only [Act.put, List.setIfInBounds_toArray, List.set_cons_zero, List.set_cons_succ]
      refine wpAnyH_take (i := 11) (oi := ⟨some 43, _, _, _, _, _⟩) (v := undef) rfl (by kernel_rfl) (by kernel_rfl) (by kernel_rfl) (fun _ _ _ h => h) (.inr ⟨by rfl, rfl⟩) hHeld ?_
      try simp only [Act.put, List.setIfInBounds_toArray, List.set_cons_zero, List.set_cons_succ]
      refine wpAnyH_take (i := 12) (oi := ⟨some 44, _, _, _, _, _⟩) (v := undef) rfl (by kernel_rfl) (by kernel_rfl) (by kernel_rfl) (fun _ _ _ h => h) (.inr ⟨by rfl, rfl⟩) hHeld ?_
      try simp only [Act.put, List.setIfInBounds_toArray, List.set_cons_zero, List.set_cons_succ]
      refine wpAnyH_take (i := 13) (oi := ⟨some 45, _, _, _, _, _⟩) (v := undef) rfl (by kernel_rfl) (by kernel_rfl) (by kernel_rfl) (fun _ _ _ h => h) (.inr ⟨by rfl, rfl⟩) hHeld ?_
      try simp only [Act.put, List.setIfInBounds_toArray, List.set_cons_zero, List.set_cons_succ]
      refine wpAnyH_take (i := 14) (oi := ⟨some 46, _, _, _, _, _⟩) (v := .bool true) rfl (by kernel_rfl) (by kernel_rfl) (by kernel_rfl) (fun _ _ _ h => h) (.inl ⟨by rfl, fun w' hSw => ?_⟩) hHeld ?_
      focus (have hq' := hq w'; clear hq; clear hHeld; go_simp)
      try simp only [Act.put, List.setIfInBounds_toArray, List.set_cons_zero, List.set_cons_succ]
      refine wpAnyH_take (i := 15) (oi := ⟨some 6, _, _, _, _, _⟩) (v := .bool true) rfl (by kernel_rfl) (by kernel_rfl) (by kernel_rfl) (fun _ _ _ h => h) (.inl ⟨by rfl, fun w' hSw => ?_⟩) hHeld ?_
      focus (have hq' := hq w'; clear hq; clear hHeld; go_simp)
      try simp only [Act.put, List.setIfInBounds_toArray, List.set_cons_zero, List.set_cons_succ]
      refine wpAnyH_done (by kernel_rfl) ?_ _
      refine NoPanic.normal ?_
      have HBZ := Lib.hid hHeld.2.2.2.2.2.1
      clear hHeld hq
      go_wp2_with fail
      go_ret
      exact ⟨rfl, HBZ.out⟩
    · have h63' : ¬ (63 : Int) < m := by omega
      have HL6 : Hid (([] : List UInt8).length + k.length ≤ 140737488355328) := by have := HKL.out; show _ ≤ _; simp; omega
      have HL8 : Hid (k.length + ([0] : List UInt8).length ≤ 140737488355328) := by have := HKL.out; show _ ≤ _; simp; omega
      go_wp2_with fail
      have HKU : Hid (S2 w w6.heap.size X D (.slice q2 m c2) k (.slice q l.length c) l w6) := ⟨HKT.out.1, HKT.out.1.lt, HKT.out.2.1, HKT.out.2.2.1, HKT.out.2.2.2.1, HKT.out.2.2.2.2, Nat.le_refl _, HKT.out.2.2.2.2.size⟩
      have m63 : ((m : Int) > 63) = ((63 : Int) < m) := rfl
      clear HKT
      refine wp_region_noPanic ?_
      refine wp_region_held_drew (S := S2 w w6.heap.size X D (.slice q2 m c2) k (.slice q l.length c) l) (by kernel_rfl) (HKU.out.later HE.out (Below.refl _ _).drew) (fun hHeld => ?_)
      try simp only [Act.put]
      generalize w6.drew = wst at hHeld ⊢
      refine wpAnyH_take (i := 0) (oi := ⟨some 32, _, _, _, _, _⟩) (v := .slice q2 m c2) rfl (by kernel_rfl) (by kernel_rfl) (by kernel_rfl) (fun _ _ _ h => h) (.inl ⟨by rfl, fun w' hSw => ?_⟩) hHeld ?_
      focus (have hq' := hq w'; clear hq; clear hHeld; go_simp)
      try simp only [Act.put, List.setIfInBounds_toArray, List.set_cons_zero, List.set_cons_succ]
      refine wpAnyH_take (i := 1) (oi := ⟨some 33, _, _, _, _, _⟩) (v := .int .i64 m) rfl (by kernel_rfl) (by kernel_rfl) (by kernel_rfl) (fun _ _ _ h => h) (.inl ⟨by rfl, fun w' hSw => ?_⟩) hHeld ?_
      focus (have hq' := hq w'; clear hq; clear hHeld; go_simp)
      try simp only [Act.put, List.setIfInBounds_toArray, List.set_cons_zero, List.set_cons_succ]
      refine wpAnyH_take (i := 2) (oi := ⟨some 34, _, _, _, _, _⟩) (v := .bool false) rfl (by kernel_rfl) (by kernel_rfl) (by kernel_rfl) (fun _ _ _ h => h) (.inl ⟨by rfl, fun w' hSw => ?_⟩) hHeld ?_
      focus (have hq' := hq w'; clear hq; clear hHeld; go_simp)
      try simp only [Act.put, List.setIfInBounds_toArray, List.set_cons_zero, List.set_cons_succ]
      refine wpAnyH_take (i := 3) (oi := ⟨some 35, _, _, _, _, _⟩) (v := .bool false) rfl (by kernel_rfl) (by kernel_rfl) (by kernel_rfl) (fun _ _ _ h => h) (.inl ⟨by rfl, fun w' hSw => ?_⟩) hHeld ?_
      focus (have hq' := hq w'; clear hq; clear hHeld; go_simp)
      try simp only [Act.put, List.setIfInBounds_toArray, List.set_cons_zero, List.set_cons_succ]
      refine wpAnyH_take (i := 5) (oi := ⟨some 37, _, _, _, _, _⟩) (v := .slice q2 m c2) rfl (by kernel_rfl) (by kernel_rfl) (by kernel_rfl) (fun _ _ _ h => h) (.inl ⟨by rfl, fun w' hSw => ?_⟩) hHeld ?_
      focus (have hq' := hq w'; clear hq; clear hHeld; go_simp)
      try simp only [Act.put, List.setIfInBounds_toArray, List.set_cons_zero, List.set_cons_succ]
      refine wpAnyH_take (i := 9) (oi := ⟨some 41, _, _, _, _, _⟩) (v := .slice q l.length c) rfl (by kernel_rfl) (by kernel_rfl) (by kernel_rfl) (fun _ _ _ h => h) (.inl ⟨by rfl, fun w' hSw => ?_⟩) hHeld ?_
      focus (have hq' := hq w'; clear hq; clear hHeld; go_simp)
      try simp only [Act.put, List.setIfInBounds_toArray, List.set_cons_zero, List.set_cons_succ]
      refine takew_arr (i := 12) (o := ⟨some 44, _, _, _, _, _⟩) rfl (by kernel_rfl) (by kernel_rfl) (by kernel_rfl) (fun _ _ _ h => h) (by rfl) (cs := bvs D) rfl ⟨rfl, rfl⟩ (fun _ h => h.1.range) Tryd.underlying26 rfl HI32.out hHeld ?_
      try simp only [Act.put, List.setIfInBounds_toArray, List.set_cons_zero, List.set_cons_succ]
      refine wpAnyH_ready (rs := [4, 7, 10]) (by kernel_rfl) (by simp) ?_
      refine AllReadyH.cons (o := ⟨some 36, _, _, _, _, _⟩) rfl (fun K' hK' => ?_) (AllReadyH.cons (o := ⟨some 39, _, _, _, _, _⟩) rfl (fun K' hK' => ?_) (AllReadyH.cons (o := ⟨some 42, _, _, _, _, _⟩) rfl (fun K' hK' => ?_) AllReadyH.nil))
      · go_simp
        have hb : Below wst.heap.size wst (wst.alloc (.cells #[] 5)) := (Below.refl _ _).alloc (Nat.le_refl _) _
        have hkn := hHeld.later HE.out hb
        have F4 : (wst.alloc (.cells #[] 5)).heap[wst.heap.size]? = some (.cells #[] 5 (0, 0)) := heap_alloc_new wst _
        have g4 : w6.heap.size ≤ wst.heap.size := hHeld.2.2.2.2.2.2.1
        clear hb
        generalize wst.alloc (.cells #[] 5) = wk0 at hkn F4 ⊢
        obtain ⟨G4, hG⟩ : ∃ x, x = wst.heap.size := ⟨_, rfl⟩
        rw [← hG] at F4 g4 ⊢
        clear hG
        refine hK'.out _ _ hkn (fun _ => ?_)
        clear hK' K' hHeld
        have hHeld := hkn
        clear hkn
        try simp only [Act.put, List.setIfInBounds_toArray, List.set_cons_zero, List.set_cons_succ]
        refine wpAnyH_ready (rs := [6, 7, 10]) (by kernel_rfl) (by simp) ?_
        refine AllReadyH.cons (o := ⟨some 38, _, _, _, _, _⟩) rfl (fun K' hK' => ?_) (AllReadyH.cons (o := ⟨some 39, _, _, _, _, _⟩) rfl (fun K' hK' => ?_) (AllReadyH.cons (o := ⟨some 42, _, _, _, _, _⟩) rfl (fun K' hK' => ?_) AllReadyH.nil))
        · have h4 : Held w6.heap.size wk0 (.slice (some ⟨G4, 0, none⟩) ([] : List UInt8).length 0) [] := .inr ⟨G4, 0, 0, rfl, Nat.le_refl _, Nat.zero_le _, g4, (Array.getElem?_eq_some_iff.1 F4).1, fun i hi => absurd hi (Nat.not_lt_zero _), fun i hi => absurd hi (Nat.not_lt_zero _)⟩
          refine stepw_held3 (by rfl) (.tmp 36) (.tmp 37) rfl rfl h4 rfl hHeld.2.2.1 HL6.out hHeld.2.2.2.2.2.2.1 ?_
          intro V38 wk1 F38 bb hfr hbk
          rw [List.nil_append] at F38
          have hkn := hHeld.below HE.out bb
          clear bb hfr hbk h4 F4
          refine hK'.out _ _ hkn (fun _ => ?_)
          clear hK' K' hHeld
          have hHeld := hkn
          clear hkn
          try simp only [Act.put, List.setIfInBounds_toArray, List.set_cons_zero, List.set_cons_succ]
          refine wpAnyH_ready (rs := [7, 10]) (by kernel_rfl) (by simp) ?_
          refine AllReadyH.cons (o := ⟨some 39, _, _, _, _, _⟩) rfl (fun K' hK' => ?_) (AllReadyH.cons (o := ⟨some 42, _, _, _, _, _⟩) rfl (fun K' hK' => ?_) AllReadyH.nil)
          · go_simp
            have hb : Below wk1.heap.size wk1 (wk1.alloc (.cells #[.int .u8 0] 5)) := (Below.refl _ _).alloc (Nat.le_refl _) _
            have hkn := hHeld.later HE.out hb
            have F38' := F38.later hb
            have F7 : LitAt (wk1.alloc (.cells #[.int .u8 0] 5)) wk1.heap.size [0] := LitAt.new wk1 [0] #[.int .u8 0] rfl
            have g7 : w6.heap.size ≤ wk1.heap.size := hHeld.2.2.2.2.2.2.1
            have d38_7 : ∀ a n c, V38 = .slice (some a) n c → a.block ≠ wk1.heap.size := fun a n c h => Nat.ne_of_lt (F38.lt a n c h)
            clear F38
            have F38 := F38'
            clear F38'
            clear hb
            generalize wk1.alloc (.cells #[.int .u8 0] 5) = wk2 at hkn F7 F38 ⊢
            obtain ⟨G7, hG⟩ : ∃ x, x = wk1.heap.size := ⟨_, rfl⟩
            rw [← hG] at F7 g7 d38_7 ⊢
            clear hG
            refine hK'.out _ _ hkn (fun _ => ?_)
            clear hK' K' hHeld
            have hHeld := hkn
            clear hkn
            try simp only [Act.put, List.setIfInBounds_toArray, List.set_cons_zero, List.set_cons_succ]
            refine wpAnyH_ready (rs := [8, 10]) (by kernel_rfl) (by simp) ?_
            refine AllReadyH.cons (o := ⟨some 40, _, _, _, _, _⟩) rfl (fun K' hK' => ?_) (AllReadyH.cons (o := ⟨some 42, _, _, _, _, _⟩) rfl (fun K' hK' => ?_) AllReadyH.nil)
            · refine stepw_held3 (by rfl) (.tmp 38) (.tmp 39) rfl rfl F38 rfl (F7.rd (n := 1) rfl (by decide)) HL8.out hHeld.2.2.2.2.2.2.1 ?_
              intro V40 wk3 F40 bb hfr hbk
              have hkn := hHeld.below HE.out bb
              clear bb hfr hbk F38 F7
              refine hK'.out _ _ hkn (fun _ => ?_)
              clear hK' K' hHeld
              have hHeld := hkn
              clear hkn
              try simp only [Act.put, List.setIfInBounds_toArray, List.set_cons_zero, List.set_cons_succ]
              refine wpAnyH_ready (rs := [10]) (by kernel_rfl) (by simp) ?_
              refine AllReadyH.cons (o := ⟨some 42, _, _, _, _, _⟩) rfl (fun K' hK' => ?_) AllReadyH.nil
              go_simp
              have hb : Below wk3.heap.size wk3 (wk3.alloc (.cells #[.slice q l.length c] 22)) := (Below.refl _ _).alloc (Nat.le_refl _) _
              have hkn := hHeld.later HE.out hb
              have F40' := F40.later hb
              have F10 : (wk3.alloc (.cells #[.slice q l.length c] 22)).heap[wk3.heap.size]? = some (.cells #[.slice q l.length c] 22 (0, 0)) := heap_alloc_new wk3 _
              have g10 : w6.heap.size ≤ wk3.heap.size := hHeld.2.2.2.2.2.2.1
              clear hb F40
              have F40 := F40'
              clear F40'
              generalize wk3.alloc (.cells #[.slice q l.length c] 22) = wk4 at hkn F40 F10 ⊢
              obtain ⟨G10, hG⟩ : ∃ x, x = wk3.heap.size := ⟨_, rfl⟩
              rw [← hG] at F10 g10 ⊢
              clear hG
              refine hK'.out _ _ hkn (fun _ => ?_)
              clear hK' K' hHeld
              have hHeld := hkn
              clear hkn
              try simp only [Act.put, List.setIfInBounds_toArray, List.set_cons_zero, List.set_cons_succ]
              refine wpAnyH_ready (rs := [11]) (by kernel_rfl) (by simp) ?_
              refine AllReadyH.cons (o := ⟨some 43, _, _, _, _, _⟩) rfl (fun K' hK' => ?_) AllReadyH.nil
              refine stepw_call (R := fun v w'' => v = .agg (bvs D).toArray ∧ Below _ _ w'') (by rfl) ?_ ((msum_any (cap := 1) (F40.rd) (by rw [List.length_append]; have := HKL.out; simp; omega) (row_all F10 (hHeld.2.2.2.1.mono hHeld.2.2.2.2.2.2.1)) (by simp) (by simp only [total, List.flatten_cons, List.flatten_nil, List.append_nil]; omega) hHeld.2.2.2.2.1).mono fun e w'' ⟨h1, h2⟩ => ⟨_, h1, by rw [show [l].flatten = l by simp, hmac_zero k l (by have := HKL.out; omega), ← HDE.out], h2⟩) ?_
              focus go_simp
              rintro v wv ⟨rfl, hb⟩
              have hkn := hHeld.later HE.out hb
              clear hb
              refine hK'.out _ _ hkn (fun _ => ?_)
              clear hK' K' hHeld
              have hHeld := hkn
              clear hkn
              try simp only [Act.put, List.setIfInBounds_toArray, List.set_cons_zero, List.set_cons_succ]
              refine wpAnyH_take (i := 13) (oi := ⟨some 45, _, _, _, _, _⟩) (v := .bool true) rfl (by kernel_rfl) (by kernel_rfl) (by kernel_rfl) (fun _ _ _ h => h) (.inl ⟨by rfl, fun w' hSw => ?_⟩) hHeld ?_
              focus (have hq' := hq w'; clear hq; clear hHeld; go_simp)
              try simp only [Act.put, List.setIfInBounds_toArray, List.set_cons_zero, List.set_cons_succ]
              refine wpAnyH_take (i := 14) (oi := ⟨some 46, _, _, _, _, _⟩) (v := .bool true) rfl (by kernel_rfl) (by kernel_rfl) (by kernel_rfl) (fun _ _ _ h => h) (.inl ⟨by rfl, fun w' hSw => ?_⟩) hHeld ?_
              focus (have hq' := hq w'; clear hq; clear hHeld; go_simp)
              try simp only [Act.put, List.setIfInBounds_toArray, List.set_cons_zero, List.set_cons_succ]
              refine wpAnyH_take (i := 15) (oi := ⟨some 6, _, _, _, _, _⟩) (v := .bool true) rfl (by kernel_rfl) (by kernel_rfl) (by kernel_rfl) (fun _ _ _ h => h) (.inl ⟨by rfl, fun w' hSw => ?_⟩) hHeld ?_
              focus (have hq' := hq w'; clear hq; clear hHeld; go_simp)
              try simp only [Act.put, List.setIfInBounds_toArray, List.set_cons_zero, List.set_cons_succ]
              refine wpAnyH_done (by kernel_rfl) ?_ _
              refine NoPanic.normal ?_
              have HBZ := Lib.hid hHeld.2.2.2.2.2.1
              clear hHeld hq
              go_wp2_with fail
              go_ret
              exact ⟨rfl, HBZ.out⟩
            · go_simp
              have hb : Below wk2.heap.size wk2 (wk2.alloc (.cells #[.slice q l.length c] 22)) := (Below.refl _ _).alloc (Nat.le_refl _) _
              have hkn := hHeld.later HE.out hb
              have F7' := F7.later hb
              have F38' := F38.later hb
              have F10 : (wk2.alloc (.cells #[.slice q l.length c] 22)).heap[wk2.heap.size]? = some (.cells #[.slice q l.length c] 22 (0, 0)) := heap_alloc_new wk2 _
              have g10 : w6.heap.size ≤ wk2.heap.size := hHeld.2.2.2.2.2.2.1
              have d7_10 : G7 ≠ wk2.heap.size := Nat.ne_of_lt F7.lt
              have d38_10 : ∀ a n c, V38 = .slice (some a) n c → a.block ≠ wk2.heap.size := fun a n c h => Nat.ne_of_lt (F38.lt a n c h)
              clear F7
              have F7 := F7'
              clear F7'
              clear F38
              have F38 := F38'
              clear F38'
              clear hb
              generalize wk2.alloc (.cells #[.slice q l.length c] 22) = wk3 at hkn F10 F7 F38 ⊢
              obtain ⟨G10, hG⟩ : ∃ x, x = wk2.heap.size := ⟨_, rfl⟩
              rw [← hG] at F10 g10 d7_10 d38_10 ⊢
              clear hG
              refine hK'.out _ _ hkn (fun _ => ?_)
              clear hK' K' hHeld
              have hHeld := hkn
              clear hkn
              try simp only [Act.put, List.setIfInBounds_toArray, List.set_cons_zero, List.set_cons_succ]
              refine wpAnyH_ready (rs := [8]) (by kernel_rfl) (by simp) ?_
              refine AllReadyH.cons (o := ⟨some 40, _, _, _, _, _⟩) rfl (fun K' hK' => ?_) AllReadyH.nil
              refine stepw_held3 (by rfl) (.tmp 38) (.tmp 39) rfl rfl F38 rfl (F7.rd (n := 1) rfl (by decide)) HL8.out hHeld.2.2.2.2.2.2.1 ?_
              intro V40 wk4 F40 bb hfr hbk
              have hkn := hHeld.below HE.out bb
              have F10' := (hfr G10 (Array.getElem?_eq_some_iff.1 F10).1 (fun a n c e => d38_10 a n c e)).trans F10
              clear bb hfr hbk F38 F7
              clear F10
              have F10 := F10'
              clear F10'
              refine hK'.out _ _ hkn (fun _ => ?_)
              clear hK' K' hHeld
              have hHeld := hkn
              clear hkn
              try simp only [Act.put, List.setIfInBounds_toArray, List.set_cons_zero, List.set_cons_succ]
              refine wpAnyH_ready (rs := [11]) (by kernel_rfl) (by simp) ?_
              refine AllReadyH.cons (o := ⟨some 43, _, _, _, _, _⟩) rfl (fun K' hK' => ?_) AllReadyH.nil
              refine stepw_call (R := fun v w'' => v = .agg (bvs D).toArray ∧ Below _ _ w'') (by rfl) ?_ ((msum_any (cap := 1) (F40.rd) (by rw [List.length_append]; have := HKL.out; simp; omega) (row_all F10 (hHeld.2.2.2.1.mono hHeld.2.2.2.2.2.2.1)) (by simp) (by simp only [total, List.flatten_cons, List.flatten_nil, List.append_nil]; omega) hHeld.2.2.2.2.1).mono fun e w'' ⟨h1, h2⟩ => ⟨_, h1, by rw [show [l].flatten = l by simp, hmac_zero k l (by have := HKL.out; omega), ← HDE.out], h2⟩) ?_
              focus go_simp
              rintro v wv ⟨rfl, hb⟩
              have hkn := hHeld.later HE.out hb
              clear hb
              refine hK'.out _ _ hkn (fun _ => ?_)
              clear hK' K' hHeld
              have hHeld := hkn
              clear hkn
              try simp only [Act.put, List.setIfInBounds_toArray, List.set_cons_zero, List.set_cons_succ]
              refine wpAnyH_take (i := 13) (oi := ⟨some 45, _, _, _, _, _⟩) (v := .bool true) rfl (by kernel_rfl) (by kernel_rfl) (by kernel_rfl) (fun _ _ _ h => h) (.inl ⟨by rfl, fun w' hSw => ?_⟩) hHeld ?_
              focus (have hq' := hq w'; clear hq; clear hHeld; go_simp)
              try simp only [Act.put, List.setIfInBounds_toArray, List.set_cons_zero, List.set_cons_succ]
              refine wpAnyH_take (i := 14) (oi := ⟨some 46, _, _, _, _, _⟩) (v := .bool true) rfl (by kernel_rfl) (by kernel_rfl) (by kernel_rfl) (fun _ _ _ h => h) (.inl ⟨by rfl, fun w' hSw => ?_⟩) hHeld ?_
              focus (have hq' := hq w'; clear hq; clear hHeld; go_simp)
              try simp only [Act.put, List.setIfInBounds_toArray, List.set_cons_zero, List.set_cons_succ]
              refine wpAnyH_take (i := 15) (oi := ⟨some 6, _, _, _, _, _⟩) (v := .bool true) rfl (by kernel_rfl) (by kernel_rfl) (by kernel_rfl) (fun _ _ _ h => h) (.inl ⟨by rfl, fun w' hSw => ?_⟩) hHeld ?_
              focus (have hq' := hq w'; clear hq; clear hHeld; go_simp)
              try simp only [Act.put, List.setIfInBounds_toArray, List.set_cons_zero, List.set_cons_succ]
              refine wpAnyH_done (by kernel_rfl) ?_ _
              refine NoPanic.normal ?_
              have HBZ := Lib.hid hHeld.2.2.2.2.2.1
              clear hHeld hq
              go_wp2_with fail
              go_ret
              exact ⟨rfl, HBZ.out⟩
          · go_simp
            have hb : Below wk1.heap.size wk1 (wk1.alloc (.cells #[.slice q l.length c] 22)) := (Below.refl _ _).alloc (Nat.le_refl _) _
            have hkn := hHeld.later HE.out hb
            have F38' := F38.later hb
            have F10 : (wk1.alloc (.cells #[.slice q l.length c] 22)).heap[wk1.heap.size]? = some (.cells #[.slice q l.length c] 22 (0, 0)) := heap_alloc_new wk1 _
            have g10 : w6.heap.size ≤ wk1.heap.size := hHeld.2.2.2.2.2.2.1
            have d38_10 : ∀ a n c, V38 = .slice (some a) n c → a.block ≠ wk1.heap.size := fun a n c h => Nat.ne_of_lt (F38.lt a n c h)
            clear F38
            have F38 := F38'
            clear F38'
            clear hb
            generalize wk1.alloc (.cells #[.slice q l.length c] 22) = wk2 at hkn F10 F38 ⊢
            obtain ⟨G10, hG⟩ : ∃ x, x = wk1.heap.size := ⟨_, rfl⟩
            rw [← hG] at F10 g10 d38_10 ⊢
            clear hG
            refine hK'.out _ _ hkn (fun _ => ?_)
            clear hK' K' hHeld
            have hHeld := hkn
            clear hkn
            try simp only [Act.put, List.setIfInBounds_toArray, List.set_cons_zero, List.set_cons_succ]
            refine wpAnyH_ready (rs := [7]) (by kernel_rfl) (by simp) ?_
            refine AllReadyH.cons (o := ⟨some 39, _, _, _, _, _⟩) rfl (fun K' hK' => ?_) AllReadyH.nil
            go_simp
            have hb : Below wk2.heap.size wk2 (wk2.alloc (.cells #[.int .u8 0] 5)) := (Below.refl _ _).alloc (Nat.le_refl _) _
            have hkn := hHeld.later HE.out hb
            have F10' := (hb.block _ (Array.getElem?_eq_some_iff.1 F10).1).trans F10
            have F38' := F38.later hb
            have F7 : LitAt (wk2.alloc (.cells #[.int .u8 0] 5)) wk2.heap.size [0] := LitAt.new wk2 [0] #[.int .u8 0] rfl
            have g7 : w6.heap.size ≤ wk2.heap.size := hHeld.2.2.2.2.2.2.1
            have d10_7 : G10 ≠ wk2.heap.size := Nat.ne_of_lt (Array.getElem?_eq_some_iff.1 F10).1
            have d38_7 : ∀ a n c, V38 = .slice (some a) n c → a.block ≠ wk2.heap.size := fun a n c h => Nat.ne_of_lt (F38.lt a n c h)
            clear F10
            have F10 := F10'
            clear F10'
            clear F38
            have F38 := F38'
            clear F38'
            clear hb
            generalize wk2.alloc (.cells #[.int .u8 0] 5) = wk3 at hkn F7 F10 F38 ⊢
            obtain ⟨G7, hG⟩ : ∃ x, x = wk2.heap.size := ⟨_, rfl⟩
            rw [← hG] at F7 g7 d10_7 d38_7 ⊢
            clear hG
            refine hK'.out _ _ hkn (fun _ => ?_)
            clear hK' K' hHeld
            have hHeld := hkn
            clear hkn
            try simp only [Act.put, List.setIfInBounds_toArray, List.set_cons_zero, List.set_cons_succ]
            refine wpAnyH_ready (rs := [8]) (by kernel_rfl) (by simp) ?_
            refine AllReadyH.cons (o := ⟨some 40, _, _, _, _, _⟩) rfl (fun K' hK' => ?_) AllReadyH.nil
            refine stepw_held3 (by rfl) (.tmp 38) (.tmp 39) rfl rfl F38 rfl (F7.rd (n := 1) rfl (by decide)) HL8.out hHeld.2.2.2.2.2.2.1 ?_
            intro V40 wk4 F40 bb hfr hbk
            have hkn := hHeld.below HE.out bb
            have F10' := (hfr G10 (Array.getElem?_eq_some_iff.1 F10).1 (fun a n c e => d38_10 a n c e)).trans F10
            clear bb hfr hbk F38 F7
            clear F10
            have F10 := F10'
            clear F10'
            refine hK'.out _ _ hkn (fun _ => ?_)
            clear hK' K' hHeld
            have hHeld := hkn
            clear hkn
            try simp only [Act.put, List.setIfInBounds_toArray, List.set_cons_zero, List.set_cons_succ]
            refine wpAnyH_ready (rs := [11]) (by kernel_rfl) (by simp) ?_
            refine AllReadyH.cons (o := ⟨some 43, _, _, _, _, _⟩) rfl (fun K' hK' => ?_) AllReadyH.nil
            refine stepw_call (R := fun v w'' => v = .agg (bvs D).toArray ∧ Below _ _ w'') (by rfl) ?_ ((msum_any (cap := 1) (F40.rd) (by rw [List.length_append]; have := HKL.out; simp; omega) (row_all F10 (hHeld.2.2.2.1.mono hHeld.2.2.2.2.2.2.1)) (by simp) (by simp only [total, List.flatten_cons, List.flatten_nil, List.append_nil]; omega) hHeld.2.2.2.2.1).mono fun e w'' ⟨h1, h2⟩ => ⟨_, h1, by rw [show [l].flatten = l by simp, hmac_zero k l (by have := HKL.out; omega), ← HDE.out], h2⟩) ?_
            focus go_simp
            rintro v wv ⟨rfl, hb⟩
            have hkn := hHeld.later HE.out hb
            clear hb
            refine hK'.out _ _ hkn (fun _ => ?_)
            clear hK' K' hHeld
            have hHeld := hkn
            clear hkn
            try simp only [Act.put, List.setIfInBounds_toArray, List.set_cons_zero, List.set_cons_succ]
            refine wpAnyH_take (i := 13) (oi := ⟨some 45, _, _, _, _, _⟩) (v := .bool true) rfl (by kernel_rfl) (by kernel_rfl) (by kernel_rfl) (fun _ _ _ h => h) (.inl ⟨by rfl, fun w' hSw => ?_⟩) hHeld ?_
            focus (have hq' := hq w'; clear hq; clear hHeld; go_simp)
            try simp only [Act.put, List.setIfInBounds_toArray, List.set_cons_zero, List.set_cons_succ]
            refine wpAnyH_take (i := 14) (oi := ⟨some 46, _, _, _, _, _⟩) (v := .bool true) rfl (by kernel_rfl) (by kernel_rfl) (by kernel_rfl) (fun _ _ _ h => h) (.inl ⟨by rfl, fun w' hSw => ?_⟩) hHeld ?_
            focus (have hq' := hq w'; clear hq; clear hHeld; go_simp)
            try simp only [Act.put, List.setIfInBounds_toArray, List.set_cons_zero, List.set_cons_succ]
            refine wpAnyH_take (i := 15) (oi := ⟨some 6, _, _, _, _, _⟩) (v := .bool true) rfl (by kernel_rfl) (by kernel_rfl) (by kernel_rfl) (fun _ _ _ h => h) (.inl ⟨by rfl, fun w' hSw => ?_⟩) hHeld ?_
            focus (have hq' := hq w'; clear hq; clear hHeld; go_simp)
            try simp only [Act.put, List.setIfInBounds_toArray, List.set_cons_zero, List.set_cons_succ]
            refine wpAnyH_done (by kernel_rfl) ?_ _
            refine NoPanic.normal ?_
            have HBZ := Lib.hid hHeld.2.2.2.2.2.1
            clear hHeld hq
            go_wp2_with fail
            go_ret
            exact ⟨rfl, HBZ.out⟩
        · go_simp
          have hb : Below wk0.heap.size wk0 (wk0.alloc (.cells #[.int .u8 0] 5)) := (Below.refl _ _).alloc (Nat.le_refl _) _
          have hkn := hHeld.later HE.out hb
          have F4' := (hb.block _ (Array.getElem?_eq_some_iff.1 F4).1).trans F4
          have F7 : LitAt (wk0.alloc (.cells #[.int .u8 0] 5)) wk0.heap.size [0] := LitAt.new wk0 [0] #[.int .u8 0] rfl
          have g7 : w6.heap.size ≤ wk0.heap.size := hHeld.2.2.2.2.2.2.1
          have d4_7 : G4 ≠ wk0.heap.size := Nat.ne_of_lt (Array.getElem?_eq_some_iff.1 F4).1
          clear F4
          have F4 := F4'
          clear F4'
          clear hb
          generalize wk0.alloc (.cells #[.int .u8 0] 5) = wk1 at hkn F7 F4 ⊢
          obtain ⟨G7, hG⟩ : ∃ x, x = wk0.heap.size := ⟨_, rfl⟩
          rw [← hG] at F7 g7 d4_7 ⊢
          clear hG
          refine hK'.out _ _ hkn (fun _ => ?_)
          clear hK' K' hHeld
          have hHeld := hkn
          clear hkn
          try simp only [Act.put, List.setIfInBounds_toArray, List.set_cons_zero, List.set_cons_succ]
          refine wpAnyH_ready (rs := [6, 10]) (by kernel_rfl) (by simp) ?_
          refine AllReadyH.cons (o := ⟨some 38, _, _, _, _, _⟩) rfl (fun K' hK' => ?_) (AllReadyH.cons (o := ⟨some 42, _, _, _, _, _⟩) rfl (fun K' hK' => ?_) AllReadyH.nil)
          · have h4 : Held w6.heap.size wk1 (.slice (some ⟨G4, 0, none⟩) ([] : List UInt8).length 0) [] := .inr ⟨G4, 0, 0, rfl, Nat.le_refl _, Nat.zero_le _, g4, (Array.getElem?_eq_some_iff.1 F4).1, fun i hi => absurd hi (Nat.not_lt_zero _), fun i hi => absurd hi (Nat.not_lt_zero _)⟩
            refine stepw_held3 (by rfl) (.tmp 36) (.tmp 37) rfl rfl h4 rfl hHeld.2.2.1 HL6.out hHeld.2.2.2.2.2.2.1 ?_
            intro V38 wk2 F38 bb hfr hbk
            rw [List.nil_append] at F38
            have hkn := hHeld.below HE.out bb
            have F7' := F7.keep (hfr G7 F7.lt (fun a n c e => by cases e; exact d4_7))
            have d38_7 : ∀ a n c, V38 = .slice (some a) n c → a.block ≠ G7 := fun a n c e => by
              rcases hbk a n c e with ⟨a0, n0, c0, e0, hb⟩ | hb
              · cases e0; rw [hb]; exact d4_7
              · have := F7.lt; omega
            clear bb hfr hbk h4 F4
            clear F7
            have F7 := F7'
            clear F7'
            refine hK'.out _ _ hkn (fun _ => ?_)
            clear hK' K' hHeld
            have hHeld := hkn
            clear hkn
            try simp only [Act.put, List.setIfInBounds_toArray, List.set_cons_zero, List.set_cons_succ]
            refine wpAnyH_ready (rs := [8, 10]) (by kernel_rfl) (by simp) ?_
            refine AllReadyH.cons (o := ⟨some 40, _, _, _, _, _⟩) rfl (fun K' hK' => ?_) (AllReadyH.cons (o := ⟨some 42, _, _, _, _, _⟩) rfl (fun K' hK' => ?_) AllReadyH.nil)
            · refine stepw_held3 (by rfl) (.tmp 38) (.tmp 39) rfl rfl F38 rfl (F7.rd (n := 1) rfl (by decide)) HL8.out hHeld.2.2.2.2.2.2.1 ?_
              intro V40 wk3 F40 bb hfr hbk
              have hkn := hHeld.below HE.out bb
              clear bb hfr hbk F38 F7
              refine hK'.out _ _ hkn (fun _ => ?_)
              clear hK' K' hHeld
              have hHeld := hkn
              clear hkn
              try simp only [Act.put, List.setIfInBounds_toArray, List.set_cons_zero, List.set_cons_succ]
              refine wpAnyH_ready (rs := [10]) (by kernel_rfl) (by simp) ?_
              refine AllReadyH.cons (o := ⟨some 42, _, _, _, _, _⟩) rfl (fun K' hK' => ?_) AllReadyH.nil
              go_simp
              have hb : Below wk3.heap.size wk3 (wk3.alloc (.cells #[.slice q l.length c] 22)) := (Below.refl _ _).alloc (Nat.le_refl _) _
              have hkn := hHeld.later HE.out hb
              have F40' := F40.later hb
              have F10 : (wk3.alloc (.cells #[.slice q l.length c] 22)).heap[wk3.heap.size]? = some (.cells #[.slice q l.length c] 22 (0, 0)) := heap_alloc_new wk3 _
              have g10 : w6.heap.size ≤ wk3.heap.size := hHeld.2.2.2.2.2.2.1
              clear hb F40
              have F40 := F40'
              clear F40'
              generalize wk3.alloc (.cells #[.slice q l.length c] 22) = wk4 at hkn F40 F10 ⊢
              obtain ⟨G10, hG⟩ : ∃ x, x = wk3.heap.size := ⟨_, rfl⟩
              rw [← hG] at F10 g10 ⊢
              clear hG
              refine hK'.out _ _ hkn (fun _ => ?_)
              clear hK' K' hHeld
              have hHeld := hkn
              clear hkn
              try simp only [Act.put, List.setIfInBounds_toArray, List.set_cons_zero, List.set_cons_succ]
              refine wpAnyH_ready (rs := [11]) (by kernel_rfl) (by simp) ?_
              refine AllReadyH.cons (o := ⟨some 43, _, _, _, _, _⟩) rfl (fun K' hK' => ?_) AllReadyH.nil
              refine stepw_call (R := fun v w'' => v = .agg (bvs D).toArray ∧ Below _ _ w'') (by rfl) ?_ ((msum_any (cap := 1) (F40.rd) (by rw [List.length_append]; have := HKL.out; simp; omega) (row_all F10 (hHeld.2.2.2.1.mono hHeld.2.2.2.2.2.2.1)) (by simp) (by simp only [total, List.flatten_cons, List.flatten_nil, List.append_nil]; omega) hHeld.2.2.2.2.1).mono fun e w'' ⟨h1, h2⟩ => ⟨_, h1, by rw [show [l].flatten = l by simp, hmac_zero k l (by have := HKL.out; omega), ← HDE.out], h2⟩) ?_
              focus go_simp
              rintro v wv ⟨rfl, hb⟩
              have hkn := hHeld.later HE.out hb
              clear hb
              refine hK'.out _ _ hkn (fun _ => ?_)
              clear hK' K' hHeld
              have hHeld := hkn
              clear hkn
              try simp only [Act.put, List.setIfInBounds_toArray, List.set_cons_zero, List.set_cons_succ]
              refine wpAnyH_take (i := 13) (oi := ⟨some 45, _, _, _, _, _⟩) (v := .bool true) rfl (by kernel_rfl) (by kernel_rfl) (by kernel_rfl) (fun _ _ _ h => h) (.inl ⟨by rfl, fun w' hSw => ?_⟩) hHeld ?_
              focus (have hq' := hq w'; clear hq; clear hHeld; go_simp)
              try simp only [Act.put, List.setIfInBounds_toArray, List.set_cons_zero, List.set_cons_succ]
              refine wpAnyH_take (i := 14) (oi := ⟨some 46, _, _, _, _, _⟩) (v := .bool true) rfl (by kernel_rfl) (by kernel_rfl) (by kernel_rfl) (fun _ _ _ h => h) (.inl ⟨by rfl, fun w' hSw => ?_⟩) hHeld ?_
              focus (have hq' := hq w'; clear hq; clear hHeld; go_simp)
              try simp only [Act.put, List.setIfInBounds_toArray, List.set_cons_zero, List.set_cons_succ]
              refine wpAnyH_take (i := 15) (oi := ⟨some 6, _, _, _, _, _⟩) (v := .bool true) rfl (by kernel_rfl) (by kernel_rfl) (by kernel_rfl) (fun _ _ _ h => h) (.inl ⟨by rfl, fun w' hSw => ?_⟩) hHeld ?_
              focus (have hq' := hq w'; clear hq; clear hHeld; go_simp)
              try simp only [Act.put, List.setIfInBounds_toArray, List.set_cons_zero, List.set_cons_succ]
              refine wpAnyH_done (by kernel_rfl) ?_ _
              refine NoPanic.normal ?_
              have HBZ := Lib.hid hHeld.2.2.2.2.2.1
              clear hHeld hq
              go_wp2_with fail
              go_ret
              exact ⟨rfl, HBZ.out⟩
            · go_simp
              have hb : Below wk2.heap.size wk2 (wk2.alloc (.cells #[.slice q l.length c] 22)) := (Below.refl _ _).alloc (Nat.le_refl _) _
              have hkn := hHeld.later HE.out hb
              have F7' := F7.later hb
              have F38' := F38.later hb
              have F10 : (wk2.alloc (.cells #[.slice q l.length c] 22)).heap[wk2.heap.size]? = some (.cells #[.slice q l.length c] 22 (0, 0)) := heap_alloc_new wk2 _
              have g10 : w6.heap.size ≤ wk2.heap.size := hHeld.2.2.2.2.2.2.1
              have d7_10 : G7 ≠ wk2.heap.size := Nat.ne_of_lt F7.lt
              have d38_10 : ∀ a n c, V38 = .slice (some a) n c → a.block ≠ wk2.heap.size := fun a n c h => Nat.ne_of_lt (F38.lt a n c h)
              clear F7
              have F7 := F7'
              clear F7'
              clear F38
              have F38 := F38'
              clear F38'
              clear hb
              generalize wk2.alloc (.cells #[.slice q l.length c] 22) = wk3 at hkn F10 F7 F38 ⊢
              obtain ⟨G10, hG⟩ : ∃ x, x = wk2.heap.size := ⟨_, rfl⟩
              rw [← hG] at F10 g10 d7_10 d38_10 ⊢
              clear hG
              refine hK'.out _ _ hkn (fun _ => ?_)
              clear hK' K' hHeld
              have hHeld := hkn
              clear hkn
              try simp only [Act.put, List.setIfInBounds_toArray, List.set_cons_zero, List.set_cons_succ]
              refine wpAnyH_ready (rs := [8]) (by kernel_rfl) (by simp) ?_
              refine AllReadyH.cons (o := ⟨some 40, _, _, _, _, _⟩) rfl (fun K' hK' => ?_) AllReadyH.nil
              refine stepw_held3 (by rfl) (.tmp 38) (.tmp 39) rfl rfl F38 rfl (F7.rd (n := 1) rfl (by decide)) HL8.out hHeld.2.2.2.2.2.2.1 ?_
              intro V40 wk4 F40 bb hfr hbk
              have hkn := hHeld.below HE.out bb
              have F10' := (hfr G10 (Array.getElem?_eq_some_iff.1 F10).1 (fun a n c e => d38_10 a n c e)).trans F10
              clear bb hfr hbk F38 F7
              clear F10
              have F10 := F10'
              clear F10'
              refine hK'.out _ _ hkn (fun _ => ?_)
              clear hK' K' hHeld
              have hHeld := hkn
              clear hkn
              try simp only [Act.put, List.setIfInBounds_toArray, List.set_cons_zero, List.set_cons_succ]
              refine wpAnyH_ready (rs := [11]) (by kernel_rfl) (by simp) ?_
              refine AllReadyH.cons (o := ⟨some 43, _, _, _, _, _⟩) rfl (fun K' hK' => ?_) AllReadyH.nil
              refine stepw_call (R := fun v w'' => v = .agg (bvs D).toArray ∧ Below _ _ w'') (by rfl) ?_ ((msum_any (cap := 1) (F40.rd) (by rw [List.length_append]; have := HKL.out; simp; omega) (row_all F10 (hHeld.2.2.2.1.mono hHeld.2.2.2.2.2.2.1)) (by simp) (by simp only [total, List.flatten_cons, List.flatten_nil, List.append_nil]; omega) hHeld.2.2.2.2.1).mono fun e w'' ⟨h1, h2⟩ => ⟨_, h1, by rw [show [l].flatten = l by simp, hmac_zero k l (by have := HKL.out; omega), ← HDE.out], h2⟩) ?_
              focus go_simp
              rintro v wv ⟨rfl, hb⟩
              have hkn := hHeld.later HE.out hb
              clear hb
              refine hK'.out _ _ hkn (fun _ => ?_)
              clear hK' K' hHeld
              have hHeld := hkn
              clear hkn
              try simp only [Act.put, List.setIfInBounds_toArray, List.set_cons_zero, List.set_cons_succ]
              refine wpAnyH_take (i := 13) (oi := ⟨some 45, _, _, _, _, _⟩) (v := .bool true) rfl (by kernel_rfl) (by kernel_rfl) (by kernel_rfl) (fun _ _ _ h => h) (.inl ⟨by rfl, fun w' hSw => ?_⟩) hHeld ?_
              focus (have hq' := hq w'; clear hq; clear hHeld; go_simp)
              try simp only [Act.put, List.setIfInBounds_toArray, List.set_cons_zero, List.set_cons_succ]
              refine wpAnyH_take (i := 14) (oi := ⟨some 46, _, _, _, _, _⟩) (v := .bool true) rfl (by kernel_rfl) (by kernel_rfl) (by kernel_rfl) (fun _ _ _ h => h) (.inl ⟨by rfl, fun w' hSw => ?_⟩) hHeld ?_
              focus (have hq' := hq w'; clear hq; clear hHeld; go_simp)
              try simp only [Act.put, List.setIfInBounds_toArray, List.set_cons_zero, List.set_cons_succ]
              refine wpAnyH_take (i := 15) (oi := ⟨some 6, _, _, _, _, _⟩) (v := .bool true) rfl (by kernel_rfl) (by kernel_rfl) (by kernel_rfl) (fun _ _ _ h => h) (.inl ⟨by rfl, fun w' hSw => ?_⟩) hHeld ?_
              focus (have hq' := hq w'; clear hq; clear hHeld; go_simp)
              try simp only [Act.put, List.setIfInBounds_toArray, List.set_cons_zero, List.set_cons_succ]
              refine wpAnyH_done (by kernel_rfl) ?_ _
              refine NoPanic.normal ?_
              have HBZ := Lib.hid hHeld.2.2.2.2.2.1
              clear hHeld hq
              go_wp2_with fail
              go_ret
              exact ⟨rfl, HBZ.out⟩
          · go_simp
            have hb : Below wk1.heap.size wk1 (wk1.alloc (.cells #[.slice q l.length c] 22)) := (Below.refl _ _).alloc (Nat.le_refl _) _
            have hkn := hHeld.later HE.out hb
            have F4' := (hb.block _ (Array.getElem?_eq_some_iff.1 F4).1).trans F4
            have F7' := F7.later hb
            have F10 : (wk1.alloc (.cells #[.slice q l.length c] 22)).heap[wk1.heap.size]? = some (.cells #[.slice q l.length c] 22 (0, 0)) := heap_alloc_new wk1 _
            have g10 : w6.heap.size ≤ wk1.heap.size := hHeld.2.2.2.2.2.2.1
            have d4_10 : G4 ≠ wk1.heap.size := Nat.ne_of_lt (Array.getElem?_eq_some_iff.1 F4).1
            have d7_10 : G7 ≠ wk1.heap.size := Nat.ne_of_lt F7.lt
            clear F4
            have F4 := F4'
            clear F4'
            clear F7
            have F7 := F7'
            clear F7'
            clear hb
            generalize wk1.alloc (.cells #[.slice q l.length c] 22) = wk2 at hkn F10 F4 F7 ⊢
            obtain ⟨G10, hG⟩ : ∃ x, x = wk1.heap.size := ⟨_, rfl⟩
            rw [← hG] at F10 g10 d4_10 d7_10 ⊢
            clear hG
            refine hK'.out _ _ hkn (fun _ => ?_)
            clear hK' K' hHeld
            have hHeld := hkn
            clear hkn
            try simp only [Act.put, List.setIfInBounds_toArray, List.set_cons_zero, List.set_cons_succ]
            refine wpAnyH_ready (rs := [6]) (by kernel_rfl) (by simp) ?_
            refine AllReadyH.cons (o := ⟨some 38, _, _, _, _, _⟩) rfl (fun K' hK' => ?_) AllReadyH.nil
            have h4 : Held w6.heap.size wk2 (.slice (some ⟨G4, 0, none⟩) ([] : List UInt8).length 0) [] := .inr ⟨G4, 0, 0, rfl, Nat.le_refl _, Nat.zero_le _, g4, (Array.getElem?_eq_some_iff.1 F4).1, fun i hi => absurd hi (Nat.not_lt_zero _), fun i hi => absurd hi (Nat.not_lt_zero _)⟩
            refine stepw_held3 (by rfl) (.tmp 36) (.tmp 37) rfl rfl h4 rfl hHeld.2.2.1 HL6.out hHeld.2.2.2.2.2.2.1 ?_
            intro V38 wk3 F38 bb hfr hbk
            rw [List.nil_append] at F38
            have hkn := hHeld.below HE.out bb
            have F7' := F7.keep (hfr G7 F7.lt (fun a n c e => by cases e; exact d4_7))
            have d38_7 : ∀ a n c, V38 = .slice (some a) n c → a.block ≠ G7 := fun a n c e => by
              rcases hbk a n c e with ⟨a0, n0, c0, e0, hb⟩ | hb
              · cases e0; rw [hb]; exact d4_7
              · have := F7.lt; omega
            have F10' := (hfr G10 (Array.getElem?_eq_some_iff.1 F10).1 (fun a n c e => by cases e; exact d4_10)).trans F10
            have d38_10 : ∀ a n c, V38 = .slice (some a) n c → a.block ≠ G10 := fun a n c e => by
              rcases hbk a n c e with ⟨a0, n0, c0, e0, hb⟩ | hb
              · cases e0; rw [hb]; exact d4_10
              · have := (Array.getElem?_eq_some_iff.1 F10).1; omega
            clear bb hfr hbk h4 F4
            clear F7
            have F7 := F7'
            clear F7'
            clear F10
            have F10 := F10'
            clear F10'
            refine hK'.out _ _ hkn (fun _ => ?_)
            clear hK' K' hHeld
            have hHeld := hkn
            clear hkn
            try simp only [Act.put, List.setIfInBounds_toArray, List.set_cons_zero, List.set_cons_succ]
            refine wpAnyH_ready (rs := [8]) (by kernel_rfl) (by simp) ?_
            refine AllReadyH.cons (o := ⟨some 40, _, _, _, _, _⟩) rfl (fun K' hK' => ?_) AllReadyH.nil
            refine stepw_held3 (by rfl) (.tmp 38) (.tmp 39) rfl rfl F38 rfl (F7.rd (n := 1) rfl (by decide)) HL8.out hHeld.2.2.2.2.2.2.1 ?_
            intro V40 wk4 F40 bb hfr hbk
            have hkn := hHeld.below HE.out bb
            have F10' := (hfr G10 (Array.getElem?_eq_some_iff.1 F10).1 (fun a n c e => d38_10 a n c e)).trans F10
            clear bb hfr hbk F38 F7
            clear F10
            have F10 := F10'
            clear F10'
            refine hK'.out _ _ hkn (fun _ => ?_)
            clear hK' K' hHeld
            have hHeld := hkn
            clear hkn
            try simp only [Act.put, List.setIfInBounds_toArray, List.set_cons_zero, List.set_cons_succ]
            refine wpAnyH_ready (rs := [11]) (by kernel_rfl) (by simp) ?_
            refine AllReadyH.cons (o := ⟨some 43, _, _, _, _, _⟩) rfl (fun K' hK' => ?_) AllReadyH.nil
            refine stepw_call (R := fun v w'' => v = .agg (bvs D).toArray ∧ Below _ _ w'') (by rfl) ?_ ((msum_any (cap := 1) (F40.rd) (by rw [List.length_append]; have := HKL.out; simp; omega) (row_all F10 (hHeld.2.2.2.1.mono hHeld.2.2.2.2.2.2.1)) (by simp) (by simp only [total, List.flatten_cons, List.flatten_nil, List.append_nil]; omega) hHeld.2.2.2.2.1).mono fun e w'' ⟨h1, h2⟩ => ⟨_, h1, by rw [show [l].flatten = l by simp, hmac_zero k l (by have := HKL.out; omega), ← HDE.out], h2⟩) ?_
            focus go_simp
            rintro v wv ⟨rfl, hb⟩
            have hkn := hHeld.later HE.out hb
            clear hb
            refine hK'.out _ _ hkn (fun _ => ?_)
            clear hK' K' hHeld
            have hHeld := hkn
            clear hkn
            try simp only [Act.put, List.setIfInBounds_toArray, List.set_cons_zero, List.set_cons_succ]
            refine wpAnyH_take (i := 13) (oi := ⟨some 45, _, _, _, _, _⟩) (v := .bool true) rfl (by kernel_rfl) (by kernel_rfl) (by kernel_rfl) (fun _ _ _ h => h) (.inl ⟨by rfl, fun w' hSw => ?_⟩) hHeld ?_
            focus (have hq' := hq w'; clear hq; clear hHeld; go_simp)
            try simp only [Act.put, List.setIfInBounds_toArray, List.set_cons_zero, List.set_cons_succ]
            refine wpAnyH_take (i := 14) (oi := ⟨some 46, _, _, _, _, _⟩) (v := .bool true) rfl (by kernel_rfl) (by kernel_rfl) (by kernel_rfl) (fun _ _ _ h => h) (.inl ⟨by rfl, fun w' hSw => ?_⟩) hHeld ?_
            focus (have hq' := hq w'; clear hq; clear hHeld; go_simp)
            try simp only [Act.put, List.setIfInBounds_toArray, List.set_cons_zero, List.set_cons_succ]
            refine wpAnyH_take (i := 15) (oi := ⟨some 6, _, _, _, _, _⟩) (v := .bool true) rfl (by kernel_rfl) (by kernel_rfl) (by kernel_rfl) (fun _ _ _ h => h) (.inl ⟨by rfl, fun w' hSw => ?_⟩) hHeld ?_
            focus (have hq' := hq w'; clear hq; clear hHeld; go_simp)
            try simp only [Act.put, List.setIfInBounds_toArray, List.set_cons_zero, List.set_cons_succ]
            refine wpAnyH_done (by kernel_rfl) ?_ _
            refine NoPanic.normal ?_
            have HBZ := Lib.hid hHeld.2.2.2.2.2.1
            clear hHeld hq
            go_wp2_with fail
            go_ret
            exact ⟨rfl, HBZ.out⟩
        · go_simp
          have hb : Below wk0.heap.size wk0 (wk0.alloc (.cells #[.slice q l.length c] 22)) := (Below.refl _ _).alloc (Nat.le_refl _) _
          have hkn := hHeld.later HE.out hb
          have F4' := (hb.block _ (Array.getElem?_eq_some_iff.1 F4).1).trans F4
          have F10 : (wk0.alloc (.cells #[.slice q l.length c] 22)).heap[wk0.heap.size]? = some (.cells #[.slice q l.length c] 22 (0, 0)) := heap_alloc_new wk0 _
          have g10 : w6.heap.size ≤ wk0.heap.size := hHeld.2.2.2.2.2.2.1
          have d4_10 : G4 ≠ wk0.heap.size := Nat.ne_of_lt (Array.getElem?_eq_some_iff.1 F4).1
          clear F4
          have F4 := F4'
          clear F4'
          clear hb
          generalize wk0.alloc (.cells #[.slice q l.length c] 22) = wk1 at hkn F10 F4 ⊢
          obtain ⟨G10, hG⟩ : ∃ x, x = wk0.heap.size := ⟨_, rfl⟩
          rw [← hG] at F10 g10 d4_10 ⊢
          clear hG
          refine hK'.out _ _ hkn (fun _ => ?_)
          clear hK' K' hHeld
          have hHeld := hkn
          clear hkn
          try simp only [Act.put, List.setIfInBounds_toArray, List.set_cons_zero, List.set_cons_succ]
          refine wpAnyH_ready (rs := [6, 7]) (by kernel_rfl) (by simp) ?_
          refine AllReadyH.cons (o := ⟨some 38, _, _, _, _, _⟩) rfl (fun K' hK' => ?_) (AllReadyH.cons (o := ⟨some 39, _, _, _, _, _⟩) rfl (fun K' hK' => ?_) AllReadyH.nil)
          · have h4 : Held w6.heap.size wk1 (.slice (some ⟨G4, 0, none⟩) ([] : List UInt8).length 0) [] := .inr ⟨G4, 0, 0, rfl, Nat.le_refl _, Nat.zero_le _, g4, (Array.getElem?_eq_some_iff.1 F4).1, fun i hi => absurd hi (Nat.not_lt_zero _), fun i hi => absurd hi (Nat.not_lt_zero _)⟩
            refine stepw_held3 (by rfl) (.tmp 36) (.tmp 37) rfl rfl h4 rfl hHeld.2.2.1 HL6.out hHeld.2.2.2.2.2.2.1 ?_
            intro V38 wk2 F38 bb hfr hbk
            rw [List.nil_append] at F38
            have hkn := hHeld.below HE.out bb
            have F10' := (hfr G10 (Array.getElem?_eq_some_iff.1 F10).1 (fun a n c e => by cases e; exact d4_10)).trans F10
            have d38_10 : ∀ a n c, V38 = .slice (some a) n c → a.block ≠ G10 := fun a n c e => by
              rcases hbk a n c e with ⟨a0, n0, c0, e0, hb⟩ | hb
              · cases e0; rw [hb]; exact d4_10
              · have := (Array.getElem?_eq_some_iff.1 F10).1; omega
            clear bb hfr hbk h4 F4
            clear F10
            have F10 := F10'
            clear F10'
            refine hK'.out _ _ hkn (fun _ => ?_)
            clear hK' K' hHeld
            have hHeld := hkn
            clear hkn
            try simp only [Act.put, List.setIfInBounds_toArray, List.set_cons_zero, List.set_cons_succ]
            refine wpAnyH_ready (rs := [7]) (by kernel_rfl) (by simp) ?_
            refine AllReadyH.cons (o := ⟨some 39, _, _, _, _, _⟩) rfl (fun K' hK' => ?_) AllReadyH.nil
            go_simp
            have hb : Below wk2.heap.size wk2 (wk2.alloc (.cells #[.int .u8 0] 5)) := (Below.refl _ _).alloc (Nat.le_refl _) _
            have hkn := hHeld.later HE.out hb
            have F10' := (hb.block _ (Array.getElem?_eq_some_iff.1 F10).1).trans F10
            have F38' := F38.later hb
            have F7 : LitAt (wk2.alloc (.cells #[.int .u8 0] 5)) wk2.heap.size [0] := LitAt.new wk2 [0] #[.int .u8 0] rfl
            have g7 : w6.heap.size ≤ wk2.heap.size := hHeld.2.2.2.2.2.2.1
            have d10_7 : G10 ≠ wk2.heap.size := Nat.ne_of_lt (Array.getElem?_eq_some_iff.1 F10).1
            have d38_7 : ∀ a n c, V38 = .slice (some a) n c → a.block ≠ wk2.heap.size := fun a n c h => Nat.ne_of_lt (F38.lt a n c h)
            clear F10
            have F10 := F10'
            clear F10'
            clear F38
            have F38 := F38'
            clear F38'
            clear hb
            generalize wk2.alloc (.cells #[.int .u8 0] 5) = wk3 at hkn F7 F10 F38 ⊢
            obtain ⟨G7, hG⟩ : ∃ x, x = wk2.heap.size := ⟨_, rfl⟩
            rw [← hG] at F7 g7 d10_7 d38_7 ⊢
            clear hG
            refine hK'.out _ _ hkn (fun _ => ?_)
            clear hK' K' hHeld
            have hHeld := hkn
            clear hkn
            try simp only [Act.put, List.setIfInBounds_toArray, List.set_cons_zero, List.set_cons_succ]
            refine wpAnyH_ready (rs := [8]) (by kernel_rfl) (by simp) ?_
            refine AllReadyH.cons (o := ⟨some 40, _, _, _, _, _⟩) rfl (fun K' hK' => ?_) AllReadyH.nil
            refine stepw_held3 (by rfl) (.tmp 38) (.tmp 39) rfl rfl F38 rfl (F7.rd (n := 1) rfl (by decide)) HL8.out hHeld.2.2.2.2.2.2.1 ?_
            intro V40 wk4 F40 bb hfr hbk
            have hkn := hHeld.below HE.out bb
            have F10' := (hfr G10 (Array.getElem?_eq_some_iff.1 F10).1 (fun a n c e => d38_10 a n c e)).trans F10
            clear bb hfr hbk F38 F7
            clear F10
            have F10 := F10'
            clear F10'
            refine hK'.out _ _ hkn (fun _ => ?_)
            clear hK' K' hHeld
            have hHeld := hkn
            clear hkn
            try simp only [Act.put, List.setIfInBounds_toArray, List.set_cons_zero, List.set_cons_succ]
            refine wpAnyH_ready (rs := [11]) (by kernel_rfl) (by simp) ?_
            refine AllReadyH.cons (o := ⟨some 43, _, _, _, _, _⟩) rfl (fun K' hK' => ?_) AllReadyH.nil
            refine stepw_call (R := fun v w'' => v = .agg (bvs D).toArray ∧ Below _ _ w'') (by rfl) ?_ ((msum_any (cap := 1) (F40.rd) (by rw [List.length_append]; have := HKL.out; simp; omega) (row_all F10 (hHeld.2.2.2.1.mono hHeld.2.2.2.2.2.2.1)) (by simp) (by simp only [total, List.flatten_cons, List.flatten_nil, List.append_nil]; omega) hHeld.2.2.2.2.1).mono fun e w'' ⟨h1, h2⟩ => ⟨_, h1, by rw [show [l].flatten = l by simp, hmac_zero k l (by have := HKL.out; omega), ← HDE.out], h2⟩) ?_
            focus go_simp
            rintro v wv ⟨rfl, hb⟩
            have hkn := hHeld.later HE.out hb
            clear hb
            refine hK'.out _ _ hkn (fun _ => ?_)
            clear hK' K' hHeld
            have hHeld := hkn
            clear hkn
            try simp only [Act.put, List.setIfInBounds_toArray, List.set_cons_zero, List.set_cons_succ]
            refine wpAnyH_take (i := 13) (oi := ⟨some 45, _, _, _, _, _⟩) (v := .bool true) rfl (by kernel_rfl) (by kernel_rfl) (by kernel_rfl) (fun _ _ _ h => h) (.inl ⟨by rfl, fun w' hSw => ?_⟩) hHeld ?_
            focus (have hq' := hq w'; clear hq; clear hHeld; go_simp)
            try simp only [Act.put, List.setIfInBounds_toArray, List.set_cons_zero, List.set_cons_succ]
            refine wpAnyH_take (i := 14) (oi := ⟨some 46, _, _, _, _, _⟩) (v := .bool true) rfl (by kernel_rfl) (by kernel_rfl) (by kernel_rfl) (fun _ _ _ h => h) (.inl ⟨by rfl, fun w' hSw => ?_⟩) hHeld ?_
            focus (have hq' := hq w'; clear hq; clear hHeld; go_simp)
            try simp only [Act.put, List.setIfInBounds_toArray, List.set_cons_zero, List.set_cons_succ]
            refine wpAnyH_take (i := 15) (oi := ⟨some 6, _, _, _, _, _⟩) (v := .bool true) rfl (by kernel_rfl) (by kernel_rfl) (by kernel_rfl) (fun _ _ _ h => h) (.inl ⟨by rfl, fun w' hSw => ?_⟩) hHeld ?_
            focus (have hq' := hq w'; clear hq; clear hHeld; go_simp)
            try simp only [Act.put, List.setIfInBounds_toArray, List.set_cons_zero, List.set_cons_succ]
            refine wpAnyH_done (by kernel_rfl) ?_ _
            refine NoPanic.normal ?_
            have HBZ := Lib.hid hHeld.2.2.2.2.2.1
            clear hHeld hq
            go_wp2_with fail
            go_ret
            exact ⟨rfl, HBZ.out⟩
          · go_simp
            have hb : Below wk1.heap.size wk1 (wk1.alloc (.cells #[.int .u8 0] 5)) := (Below.refl _ _).alloc (Nat.le_refl _) _
            have hkn := hHeld.later HE.out hb
            have F4' := (hb.block _ (Array.getElem?_eq_some_iff.1 F4).1).trans F4
            have F10' := (hb.block _ (Array.getElem?_eq_some_iff.1 F10).1).trans F10
            have F7 : LitAt (wk1.alloc (.cells #[.int .u8 0] 5)) wk1.heap.size [0] := LitAt.new wk1 [0] #[.int .u8 0] rfl
            have g7 : w6.heap.size ≤ wk1.heap.size := hHeld.2.2.2.2.2.2.1
            have d4_7 : G4 ≠ wk1.heap.size := Nat.ne_of_lt (Array.getElem?_eq_some_iff.1 F4).1
            have d10_7 : G10 ≠ wk1.heap.size := Nat.ne_of_lt (Array.getElem?_eq_some_iff.1 F10).1
            clear F4
            have F4 := F4'
            clear F4'
            clear F10
            have F10 := F10'
            clear F10'
            clear hb
            generalize wk1.alloc (.cells #[.int .u8 0] 5) = wk2 at hkn F7 F4 F10 ⊢
            obtain ⟨G7, hG⟩ : ∃ x, x = wk1.heap.size := ⟨_, rfl⟩
            rw [← hG] at F7 g7 d4_7 d10_7 ⊢
            clear hG
            refine hK'.out _ _ hkn (fun _ => ?_)
            clear hK' K' hHeld
            have hHeld := hkn
            clear hkn
            try simp only [Act.put, List.setIfInBounds_toArray, List.set_cons_zero, List.set_cons_succ]
            refine wpAnyH_ready (rs := [6]) (by kernel_rfl) (by simp) ?_
            refine AllReadyH.cons (o := ⟨some 38, _, _, _, _, _⟩) rfl (fun K' hK' => ?_) AllReadyH.nil
            have h4 : Held w6.heap.size wk2 (.slice (some ⟨G4, 0, none⟩) ([] : List UInt8).length 0) [] := .inr ⟨G4, 0, 0, rfl, Nat.le_refl _, Nat.zero_le _, g4, (Array.getElem?_eq_some_iff.1 F4).1, fun i hi => absurd hi (Nat.not_lt_zero _), fun i hi => absurd hi (Nat.not_lt_zero _)⟩
            refine stepw_held3 (by rfl) (.tmp 36) (.tmp 37) rfl rfl h4 rfl hHeld.2.2.1 HL6.out hHeld.2.2.2.2.2.2.1 ?_
            intro V38 wk3 F38 bb hfr hbk
            rw [List.nil_append] at F38
            have hkn := hHeld.below HE.out bb
            have F7' := F7.keep (hfr G7 F7.lt (fun a n c e => by cases e; exact d4_7))
            have d38_7 : ∀ a n c, V38 = .slice (some a) n c → a.block ≠ G7 := fun a n c e => by
              rcases hbk a n c e with ⟨a0, n0, c0, e0, hb⟩ | hb
              · cases e0; rw [hb]; exact d4_7
              · have := F7.lt; omega
            have F10' := (hfr G10 (Array.getElem?_eq_some_iff.1 F10).1 (fun a n c e => by cases e; exact d4_10)).trans F10
            have d38_10 : ∀ a n c, V38 = .slice (some a) n c → a.block ≠ G10 := fun a n c e => by
              rcases hbk a n c e with ⟨a0, n0, c0, e0, hb⟩ | hb
              · cases e0; rw [hb]; exact d4_10
              · have := (Array.getElem?_eq_some_iff.1 F10).1; omega
            clear bb hfr hbk h4 F4
            clear F7
            have F7 := F7'
            clear F7'
            clear F10
            have F10 := F10'
            clear F10'
            refine hK'.out _ _ hkn (fun _ => ?_)
            clear hK' K' hHeld
            have hHeld := hkn
            clear hkn
            try simp only [Act.put, List.setIfInBounds_toArray, List.set_cons_zero, List.set_cons_succ]
            refine wpAnyH_ready (rs := [8]) (by kernel_rfl) (by simp) ?_
            refine AllReadyH.cons (o := ⟨some 40, _, _, _, _, _⟩) rfl (fun K' hK' => ?_) AllReadyH.nil
            refine stepw_held3 (by rfl) (.tmp 38) (.tmp 39) rfl rfl F38 rfl (F7.rd (n := 1) rfl (by decide)) HL8.out hHeld.2.2.2.2.2.2.1 ?_
            intro V40 wk4 F40 bb hfr hbk
            have hkn := hHeld.below HE.out bb
            have F10' := (hfr G10 (Array.getElem?_eq_some_iff.1 F10).1 (fun a n c e => d38_10 a n c e)).trans F10
            clear bb hfr hbk F38 F7
            clear F10
            have F10 := F10'
            clear F10'
            refine hK'.out _ _ hkn (fun _ => ?_)
            clear hK' K' hHeld
            have hHeld := hkn
            clear hkn
            try simp only [Act.put, List.setIfInBounds_toArray, List.set_cons_zero, List.set_cons_succ]
            refine wpAnyH_ready (rs := [11]) (by kernel_rfl) (by simp) ?_
            refine AllReadyH.cons (o := ⟨some 43, _, _, _, _, _⟩) rfl (fun K' hK' => ?_) AllReadyH.nil
            refine stepw_call (R := fun v w'' => v = .agg (bvs D).toArray ∧ Below _ _ w'') (by rfl) ?_ ((msum_any (cap := 1) (F40.rd) (by rw [List.length_append]; have := HKL.out; simp; omega) (row_all F10 (hHeld.2.2.2.1.mono hHeld.2.2.2.2.2.2.1)) (by simp) (by simp only [total, List.flatten_cons, List.flatten_nil, List.append_nil]; omega) hHeld.2.2.2.2.1).mono fun e w'' ⟨h1, h2⟩ => ⟨_, h1, by rw [show [l].flatten = l by simp, hmac_zero k l (by have := HKL.out; omega), ← HDE.out], h2⟩) ?_
            focus go_simp
            rintro v wv ⟨rfl, hb⟩
            have hkn := hHeld.later HE.out hb
            clear hb
            refine hK'.out _ _ hkn (fun _ => ?_)
            clear hK' K' hHeld
            have hHeld := hkn
            clear hkn
            try simp only [Act.put, List.setIfInBounds_toArray, List.set_cons_zero, List.set_cons_succ]
            refine wpAnyH_take (i := 13) (oi := ⟨some 45, _, _, _, _, _⟩) (v := .bool true) rfl (by kernel_rfl) (by kernel_rfl) (by kernel_rfl) (fun _ _ _ h => h) (.inl ⟨by rfl, fun w' hSw => ?_⟩) hHeld ?_
            focus (have hq' := hq w'; clear hq; clear hHeld; go_simp)
            try simp only [Act.put, List.setIfInBounds_toArray, List.set_cons_zero, List.set_cons_succ]
            refine wpAnyH_take (i := 14) (oi := ⟨some 46, _, _, _, _, _⟩) (v := .bool true) rfl (by kernel_rfl) (by kernel_rfl) (by kernel_rfl) (fun _ _ _ h => h) (.inl ⟨by rfl, fun w' hSw => ?_⟩) hHeld ?_
            focus (have hq' := hq w'; clear hq; clear hHeld; go_simp)
            try simp only [Act.put, List.setIfInBounds_toArray, List.set_cons_zero, List.set_cons_succ]
            refine wpAnyH_take (i := 15) (oi := ⟨some 6, _, _, _, _, _⟩) (v := .bool true) rfl (by kernel_rfl) (by kernel_rfl) (by kernel_rfl) (fun _ _ _ h => h) (.inl ⟨by rfl, fun w' hSw => ?_⟩) hHeld ?_
            focus (have hq' := hq w'; clear hq; clear hHeld; go_simp)
            try simp only [Act.put, List.setIfInBounds_toArray, List.set_cons_zero, List.set_cons_succ]
            refine wpAnyH_done (by kernel_rfl) ?_ _
            refine NoPanic.normal ?_
            have HBZ := Lib.hid hHeld.2.2.2.2.2.1
            clear hHeld hq
            go_wp2_with fail
            go_ret
            exact ⟨rfl, HBZ.out⟩
      · go_simp
        have hb : Below wst.heap.size wst (wst.alloc (.cells #[.int .u8 0] 5)) := (Below.refl _ _).alloc (Nat.le_refl _) _
        have hkn := hHeld.later HE.out hb
        have F7 : LitAt (wst.alloc (.cells #[.int .u8 0] 5)) wst.heap.size [0] := LitAt.new wst [0] #[.int .u8 0] rfl
        have g7 : w6.heap.size ≤ wst.heap.size := hHeld.2.2.2.2.2.2.1
        clear hb
        generalize wst.alloc (.cells #[.int .u8 0] 5) = wk0 at hkn F7 ⊢
        obtain ⟨G7, hG⟩ : ∃ x, x = wst.heap.size := ⟨_, rfl⟩
        rw [← hG] at F7 g7 ⊢
        clear hG
        refine hK'.out _ _ hkn (fun _ => ?_)
        clear hK' K' hHeld
        have hHeld := hkn
        clear hkn
        try simp only [Act.put, List.setIfInBounds_toArray, List.set_cons_zero, List.set_cons_succ]
        refine wpAnyH_ready (rs := [4, 10]) (by kernel_rfl) (by simp) ?_
        refine AllReadyH.cons (o := ⟨some 36, _, _, _, _, _⟩) rfl (fun K' hK' => ?_) (AllReadyH.cons (o := ⟨some 42, _, _, _, _, _⟩) rfl (fun K' hK' => ?_) AllReadyH.nil)
        · go_simp
          have hb : Below wk0.heap.size wk0 (wk0.alloc (.cells #[] 5)) := (Below.refl _ _).alloc (Nat.le_refl _) _
          have hkn := hHeld.later HE.out hb
          have F7' := F7.later hb
          have F4 : (wk0.alloc (.cells #[] 5)).heap[wk0.heap.size]? = some (.cells #[] 5 (0, 0)) := heap_alloc_new wk0 _
          have g4 : w6.heap.size ≤ wk0.heap.size := hHeld.2.2.2.2.2.2.1
          have d7_4 : G7 ≠ wk0.heap.size := Nat.ne_of_lt F7.lt
          clear F7
          have F7 := F7'
          clear F7'
          clear hb
          generalize wk0.alloc (.cells #[] 5) = wk1 at hkn F4 F7 ⊢
          obtain ⟨G4, hG⟩ : ∃ x, x = wk0.heap.size := ⟨_, rfl⟩
          rw [← hG] at F4 g4 d7_4 ⊢
          clear hG
          refine hK'.out _ _ hkn (fun _ => ?_)
          clear hK' K' hHeld
          have hHeld := hkn
          clear hkn
          try simp only [Act.put, List.setIfInBounds_toArray, List.set_cons_zero, List.set_cons_succ]
          refine wpAnyH_ready (rs := [6, 10]) (by kernel_rfl) (by simp) ?_
          refine AllReadyH.cons (o := ⟨some 38, _, _, _, _, _⟩) rfl (fun K' hK' => ?_) (AllReadyH.cons (o := ⟨some 42, _, _, _, _, _⟩) rfl (fun K' hK' => ?_) AllReadyH.nil)
          · have h4 : Held w6.heap.size wk1 (.slice (some ⟨G4, 0, none⟩) ([] : List UInt8).length 0) [] := .inr ⟨G4, 0, 0, rfl, Nat.le_refl _, Nat.zero_le _, g4, (Array.getElem?_eq_some_iff.1 F4).1, fun i hi => absurd hi (Nat.not_lt_zero _), fun i hi => absurd hi (Nat.not_lt_zero _)⟩
            refine stepw_held3 (by rfl) (.tmp 36) (.tmp 37) rfl rfl h4 rfl hHeld.2.2.1 HL6.out hHeld.2.2.2.2.2.2.1 ?_
            intro V38 wk2 F38 bb hfr hbk
            rw [List.nil_append] at F38
            have hkn := hHeld.below HE.out bb
            have F7' := F7.keep (hfr G7 F7.lt (fun a n c e => by cases e; exact (Ne.symm d7_4)))
            have d38_7 : ∀ a n c, V38 = .slice (some a) n c → a.block ≠ G7 := fun a n c e => by
              rcases hbk a n c e with ⟨a0, n0, c0, e0, hb⟩ | hb
              · cases e0; rw [hb]; exact (Ne.symm d7_4)
              · have := F7.lt; omega
            clear bb hfr hbk h4 F4
            clear F7
            have F7 := F7'
            clear F7'
            refine hK'.out _ _ hkn (fun _ => ?_)
            clear hK' K' hHeld
            have hHeld := hkn
            clear hkn
            try simp only [Act.put, List.setIfInBounds_toArray, List.set_cons_zero, List.set_cons_succ]
            refine wpAnyH_ready (rs := [8, 10]) (by kernel_rfl) (by simp) ?_
            refine AllReadyH.cons (o := ⟨some 40, _, _, _, _, _⟩) rfl (fun K' hK' => ?_) (AllReadyH.cons (o := ⟨some 42, _, _, _, _, _⟩) rfl (fun K' hK' => ?_) AllReadyH.nil)
            · refine stepw_held3 (by rfl) (.tmp 38) (.tmp 39) rfl rfl F38 rfl (F7.rd (n := 1) rfl (by decide)) HL8.out hHeld.2.2.2.2.2.2.1 ?_
              intro V40 wk3 F40 bb hfr hbk
              have hkn := hHeld.below HE.out bb
              clear bb hfr hbk F38 F7
              refine hK'.out _ _ hkn (fun _ => ?_)
              clear hK' K' hHeld
              have hHeld := hkn
              clear hkn
              try simp only [Act.put, List.setIfInBounds_toArray, List.set_cons_zero, List.set_cons_succ]
              refine wpAnyH_ready (rs := [10]) (by kernel_rfl) (by simp) ?_
              refine AllReadyH.cons (o := ⟨some 42, _, _, _, _, _⟩) rfl (fun K' hK' => ?_) AllReadyH.nil
              go_simp
              have hb : Below wk3.heap.size wk3 (wk3.alloc (.cells #[.slice q l.length c] 22)) := (Below.refl _ _).alloc (Nat.le_refl _) _
              have hkn := hHeld.later HE.out hb
              have F40' := F40.later hb
              have F10 : (wk3.alloc (.cells #[.slice q l.length c] 22)).heap[wk3.heap.size]? = some (.cells #[.slice q l.length c] 22 (0, 0)) := heap_alloc_new wk3 _
              have g10 : w6.heap.size ≤ wk3.heap.size := hHeld.2.2.2.2.2.2.1
              clear hb F40
              have F40 := F40'
              clear F40'
              generalize wk3.alloc (.cells #[.slice q l.length c] 22) = wk4 at hkn F40 F10 ⊢
              obtain ⟨G10, hG⟩ : ∃ x, x = wk3.heap.size := ⟨_, rfl⟩
              rw [← hG] at F10 g10 ⊢
              clear hG
              refine hK'.out _ _ hkn (fun _ => ?_)
              clear hK' K' hHeld
              have hHeld := hkn
              clear hkn
              try simp only [Act.put, List.setIfInBounds_toArray, List.set_cons_zero, List.set_cons_succ]
              refine wpAnyH_ready (rs := [11]) (by kernel_rfl) (by simp) ?_
              refine AllReadyH.cons (o := ⟨some 43, _, _, _, _, _⟩) rfl (fun K' hK' => ?_) AllReadyH.nil
              refine stepw_call (R := fun v w'' => v = .agg (bvs D).toArray ∧ Below _ _ w'') (by rfl) ?_ ((msum_any (cap := 1) (F40.rd) (by rw [List.length_append]; have := HKL.out; simp; omega) (row_all F10 (hHeld.2.2.2.1.mono hHeld.2.2.2.2.2.2.1)) (by simp) (by simp only [total, List.flatten_cons, List.flatten_nil, List.append_nil]; omega) hHeld.2.2.2.2.1).mono fun e w'' ⟨h1, h2⟩ => ⟨_, h1, by rw [show [l].flatten = l by simp, hmac_zero k l (by have := HKL.out; omega), ← HDE.out], h2⟩) ?_
              focus go_simp
              rintro v wv ⟨rfl, hb⟩
              have hkn := hHeld.later HE.out hb
              clear hb
              refine hK'.out _ _ hkn (fun _ => ?_)
              clear hK' K' hHeld
              have hHeld := hkn
              clear hkn
              try simp only [Act.put, List.setIfInBounds_toArray, List.set_cons_zero, List.set_cons_succ]
              refine wpAnyH_take (i := 13) (oi := ⟨some 45, _, _, _, _, _⟩) (v := .bool true) rfl (by kernel_rfl) (by kernel_rfl) (by kernel_rfl) (fun _ _ _ h => h) (.inl ⟨by rfl, fun w' hSw => ?_⟩) hHeld ?_
              focus (have hq' := hq w'; clear hq; clear hHeld; go_simp)
              try simp only [Act.put, List.setIfInBounds_toArray, List.set_cons_zero, List.set_cons_succ]
              refine wpAnyH_take (i := 14) (oi := ⟨some 46, _, _, _, _, _⟩) (v := .bool true) rfl (by kernel_rfl) (by kernel_rfl) (by kernel_rfl) (fun _ _ _ h => h) (.inl ⟨by rfl, fun w' hSw => ?_⟩) hHeld ?_
              focus (have hq' := hq w'; clear hq; clear hHeld; go_simp)
              try simp only [Act.put, List.setIfInBounds_toArray, List.set_cons_zero, List.set_cons_succ]
              refine wpAnyH_take (i := 15) (oi := ⟨some 6, _, _, _, _, _⟩) (v := .bool true) rfl (by kernel_rfl) (by kernel_rfl) (by kernel_rfl) (fun _ _ _ h => h) (.inl ⟨by rfl, fun w' hSw => ?_⟩) hHeld ?_
              focus (have hq' := hq w'; clear hq; clear hHeld; go_simp)
              try simp only [Act.put, List.setIfInBounds_toArray, List.set_cons_zero, List.set_cons_succ]
              refine wpAnyH_done (by kernel_rfl) ?_ _
              refine NoPanic.normal ?_
              have HBZ := Lib.hid hHeld.2.2.2.2.2.1
              clear hHeld hq
              go_wp2_with fail
              go_ret
              exact ⟨rfl, HBZ.out⟩
            · go_simp
              have hb : Below wk2.heap.size wk2 (wk2.alloc (.cells #[.slice q l.length c] 22)) := (Below.refl _ _).alloc (Nat.le_refl _) _
              have hkn := hHeld.later HE.out hb
              have F7' := F7.later hb
              have F38' := F38.later hb
              have F10 : (wk2.alloc (.cells #[.slice q l.length c] 22)).heap[wk2.heap.size]? = some (.cells #[.slice q l.length c] 22 (0, 0)) := heap_alloc_new wk2 _
              have g10 : w6.heap.size ≤ wk2.heap.size := hHeld.2.2.2.2.2.2.1
              have d7_10 : G7 ≠ wk2.heap.size := Nat.ne_of_lt F7.lt
              have d38_10 : ∀ a n c, V38 = .slice (some a) n c → a.block ≠ wk2.heap.size := fun a n c h => Nat.ne_of_lt (F38.lt a n c h)
              clear F7
              have F7 := F7'
              clear F7'
              clear F38
              have F38 := F38'
              clear F38'
              clear hb
              generalize wk2.alloc (.cells #[.slice q l.length c] 22) = wk3 at hkn F10 F7 F38 ⊢
              obtain ⟨G10, hG⟩ : ∃ x, x = wk2.heap.size := ⟨_, rfl⟩
              rw [← hG] at F10 g10 d7_10 d38_10 ⊢
              clear hG
              refine hK'.out _ _ hkn (fun _ => ?_)
              clear hK' K' hHeld
              have hHeld := hkn
              clear hkn
              try simp only [Act.put, List.setIfInBounds_toArray, List.set_cons_zero, List.set_cons_succ]
              refine wpAnyH_ready (rs := [8]) (by kernel_rfl) (by simp) ?_
              refine AllReadyH.cons (o := ⟨some 40, _, _, _, _, _⟩) rfl (fun K' hK' => ?_) AllReadyH.nil
              refine stepw_held3 (by rfl) (.tmp 38) (.tmp 39) rfl rfl F38 rfl (F7.rd (n := 1) rfl (by decide)) HL8.out hHeld.2.2.2.2.2.2.1 ?_
              intro V40 wk4 F40 bb hfr hbk
              have hkn := hHeld.below HE.out bb
              have F10' := (hfr G10 (Array.getElem?_eq_some_iff.1 F10).1 (fun a n c e => d38_10 a n c e)).trans F10
              clear bb hfr hbk F38 F7
              clear F10
              have F10 := F10'
              clear F10'
              refine hK'.out _ _ hkn (fun _ => ?_)
              clear hK' K' hHeld
              have hHeld := hkn
              clear hkn
              try simp only [Act.put, List.setIfInBounds_toArray, List.set_cons_zero, List.set_cons_succ]
              refine wpAnyH_ready (rs := [11]) (by kernel_rfl) (by simp) ?_
              refine AllReadyH.cons (o := ⟨some 43, _, _, _, _, _⟩) rfl (fun K' hK' => ?_) AllReadyH.nil
              refine stepw_call (R := fun v w'' => v = .agg (bvs D).toArray ∧ Below _ _ w'') (by rfl) ?_ ((msum_any (cap := 1) (F40.rd) (by rw [List.length_append]; have := HKL.out; simp; omega) (row_all F10 (hHeld.2.2.2.1.mono hHeld.2.2.2.2.2.2.1)) (by simp) (by simp only [total, List.flatten_cons, List.flatten_nil, List.append_nil]; omega) hHeld.2.2.2.2.1).mono fun e w'' ⟨h1, h2⟩ => ⟨_, h1, by rw [show [l].flatten = l by simp, hmac_zero k l (by have := HKL.out; omega), ← HDE.out], h2⟩) ?_
              focus go_simp
              rintro v wv ⟨rfl, hb⟩
              have hkn := hHeld.later HE.out hb
              clear hb
              refine hK'.out _ _ hkn (fun _ => ?_)
              clear hK' K' hHeld
              have hHeld := hkn
              clear hkn
              try simp only [Act.put, List.setIfInBounds_toArray, List.set_cons_zero, List.set_cons_succ]
              refine wpAnyH_take (i := 13) (oi := ⟨some 45, _, _, _, _, _⟩) (v := .bool true) rfl (by kernel_rfl) (by kernel_rfl) (by kernel_rfl) (fun _ _ _ h => h) (.inl ⟨by rfl, fun w' hSw => ?_⟩) hHeld ?_
              focus (have hq' := hq w'; clear hq; clear hHeld; go_simp)
              try simp only [Act.put, List.setIfInBounds_toArray, List.set_cons_zero, List.set_cons_succ]
              refine wpAnyH_take (i := 14) (oi := ⟨some 46, _, _, _, _, _⟩) (v := .bool true) rfl (by kernel_rfl) (by kernel_rfl) (by kernel_rfl) (fun _ _ _ h => h) (.inl ⟨by rfl, fun w' hSw => ?_⟩) hHeld ?_
              focus (have hq' := hq w'; clear hq; clear hHeld; go_simp)
              try simp only [Act.put, List.setIfInBounds_toArray, List.set_cons_zero, List.set_cons_succ]
              refine wpAnyH_take (i := 15) (oi := ⟨some 6, _, _, _, _, _⟩) (v := .bool true) rfl (by kernel_rfl) (by kernel_rfl) (by kernel_rfl) (fun _ _ _ h => h) (.inl ⟨by rfl, fun w' hSw => ?_⟩) hHeld ?_
              focus (have hq' := hq w'; clear hq; clear hHeld; go_simp)
              try simp only [Act.put, List.setIfInBounds_toArray, List.set_cons_zero, List.set_cons_succ]
              refine wpAnyH_done (by kernel_rfl) ?_ _
              refine NoPanic.normal ?_
              have HBZ := Lib.hid hHeld.2.2.2.2.2.1
              clear hHeld hq
              go_wp2_with fail
              go_ret
              exact ⟨rfl, HBZ.out⟩
          · go_simp
            have hb : Below wk1.heap.size wk1 (wk1.alloc (.cells #[.slice q l.length c] 22)) := (Below.refl _ _).alloc (Nat.le_refl _) _
            have hkn := hHeld.later HE.out hb
            have F4' := (hb.block _ (Array.getElem?_eq_some_iff.1 F4).1).trans F4
            have F7' := F7.later hb
            have F10 : (wk1.alloc (.cells #[.slice q l.length c] 22)).heap[wk1.heap.size]? = some (.cells #[.slice q l.length c] 22 (0, 0)) := heap_alloc_new wk1 _
            have g10 : w6.heap.size ≤ wk1.heap.size := hHeld.2.2.2.2.2.2.1
            have d4_10 : G4 ≠ wk1.heap.size := Nat.ne_of_lt (Array.getElem?_eq_some_iff.1 F4).1
            have d7_10 : G7 ≠ wk1.heap.size := Nat.ne_of_lt F7.lt
            clear F4
            have F4 := F4'
            clear F4'
            clear F7
            have F7 := F7'
            clear F7'
            clear hb
            generalize wk1.alloc (.cells #[.slice q l.length c] 22) = wk2 at hkn F10 F4 F7 ⊢
            obtain ⟨G10, hG⟩ : ∃ x, x = wk1.heap.size := ⟨_, rfl⟩
            rw [← hG] at F10 g10 d4_10 d7_10 ⊢
            clear hG
            refine hK'.out _ _ hkn (fun _ => ?_)
            clear hK' K' hHeld
            have hHeld := hkn
            clear hkn
            try simp only [Act.put, List.setIfInBounds_toArray, List.set_cons_zero, List.set_cons_succ]
            refine wpAnyH_ready (rs := [6]) (by kernel_rfl) (by simp) ?_
            refine AllReadyH.cons (o := ⟨some 38, _, _, _, _, _⟩) rfl (fun K' hK' => ?_) AllReadyH.nil
            have h4 : Held w6.heap.size wk2 (.slice (some ⟨G4, 0, none⟩) ([] : List UInt8).length 0) [] := .inr ⟨G4, 0, 0, rfl, Nat.le_refl _, Nat.zero_le _, g4, (Array.getElem?_eq_some_iff.1 F4).1, fun i hi => absurd hi (Nat.not_lt_zero _), fun i hi => absurd hi (Nat.not_lt_zero _)⟩
            refine stepw_held3 (by rfl) (.tmp 36) (.tmp 37) rfl rfl h4 rfl hHeld.2.2.1 HL6.out hHeld.2.2.2.2.2.2.1 ?_
            intro V38 wk3 F38 bb hfr hbk
            rw [List.nil_append] at F38
            have hkn := hHeld.below HE.out bb
            have F7' := F7.keep (hfr G7 F7.lt (fun a n c e => by cases e; exact (Ne.symm d7_4)))
            have d38_7 : ∀ a n c, V38 = .slice (some a) n c → a.block ≠ G7 := fun a n c e => by
              rcases hbk a n c e with ⟨a0, n0, c0, e0, hb⟩ | hb
              · cases e0; rw [hb]; exact (Ne.symm d7_4)
              · have := F7.lt; omega
            have F10' := (hfr G10 (Array.getElem?_eq_some_iff.1 F10).1 (fun a n c e => by cases e; exact d4_10)).trans F10
            have d38_10 : ∀ a n c, V38 = .slice (some a) n c → a.block ≠ G10 := fun a n c e => by
              rcases hbk a n c e with ⟨a0, n0, c0, e0, hb⟩ | hb
              · cases e0; rw [hb]; exact d4_10
              · have := (Array.getElem?_eq_some_iff.1 F10).1; omega
            clear bb hfr hbk h4 F4
            clear F7
            have F7 := F7'
            clear F7'
            clear F10
            have F10 := F10'
            clear F10'
            refine hK'.out _ _ hkn (fun _ => ?_)
            clear hK' K' hHeld
            have hHeld := hkn
            clear hkn
            try simp only [Act.put, List.setIfInBounds_toArray, List.set_cons_zero, List.set_cons_succ]
            refine wpAnyH_ready (rs := [8]) (by kernel_rfl) (by simp) ?_
            refine AllReadyH.cons (o := ⟨some 40, _, _, _, _, _⟩) rfl (fun K' hK' => ?_) AllReadyH.nil
            refine stepw_held3 (by rfl) (.tmp 38) (.tmp 39) rfl rfl F38 rfl (F7.rd (n := 1) rfl (by decide)) HL8.out hHeld.2.2.2.2.2.2.1 ?_
            intro V40 wk4 F40 bb hfr hbk
            have hkn := hHeld.below HE.out bb
            have F10' := (hfr G10 (Array.getElem?_eq_some_iff.1 F10).1 (fun a n c e => d38_10 a n c e)).trans F10
            clear bb hfr hbk F38 F7
            clear F10
            have F10 := F10'
            clear F10'
            refine hK'.out _ _ hkn (fun _ => ?_)
            clear hK' K' hHeld
            have hHeld := hkn
            clear hkn
            try simp only [Act.put, List.setIfInBounds_toArray, List.set_cons_zero, List.set_cons_succ]
            refine wpAnyH_ready (rs := [11]) (by kernel_rfl) (by simp) ?_
            refine AllReadyH.cons (o := ⟨some 43, _, _, _, _, _⟩) rfl (fun K' hK' => ?_) AllReadyH.nil
            refine stepw_call (R := fun v w'' => v = .agg (bvs D).toArray ∧ Below _ _ w'') (by rfl) ?_ ((msum_any (cap := 1) (F40.rd) (by rw [List.length_append]; have := HKL.out; simp; omega) (row_all F10 (hHeld.2.2.2.1.mono hHeld.2.2.2.2.2.2.1)) (by simp) (by simp only [total, List.flatten_cons, List.flatten_nil, List.append_nil]; omega) hHeld.2.2.2.2.1).mono fun e w'' ⟨h1, h2⟩ => ⟨_, h1, by rw [show [l].flatten = l by simp, hmac_zero k l (by have := HKL.out; omega), ← HDE.out], h2⟩) ?_
            focus go_simp
            rintro v wv ⟨rfl, hb⟩
            have hkn := hHeld.later HE.out hb
            clear hb
            refine hK'.out _ _ hkn (fun _ => ?_)
            clear hK' K' hHeld
            have hHeld := hkn
            clear hkn
            try simp only [Act.put, List.setIfInBounds_toArray, List.set_cons_zero, List.set_cons_succ]
            refine wpAnyH_take (i := 13) (oi := ⟨some 45, _, _, _, _, _⟩) (v := .bool true) rfl (by kernel_rfl) (by kernel_rfl) (by kernel_rfl) (fun _ _ _ h => h) (.inl ⟨by rfl, fun w' hSw => ?_⟩) hHeld ?_
            focus (have hq' := hq w'; clear hq; clear hHeld; go_simp)
            try simp only [Act.put, List.setIfInBounds_toArray, List.set_cons_zero, List.set_cons_succ]
            refine wpAnyH_take (i := 14) (oi := ⟨some 46, _, _, _, _, _⟩) (v := .bool true) rfl (by kernel_rfl) (by kernel_rfl) (by kernel_rfl) (fun _ _ _ h => h) (.inl ⟨by rfl, fun w' hSw => ?_⟩) hHeld ?_
            focus (have hq' := hq w'; clear hq; clear hHeld; go_simp)
            try simp only [Act.put, List.setIfInBounds_toArray, List.set_cons_zero, List.set_cons_succ]
            refine wpAnyH_take (i := 15) (oi := ⟨some 6, _, _, _, _, _⟩) (v := .bool true) rfl (by kernel_rfl) (by kernel_rfl) (by kernel_rfl) (fun _ _ _ h => h) (.inl ⟨by rfl, fun w' hSw => ?_⟩) hHeld ?_
            focus (have hq' := hq w'; clear hq; clear hHeld; go_simp)
            try simp only [Act.put, List.setIfInBounds_toArray, List.set_cons_zero, List.set_cons_succ]
            refine wpAnyH_done (by kernel_rfl) ?_ _
            refine NoPanic.normal ?_
            have HBZ := Lib.hid hHeld.2.2.2.2.2.1
            clear hHeld hq
            go_wp2_with fail
            go_ret
            exact ⟨rfl, HBZ.out⟩
        · go_simp
          have hb : Below wk0.heap.size wk0 (wk0.alloc (.cells #[.slice q l.length c] 22)) := (Below.refl _ _).alloc (Nat.le_refl _) _
          have hkn := hHeld.later HE.out hb
          have F7' := F7.later hb
          have F10 : (wk0.alloc (.cells #[.slice q l.length c] 22)).heap[wk0.heap.size]? = some (.cells #[.slice q l.length c] 22 (0, 0)) := heap_alloc_new wk0 _
          have g10 : w6.heap.size ≤ wk0.heap.size := hHeld.2.2.2.2.2.2.1
          have d7_10 : G7 ≠ wk0.heap.size := Nat.ne_of_lt F7.lt
          clear F7
          have F7 := F7'
          clear F7'
          clear hb
          generalize wk0.alloc (.cells #[.slice q l.length c] 22) = wk1 at hkn F10 F7 ⊢
          obtain ⟨G10, hG⟩ : ∃ x, x = wk0.heap.size := ⟨_, rfl⟩
          rw [← hG] at F10 g10 d7_10 ⊢
          clear hG
          refine hK'.out _ _ hkn (fun _ => ?_)
          clear hK' K' hHeld
          have hHeld := hkn
          clear hkn
          try simp only [Act.put, List.setIfInBounds_toArray, List.set_cons_zero, List.set_cons_succ]
          refine wpAnyH_ready (rs := [4]) (by kernel_rfl) (by simp) ?_
          refine AllReadyH.cons (o := ⟨some 36, _, _, _, _, _⟩) rfl (fun K' hK' => ?_) AllReadyH.nil
          go_simp
          have hb : Below wk1.heap.size wk1 (wk1.alloc (.cells #[] 5)) := (Below.refl _ _).alloc (Nat.le_refl _) _
          have hkn := hHeld.later HE.out hb
          have F7' := F7.later hb
          have F10' := (hb.block _ (Array.getElem?_eq_some_iff.1 F10).1).trans F10
          have F4 : (wk1.alloc (.cells #[] 5)).heap[wk1.heap.size]? = some (.cells #[] 5 (0, 0)) := heap_alloc_new wk1 _
          have g4 : w6.heap.size ≤ wk1.heap.size := hHeld.2.2.2.2.2.2.1
          have d7_4 : G7 ≠ wk1.heap.size := Nat.ne_of_lt F7.lt
          have d10_4 : G10 ≠ wk1.heap.size := Nat.ne_of_lt (Array.getElem?_eq_some_iff.1 F10).1
          clear F7
          have F7 := F7'
          clear F7'
          clear F10
          have F10 := F10'
          clear F10'
          clear hb
          generalize wk1.alloc (.cells #[] 5) = wk2 at hkn F4 F7 F10 ⊢
          obtain ⟨G4, hG⟩ : ∃ x, x = wk1.heap.size := ⟨_, rfl⟩
          rw [← hG] at F4 g4 d7_4 d10_4 ⊢
          clear hG
          refine hK'.out _ _ hkn (fun _ => ?_)
          clear hK' K' hHeld
          have hHeld := hkn
          clear hkn
          try simp only [Act.put, List.setIfInBounds_toArray, List.set_cons_zero, List.set_cons_succ]
          refine wpAnyH_ready (rs := [6]) (by kernel_rfl) (by simp) ?_
          refine AllReadyH.cons (o := ⟨some 38, _, _, _, _, _⟩) rfl (fun K' hK' => ?_) AllReadyH.nil
          have h4 : Held w6.heap.size wk2 (.slice (some ⟨G4, 0, none⟩) ([] : List UInt8).length 0) [] := .inr ⟨G4, 0, 0, rfl, Nat.le_refl _, Nat.zero_le _, g4, (Array.getElem?_eq_some_iff.1 F4).1, fun i hi => absurd hi (Nat.not_lt_zero _), fun i hi => absurd hi (Nat.not_lt_zero _)⟩
          refine stepw_held3 (by rfl) (.tmp 36) (.tmp 37) rfl rfl h4 rfl hHeld.2.2.1 HL6.out hHeld.2.2.2.2.2.2.1 ?_
          intro V38 wk3 F38 bb hfr hbk
          rw [List.nil_append] at F38
          have hkn := hHeld.below HE.out bb
          have F7' := F7.keep (hfr G7 F7.lt (fun a n c e => by cases e; exact (Ne.symm d7_4)))
          have d38_7 : ∀ a n c, V38 = .slice (some a) n c → a.block ≠ G7 := fun a n c e => by
            rcases hbk a n c e with ⟨a0, n0, c0, e0, hb⟩ | hb
            · cases e0; rw [hb]; exact (Ne.symm d7_4)
            · have := F7.lt; omega
          have F10' := (hfr G10 (Array.getElem?_eq_some_iff.1 F10).1 (fun a n c e => by cases e; exact (Ne.symm d10_4))).trans F10
          have d38_10 : ∀ a n c, V38 = .slice (some a) n c → a.block ≠ G10 := fun a n c e => by
            rcases hbk a n c e with ⟨a0, n0, c0, e0, hb⟩ | hb
            · cases e0; rw [hb]; exact (Ne.symm d10_4)
            · have := (Array.getElem?_eq_some_iff.1 F10).1; omega
          clear bb hfr hbk h4 F4
          clear F7
          have F7 := F7'
          clear F7'
          clear F10
          have F10 := F10'
          clear F10'
          refine hK'.out _ _ hkn (fun _ => ?_)
          clear hK' K' hHeld
          have hHeld := hkn
          clear hkn
          try simp only [Act.put, List.setIfInBounds_toArray, List.set_cons_zero, List.set_cons_succ]
          refine wpAnyH_ready (rs := [8]) (by kernel_rfl) (by simp) ?_
          refine AllReadyH.cons (o := ⟨some 40, _, _, _, _, _⟩) rfl (fun K' hK' => ?_) AllReadyH.nil
          refine stepw_held3 (by rfl) (.tmp 38) (.tmp 39) rfl rfl F38 rfl (F7.rd (n := 1) rfl (by decide)) HL8.out hHeld.2.2.2.2.2.2.1 ?_
          intro V40 wk4 F40 bb hfr hbk
          have hkn := hHeld.below HE.out bb
          have F10' := (hfr G10 (Array.getElem?_eq_some_iff.1 F10).1 (fun a n c e => d38_10 a n c e)).trans F10
          clear bb hfr hbk F38 F7
          clear F10
          have F10 := F10'
          clear F10'
          refine hK'.out _ _ hkn (fun _ => ?_)
          clear hK' K' hHeld
          have hHeld := hkn
          clear hkn
          try simp only [Act.put, List.setIfInBounds_toArray, List.set_cons_zero, List.set_cons_succ]
          refine wpAnyH_ready (rs := [11]) (by kernel_rfl) (by simp) ?_
          refine AllReadyH.cons (o := ⟨some 43, _, _, _, _, _⟩) rfl (fun K' hK' => ?_) AllReadyH.nil
          refine stepw_call (R := fun v w'' => v = .agg (bvs D).toArray ∧ Below _ _ w'') (by rfl) ?_ ((msum_any (cap := 1) (F40.rd) (by rw [List.length_append]; have := HKL.out; simp; omega) (row_all F10 (hHeld.2.2.2.1.mono hHeld.2.2.2.2.2.2.1)) (by simp) (by simp only [total, List.flatten_cons, List.flatten_nil, List.append_nil]; omega) hHeld.2.2.2.2.1).mono fun e w'' ⟨h1, h2⟩ => ⟨_, h1, by rw [show [l].flatten = l by simp, hmac_zero k l (by have := HKL.out; omega), ← HDE.out], h2⟩) ?_
          focus go_simp
          rintro v wv ⟨rfl, hb⟩
          have hkn := hHeld.later HE.out hb
          clear hb
          refine hK'.out _ _ hkn (fun _ => ?_)
          clear hK' K' hHeld
          have hHeld := hkn
          clear hkn
          try simp only [Act.put, List.setIfInBounds_toArray, List.set_cons_zero, List.set_cons_succ]
          refine wpAnyH_take (i := 13) (oi := ⟨some 45, _, _, _, _, _⟩) (v := .bool true) rfl (by kernel_rfl) (by kernel_rfl) (by kernel_rfl) (fun _ _ _ h => h) (.inl ⟨by rfl, fun w' hSw => ?_⟩) hHeld ?_
          focus (have hq' := hq w'; clear hq; clear hHeld; go_simp)
          try simp only [Act.put, List.setIfInBounds_toArray, List.set_cons_zero, List.set_cons_succ]
          refine wpAnyH_take (i := 14) (oi := ⟨some 46, _, _, _, _, _⟩) (v := .bool true) rfl (by kernel_rfl) (by kernel_rfl) (by kernel_rfl) (fun _ _ _ h => h) (.inl ⟨by rfl, fun w' hSw => ?_⟩) hHeld ?_
          focus (have hq' := hq w'; clear hq; clear hHeld; go_simp)
          try simp only [Act.put, List.setIfInBounds_toArray, List.set_cons_zero, List.set_cons_succ]
          refine wpAnyH_take (i := 15) (oi := ⟨some 6, _, _, _, _, _⟩) (v := .bool true) rfl (by kernel_rfl) (by kernel_rfl) (by kernel_rfl) (fun _ _ _ h => h) (.inl ⟨by rfl, fun w' hSw => ?_⟩) hHeld ?_
          focus (have hq' := hq w'; clear hq; clear hHeld; go_simp)
          try simp only [Act.put, List.setIfInBounds_toArray, List.set_cons_zero, List.set_cons_succ]
          refine wpAnyH_done (by kernel_rfl) ?_ _
          refine NoPanic.normal ?_
          have HBZ := Lib.hid hHeld.2.2.2.2.2.1
          clear hHeld hq
          go_wp2_with fail
          go_ret
          exact ⟨rfl, HBZ.out⟩
      · go_simp
        have hb : Below wst.heap.size wst (wst.alloc (.cells #[.slice q l.length c] 22)) := (Below.refl _ _).alloc (Nat.le_refl _) _
        have hkn := hHeld.later HE.out hb
        have F10 : (wst.alloc (.cells #[.slice q l.length c] 22)).heap[wst.heap.size]? = some (.cells #[.slice q l.length c] 22 (0, 0)) := heap_alloc_new wst _
        have g10 : w6.heap.size ≤ wst.heap.size := hHeld.2.2.2.2.2.2.1
        clear hb
        generalize wst.alloc (.cells #[.slice q l.length c] 22) = wk0 at hkn F10 ⊢
        obtain ⟨G10, hG⟩ : ∃ x, x = wst.heap.size := ⟨_, rfl⟩
        rw [← hG] at F10 g10 ⊢
        clear hG
        refine hK'.out _ _ hkn (fun _ => ?_)
        clear hK' K' hHeld
        have hHeld := hkn
        clear hkn
        try simp only [Act.put, List.setIfInBounds_toArray, List.set_cons_zero, List.set_cons_succ]
        refine wpAnyH_ready (rs := [4, 7]) (by kernel_rfl) (by simp) ?_
        refine AllReadyH.cons (o := ⟨some 36, _, _, _, _, _⟩) rfl (fun K' hK' => ?_) (AllReadyH.cons (o := ⟨some 39, _, _, _, _, _⟩) rfl (fun K' hK' => ?_) AllReadyH.nil)
        · go_simp
          have hb : Below wk0.heap.size wk0 (wk0.alloc (.cells #[] 5)) := (Below.refl _ _).alloc (Nat.le_refl _) _
          have hkn := hHeld.later HE.out hb
          have F10' := (hb.block _ (Array.getElem?_eq_some_iff.1 F10).1).trans F10
          have F4 : (wk0.alloc (.cells #[] 5)).heap[wk0.heap.size]? = some (.cells #[] 5 (0, 0)) := heap_alloc_new wk0 _
          have g4 : w6.heap.size ≤ wk0.heap.size := hHeld.2.2.2.2.2.2.1
          have d10_4 : G10 ≠ wk0.heap.size := Nat.ne_of_lt (Array.getElem?_eq_some_iff.1 F10).1
          clear F10
          have F10 := F10'
          clear F10'
          clear hb
          generalize wk0.alloc (.cells #[] 5) = wk1 at hkn F4 F10 ⊢
          obtain ⟨G4, hG⟩ : ∃ x, x = wk0.heap.size := ⟨_, rfl⟩
          rw [← hG] at F4 g4 d10_4 ⊢
          clear hG
          refine hK'.out _ _ hkn (fun _ => ?_)
          clear hK' K' hHeld
          have hHeld := hkn
          clear hkn
          try simp only [Act.put, List.setIfInBounds_toArray, List.set_cons_zero, List.set_cons_succ]
          refine wpAnyH_ready (rs := [6, 7]) (by kernel_rfl) (by simp) ?_
          refine AllReadyH.cons (o := ⟨some 38, _, _, _, _, _⟩) rfl (fun K' hK' => ?_) (AllReadyH.cons (o := ⟨some 39, _, _, _, _, _⟩) rfl (fun K' hK' => ?_) AllReadyH.nil)
          · have h4 : Held w6.heap.size wk1 (.slice (some ⟨G4, 0, none⟩) ([] : List UInt8).length 0) [] := .inr ⟨G4, 0, 0, rfl, Nat.le_refl _, Nat.zero_le _, g4, (Array.getElem?_eq_some_iff.1 F4).1, fun i hi => absurd hi (Nat.not_lt_zero _), fun i hi => absurd hi (Nat.not_lt_zero _)⟩
            refine stepw_held3 (by rfl) (.tmp 36) (.tmp 37) rfl rfl h4 rfl hHeld.2.2.1 HL6.out hHeld.2.2.2.2.2.2.1 ?_
            intro V38 wk2 F38 bb hfr hbk
            rw [List.nil_append] at F38
            have hkn := hHeld.below HE.out bb
            have F10' := (hfr G10 (Array.getElem?_eq_some_iff.1 F10).1 (fun a n c e => by cases e; exact (Ne.symm d10_4))).trans F10
            have d38_10 : ∀ a n c, V38 = .slice (some a) n c → a.block ≠ G10 := fun a n c e => by
              rcases hbk a n c e with ⟨a0, n0, c0, e0, hb⟩ | hb
              · cases e0; rw [hb]; exact (Ne.symm d10_4)
              · have := (Array.getElem?_eq_some_iff.1 F10).1; omega
            clear bb hfr hbk h4 F4
            clear F10
            have F10 := F10'
            clear F10'
            refine hK'.out _ _ hkn (fun _ => ?_)
            clear hK' K' hHeld
            have hHeld := hkn
            clear hkn
            try simp only [Act.put, List.setIfInBounds_toArray, List.set_cons_zero, List.set_cons_succ]
            refine wpAnyH_ready (rs := [7]) (by kernel_rfl) (by simp) ?_
            refine AllReadyH.cons (o := ⟨some 39, _, _, _, _, _⟩) rfl (fun K' hK' => ?_) AllReadyH.nil
            go_simp
            have hb : Below wk2.heap.size wk2 (wk2.alloc (.cells #[.int .u8 0] 5)) := (Below.refl _ _).alloc (Nat.le_refl _) _
            have hkn := hHeld.later HE.out hb
            have F10' := (hb.block _ (Array.getElem?_eq_some_iff.1 F10).1).trans F10
            have F38' := F38.later hb
            have F7 : LitAt (wk2.alloc (.cells #[.int .u8 0] 5)) wk2.heap.size [0] := LitAt.new wk2 [0] #[.int .u8 0] rfl
            have g7 : w6.heap.size ≤ wk2.heap.size := hHeld.2.2.2.2.2.2.1
            have d10_7 : G10 ≠ wk2.heap.size := Nat.ne_of_lt (Array.getElem?_eq_some_iff.1 F10).1
            have d38_7 : ∀ a n c, V38 = .slice (some a) n c → a.block ≠ wk2.heap.size := fun a n c h => Nat.ne_of_lt (F38.lt a n c h)
            clear F10
            have F10 := F10'
            clear F10'
            clear F38
            have F38 := F38'
            clear F38'
            clear hb
            generalize wk2.alloc (.cells #[.int .u8 0] 5) = wk3 at hkn F7 F10 F38 ⊢
            obtain ⟨G7, hG⟩ : ∃ x, x = wk2.heap.size := ⟨_, rfl⟩
            rw [← hG] at F7 g7 d10_7 d38_7 ⊢
            clear hG
            refine hK'.out _ _ hkn (fun _ => ?_)
            clear hK' K' hHeld
            have hHeld := hkn
            clear hkn
            try simp only [Act.put, List.setIfInBounds_toArray, List.set_cons_zero, List.set_cons_succ]
            refine wpAnyH_ready (rs := [8]) (by kernel_rfl) (by simp) ?_
            refine AllReadyH.cons (o := ⟨some 40, _, _, _, _, _⟩) rfl (fun K' hK' => ?_) AllReadyH.nil
            refine stepw_held3 (by rfl) (.tmp 38) (.tmp 39) rfl rfl F38 rfl (F7.rd (n := 1) rfl (by decide)) HL8.out hHeld.2.2.2.2.2.2.1 ?_
            intro V40 wk4 F40 bb hfr hbk
            have hkn := hHeld.below HE.out bb
            have F10' := (hfr G10 (Array.getElem?_eq_some_iff.1 F10).1 (fun a n c e => d38_10 a n c e)).trans F10
            clear bb hfr hbk F38 F7
            clear F10
            have F10 := F10'
            clear F10'
            refine hK'.out _ _ hkn (fun _ => ?_)
            clear hK' K' hHeld
            have hHeld := hkn
            clear hkn
            try simp only [Act.put, List.setIfInBounds_toArray, List.set_cons_zero, List.set_cons_succ]
            refine wpAnyH_ready (rs := [11]) (by kernel_rfl) (by simp) ?_
            refine AllReadyH.cons (o := ⟨some 43, _, _, _, _, _⟩) rfl (fun K' hK' => ?_) AllReadyH.nil
            refine stepw_call (R := fun v w'' => v = .agg (bvs D).toArray ∧ Below _ _ w'') (by rfl) ?_ ((msum_any (cap := 1) (F40.rd) (by rw [List.length_append]; have := HKL.out; simp; omega) (row_all F10 (hHeld.2.2.2.1.mono hHeld.2.2.2.2.2.2.1)) (by simp) (by simp only [total, List.flatten_cons, List.flatten_nil, List.append_nil]; omega) hHeld.2.2.2.2.1).mono fun e w'' ⟨h1, h2⟩ => ⟨_, h1, by rw [show [l].flatten = l by simp, hmac_zero k l (by have := HKL.out; omega), ← HDE.out], h2⟩) ?_
            focus go_simp
            rintro v wv ⟨rfl, hb⟩
            have hkn := hHeld.later HE.out hb
            clear hb
            refine hK'.out _ _ hkn (fun _ => ?_)
            clear hK' K' hHeld
            have hHeld := hkn
            clear hkn
            try simp only [Act.put, List.setIfInBounds_toArray, List.set_cons_zero, List.set_cons_succ]
            refine wpAnyH_take (i := 13) (oi := ⟨some 45, _, _, _, _, _⟩) (v := .bool true) rfl (by kernel_rfl) (by kernel_rfl) (by kernel_rfl) (fun _ _ _ h => h) (.inl ⟨by rfl, fun w' hSw => ?_⟩) hHeld ?_
            focus (have hq' := hq w'; clear hq; clear hHeld; go_simp)
            try simp only [Act.put, List.setIfInBounds_toArray, List.set_cons_zero, List.set_cons_succ]
            refine wpAnyH_take (i := 14) (oi := ⟨some 46, _, _, _, _, _⟩) (v := .bool true) rfl (by kernel_rfl) (by kernel_rfl) (by kernel_rfl) (fun _ _ _ h => h) (.inl ⟨by rfl, fun w' hSw => ?_⟩) hHeld ?_
            focus (have hq' := hq w'; clear hq; clear hHeld; go_simp)
            try simp only [Act.put, List.setIfInBounds_toArray, List.set_cons_zero, List.set_cons_succ]
            refine wpAnyH_take (i := 15) (oi := ⟨some 6, _, _, _, _, _⟩) (v := .bool true) rfl (by kernel_rfl) (by kernel_rfl) (by kernel_rfl) (fun _ _ _ h => h) (.inl ⟨by rfl, fun w' hSw => ?_⟩) hHeld ?_
            focus (have hq' := hq w'; clear hq; clear hHeld; go_simp)
            try simp only [Act.put, List.setIfInBounds_toArray, List.set_cons_zero, List.set_cons_succ]
            refine wpAnyH_done (by kernel_rfl) ?_ _
            refine NoPanic.normal ?_
            have HBZ := Lib.hid hHeld.2.2.2.2.2.1
            clear hHeld hq
            go_wp2_with fail
            go_ret
            exact ⟨rfl, HBZ.out⟩
          · go_simp
            have hb : Below wk1.heap.size wk1 (wk1.alloc (.cells #[.int .u8 0] 5)) := (Below.refl _ _).alloc (Nat.le_refl _) _
            have hkn := hHeld.later HE.out hb
            have F4' := (hb.block _ (Array.getElem?_eq_some_iff.1 F4).1).trans F4
            have F10' := (hb.block _ (Array.getElem?_eq_some_iff.1 F10).1).trans F10
            have F7 : LitAt (wk1.alloc (.cells #[.int .u8 0] 5)) wk1.heap.size [0] := LitAt.new wk1 [0] #[.int .u8 0] rfl
            have g7 : w6.heap.size ≤ wk1.heap.size := hHeld.2.2.2.2.2.2.1
            have d4_7 : G4 ≠ wk1.heap.size := Nat.ne_of_lt (Array.getElem?_eq_some_iff.1 F4).1
            have d10_7 : G10 ≠ wk1.heap.size := Nat.ne_of_lt (Array.getElem?_eq_some_iff.1 F10).1
            clear F4
            have F4 := F4'
            clear F4'
            clear F10
            have F10 := F10'
            clear F10'
            clear hb
            generalize wk1.alloc (.cells #[.int .u8 0] 5) = wk2 at hkn F7 F4 F10 ⊢
            obtain ⟨G7, hG⟩ : ∃ x, x = wk1.heap.size := ⟨_, rfl⟩
            rw [← hG] at F7 g7 d4_7 d10_7 ⊢
            clear hG
            refine hK'.out _ _ hkn (fun _ => ?_)
            clear hK' K' hHeld
            have hHeld := hkn
            clear hkn
            try simp only [Act.put, List.setIfInBounds_toArray, List.set_cons_zero, List.set_cons_succ]
            refine wpAnyH_ready (rs := [6]) (by kernel_rfl) (by simp) ?_
            refine AllReadyH.cons (o := ⟨some 38, _, _, _, _, _⟩) rfl (fun K' hK' => ?_) AllReadyH.nil
            have h4 : Held w6.heap.size wk2 (.slice (some ⟨G4, 0, none⟩) ([] : List UInt8).length 0) [] := .inr ⟨G4, 0, 0, rfl, Nat.le_refl _, Nat.zero_le _, g4, (Array.getElem?_eq_some_iff.1 F4).1, fun i hi => absurd hi (Nat.not_lt_zero _), fun i hi => absurd hi (Nat.not_lt_zero _)⟩
            refine stepw_held3 (by rfl) (.tmp 36) (.tmp 37) rfl rfl h4 rfl hHeld.2.2.1 HL6.out hHeld.2.2.2.2.2.2.1 ?_
            intro V38 wk3 F38 bb hfr hbk
            rw [List.nil_append] at F38
            have hkn := hHeld.below HE.out bb
            have F7' := F7.keep (hfr G7 F7.lt (fun a n c e => by cases e; exact d4_7))
            have d38_7 : ∀ a n c, V38 = .slice (some a) n c → a.block ≠ G7 := fun a n c e => by
              rcases hbk a n c e with ⟨a0, n0, c0, e0, hb⟩ | hb
              · cases e0; rw [hb]; exact d4_7
              · have := F7.lt; omega
            have F10' := (hfr G10 (Array.getElem?_eq_some_iff.1 F10).1 (fun a n c e => by cases e; exact (Ne.symm d10_4))).trans F10
            have d38_10 : ∀ a n c, V38 = .slice (some a) n c → a.block ≠ G10 := fun a n c e => by
              rcases hbk a n c e with ⟨a0, n0, c0, e0, hb⟩ | hb
              · cases e0; rw [hb]; exact (Ne.symm d10_4)
              · have := (Array.getElem?_eq_some_iff.1 F10).1; omega
            clear bb hfr hbk h4 F4
            clear F7
            have F7 := F7'
            clear F7'
            clear F10
            have F10 := F10'
            clear F10'
            refine hK'.out _ _ hkn (fun _ => ?_)
            clear hK' K' hHeld
            have hHeld := hkn
            clear hkn
            try simp only [Act.put, List.setIfInBounds_toArray, List.set_cons_zero, List.set_cons_succ]
            refine wpAnyH_ready (rs := [8]) (by kernel_rfl) (by simp) ?_
            refine AllReadyH.cons (o := ⟨some 40, _, _, _, _, _⟩) rfl (fun K' hK' => ?_) AllReadyH.nil
            refine stepw_held3 (by rfl) (.tmp 38) (.tmp 39) rfl rfl F38 rfl (F7.rd (n := 1) rfl (by decide)) HL8.out hHeld.2.2.2.2.2.2.1 ?_
            intro V40 wk4 F40 bb hfr hbk
            have hkn := hHeld.below HE.out bb
            have F10' := (hfr G10 (Array.getElem?_eq_some_iff.1 F10).1 (fun a n c e => d38_10 a n c e)).trans F10
            clear bb hfr hbk F38 F7
            clear F10
            have F10 := F10'
            clear F10'
            refine hK'.out _ _ hkn (fun _ => ?_)
            clear hK' K' hHeld
            have hHeld := hkn
            clear hkn
            try simp only [Act.put, List.setIfInBounds_toArray, List.set_cons_zero, List.set_cons_succ]
            refine wpAnyH_ready (rs := [11]) (by kernel_rfl) (by simp) ?_
            refine AllReadyH.cons (o := ⟨some 43, _, _, _, _, _⟩) rfl (fun K' hK' => ?_) AllReadyH.nil
            refine stepw_call (R := fun v w'' => v = .agg (bvs D).toArray ∧ Below _ _ w'') (by rfl) ?_ ((msum_any (cap := 1) (F40.rd) (by rw [List.length_append]; have := HKL.out; simp; omega) (row_all F10 (hHeld.2.2.2.1.mono hHeld.2.2.2.2.2.2.1)) (by simp) (by simp only [total, List.flatten_cons, List.flatten_nil, List.append_nil]; omega) hHeld.2.2.2.2.1).mono fun e w'' ⟨h1, h2⟩ => ⟨_, h1, by rw [show [l].flatten = l by simp, hmac_zero k l (by have := HKL.out; omega), ← HDE.out], h2⟩) ?_
            focus go_simp
            rintro v wv ⟨rfl, hb⟩
            have hkn := hHeld.later HE.out hb
            clear hb
            refine hK'.out _ _ hkn (fun _ => ?_)
            clear hK' K' hHeld
            have hHeld := hkn
            clear hkn
            try simp only [Act.put, List.setIfInBounds_toArray, List.set_cons_zero, List.set_cons_succ]
            refine wpAnyH_take (i := 13) (oi := ⟨some 45, _, _, _, _, _⟩) (v := .bool true) rfl (by kernel_rfl) (by kernel_rfl) (by kernel_rfl) (fun _ _ _ h => h) (.inl ⟨by rfl, fun w' hSw => ?_⟩) hHeld ?_
            focus (have hq' := hq w'; clear hq; clear hHeld; go_simp)
            try simp only [Act.put, List.setIfInBounds_toArray, List.set_cons_zero, List.set_cons_succ]
            refine wpAnyH_take (i := 14) (oi := ⟨some 46, _, _, _, _, _⟩) (v := .bool true) rfl (by kernel_rfl) (by kernel_rfl) (by kernel_rfl) (fun _ _ _ h => h) (.inl ⟨by rfl, fun w' hSw => ?_⟩) hHeld ?_
            focus (have hq' := hq w'; clear hq; clear hHeld; go_simp)
            try simp only [Act.put, List.setIfInBounds_toArray, List.set_cons_zero, List.set_cons_succ]
            refine wpAnyH_take (i := 15) (oi := ⟨some 6, _, _, _, _, _⟩) (v := .bool true) rfl (by kernel_rfl) (by kernel_rfl) (by kernel_rfl) (fun _ _ _ h => h) (.inl ⟨by rfl, fun w' hSw => ?_⟩) hHeld ?_
            focus (have hq' := hq w'; clear hq; clear hHeld; go_simp)
            try simp only [Act.put, List.setIfInBounds_toArray, List.set_cons_zero, List.set_cons_succ]
            refine wpAnyH_done (by kernel_rfl) ?_ _
            refine NoPanic.normal ?_
            have HBZ := Lib.hid hHeld.2.2.2.2.2.1
            clear hHeld hq
            go_wp2_with fail
            go_ret
            exact ⟨rfl, HBZ.out⟩
        · go_simp
          have hb : Below wk0.heap.size wk0 (wk0.alloc (.cells #[.int .u8 0] 5)) := (Below.refl _ _).alloc (Nat.le_refl _) _
          have hkn := hHeld.later HE.out hb
          have F10' := (hb.block _ (Array.getElem?_eq_some_iff.1 F10).1).trans F10
          have F7 : LitAt (wk0.alloc (.cells #[.int .u8 0] 5)) wk0.heap.size [0] := LitAt.new wk0 [0] #[.int .u8 0] rfl
          have g7 : w6.heap.size ≤ wk0.heap.size := hHeld.2.2.2.2.2.2.1
          have d10_7 : G10 ≠ wk0.heap.size := Nat.ne_of_lt (Array.getElem?_eq_some_iff.1 F10).1
          clear F10
          have F10 := F10'
          clear F10'
          clear hb
          generalize wk0.alloc (.cells #[.int .u8 0] 5) = wk1 at hkn F7 F10 ⊢
          obtain ⟨G7, hG⟩ : ∃ x, x = wk0.heap.size := ⟨_, rfl⟩
          rw [← hG] at F7 g7 d10_7 ⊢
          clear hG
          refine hK'.out _ _ hkn (fun _ => ?_)
          clear hK' K' hHeld
          have hHeld := hkn
          clear hkn
          try simp only [Act.put, List.setIfInBounds_toArray, List.set_cons_zero, List.set_cons_succ]
          refine wpAnyH_ready (rs := [4]) (by kernel_rfl) (by simp) ?_
          refine AllReadyH.cons (o := ⟨some 36, _, _, _, _, _⟩) rfl (fun K' hK' => ?_) AllReadyH.nil
          go_simp
          have hb : Below wk1.heap.size wk1 (wk1.alloc (.cells #[] 5)) := (Below.refl _ _).alloc (Nat.le_refl _) _
          have hkn := hHeld.later HE.out hb
          have F7' := F7.later hb
          have F10' := (hb.block _ (Array.getElem?_eq_some_iff.1 F10).1).trans F10
          have F4 : (wk1.alloc (.cells #[] 5)).heap[wk1.heap.size]? = some (.cells #[] 5 (0, 0)) := heap_alloc_new wk1 _
          have g4 : w6.heap.size ≤ wk1.heap.size := hHeld.2.2.2.2.2.2.1
          have d7_4 : G7 ≠ wk1.heap.size := Nat.ne_of_lt F7.lt
          have d10_4 : G10 ≠ wk1.heap.size := Nat.ne_of_lt (Array.getElem?_eq_some_iff.1 F10).1
          clear F7
          have F7 := F7'
          clear F7'
          clear F10
          have F10 := F10'
          clear F10'
          clear hb
          generalize wk1.alloc (.cells #[] 5) = wk2 at hkn F4 F7 F10 ⊢
          obtain ⟨G4, hG⟩ : ∃ x, x = wk1.heap.size := ⟨_, rfl⟩
          rw [← hG] at F4 g4 d7_4 d10_4 ⊢
          clear hG
          refine hK'.out _ _ hkn (fun _ => ?_)
          clear hK' K' hHeld
          have hHeld := hkn
          clear hkn
          try simp only [Act.put, List.setIfInBounds_toArray, List.set_cons_zero, List.set_cons_succ]
          refine wpAnyH_ready (rs := [6]) (by kernel_rfl) (by simp) ?_
          refine AllReadyH.cons (o := ⟨some 38, _, _, _, _, _⟩) rfl (fun K' hK' => ?_) AllReadyH.nil
          have h4 : Held w6.heap.size wk2 (.slice (some ⟨G4, 0, none⟩) ([] : List UInt8).length 0) [] := .inr ⟨G4, 0, 0, rfl, Nat.le_refl _, Nat.zero_le _, g4, (Array.getElem?_eq_some_iff.1 F4).1, fun i hi => absurd hi (Nat.not_lt_zero _), fun i hi => absurd hi (Nat.not_lt_zero _)⟩
          refine stepw_held3 (by rfl) (.tmp 36) (.tmp 37) rfl rfl h4 rfl hHeld.2.2.1 HL6.out hHeld.2.2.2.2.2.2.1 ?_
          intro V38 wk3 F38 bb hfr hbk
          rw [List.nil_append] at F38
          have hkn := hHeld.below HE.out bb
          have F7' := F7.keep (hfr G7 F7.lt (fun a n c e => by cases e; exact (Ne.symm d7_4)))
          have d38_7 : ∀ a n c, V38 = .slice (some a) n c → a.block ≠ G7 := fun a n c e => by
            rcases hbk a n c e with ⟨a0, n0, c0, e0, hb⟩ | hb
            · cases e0; rw [hb]; exact (Ne.symm d7_4)
            · have := F7.lt; omega
          have F10' := (hfr G10 (Array.getElem?_eq_some_iff.1 F10).1 (fun a n c e => by cases e; exact (Ne.symm d10_4))).trans F10
          have d38_10 : ∀ a n c, V38 = .slice (some a) n c → a.block ≠ G10 := fun a n c e => by
            rcases hbk a n c e with ⟨a0, n0, c0, e0, hb⟩ | hb
            · cases e0; rw [hb]; exact (Ne.symm d10_4)
            · have := (Array.getElem?_eq_some_iff.1 F10).1; omega
          clear bb hfr hbk h4 F4
          clear F7
          have F7 := F7'
          clear F7'
          clear F10
          have F10 := F10'
          clear F10'
          refine hK'.out _ _ hkn (fun _ => ?_)
          clear hK' K' hHeld
          have hHeld := hkn
          clear hkn
          try simp only [Act.put, List.setIfInBounds_toArray, List.set_cons_zero, List.set_cons_succ]
          refine wpAnyH_ready (rs := [8]) (by kernel_rfl) (by simp) ?_
          refine AllReadyH.cons (o := ⟨some 40, _, _, _, _, _⟩) rfl (fun K' hK' => ?_) AllReadyH.nil
          refine stepw_held3 (by rfl) (.tmp 38) (.tmp 39) rfl rfl F38 rfl (F7.rd (n := 1) rfl (by decide)) HL8.out hHeld.2.2.2.2.2.2.1 ?_
          intro V40 wk4 F40 bb hfr hbk
          have hkn := hHeld.below HE.out bb
          have F10' := (hfr G10 (Array.getElem?_eq_some_iff.1 F10).1 (fun a n c e => d38_10 a n c e)).trans F10
          clear bb hfr hbk F38 F7
          clear F10
          have F10 := F10'
          clear F10'
          refine hK'.out _ _ hkn (fun _ => ?_)
          clear hK' K' hHeld
          have hHeld := hkn
          clear hkn
          try simp only [Act.put, List.setIfInBounds_toArray, List.set_cons_zero, List.set_cons_succ]
          refine wpAnyH_ready (rs := [11]) (by kernel_rfl) (by simp) ?_
          refine AllReadyH.cons (o := ⟨some 43, _, _, _, _, _⟩) rfl (fun K' hK' => ?_) AllReadyH.nil
          refine stepw_call (R := fun v w'' => v = .agg (bvs D).toArray ∧ Below _ _ w'') (by rfl) ?_ ((msum_any (cap := 1) (F40.rd) (by rw [List.length_append]; have := HKL.out; simp; omega) (row_all F10 (hHeld.2.2.2.1.mono hHeld.2.2.2.2.2.2.1)) (by simp) (by simp only [total, List.flatten_cons, List.flatten_nil, List.append_nil]; omega) hHeld.2.2.2.2.1).mono fun e w'' ⟨h1, h2⟩ => ⟨_, h1, by rw [show [l].flatten = l by simp, hmac_zero k l (by have := HKL.out; omega), ← HDE.out], h2⟩) ?_
          focus go_simp
          rintro v wv ⟨rfl, hb⟩
          have hkn := hHeld.later HE.out hb
          clear hb
          refine hK'.out _ _ hkn (fun _ => ?_)
          clear hK' K' hHeld
          have hHeld := hkn
          clear hkn
          try simp only [Act.put, List.setIfInBounds_toArray, List.set_cons_zero, List.set_cons_succ]
          refine wpAnyH_take (i := 13) (oi := ⟨some 45, _, _, _, _, _⟩) (v := .bool true) rfl (by kernel_rfl) (by kernel_rfl) (by kernel_rfl) (fun _ _ _ h => h) (.inl ⟨by rfl, fun w' hSw => ?_⟩) hHeld ?_
          focus (have hq' := hq w'; clear hq; clear hHeld; go_simp)
          try simp only [Act.put, List.setIfInBounds_toArray, List.set_cons_zero, List.set_cons_succ]
          refine wpAnyH_take (i := 14) (oi := ⟨some 46, _, _, _, _, _⟩) (v := .bool true) rfl (by kernel_rfl) (by kernel_rfl) (by kernel_rfl) (fun _ _ _ h => h) (.inl ⟨by rfl, fun w' hSw => ?_⟩) hHeld ?_
          focus (have hq' := hq w'; clear hq; clear hHeld; go_simp)
          try simp only [Act.put, List.setIfInBounds_toArray, List.set_cons_zero, List.set_cons_succ]
          refine wpAnyH_take (i := 15) (oi := ⟨some 6, _, _, _, _, _⟩) (v := .bool true) rfl (by kernel_rfl) (by kernel_rfl) (by kernel_rfl) (fun _ _ _ h => h) (.inl ⟨by rfl, fun w' hSw => ?_⟩) hHeld ?_
          focus (have hq' := hq w'; clear hq; clear hHeld; go_simp)
          try simp only [Act.put, List.setIfInBounds_toArray, List.set_cons_zero, List.set_cons_succ]
          refine wpAnyH_done (by kernel_rfl) ?_ _
          refine NoPanic.normal ?_
          have HBZ := Lib.hid hHeld.2.2.2.2.2.1
          clear hHeld hq
          go_wp2_with fail
          go_ret
          exact ⟨rfl, HBZ.out⟩
end Go.Proofs.YtomoopadeknfbaaDoor
