/-
  digest.Short: the digits of the first four bytes.
-/
import Derived.Test.YtngcmikblcoheaaGreatDoorDgG
import Derived.Test.YtngcmikblcoheaaGreatDoorApp
import Derived.Test.YtngcmikblcoheaaGreatDoorStr
import Derived.Shelf.RegionOpen
import Derived.Deep.RegionHeld3
namespace Go.Proofs.YtngcmikblcoheaaGreatDoor
open Go.ChangeShapes Go.WideShapes Go.ChangeAt Go.RowKit
set_option linter.unusedVariables false
def hexs : List UInt8 := [48, 49, 50, 51, 52, 53, 54, 55, 56, 57, 97, 98, 99, 100, 101, 102]
def hx (v : Nat) : UInt8 := hexs.getD v 0
def hexB : ByteArray := ⟨#[48, 49, 50, 51, 52, 53, 54, 55, 56, 57, 97, 98, 99, 100, 101, 102]⟩
def shortL : List UInt8 → List UInt8
  | [] => []
  | b :: r => hx (b.toNat / 16) :: hx (b.toNat % 16) :: shortL r
theorem hxI (v : Nat) (hv : v < 16) (w : World) : (Instr.index 9 (.string ⟨#[48, 49, 50, 51, 52, 53, 54, 55, 56, 57, 97, 98, 99, 100, 101, 102]⟩) (.int .u8 v)).run Tryz.prog w = .ok (.int .u8 (hx v).toNat) w := by
  have key : ∀ (n : Nat), n = v → (Instr.index 9 (.string ⟨#[48, 49, 50, 51, 52, 53, 54, 55, 56, 57, 97, 98, 99, 100, 101, 102]⟩) (.int .u8 n)).run Tryz.prog w = .ok (.int .u8 (hx n).toNat) w := by
    intro n hn
    have h16 : n < 16 := by omega
    clear hn hv
    iterate 16 (rcases n with _ | n; exact (by change _ = _; kernel_rfl))
    omega
  exact key v rfl
theorem and15 (b : UInt8) : bits .and .u8 (b.toNat : Int) 15 = ((b.toNat % 16 : Nat) : Int) := by
  have e2 : (15 : Int) = ((15 : Nat) : Int) := rfl
  rw [e2, u8_and_nat _ _ b.toNat_lt (by omega)]
  have h2 : ∀ n : Fin 256, n.val &&& 15 = n.val % 16 := by decide +kernel
  congr 1
  exact h2 ⟨b.toNat, b.toNat_lt⟩
theorem hxHi (b : UInt8) (w : World) : (Instr.index 9 (.string ⟨#[48, 49, 50, 51, 52, 53, 54, 55, 56, 57, 97, 98, 99, 100, 101, 102]⟩) (.int .u8 ((b.toNat : Int) / 16))).run Tryz.prog w = .ok (.int .u8 (hx (b.toNat / 16)).toNat) w := by
  have h := hxI (b.toNat / 16) (by have := b.toNat_lt; omega) w
  rw [Int.natCast_ediv] at h
  exact h
theorem hxLo (b : UInt8) (w : World) : (Instr.index 9 (.string ⟨#[48, 49, 50, 51, 52, 53, 54, 55, 56, 57, 97, 98, 99, 100, 101, 102]⟩) (.int .u8 (bits .and .u8 (b.toNat : Int) 15))).run Tryz.prog w = .ok (.int .u8 (hx (b.toNat % 16)).toNat) w := by
  rw [and15]; exact hxI (b.toNat % 16) (by omega) w

theorem cell_row2 (W : World) (x y : Value) : (W.alloc (.cells #[x, y] 5)).cell? ⟨W.heap.size, 0, none⟩ = some x ∧ (W.alloc (.cells #[x, y] 5)).cell? ⟨W.heap.size, 1, none⟩ = some y := by
  have h := Arr.new W 5 #[x, y]
  exact ⟨h.cell 0, h.cell 1⟩
theorem step_app_two {ops : Array Oper} {o : Oper} {a : Act} {w : World} {K : Act → World → Prop} {Q : Exit → Act → World → Prop} {E : Prop} (hgd : o.guard = none) (s x : Operand)
    (ho : o.op = .call { callee := .builtin .append, args := #[s, x], argTypes := #[27, 27] })
    {base n : Nat} {v : Value} {l : List UInt8} {b c : UInt8} (hs : a.eval s = v) (hown : w.ownsRow base 5 1 v l.length (bvs l)) (hx : a.eval x = .slice (some ⟨n, 0, none⟩) 2 2) (hc : w.cell? ⟨n, 0, none⟩ = some (bv b)) (hc1 : w.cell? ⟨n, 1, none⟩ = some (bv c))
    (hlen : l.length + 2 ≤ 140737488355328) (hbase : base ≤ w.heap.size)
    (h : ∀ v' w', w'.ownsRow base 5 1 v' (l ++ [b, c]).length (bvs (l ++ [b, c])) → w.grownBy w' v.ownBlock → K (a.put o.dst v') w') :
    if Region.wanted o (yielded ops a.tmps) = true then Oper.wp Tryz.prog o a w K Q else E := by
  have hw : Region.wanted o (yielded ops a.tmps) = true := by simp [Region.wanted, hgd]
  rw [if_pos hw]
  obtain ⟨i0, hi, hz0, hz1, hz2⟩ := info_parts Tryz.info5
  refine wp_append_own w s x 27 ho base 5 i0 (.int .u8 0) 1 1 Tryz.underlying27 hi hz0 hz1 hz2 rfl (by decide) v l.length (bvs l) hs hown ⟨n, 0, none⟩ 2 2 [bv b, bv c] hx rfl ?_ ?_ (by unfold maxLen; omega) (by omega) hbase ?_
  · intro j u hu
    match j, hu with
    | 0, hu => simp at hu; subst hu; simpa [Addr.add] using hc
    | 1, hu => simp at hu; subst hu; simpa [Addr.add] using hc1
  · intro u hu; simp at hu; rcases hu with rfl | rfl <;> rfl
  · intro v' w' r1 r2 _
    exact h v' w' (by simpa [bvs] using r1) r2

set_option maxRecDepth 100000 in
set_option maxHeartbeats 2000000 in
theorem short_any (D : List UInt8) (hD : D.length = 32) (w : World) : Calls Tryz.prog 5 #[.agg (bvs D).toArray] w fun r w' => ∃ s : ByteArray, r = .returned (.string s) ∧ s.data.toList = shortL (D.take 4) ∧ Below w.heap.size w w' := by
  match D, hD with
  | b0 :: b1 :: b2 :: b3 :: R, hD =>
  have i0 := hxHi b0
  have j0 := hxLo b0
  have i1 := hxHi b1
  have j1 := hxLo b1
  have i2 := hxHi b2
  have j2 := hxLo b2
  have i3 := hxHi b3
  have j3 := hxLo b3
  have HA := Lib.hid (Arr.new' w 22 (bvs (b0 :: b1 :: b2 :: b3 :: R)).toArray _ rfl)
  have HB := Lib.hid (Below.refl (w.heap.size + 1) (w.alloc (.cells (bvs (b0 :: b1 :: b2 :: b3 :: R)).toArray 22)))
  have HS : (w.alloc (.cells (bvs (b0 :: b1 :: b2 :: b3 :: R)).toArray 22)).heap.size = w.heap.size + 1 := World.size_alloc _ _
  have HL := Lib.hid (Nat.le_of_eq HS.symm)
  have HO : Hid ((w.alloc (.cells (bvs (b0 :: b1 :: b2 :: b3 :: R)).toArray 22)).ownsRow (w.heap.size + 1) 5 1 (.slice none 0 0) ([] : List UInt8).length (bvs [])) := World.ownsRow_nil _ _ _ _
  clear HS
  go_enter Tryz.func5, Tryz.ntmps5
  go_wp2_with fail
  obtain ⟨W, hW⟩ : ∃ W, W = w.alloc (.cells (bvs (b0 :: b1 :: b2 :: b3 :: R)).toArray 22) := ⟨_, rfl⟩
  rw [← hW] at HA HB HL HO ⊢
  have HZ := HL
  have HW := Lib.hid hW
  clear hW
  refine wp_loop_rounds 5 ?_
  rw [rounds_succ]
  have c0 := (HA.out.below HB.out (Nat.lt_succ_self _)).cell 0
  simp only [bvs, List.map_cons, bv, List.getElem?_cons_zero] at c0
  go_wp2_with fail
  clear c0
  refine wp_region_noPanic ?_
  refine wp_region_held_drew (S := fun _ => True) (by kernel_rfl) trivial (fun hHeld => ?_)
  try simp only [Act.put]
  have HO0 : Hid (W.drew.ownsRow (w.heap.size + 1) 5 1 (.slice none 0 0) ([] : List UInt8).length (bvs [])) := HO.out
  have HL0 : Hid (w.heap.size + 1 ≤ W.drew.heap.size) := HL.out
  have HB0 := Lib.hid (HB.out.trans (Below.refl (w.heap.size + 1) W).drew)
  clear HB HO HL
  generalize W.drew = x0 at hHeld HO0 HL0 HB0 ⊢
  refine wpAnyH_take (i := 0) (oi := ⟨some 12, _, _, _, _, _⟩) (v := (.slice none 0 0)) rfl (by kernel_rfl) (by kernel_rfl) (by kernel_rfl) (fun _ _ _ h => h) (.inl ⟨by rfl, fun w' hSw => ?_⟩) hHeld ?_
  focus (skip; clear hHeld; go_simp)
  try simp only [Act.put, List.setIfInBounds_toArray, List.set_cons_zero, List.set_cons_succ]
  refine wpAnyH_take (i := 1) (oi := ⟨some 13, _, _, _, _, _⟩) (v := .int .u8 b0.toNat) rfl (by kernel_rfl) (by kernel_rfl) (by kernel_rfl) (fun _ _ _ h => h) (.inl ⟨by rfl, fun w' hSw => ?_⟩) hHeld ?_
  focus (skip; clear hHeld; go_simp)
  try simp only [Act.put, List.setIfInBounds_toArray, List.set_cons_zero, List.set_cons_succ]
  refine wpAnyH_take (i := 2) (oi := ⟨some 14, _, _, _, _, _⟩) (v := .int .u8 ((b0.toNat : Int) / 16)) rfl (by kernel_rfl) (by kernel_rfl) (by kernel_rfl) (fun _ _ _ h => h) (.inl ⟨by rfl, fun w' hSw => ?_⟩) hHeld ?_
  focus (skip; clear hHeld; go_simp)
  try simp only [Act.put, List.setIfInBounds_toArray, List.set_cons_zero, List.set_cons_succ]
  refine wpAnyH_take (i := 3) (oi := ⟨some 15, _, _, _, _, _⟩) (v := .int .u8 (hx (b0.toNat / 16)).toNat) rfl (by kernel_rfl) (by kernel_rfl) (by kernel_rfl) (fun _ _ _ h => h) (.inl ⟨by rfl, fun w' hSw => ?_⟩) hHeld ?_
  focus (skip; clear hHeld; go_simp)
  try simp only [Act.put, List.setIfInBounds_toArray, List.set_cons_zero, List.set_cons_succ]
  refine wpAnyH_take (i := 4) (oi := ⟨some 16, _, _, _, _, _⟩) (v := .int .u8 b0.toNat) rfl (by kernel_rfl) (by kernel_rfl) (by kernel_rfl) (fun _ _ _ h => h) (.inl ⟨by rfl, fun w' hSw => ?_⟩) hHeld ?_
  focus (skip; clear hHeld; go_simp)
  try simp only [Act.put, List.setIfInBounds_toArray, List.set_cons_zero, List.set_cons_succ]
  refine wpAnyH_take (i := 5) (oi := ⟨some 17, _, _, _, _, _⟩) (v := .int .u8 (bits .and .u8 (b0.toNat : Int) 15)) rfl (by kernel_rfl) (by kernel_rfl) (by kernel_rfl) (fun _ _ _ h => h) (.inl ⟨by rfl, fun w' hSw => ?_⟩) hHeld ?_
  focus (skip; clear hHeld; go_simp)
  try simp only [Act.put, List.setIfInBounds_toArray, List.set_cons_zero, List.set_cons_succ]
  refine wpAnyH_take (i := 6) (oi := ⟨some 18, _, _, _, _, _⟩) (v := .int .u8 (hx (b0.toNat % 16)).toNat) rfl (by kernel_rfl) (by kernel_rfl) (by kernel_rfl) (fun _ _ _ h => h) (.inl ⟨by rfl, fun w' hSw => ?_⟩) hHeld ?_
  focus (skip; clear hHeld; go_simp)
  try simp only [Act.put, List.setIfInBounds_toArray, List.set_cons_zero, List.set_cons_succ]
  refine wpAnyH_ready (rs := [7]) (by kernel_rfl) (by simp) ?_
  refine AllReadyH.cons (o := ⟨some 19, _, _, _, _, _⟩) rfl (fun K' hK' => ?_) AllReadyH.nil
  go_simp
  have hkn : True := trivial
  refine hK'.out _ _ hkn (fun _ => ?_)
  clear hK' K' hHeld
  have hHeld := hkn
  clear hkn
  try simp only [Act.put, List.setIfInBounds_toArray, List.set_cons_zero, List.set_cons_succ]
  refine wpAnyH_ready (rs := [8]) (by kernel_rfl) (by simp) ?_
  refine AllReadyH.cons (o := ⟨some 20, _, _, _, _, _⟩) rfl (fun K' hK' => ?_) AllReadyH.nil
  have d0 := cell_row2 x0 (bv (hx (b0.toNat / 16))) (bv (hx (b0.toNat % 16)))
  refine step_app_two (b := hx (b0.toNat / 16)) (c := hx (b0.toNat % 16)) (l := []) rfl (.tmp 12) (.tmp 19) rfl rfl (HO0.out.alloc _) rfl d0.1 d0.2 (by simp only [List.length_cons, List.length_nil]; omega) (by have := HL0.out; show _ ≤ (World.alloc _ _).heap.size; rw [World.size_alloc]; omega) ?_
  intro v1 w1 hown hg
  have hgg : (x0.alloc (.cells #[bv (hx (b0.toNat / 16)), bv (hx (b0.toNat % 16))] 5)).grownBy w1 (Value.ownBlock (.slice none 0 0)) := hg
  have HB := Lib.hid (below_append HB0.out HL0.out (Nat.le_refl _) HO0.out hgg)
  have HL := Lib.hid (Nat.le_trans HZ.out HB.out.size)
  obtain ⟨q1, p1, rfl⟩ := own_form hown
  have HO : Hid (w1.ownsRow (w.heap.size + 1) 5 1 (.slice q1 2 p1) ([hx (b0.toNat / 16), hx (b0.toNat % 16)] : List UInt8).length (bvs [hx (b0.toNat / 16), hx (b0.toNat % 16)])) := hown
  clear hown hg hgg HB0 HO0 HL0 d0
  have hkn : True := trivial
  refine hK'.out _ _ hkn (fun _ => ?_)
  clear hK' K' hHeld
  have hHeld := hkn
  clear hkn
  try simp only [Act.put, List.setIfInBounds_toArray, List.set_cons_zero, List.set_cons_succ]
  refine wpAnyH_ready (rs := [9]) (by kernel_rfl) (by simp) ?_
  refine AllReadyH.cons (o := ⟨some 3, _, _, _, _, _⟩) rfl (fun K' hK' => ?_) AllReadyH.nil
  go_simp
  have hkn : True := trivial
  refine hK'.out _ _ hkn (fun _ => ?_)
  clear hK' K' hHeld
  have hHeld := hkn
  clear hkn
  try simp only [Act.put, List.setIfInBounds_toArray, List.set_cons_zero, List.set_cons_succ]
  refine wpAnyH_done (by kernel_rfl) ?_ _
  refine NoPanic.normal ?_
  go_wp2_with fail
  rw [rounds_succ]
  have c1 := (HA.out.below HB.out (Nat.lt_succ_self _)).cell 1
  simp only [bvs, List.map_cons, bv, List.getElem?_cons_zero, List.getElem?_cons_succ] at c1
  go_wp2_with fail
  clear c1
  refine wp_region_noPanic ?_
  refine wp_region_held_drew (S := fun _ => True) (by kernel_rfl) trivial (fun hHeld => ?_)
  try simp only [Act.put]
  have HO1 : Hid (w1.drew.ownsRow (w.heap.size + 1) 5 1 (.slice q1 2 p1) ([hx (b0.toNat / 16), hx (b0.toNat % 16)] : List UInt8).length (bvs [hx (b0.toNat / 16), hx (b0.toNat % 16)])) := HO.out
  have HL1 : Hid (w.heap.size + 1 ≤ w1.drew.heap.size) := HL.out
  have HB1 := Lib.hid (HB.out.trans (Below.refl (w.heap.size + 1) w1).drew)
  clear HB HO HL
  generalize w1.drew = x1 at hHeld HO1 HL1 HB1 ⊢
  refine wpAnyH_take (i := 0) (oi := ⟨some 12, _, _, _, _, _⟩) (v := (.slice q1 2 p1)) rfl (by kernel_rfl) (by kernel_rfl) (by kernel_rfl) (fun _ _ _ h => h) (.inl ⟨by rfl, fun w' hSw => ?_⟩) hHeld ?_
  focus (skip; clear hHeld; go_simp)
  try simp only [Act.put, List.setIfInBounds_toArray, List.set_cons_zero, List.set_cons_succ]
  refine wpAnyH_take (i := 1) (oi := ⟨some 13, _, _, _, _, _⟩) (v := .int .u8 b1.toNat) rfl (by kernel_rfl) (by kernel_rfl) (by kernel_rfl) (fun _ _ _ h => h) (.inl ⟨by rfl, fun w' hSw => ?_⟩) hHeld ?_
  focus (skip; clear hHeld; go_simp)
  try simp only [Act.put, List.setIfInBounds_toArray, List.set_cons_zero, List.set_cons_succ]
  refine wpAnyH_take (i := 2) (oi := ⟨some 14, _, _, _, _, _⟩) (v := .int .u8 ((b1.toNat : Int) / 16)) rfl (by kernel_rfl) (by kernel_rfl) (by kernel_rfl) (fun _ _ _ h => h) (.inl ⟨by rfl, fun w' hSw => ?_⟩) hHeld ?_
  focus (skip; clear hHeld; go_simp)
  try simp only [Act.put, List.setIfInBounds_toArray, List.set_cons_zero, List.set_cons_succ]
  refine wpAnyH_take (i := 3) (oi := ⟨some 15, _, _, _, _, _⟩) (v := .int .u8 (hx (b1.toNat / 16)).toNat) rfl (by kernel_rfl) (by kernel_rfl) (by kernel_rfl) (fun _ _ _ h => h) (.inl ⟨by rfl, fun w' hSw => ?_⟩) hHeld ?_
  focus (skip; clear hHeld; go_simp)
  try simp only [Act.put, List.setIfInBounds_toArray, List.set_cons_zero, List.set_cons_succ]
  refine wpAnyH_take (i := 4) (oi := ⟨some 16, _, _, _, _, _⟩) (v := .int .u8 b1.toNat) rfl (by kernel_rfl) (by kernel_rfl) (by kernel_rfl) (fun _ _ _ h => h) (.inl ⟨by rfl, fun w' hSw => ?_⟩) hHeld ?_
  focus (skip; clear hHeld; go_simp)
  try simp only [Act.put, List.setIfInBounds_toArray, List.set_cons_zero, List.set_cons_succ]
  refine wpAnyH_take (i := 5) (oi := ⟨some 17, _, _, _, _, _⟩) (v := .int .u8 (bits .and .u8 (b1.toNat : Int) 15)) rfl (by kernel_rfl) (by kernel_rfl) (by kernel_rfl) (fun _ _ _ h => h) (.inl ⟨by rfl, fun w' hSw => ?_⟩) hHeld ?_
  focus (skip; clear hHeld; go_simp)
  try simp only [Act.put, List.setIfInBounds_toArray, List.set_cons_zero, List.set_cons_succ]
  refine wpAnyH_take (i := 6) (oi := ⟨some 18, _, _, _, _, _⟩) (v := .int .u8 (hx (b1.toNat % 16)).toNat) rfl (by kernel_rfl) (by kernel_rfl) (by kernel_rfl) (fun _ _ _ h => h) (.inl ⟨by rfl, fun w' hSw => ?_⟩) hHeld ?_
  focus (skip; clear hHeld; go_simp)
  try simp only [Act.put, List.setIfInBounds_toArray, List.set_cons_zero, List.set_cons_succ]
  refine wpAnyH_ready (rs := [7]) (by kernel_rfl) (by simp) ?_
  refine AllReadyH.cons (o := ⟨some 19, _, _, _, _, _⟩) rfl (fun K' hK' => ?_) AllReadyH.nil
  go_simp
  have hkn : True := trivial
  refine hK'.out _ _ hkn (fun _ => ?_)
  clear hK' K' hHeld
  have hHeld := hkn
  clear hkn
  try simp only [Act.put, List.setIfInBounds_toArray, List.set_cons_zero, List.set_cons_succ]
  refine wpAnyH_ready (rs := [8]) (by kernel_rfl) (by simp) ?_
  refine AllReadyH.cons (o := ⟨some 20, _, _, _, _, _⟩) rfl (fun K' hK' => ?_) AllReadyH.nil
  have d0 := cell_row2 x1 (bv (hx (b1.toNat / 16))) (bv (hx (b1.toNat % 16)))
  refine step_app_two (b := hx (b1.toNat / 16)) (c := hx (b1.toNat % 16)) (l := [hx (b0.toNat / 16), hx (b0.toNat % 16)]) rfl (.tmp 12) (.tmp 19) rfl rfl (HO1.out.alloc _) rfl d0.1 d0.2 (by simp only [List.length_cons, List.length_nil]; omega) (by have := HL1.out; show _ ≤ (World.alloc _ _).heap.size; rw [World.size_alloc]; omega) ?_
  intro v2 w2 hown hg
  have hgg : (x1.alloc (.cells #[bv (hx (b1.toNat / 16)), bv (hx (b1.toNat % 16))] 5)).grownBy w2 (Value.ownBlock (.slice q1 2 p1)) := hg
  have HB := Lib.hid (below_append HB1.out HL1.out (Nat.le_refl _) HO1.out hgg)
  have HL := Lib.hid (Nat.le_trans HZ.out HB.out.size)
  obtain ⟨q2, p2, rfl⟩ := own_form hown
  have HO : Hid (w2.ownsRow (w.heap.size + 1) 5 1 (.slice q2 4 p2) ([hx (b0.toNat / 16), hx (b0.toNat % 16), hx (b1.toNat / 16), hx (b1.toNat % 16)] : List UInt8).length (bvs [hx (b0.toNat / 16), hx (b0.toNat % 16), hx (b1.toNat / 16), hx (b1.toNat % 16)])) := hown
  clear hown hg hgg HB1 HO1 HL1 d0
  have hkn : True := trivial
  refine hK'.out _ _ hkn (fun _ => ?_)
  clear hK' K' hHeld
  have hHeld := hkn
  clear hkn
  try simp only [Act.put, List.setIfInBounds_toArray, List.set_cons_zero, List.set_cons_succ]
  refine wpAnyH_ready (rs := [9]) (by kernel_rfl) (by simp) ?_
  refine AllReadyH.cons (o := ⟨some 3, _, _, _, _, _⟩) rfl (fun K' hK' => ?_) AllReadyH.nil
  go_simp
  have hkn : True := trivial
  refine hK'.out _ _ hkn (fun _ => ?_)
  clear hK' K' hHeld
  have hHeld := hkn
  clear hkn
  try simp only [Act.put, List.setIfInBounds_toArray, List.set_cons_zero, List.set_cons_succ]
  refine wpAnyH_done (by kernel_rfl) ?_ _
  refine NoPanic.normal ?_
  go_wp2_with fail
  rw [rounds_succ]
  have c2 := (HA.out.below HB.out (Nat.lt_succ_self _)).cell 2
  simp only [bvs, List.map_cons, bv, List.getElem?_cons_zero, List.getElem?_cons_succ] at c2
  go_wp2_with fail
  clear c2
  refine wp_region_noPanic ?_
  refine wp_region_held_drew (S := fun _ => True) (by kernel_rfl) trivial (fun hHeld => ?_)
  try simp only [Act.put]
  have HO2 : Hid (w2.drew.ownsRow (w.heap.size + 1) 5 1 (.slice q2 4 p2) ([hx (b0.toNat / 16), hx (b0.toNat % 16), hx (b1.toNat / 16), hx (b1.toNat % 16)] : List UInt8).length (bvs [hx (b0.toNat / 16), hx (b0.toNat % 16), hx (b1.toNat / 16), hx (b1.toNat % 16)])) := HO.out
  have HL2 : Hid (w.heap.size + 1 ≤ w2.drew.heap.size) := HL.out
  have HB2 := Lib.hid (HB.out.trans (Below.refl (w.heap.size + 1) w2).drew)
  clear HB HO HL
  generalize w2.drew = x2 at hHeld HO2 HL2 HB2 ⊢
  refine wpAnyH_take (i := 0) (oi := ⟨some 12, _, _, _, _, _⟩) (v := (.slice q2 4 p2)) rfl (by kernel_rfl) (by kernel_rfl) (by kernel_rfl) (fun _ _ _ h => h) (.inl ⟨by rfl, fun w' hSw => ?_⟩) hHeld ?_
  focus (skip; clear hHeld; go_simp)
  try simp only [Act.put, List.setIfInBounds_toArray, List.set_cons_zero, List.set_cons_succ]
  refine wpAnyH_take (i := 1) (oi := ⟨some 13, _, _, _, _, _⟩) (v := .int .u8 b2.toNat) rfl (by kernel_rfl) (by kernel_rfl) (by kernel_rfl) (fun _ _ _ h => h) (.inl ⟨by rfl, fun w' hSw => ?_⟩) hHeld ?_
  focus (skip; clear hHeld; go_simp)
  try simp only [Act.put, List.setIfInBounds_toArray, List.set_cons_zero, List.set_cons_succ]
  refine wpAnyH_take (i := 2) (oi := ⟨some 14, _, _, _, _, _⟩) (v := .int .u8 ((b2.toNat : Int) / 16)) rfl (by kernel_rfl) (by kernel_rfl) (by kernel_rfl) (fun _ _ _ h => h) (.inl ⟨by rfl, fun w' hSw => ?_⟩) hHeld ?_
  focus (skip; clear hHeld; go_simp)
  try simp only [Act.put, List.setIfInBounds_toArray, List.set_cons_zero, List.set_cons_succ]
  refine wpAnyH_take (i := 3) (oi := ⟨some 15, _, _, _, _, _⟩) (v := .int .u8 (hx (b2.toNat / 16)).toNat) rfl (by kernel_rfl) (by kernel_rfl) (by kernel_rfl) (fun _ _ _ h => h) (.inl ⟨by rfl, fun w' hSw => ?_⟩) hHeld ?_
  focus (skip; clear hHeld; go_simp)
  try simp only [Act.put, List.setIfInBounds_toArray, List.set_cons_zero, List.set_cons_succ]
  refine wpAnyH_take (i := 4) (oi := ⟨some 16, _, _, _, _, _⟩) (v := .int .u8 b2.toNat) rfl (by kernel_rfl) (by kernel_rfl) (by kernel_rfl) (fun _ _ _ h => h) (.inl ⟨by rfl, fun w' hSw => ?_⟩) hHeld ?_
  focus (skip; clear hHeld; go_simp)
  try simp only [Act.put, List.setIfInBounds_toArray, List.set_cons_zero, List.set_cons_succ]
  refine wpAnyH_take (i := 5) (oi := ⟨some 17, _, _, _, _, _⟩) (v := .int .u8 (bits .and .u8 (b2.toNat : Int) 15)) rfl (by kernel_rfl) (by kernel_rfl) (by kernel_rfl) (fun _ _ _ h => h) (.inl ⟨by rfl, fun w' hSw => ?_⟩) hHeld ?_
  focus (skip; clear hHeld; go_simp)
  try simp only [Act.put, List.setIfInBounds_toArray, List.set_cons_zero, List.set_cons_succ]
  refine wpAnyH_take (i := 6) (oi := ⟨some 18, _, _, _, _, _⟩) (v := .int .u8 (hx (b2.toNat % 16)).toNat) rfl (by kernel_rfl) (by kernel_rfl) (by kernel_rfl) (fun _ _ _ h => h) (.inl ⟨by rfl, fun w' hSw => ?_⟩) hHeld ?_
  focus (skip; clear hHeld; go_simp)
  try simp only [Act.put, List.setIfInBounds_toArray, List.set_cons_zero, List.set_cons_succ]
  refine wpAnyH_ready (rs := [7]) (by kernel_rfl) (by simp) ?_
  refine AllReadyH.cons (o := ⟨some 19, _, _, _, _, _⟩) rfl (fun K' hK' => ?_) AllReadyH.nil
  go_simp
  have hkn : True := trivial
  refine hK'.out _ _ hkn (fun _ => ?_)
  clear hK' K' hHeld
  have hHeld := hkn
  clear hkn
  try simp only [Act.put, List.setIfInBounds_toArray, List.set_cons_zero, List.set_cons_succ]
  refine wpAnyH_ready (rs := [8]) (by kernel_rfl) (by simp) ?_
  refine AllReadyH.cons (o := ⟨some 20, _, _, _, _, _⟩) rfl (fun K' hK' => ?_) AllReadyH.nil
  have d0 := cell_row2 x2 (bv (hx (b2.toNat / 16))) (bv (hx (b2.toNat % 16)))
  refine step_app_two (b := hx (b2.toNat / 16)) (c := hx (b2.toNat % 16)) (l := [hx (b0.toNat / 16), hx (b0.toNat % 16), hx (b1.toNat / 16), hx (b1.toNat % 16)]) rfl (.tmp 12) (.tmp 19) rfl rfl (HO2.out.alloc _) rfl d0.1 d0.2 (by simp only [List.length_cons, List.length_nil]; omega) (by have := HL2.out; show _ ≤ (World.alloc _ _).heap.size; rw [World.size_alloc]; omega) ?_
  intro v3 w3 hown hg
  have hgg : (x2.alloc (.cells #[bv (hx (b2.toNat / 16)), bv (hx (b2.toNat % 16))] 5)).grownBy w3 (Value.ownBlock (.slice q2 4 p2)) := hg
  have HB := Lib.hid (below_append HB2.out HL2.out (Nat.le_refl _) HO2.out hgg)
  have HL := Lib.hid (Nat.le_trans HZ.out HB.out.size)
  obtain ⟨q3, p3, rfl⟩ := own_form hown
  have HO : Hid (w3.ownsRow (w.heap.size + 1) 5 1 (.slice q3 6 p3) ([hx (b0.toNat / 16), hx (b0.toNat % 16), hx (b1.toNat / 16), hx (b1.toNat % 16), hx (b2.toNat / 16), hx (b2.toNat % 16)] : List UInt8).length (bvs [hx (b0.toNat / 16), hx (b0.toNat % 16), hx (b1.toNat / 16), hx (b1.toNat % 16), hx (b2.toNat / 16), hx (b2.toNat % 16)])) := hown
  clear hown hg hgg HB2 HO2 HL2 d0
  have hkn : True := trivial
  refine hK'.out _ _ hkn (fun _ => ?_)
  clear hK' K' hHeld
  have hHeld := hkn
  clear hkn
  try simp only [Act.put, List.setIfInBounds_toArray, List.set_cons_zero, List.set_cons_succ]
  refine wpAnyH_ready (rs := [9]) (by kernel_rfl) (by simp) ?_
  refine AllReadyH.cons (o := ⟨some 3, _, _, _, _, _⟩) rfl (fun K' hK' => ?_) AllReadyH.nil
  go_simp
  have hkn : True := trivial
  refine hK'.out _ _ hkn (fun _ => ?_)
  clear hK' K' hHeld
  have hHeld := hkn
  clear hkn
  try simp only [Act.put, List.setIfInBounds_toArray, List.set_cons_zero, List.set_cons_succ]
  refine wpAnyH_done (by kernel_rfl) ?_ _
  refine NoPanic.normal ?_
  go_wp2_with fail
  rw [rounds_succ]
  have c3 := (HA.out.below HB.out (Nat.lt_succ_self _)).cell 3
  simp only [bvs, List.map_cons, bv, List.getElem?_cons_zero, List.getElem?_cons_succ] at c3
  go_wp2_with fail
  clear c3
  refine wp_region_noPanic ?_
  refine wp_region_held_drew (S := fun _ => True) (by kernel_rfl) trivial (fun hHeld => ?_)
  try simp only [Act.put]
  have HO3 : Hid (w3.drew.ownsRow (w.heap.size + 1) 5 1 (.slice q3 6 p3) ([hx (b0.toNat / 16), hx (b0.toNat % 16), hx (b1.toNat / 16), hx (b1.toNat % 16), hx (b2.toNat / 16), hx (b2.toNat % 16)] : List UInt8).length (bvs [hx (b0.toNat / 16), hx (b0.toNat % 16), hx (b1.toNat / 16), hx (b1.toNat % 16), hx (b2.toNat / 16), hx (b2.toNat % 16)])) := HO.out
  have HL3 : Hid (w.heap.size + 1 ≤ w3.drew.heap.size) := HL.out
  have HB3 := Lib.hid (HB.out.trans (Below.refl (w.heap.size + 1) w3).drew)
  clear HB HO HL
  generalize w3.drew = x3 at hHeld HO3 HL3 HB3 ⊢
  refine wpAnyH_take (i := 0) (oi := ⟨some 12, _, _, _, _, _⟩) (v := (.slice q3 6 p3)) rfl (by kernel_rfl) (by kernel_rfl) (by kernel_rfl) (fun _ _ _ h => h) (.inl ⟨by rfl, fun w' hSw => ?_⟩) hHeld ?_
  focus (skip; clear hHeld; go_simp)
  try simp only [Act.put, List.setIfInBounds_toArray, List.set_cons_zero, List.set_cons_succ]
  refine wpAnyH_take (i := 1) (oi := ⟨some 13, _, _, _, _, _⟩) (v := .int .u8 b3.toNat) rfl (by kernel_rfl) (by kernel_rfl) (by kernel_rfl) (fun _ _ _ h => h) (.inl ⟨by rfl, fun w' hSw => ?_⟩) hHeld ?_
  focus (skip; clear hHeld; go_simp)
  try simp only [Act.put, List.setIfInBounds_toArray, List.set_cons_zero, List.set_cons_succ]
  refine wpAnyH_take (i := 2) (oi := ⟨some 14, _, _, _, _, _⟩) (v := .int .u8 ((b3.toNat : Int) / 16)) rfl (by kernel_rfl) (by kernel_rfl) (by kernel_rfl) (fun _ _ _ h => h) (.inl ⟨by rfl, fun w' hSw => ?_⟩) hHeld ?_
  focus (skip; clear hHeld; go_simp)
  try simp only [Act.put, List.setIfInBounds_toArray, List.set_cons_zero, List.set_cons_succ]
  refine wpAnyH_take (i := 3) (oi := ⟨some 15, _, _, _, _, _⟩) (v := .int .u8 (hx (b3.toNat / 16)).toNat) rfl (by kernel_rfl) (by kernel_rfl) (by kernel_rfl) (fun _ _ _ h => h) (.inl ⟨by rfl, fun w' hSw => ?_⟩) hHeld ?_
  focus (skip; clear hHeld; go_simp)
  try simp only [Act.put, List.setIfInBounds_toArray, List.set_cons_zero, List.set_cons_succ]
  refine wpAnyH_take (i := 4) (oi := ⟨some 16, _, _, _, _, _⟩) (v := .int .u8 b3.toNat) rfl (by kernel_rfl) (by kernel_rfl) (by kernel_rfl) (fun _ _ _ h => h) (.inl ⟨by rfl, fun w' hSw => ?_⟩) hHeld ?_
  focus (skip; clear hHeld; go_simp)
  try simp only [Act.put, List.setIfInBounds_toArray, List.set_cons_zero, List.set_cons_succ]
  refine wpAnyH_take (i := 5) (oi := ⟨some 17, _, _, _, _, _⟩) (v := .int .u8 (bits .and .u8 (b3.toNat : Int) 15)) rfl (by kernel_rfl) (by kernel_rfl) (by kernel_rfl) (fun _ _ _ h => h) (.inl ⟨by rfl, fun w' hSw => ?_⟩) hHeld ?_
  focus (skip; clear hHeld; go_simp)
  try simp only [Act.put, List.setIfInBounds_toArray, List.set_cons_zero, List.set_cons_succ]
  refine wpAnyH_take (i := 6) (oi := ⟨some 18, _, _, _, _, _⟩) (v := .int .u8 (hx (b3.toNat % 16)).toNat) rfl (by kernel_rfl) (by kernel_rfl) (by kernel_rfl) (fun _ _ _ h => h) (.inl ⟨by rfl, fun w' hSw => ?_⟩) hHeld ?_
  focus (skip; clear hHeld; go_simp)
  try simp only [Act.put, List.setIfInBounds_toArray, List.set_cons_zero, List.set_cons_succ]
  refine wpAnyH_ready (rs := [7]) (by kernel_rfl) (by simp) ?_
  refine AllReadyH.cons (o := ⟨some 19, _, _, _, _, _⟩) rfl (fun K' hK' => ?_) AllReadyH.nil
  go_simp
  have hkn : True := trivial
  refine hK'.out _ _ hkn (fun _ => ?_)
  clear hK' K' hHeld
  have hHeld := hkn
  clear hkn
  try simp only [Act.put, List.setIfInBounds_toArray, List.set_cons_zero, List.set_cons_succ]
  refine wpAnyH_ready (rs := [8]) (by kernel_rfl) (by simp) ?_
  refine AllReadyH.cons (o := ⟨some 20, _, _, _, _, _⟩) rfl (fun K' hK' => ?_) AllReadyH.nil
  have d0 := cell_row2 x3 (bv (hx (b3.toNat / 16))) (bv (hx (b3.toNat % 16)))
  refine step_app_two (b := hx (b3.toNat / 16)) (c := hx (b3.toNat % 16)) (l := [hx (b0.toNat / 16), hx (b0.toNat % 16), hx (b1.toNat / 16), hx (b1.toNat % 16), hx (b2.toNat / 16), hx (b2.toNat % 16)]) rfl (.tmp 12) (.tmp 19) rfl rfl (HO3.out.alloc _) rfl d0.1 d0.2 (by simp only [List.length_cons, List.length_nil]; omega) (by have := HL3.out; show _ ≤ (World.alloc _ _).heap.size; rw [World.size_alloc]; omega) ?_
  intro v4 w4 hown hg
  have hgg : (x3.alloc (.cells #[bv (hx (b3.toNat / 16)), bv (hx (b3.toNat % 16))] 5)).grownBy w4 (Value.ownBlock (.slice q3 6 p3)) := hg
  have HB := Lib.hid (below_append HB3.out HL3.out (Nat.le_refl _) HO3.out hgg)
  have HL := Lib.hid (Nat.le_trans HZ.out HB.out.size)
  obtain ⟨q4, p4, rfl⟩ := own_form hown
  have HO : Hid (w4.ownsRow (w.heap.size + 1) 5 1 (.slice q4 8 p4) ([hx (b0.toNat / 16), hx (b0.toNat % 16), hx (b1.toNat / 16), hx (b1.toNat % 16), hx (b2.toNat / 16), hx (b2.toNat % 16), hx (b3.toNat / 16), hx (b3.toNat % 16)] : List UInt8).length (bvs [hx (b0.toNat / 16), hx (b0.toNat % 16), hx (b1.toNat / 16), hx (b1.toNat % 16), hx (b2.toNat / 16), hx (b2.toNat % 16), hx (b3.toNat / 16), hx (b3.toNat % 16)])) := hown
  clear hown hg hgg HB3 HO3 HL3 d0
  have hkn : True := trivial
  refine hK'.out _ _ hkn (fun _ => ?_)
  clear hK' K' hHeld
  have hHeld := hkn
  clear hkn
  try simp only [Act.put, List.setIfInBounds_toArray, List.set_cons_zero, List.set_cons_succ]
  refine wpAnyH_ready (rs := [9]) (by kernel_rfl) (by simp) ?_
  refine AllReadyH.cons (o := ⟨some 3, _, _, _, _, _⟩) rfl (fun K' hK' => ?_) AllReadyH.nil
  go_simp
  have hkn : True := trivial
  refine hK'.out _ _ hkn (fun _ => ?_)
  clear hK' K' hHeld
  have hHeld := hkn
  clear hkn
  try simp only [Act.put, List.setIfInBounds_toArray, List.set_cons_zero, List.set_cons_succ]
  refine wpAnyH_done (by kernel_rfl) ?_ _
  refine NoPanic.normal ?_
  go_wp2_with fail
  rw [rounds_succ]
  have hcv := conv_bytes (Rd.of_own HO.out)
  go_wp2_with fail
  go_ret
  exact ⟨_, rfl, rfl, by rw [HW.out] at HB; exact ba (by rw [World.size_alloc]; exact HB.out)⟩
end Go.Proofs.YtngcmikblcoheaaGreatDoor
