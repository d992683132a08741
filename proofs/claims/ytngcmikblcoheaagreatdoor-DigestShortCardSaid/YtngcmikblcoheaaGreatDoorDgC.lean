/-
  DigestShort's awake, continued: what is written for the canonical schema of an empty one.
-/
import Derived.Test.YtngcmikblcoheaaGreatDoorDgB
import Derived.Test.YtngcmikblcoheaaGreatDoorStepC
import Derived.Deep.Cut
import Derived.Laws.EntriesVeiled
namespace Go.Proofs.YtngcmikblcoheaaGreatDoor
open Go.ChangeShapes Go.WideShapes Go.ChangeAt Go.RowKit
set_option linter.unusedVariables false

set_option maxRecDepth 100000 in
set_option maxHeartbeats 2000000 in
theorem print0 (W : World) : Calls Tryz.prog 14 #[.agg #[.slice none 0 0]] W fun r w' => r = .returned (.tuple #[.string ⟨#[]⟩, .bool true]) ∧ Below W.heap.size W w' := by
  go_enter Tryz.func14, Tryz.ntmps14
  go_wp2_with fail
  refine (form0 _).mono ?_
  rintro r w1 ⟨rfl, b1⟩
  have HX := Lib.hid ((Arr.new' W 32 #[.slice none 0 0] _ rfl).later b1)
  have HB := Lib.hid (ba b1)
  clear b1
  go_upto_region 4 with (fail)
  have hb2 : Below w1.heap.size w1 (w1.alloc (.cells #[.pointer none, .slice none 0 0] 66)) := (Below.refl _ _).alloc (Nat.le_refl _) _
  have HU := Lib.hid (Arr.new' w1 66 #[.pointer none, .slice none 0 0] _ rfl)
  have HX := Lib.hid (HX.out.later hb2)
  have HB := Lib.hid (HB.out.trans (hb2.mono HB.out.size))
  obtain ⟨gb, hgb⟩ : ∃ x, x = w1.heap.size := ⟨_, rfl⟩
  rw [← hgb] at HU ⊢
  generalize w1.alloc (.cells #[.pointer none, .slice none 0 0] 66) = w2 at HB HX HU ⊢
  clear hgb hb2
  go_upto_region 5 with (fail)
  have hb3 : Below w2.heap.size w2 (w2.alloc (.cells #[.func (.func 26) #[.pointer (some ⟨gb, 0, none⟩)] #[]] 67)) := (Below.refl _ _).alloc (Nat.le_refl _) _
  have HX := Lib.hid (HX.out.later hb3)
  have HU := Lib.hid (HU.out.later hb3)
  have HB := Lib.hid (HB.out.trans (hb3.mono HB.out.size))
  obtain ⟨pc, hpc⟩ : ∃ x, x = w2.heap.size := ⟨_, rfl⟩

  rw [← hpc] at ⊢
  generalize w2.alloc (.cells #[.func (.func 26) #[.pointer (some ⟨gb, 0, none⟩)] #[]] 67) = w3 at HB HX HU ⊢
  clear hpc hb3
  have x0 := HX.out.cell 0
  have y0 := HX.out.free 0
  simp only [List.getElem?_cons_zero] at x0
  go_wp2_with fail
  refine wp_loop_rounds 1 ?_
  rw [rounds_succ]
  go_wp2_with fail
  refine (bstr0 _ _ HU.out).mono ?_
  rintro r w4 ⟨rfl, b4⟩
  go_wp2_with fail
  go_ret2
  exact ⟨rfl, HB.out.trans (b4.mono HB.out.size)⟩

/-- What the region of canonical keeps. -/
def SC (w : World) (t : TypeId) (F : Nat) (W' : World) : Prop := Arr W' t w.heap.size [.func (.func F) #[] #[]] ∧ Arr W' 32 (w.heap.size + 1) [.slice none 0 0] ∧ Below w.heap.size w W'
theorem SC.later {w W W' : World} {t : TypeId} {F : Nat} (h : SC w t F W) (hb : Below W.heap.size W W') : SC w t F W' := ⟨h.1.later hb, h.2.1.later hb, h.2.2.trans (hb.mono h.2.2.size)⟩

set_option maxRecDepth 100000 in
set_option maxHeartbeats 4000000 in
theorem canB (W : World) : Calls Tryz.prog 12 #[.agg #[.func (.func 11) #[] #[]], .agg #[.slice none 0 0]] W (OwnT W (put 0)) := by
  go_enter Tryz.func12, Tryz.ntmps12
  go_wp2_with fail
  refine (right0 _).mono ?_
  rintro r w1 ⟨rfl, b1⟩
  have HS : Hid (SC W 40 11 w1) := ⟨((Arr.new' W 40 #[.func (.func 11) #[] #[]] _ rfl).alloc _).later b1, by
    have := (Arr.new' (W.alloc (.cells #[.func (.func 11) #[] #[]] 40)) 32 #[.slice none 0 0] _ rfl).later b1
    rwa [World.size_alloc] at this, ba (ba b1)⟩
  have x0 := HS.out.1.cell 0
  have y0 := HS.out.1.free 0
  clear b1
  go_upto_region 3 with (fail)
  refine wp_region_noPanic ?_
  refine wp_region_held_drew (S := SC W 40 11) (by kernel_rfl) (HS.out.later (Below.refl _ _).drew) (fun hHeld => ?_)
  try simp only [Act.put]
  generalize w1.drew = w2 at hHeld ⊢
  clear HS x0 y0
  refine wpAnyH_take (i := 0) (oi := ⟨some 10, _, _, _, _, _⟩) (v := .pointer (some ⟨W.heap.size, 0, none⟩)) rfl (by kernel_rfl) (by kernel_rfl) (by kernel_rfl) (fun _ _ _ h => h) (.inl ⟨by rfl, fun w' hSw => ?_⟩) hHeld ?_
  focus (skip; clear hHeld; go_simp)
  try simp only [Act.put, List.setIfInBounds_toArray, List.set_cons_zero, List.set_cons_succ]
  refine wpAnyH_take (i := 1) (oi := ⟨some 11, _, _, _, _, _⟩) (v := .func (.func 11) #[] #[]) rfl (by kernel_rfl) (by kernel_rfl) (by kernel_rfl) (fun _ _ _ h => h) (.inl ⟨by rfl, fun w' hSw => ?_⟩) hHeld ?_
  focus (have q0 := hSw.1.cell 0; simp only [List.getElem?_cons_zero] at q0; clear hHeld; go_simp)
  try simp only [Act.put, List.setIfInBounds_toArray, List.set_cons_zero, List.set_cons_succ]
  refine wpAnyH_take (i := 2) (oi := ⟨some 12, _, _, _, _, _⟩) (v := .agg #[.slice none 0 0]) rfl (by kernel_rfl) (by kernel_rfl) (by kernel_rfl) (fun _ _ _ h => h) (.inl ⟨by rfl, fun w' hSw => ?_⟩) hHeld ?_
  focus (have q0 := hSw.2.1.cell 0; simp only [List.getElem?_cons_zero] at q0; clear hHeld; go_simp)
  try simp only [Act.put, List.setIfInBounds_toArray, List.set_cons_zero, List.set_cons_succ]
  refine wpAnyH_ready (rs := [3]) (by kernel_rfl) (by simp) ?_
  refine AllReadyH.cons (o := ⟨some 13, _, _, _, _, _⟩) rfl (fun K' hK' => ?_) AllReadyH.nil
  refine stepw_call (R := fun v w'' => v = .agg #[.slice none 0 0] ∧ SC W 40 11 w'') (by rfl) ?_ ((canon0 _).mono fun e w' ⟨h1, h2⟩ => ⟨_, h1, rfl, hHeld.later h2⟩) ?_
  focus go_simp
  rintro v w3 ⟨rfl, hkn⟩
  refine hK'.out _ _ hkn (fun _ => ?_)
  clear hK' K' hHeld
  have hHeld := hkn
  clear hkn
  try simp only [Act.put, List.setIfInBounds_toArray, List.set_cons_zero, List.set_cons_succ]
  refine wpAnyH_ready (rs := [4]) (by kernel_rfl) (by simp) ?_
  refine AllReadyH.cons (o := ⟨some 14, _, _, _, _, _⟩) rfl (fun K' hK' => ?_) AllReadyH.nil
  refine stepw_call (R := fun v w'' => ∃ u, v = .tuple #[u, .bool true] ∧ w''.ownsRow W.heap.size 5 1 u (put 0).length (bvs (put 0)) ∧ SC W 40 11 w'') (by rfl) ?_ ((cput0 _).mono fun e w' ⟨u, h1, h2, h3⟩ => ⟨_, h1, u, rfl, own_le h2 hHeld.2.2.size, hHeld.later h3⟩) ?_
  focus go_simp
  rintro v w4 ⟨u, rfl, ho, hkn⟩
  have HO := Lib.hid ho
  clear ho
  refine hK'.out _ _ hkn (fun _ => ?_)
  clear hK' K' hHeld
  have hHeld := hkn
  clear hkn
  try simp only [Act.put, List.setIfInBounds_toArray, List.set_cons_zero, List.set_cons_succ]
  refine wpAnyH_take (i := 5) (oi := ⟨some 15, _, _, _, _, _⟩) (v := u) rfl (by kernel_rfl) (by kernel_rfl) (by kernel_rfl) (fun _ _ _ h => h) (.inl ⟨by rfl, fun w' hSw => ?_⟩) hHeld ?_
  focus (skip; clear hHeld; go_simp)
  try simp only [Act.put, List.setIfInBounds_toArray, List.set_cons_zero, List.set_cons_succ]
  refine wpAnyH_take (i := 6) (oi := ⟨some 16, _, _, _, _, _⟩) (v := .bool true) rfl (by kernel_rfl) (by kernel_rfl) (by kernel_rfl) (fun _ _ _ h => h) (.inl ⟨by rfl, fun w' hSw => ?_⟩) hHeld ?_
  focus (skip; clear hHeld; go_simp)
  try simp only [Act.put, List.setIfInBounds_toArray, List.set_cons_zero, List.set_cons_succ]
  refine wpAnyH_take (i := 7) (oi := ⟨some 4, _, _, _, _, _⟩) (v := u) rfl (by kernel_rfl) (by kernel_rfl) (by kernel_rfl) (fun _ _ _ h => h) (.inl ⟨by rfl, fun w' hSw => ?_⟩) hHeld ?_
  focus (skip; clear hHeld; go_simp)
  try simp only [Act.put, List.setIfInBounds_toArray, List.set_cons_zero, List.set_cons_succ]
  refine wpAnyH_take (i := 8) (oi := ⟨some 5, _, _, _, _, _⟩) (v := .bool true) rfl (by kernel_rfl) (by kernel_rfl) (by kernel_rfl) (fun _ _ _ h => h) (.inl ⟨by rfl, fun w' hSw => ?_⟩) hHeld ?_
  focus (skip; clear hHeld; go_simp)
  try simp only [Act.put, List.setIfInBounds_toArray, List.set_cons_zero, List.set_cons_succ]
  refine wpAnyH_done (by kernel_rfl) ?_ _
  refine NoPanic.normal ?_
  go_wp2_with fail
  go_ret2
  exact ⟨u, rfl, HO.out, hHeld.2.2⟩

set_option maxRecDepth 100000 in
set_option maxHeartbeats 4000000 in
theorem canS (W : World) : Calls Tryz.prog 15 #[.agg #[.func (.func 14) #[] #[]], .agg #[.slice none 0 0]] W (fun r w' => r = .returned (.tuple #[.string ⟨#[]⟩, .bool true]) ∧ Below W.heap.size W w') := by
  go_enter Tryz.func15, Tryz.ntmps15
  go_wp2_with fail
  refine (right0 _).mono ?_
  rintro r w1 ⟨rfl, b1⟩
  have HS : Hid (SC W 43 14 w1) := ⟨((Arr.new' W 43 #[.func (.func 14) #[] #[]] _ rfl).alloc _).later b1, by
    have := (Arr.new' (W.alloc (.cells #[.func (.func 14) #[] #[]] 43)) 32 #[.slice none 0 0] _ rfl).later b1
    rwa [World.size_alloc] at this, ba (ba b1)⟩
  have x0 := HS.out.1.cell 0
  have y0 := HS.out.1.free 0
  clear b1
  go_upto_region 3 with (fail)
  refine wp_region_noPanic ?_
  refine wp_region_held_drew (S := SC W 43 14) (by kernel_rfl) (HS.out.later (Below.refl _ _).drew) (fun hHeld => ?_)
  try simp only [Act.put]
  generalize w1.drew = w2 at hHeld ⊢
  clear HS x0 y0
  refine wpAnyH_take (i := 0) (oi := ⟨some 10, _, _, _, _, _⟩) (v := .pointer (some ⟨W.heap.size, 0, none⟩)) rfl (by kernel_rfl) (by kernel_rfl) (by kernel_rfl) (fun _ _ _ h => h) (.inl ⟨by rfl, fun w' hSw => ?_⟩) hHeld ?_
  focus (skip; clear hHeld; go_simp)
  try simp only [Act.put, List.setIfInBounds_toArray, List.set_cons_zero, List.set_cons_succ]
  refine wpAnyH_take (i := 1) (oi := ⟨some 11, _, _, _, _, _⟩) (v := .func (.func 14) #[] #[]) rfl (by kernel_rfl) (by kernel_rfl) (by kernel_rfl) (fun _ _ _ h => h) (.inl ⟨by rfl, fun w' hSw => ?_⟩) hHeld ?_
  focus (have q0 := hSw.1.cell 0; simp only [List.getElem?_cons_zero] at q0; clear hHeld; go_simp)
  try simp only [Act.put, List.setIfInBounds_toArray, List.set_cons_zero, List.set_cons_succ]
  refine wpAnyH_take (i := 2) (oi := ⟨some 12, _, _, _, _, _⟩) (v := .agg #[.slice none 0 0]) rfl (by kernel_rfl) (by kernel_rfl) (by kernel_rfl) (fun _ _ _ h => h) (.inl ⟨by rfl, fun w' hSw => ?_⟩) hHeld ?_
  focus (have q0 := hSw.2.1.cell 0; simp only [List.getElem?_cons_zero] at q0; clear hHeld; go_simp)
  try simp only [Act.put, List.setIfInBounds_toArray, List.set_cons_zero, List.set_cons_succ]
  refine wpAnyH_ready (rs := [3]) (by kernel_rfl) (by simp) ?_
  refine AllReadyH.cons (o := ⟨some 13, _, _, _, _, _⟩) rfl (fun K' hK' => ?_) AllReadyH.nil
  refine stepw_call (R := fun v w'' => v = .agg #[.slice none 0 0] ∧ SC W 43 14 w'') (by rfl) ?_ ((canon0 _).mono fun e w' ⟨h1, h2⟩ => ⟨_, h1, rfl, hHeld.later h2⟩) ?_
  focus go_simp
  rintro v w3 ⟨rfl, hkn⟩
  refine hK'.out _ _ hkn (fun _ => ?_)
  clear hK' K' hHeld
  have hHeld := hkn
  clear hkn
  try simp only [Act.put, List.setIfInBounds_toArray, List.set_cons_zero, List.set_cons_succ]
  refine wpAnyH_ready (rs := [4]) (by kernel_rfl) (by simp) ?_
  refine AllReadyH.cons (o := ⟨some 14, _, _, _, _, _⟩) rfl (fun K' hK' => ?_) AllReadyH.nil
  refine stepw_call (R := fun v w'' => v = .tuple #[.string ⟨#[]⟩, .bool true] ∧ SC W 43 14 w'') (by rfl) ?_ ((print0 _).mono fun e w' ⟨h1, h2⟩ => ⟨_, h1, rfl, hHeld.later h2⟩) ?_
  focus go_simp
  rintro v w4 ⟨rfl, hkn⟩
  refine hK'.out _ _ hkn (fun _ => ?_)
  clear hK' K' hHeld
  have hHeld := hkn
  clear hkn
  try simp only [Act.put, List.setIfInBounds_toArray, List.set_cons_zero, List.set_cons_succ]
  refine wpAnyH_take (i := 5) (oi := ⟨some 15, _, _, _, _, _⟩) (v := .string ⟨#[]⟩) rfl (by kernel_rfl) (by kernel_rfl) (by kernel_rfl) (fun _ _ _ h => h) (.inl ⟨by rfl, fun w' hSw => ?_⟩) hHeld ?_
  focus (skip; clear hHeld; go_simp)
  try simp only [Act.put, List.setIfInBounds_toArray, List.set_cons_zero, List.set_cons_succ]
  refine wpAnyH_take (i := 6) (oi := ⟨some 16, _, _, _, _, _⟩) (v := .bool true) rfl (by kernel_rfl) (by kernel_rfl) (by kernel_rfl) (fun _ _ _ h => h) (.inl ⟨by rfl, fun w' hSw => ?_⟩) hHeld ?_
  focus (skip; clear hHeld; go_simp)
  try simp only [Act.put, List.setIfInBounds_toArray, List.set_cons_zero, List.set_cons_succ]
  refine wpAnyH_take (i := 7) (oi := ⟨some 4, _, _, _, _, _⟩) (v := .string ⟨#[]⟩) rfl (by kernel_rfl) (by kernel_rfl) (by kernel_rfl) (fun _ _ _ h => h) (.inl ⟨by rfl, fun w' hSw => ?_⟩) hHeld ?_
  focus (skip; clear hHeld; go_simp)
  try simp only [Act.put, List.setIfInBounds_toArray, List.set_cons_zero, List.set_cons_succ]
  refine wpAnyH_take (i := 8) (oi := ⟨some 5, _, _, _, _, _⟩) (v := .bool true) rfl (by kernel_rfl) (by kernel_rfl) (by kernel_rfl) (fun _ _ _ h => h) (.inl ⟨by rfl, fun w' hSw => ?_⟩) hHeld ?_
  focus (skip; clear hHeld; go_simp)
  try simp only [Act.put, List.setIfInBounds_toArray, List.set_cons_zero, List.set_cons_succ]
  refine wpAnyH_done (by kernel_rfl) ?_ _
  refine NoPanic.normal ?_
  go_wp2_with fail
  go_ret2
  exact ⟨rfl, hHeld.2.2⟩

end Go.Proofs.YtngcmikblcoheaaGreatDoor
