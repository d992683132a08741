/-
  slices.Equal, SameMember, slices.EqualFunc, sameDefinition, Same on the law's schema.
-/
import Derived.Test.YtijokgddfcfcbaaDoorScC
import Derived.Test.YtijokgddfcfcbaaDoorStepC
namespace Go.Proofs.YtijokgddfcfcbaaDoor
open Go.ChangeShapes Go.WideShapes Go.ChangeAt Go.RowKit
set_option linter.unusedVariables false

/-- The first cells of a block. -/
def Cl (W : World) (g : Nat) (cs : List Value) : Prop := g < W.heap.size ∧ ∀ i, i < cs.length → W.cell? ⟨g, i, none⟩ = cs[i]?
theorem Cl.of {W : World} {t : TypeId} {g : Nat} {cs : List Value} (h : Arr W t g cs) : Cl W g cs := ⟨h.lt, fun i _ => h.cell i⟩
theorem Cl.below {B : Nat} {W W' : World} {g : Nat} {cs : List Value} (h : Cl W g cs) (hb : Below B W W') (hg : g < B) : Cl W' g cs := ⟨Nat.lt_of_lt_of_le h.1 hb.size, fun i hi => (hb.cell (p := ⟨g, i, none⟩) hg).trans (h.2 i hi)⟩
theorem Cl.later {W W' : World} {g : Nat} {cs : List Value} (h : Cl W g cs) (hb : Below W.heap.size W W') : Cl W' g cs := h.below hb h.1
theorem Cl.alloc {W : World} {g : Nat} {cs : List Value} (h : Cl W g cs) (o : Obj) : Cl (W.alloc o) g cs := h.later ((Below.refl _ _).alloc (Nat.le_refl _) _)
def SE (W : World) (p q : Nat) (W' : World) : Prop := Cl W' p [.string ⟨#[117, 115, 101, 114]⟩, .string ⟨#[]⟩] ∧ Cl W' q [.string ⟨#[117, 115, 101, 114]⟩, .string ⟨#[]⟩] ∧ Below W.heap.size W W'
theorem SE.later {W W' W2 : World} {p q : Nat} (h : SE W p q W') (hb : Below W'.heap.size W' W2) : SE W p q W2 := ⟨h.1.later hb, h.2.1.later hb, h.2.2.trans (hb.mono h.2.2.size)⟩
set_option maxRecDepth 100000 in
set_option maxHeartbeats 2000000 in
theorem eqA {W : World} {p q c c2 : Nat} (hp : Cl W p [.string ⟨#[117, 115, 101, 114]⟩, .string ⟨#[]⟩]) (hq : Cl W q [.string ⟨#[117, 115, 101, 114]⟩, .string ⟨#[]⟩]) : Calls Tryd.prog 19 #[.slice (some ⟨p, 0, none⟩) 1 c, .slice (some ⟨q, 0, none⟩) 1 c2] W fun r w' => r = .returned (.bool true) ∧ Below W.heap.size W w' := by
  have HS : Hid (SE W p q W) := ⟨hp, hq, Below.refl _ _⟩
  clear hp hq
  go_enter Tryd.func19, Tryd.ntmps19
  go_wp2_with fail
  refine wp_loop_rounds 2 ?_
  rw [rounds_succ]
  go_upto_region 6 with (fail)
  refine wp_region_noPanic ?_
  refine wp_region_held_drew (S := SE W p q) (by kernel_rfl) (HS.out.later (Below.refl _ _).drew) (fun hHeld => ?_)
  try simp only [Act.put]
  generalize W.drew = w2 at hHeld ⊢
  clear HS
  refine wpAnyH_take (i := 0) (oi := ⟨some 16, _, _, _, _, _⟩) (v := .slice (some ⟨p, 0, none⟩) 1 c) rfl (by kernel_rfl) (by kernel_rfl) (by kernel_rfl) (fun _ _ _ h => h) (.inl ⟨by rfl, fun w' hSw => ?_⟩) hHeld ?_
  focus (skip; clear hHeld; go_simp)
  try simp only [Act.put, List.setIfInBounds_toArray, List.set_cons_zero, List.set_cons_succ]
  refine wpAnyH_take (i := 1) (oi := ⟨some 17, _, _, _, _, _⟩) (v := .int .i64 0) rfl (by kernel_rfl) (by kernel_rfl) (by kernel_rfl) (fun _ _ _ h => h) (.inl ⟨by rfl, fun w' hSw => ?_⟩) hHeld ?_
  focus (skip; clear hHeld; go_simp)
  try simp only [Act.put, List.setIfInBounds_toArray, List.set_cons_zero, List.set_cons_succ]
  refine wpAnyH_take (i := 2) (oi := ⟨some 18, _, _, _, _, _⟩) (v := .pointer (some ⟨p, 0, none⟩)) rfl (by kernel_rfl) (by kernel_rfl) (by kernel_rfl) (fun _ _ _ h => h) (.inl ⟨by rfl, fun w' hSw => ?_⟩) hHeld ?_
  focus (skip; clear hHeld; go_simp)
  try simp only [Act.put, List.setIfInBounds_toArray, List.set_cons_zero, List.set_cons_succ]
  refine wpAnyH_take (i := 3) (oi := ⟨some 19, _, _, _, _, _⟩) (v := .agg #[.string ⟨#[117, 115, 101, 114]⟩, .string ⟨#[]⟩]) rfl (by kernel_rfl) (by kernel_rfl) (by kernel_rfl) (fun _ _ _ h => h) (.inl ⟨by rfl, fun w' hSw => ?_⟩) hHeld ?_
  focus (have q0 := hSw.1.2 0 (by decide); have q1 := hSw.1.2 1 (by decide); simp only [List.getElem?_cons_zero, List.getElem?_cons_succ] at q0 q1; clear hHeld; go_simp)
  try simp only [Act.put, List.setIfInBounds_toArray, List.set_cons_zero, List.set_cons_succ]
  refine wpAnyH_take (i := 4) (oi := ⟨some 20, _, _, _, _, _⟩) (v := .slice (some ⟨q, 0, none⟩) 1 c2) rfl (by kernel_rfl) (by kernel_rfl) (by kernel_rfl) (fun _ _ _ h => h) (.inl ⟨by rfl, fun w' hSw => ?_⟩) hHeld ?_
  focus (skip; clear hHeld; go_simp)
  try simp only [Act.put, List.setIfInBounds_toArray, List.set_cons_zero, List.set_cons_succ]
  refine wpAnyH_take (i := 5) (oi := ⟨some 21, _, _, _, _, _⟩) (v := .int .i64 0) rfl (by kernel_rfl) (by kernel_rfl) (by kernel_rfl) (fun _ _ _ h => h) (.inl ⟨by rfl, fun w' hSw => ?_⟩) hHeld ?_
  focus (skip; clear hHeld; go_simp)
  try simp only [Act.put, List.setIfInBounds_toArray, List.set_cons_zero, List.set_cons_succ]
  refine wpAnyH_take (i := 6) (oi := ⟨some 22, _, _, _, _, _⟩) (v := .pointer (some ⟨q, 0, none⟩)) rfl (by kernel_rfl) (by kernel_rfl) (by kernel_rfl) (fun _ _ _ h => h) (.inl ⟨by rfl, fun w' hSw => ?_⟩) hHeld ?_
  focus (skip; clear hHeld; go_simp)
  try simp only [Act.put, List.setIfInBounds_toArray, List.set_cons_zero, List.set_cons_succ]
  refine wpAnyH_take (i := 7) (oi := ⟨some 23, _, _, _, _, _⟩) (v := .agg #[.string ⟨#[117, 115, 101, 114]⟩, .string ⟨#[]⟩]) rfl (by kernel_rfl) (by kernel_rfl) (by kernel_rfl) (fun _ _ _ h => h) (.inl ⟨by rfl, fun w' hSw => ?_⟩) hHeld ?_
  focus (have q0 := hSw.2.1.2 0 (by decide); have q1 := hSw.2.1.2 1 (by decide); simp only [List.getElem?_cons_zero, List.getElem?_cons_succ] at q0 q1; clear hHeld; go_simp)
  try simp only [Act.put, List.setIfInBounds_toArray, List.set_cons_zero, List.set_cons_succ]
  refine wpAnyH_take (i := 8) (oi := ⟨some 24, _, _, _, _, _⟩) (v := .bool false) rfl (by kernel_rfl) (by kernel_rfl) (by kernel_rfl) (fun _ _ _ h => h) (.inl ⟨by rfl, fun w' hSw => ?_⟩) hHeld ?_
  focus (skip; clear hHeld; go_simp)
  try simp only [Act.put, List.setIfInBounds_toArray, List.set_cons_zero, List.set_cons_succ]
  refine wpAnyH_done (by kernel_rfl) ?_ _
  refine NoPanic.normal ?_
  have HB := Lib.hid hHeld.2.2
  clear hHeld
  go_wp2_with fail
  rw [rounds_succ]
  go_wp2_with fail
  go_ret
  exact ⟨rfl, HB.out⟩
theorem rdZeroK (P : Nat → Prop) (W : World) (k : Option Addr) (c : Nat) : RdE P W ex0 (.agg #[.int .i64 0, .string ⟨#[]⟩, .string ⟨#[]⟩, .slice k 0 c]) := by
  unfold ex0 RdE
  exact ⟨k, c, rfl, Nat.zero_le _, fun h => by simp at h⟩
theorem sameZeroK (W : World) (k l : Option Addr) (kc lc : Nat) : Calls Tryd.prog 20 #[.agg #[.int .i64 0, .string ⟨#[]⟩, .string ⟨#[]⟩, .slice k 0 kc], .agg #[.int .i64 0, .string ⟨#[]⟩, .string ⟨#[]⟩, .slice l 0 lc]] W fun r w' => r = .returned (.bool true) ∧ Below W.heap.size W w' :=
  (esame_any ex0 ex0 _ _ (fun _ => False) (fun _ => False) W (by decide) (by decide) (rdZeroK _ _ _ _) (rdZeroK _ _ _ _) (fun _ h => h.elim) (fun _ h => h.elim)).mono fun e w' ⟨h1, h2⟩ => ⟨by rw [h1, same0], h2⟩
set_option maxRecDepth 100000 in
set_option maxHeartbeats 2000000 in
theorem sameM {W : World} {p q c c2 : Nat} {k l : Option Addr} {kc lc : Nat} (hp : Cl W p [.string ⟨#[117, 115, 101, 114]⟩, .string ⟨#[]⟩]) (hq : Cl W q [.string ⟨#[117, 115, 101, 114]⟩, .string ⟨#[]⟩]) : Calls Tryd.prog 9 #[.agg #[.string ⟨#[97]⟩, .int .i64 1, .slice (some ⟨p, 0, none⟩) 1 c, .int .i64 0, .string ⟨#[]⟩, .string ⟨#[]⟩, .slice k 0 kc], .agg #[.string ⟨#[97]⟩, .int .i64 1, .slice (some ⟨q, 0, none⟩) 1 c2, .int .i64 0, .string ⟨#[]⟩, .string ⟨#[]⟩, .slice l 0 lc]] W fun r w' => r = .returned (.bool true) ∧ Below W.heap.size W w' := by
  have HB0 : Hid (Below W.heap.size W ((W.alloc (.cells #[.string ⟨#[97]⟩, .int .i64 1, .slice (some ⟨p, 0, none⟩) 1 c, .int .i64 0, .string ⟨#[]⟩, .string ⟨#[]⟩, .slice k 0 kc] 27)).alloc (.cells #[.string ⟨#[97]⟩, .int .i64 1, .slice (some ⟨q, 0, none⟩) 1 c2, .int .i64 0, .string ⟨#[]⟩, .string ⟨#[]⟩, .slice l 0 lc] 27))) := ((Below.refl _ _).alloc (Nat.le_refl _) _).alloc (by simp) _
  have HA0 : Hid (Arr ((W.alloc (.cells #[.string ⟨#[97]⟩, .int .i64 1, .slice (some ⟨p, 0, none⟩) 1 c, .int .i64 0, .string ⟨#[]⟩, .string ⟨#[]⟩, .slice k 0 kc] 27)).alloc (.cells #[.string ⟨#[97]⟩, .int .i64 1, .slice (some ⟨q, 0, none⟩) 1 c2, .int .i64 0, .string ⟨#[]⟩, .string ⟨#[]⟩, .slice l 0 lc] 27)) 27 W.heap.size [.string ⟨#[97]⟩, .int .i64 1, .slice (some ⟨p, 0, none⟩) 1 c, .int .i64 0, .string ⟨#[]⟩, .string ⟨#[]⟩, .slice k 0 kc]) := (Arr.new' _ _ _ _ rfl).alloc _
  have HC0 : Hid (Arr ((W.alloc (.cells #[.string ⟨#[97]⟩, .int .i64 1, .slice (some ⟨p, 0, none⟩) 1 c, .int .i64 0, .string ⟨#[]⟩, .string ⟨#[]⟩, .slice k 0 kc] 27)).alloc (.cells #[.string ⟨#[97]⟩, .int .i64 1, .slice (some ⟨q, 0, none⟩) 1 c2, .int .i64 0, .string ⟨#[]⟩, .string ⟨#[]⟩, .slice l 0 lc] 27)) 27 (W.heap.size + 1) [.string ⟨#[97]⟩, .int .i64 1, .slice (some ⟨q, 0, none⟩) 1 c2, .int .i64 0, .string ⟨#[]⟩, .string ⟨#[]⟩, .slice l 0 lc]) := Arr.new2 _ _ _ _ _ rfl
  have HE := Lib.hid (eqA (c := c) (c2 := c2) ((hp.alloc _).alloc _ : Cl ((W.alloc (.cells #[.string ⟨#[97]⟩, .int .i64 1, .slice (some ⟨p, 0, none⟩) 1 c, .int .i64 0, .string ⟨#[]⟩, .string ⟨#[]⟩, .slice k 0 kc] 27)).alloc (.cells #[.string ⟨#[97]⟩, .int .i64 1, .slice (some ⟨q, 0, none⟩) 1 c2, .int .i64 0, .string ⟨#[]⟩, .string ⟨#[]⟩, .slice l 0 lc] 27)) _ _) ((hq.alloc _).alloc _))
  clear hp hq
  go_enter Tryd.func9, Tryd.ntmps9
  go_wp2_with fail
  refine HE.out.mono ?_
  rintro r w1 ⟨rfl, b1⟩
  have HB1 := Lib.hid (HB0.out.trans (b1.mono HB0.out.size))
  have HA1 := Lib.hid (HA0.out.later b1)
  have HC1 := Lib.hid (HC0.out.later b1)
  have a0 := HA1.out.cell 0
  have a1 := HA1.out.cell 1
  have a2 := HA1.out.cell 2
  have a3 := HA1.out.cell 3
  have a4 := HA1.out.cell 4
  have a5 := HA1.out.cell 5
  have a6 := HA1.out.cell 6
  simp only [List.getElem?_cons_zero, List.getElem?_cons_succ] at a0 a1 a2 a3 a4 a5 a6
  have b0 := HC1.out.cell 0
  have b1 := HC1.out.cell 1
  have b2 := HC1.out.cell 2
  have b3 := HC1.out.cell 3
  have b4 := HC1.out.cell 4
  have b5 := HC1.out.cell 5
  have b6 := HC1.out.cell 6
  simp only [List.getElem?_cons_zero, List.getElem?_cons_succ] at b0 b1 b2 b3 b4 b5 b6
  have HZ := Lib.hid (sameZeroK w1 k l kc lc)
  clear b1
  go_wp2_with fail
  refine HZ.out.mono ?_
  rintro r w2 ⟨rfl, b2⟩
  have HB2 := Lib.hid (HB1.out.trans (b2.mono HB1.out.size))
  clear b2
  go_wp2_with fail
  go_ret
  exact ⟨rfl, HB2.out⟩
set_option maxRecDepth 100000 in
set_option maxHeartbeats 2000000 in
theorem eqfM {W : World} {g h d e : Nat} {p q c c2 : Nat} {k l : Option Addr} {kc lc : Nat} (hg : Cl W g [.string ⟨#[97]⟩, .int .i64 1, .slice (some ⟨p, 0, none⟩) 1 c, .int .i64 0, .string ⟨#[]⟩, .string ⟨#[]⟩, .slice k 0 kc]) (hh : Cl W h [.string ⟨#[97]⟩, .int .i64 1, .slice (some ⟨q, 0, none⟩) 1 c2, .int .i64 0, .string ⟨#[]⟩, .string ⟨#[]⟩, .slice l 0 lc]) (HC : ∀ W', Below W.heap.size W W' → Calls Tryd.prog 9 #[.agg #[.string ⟨#[97]⟩, .int .i64 1, .slice (some ⟨p, 0, none⟩) 1 c, .int .i64 0, .string ⟨#[]⟩, .string ⟨#[]⟩, .slice k 0 kc], .agg #[.string ⟨#[97]⟩, .int .i64 1, .slice (some ⟨q, 0, none⟩) 1 c2, .int .i64 0, .string ⟨#[]⟩, .string ⟨#[]⟩, .slice l 0 lc]] W' fun r w' => r = .returned (.bool true) ∧ Below W'.heap.size W' w') : Calls Tryd.prog 36 #[.slice (some ⟨g, 0, none⟩) 1 d, .slice (some ⟨h, 0, none⟩) 1 e, .func (.func 9) #[] #[]] W fun r w' => r = .returned (.bool true) ∧ Below W.heap.size W w' := by
  have HB0 : Hid (Below W.heap.size W ((W.alloc (.cells #[.string ⟨#[97]⟩, .int .i64 1, .slice (some ⟨p, 0, none⟩) 1 c, .int .i64 0, .string ⟨#[]⟩, .string ⟨#[]⟩, .slice k 0 kc] 27)).alloc (.cells #[.string ⟨#[97]⟩, .int .i64 1, .slice (some ⟨q, 0, none⟩) 1 c2, .int .i64 0, .string ⟨#[]⟩, .string ⟨#[]⟩, .slice l 0 lc] 27))) := ((Below.refl _ _).alloc (Nat.le_refl _) _).alloc (by simp) _
  have HI := Lib.hid (HC _ HB0.out)
  have a0 := hg.2 0 (by simp)
  have a1 := hg.2 1 (by simp)
  have a2 := hg.2 2 (by simp)
  have a3 := hg.2 3 (by simp)
  have a4 := hg.2 4 (by simp)
  have a5 := hg.2 5 (by simp)
  have a6 := hg.2 6 (by simp)
  have b0 := (hh.alloc (.cells #[.string ⟨#[97]⟩, .int .i64 1, .slice (some ⟨p, 0, none⟩) 1 c, .int .i64 0, .string ⟨#[]⟩, .string ⟨#[]⟩, .slice k 0 kc] 27)).2 0 (by simp)
  have b1 := (hh.alloc (.cells #[.string ⟨#[97]⟩, .int .i64 1, .slice (some ⟨p, 0, none⟩) 1 c, .int .i64 0, .string ⟨#[]⟩, .string ⟨#[]⟩, .slice k 0 kc] 27)).2 1 (by simp)
  have b2 := (hh.alloc (.cells #[.string ⟨#[97]⟩, .int .i64 1, .slice (some ⟨p, 0, none⟩) 1 c, .int .i64 0, .string ⟨#[]⟩, .string ⟨#[]⟩, .slice k 0 kc] 27)).2 2 (by simp)
  have b3 := (hh.alloc (.cells #[.string ⟨#[97]⟩, .int .i64 1, .slice (some ⟨p, 0, none⟩) 1 c, .int .i64 0, .string ⟨#[]⟩, .string ⟨#[]⟩, .slice k 0 kc] 27)).2 3 (by simp)
  have b4 := (hh.alloc (.cells #[.string ⟨#[97]⟩, .int .i64 1, .slice (some ⟨p, 0, none⟩) 1 c, .int .i64 0, .string ⟨#[]⟩, .string ⟨#[]⟩, .slice k 0 kc] 27)).2 4 (by simp)
  have b5 := (hh.alloc (.cells #[.string ⟨#[97]⟩, .int .i64 1, .slice (some ⟨p, 0, none⟩) 1 c, .int .i64 0, .string ⟨#[]⟩, .string ⟨#[]⟩, .slice k 0 kc] 27)).2 5 (by simp)
  have b6 := (hh.alloc (.cells #[.string ⟨#[97]⟩, .int .i64 1, .slice (some ⟨p, 0, none⟩) 1 c, .int .i64 0, .string ⟨#[]⟩, .string ⟨#[]⟩, .slice k 0 kc] 27)).2 6 (by simp)
  simp only [List.getElem?_cons_zero, List.getElem?_cons_succ] at a0 a1 a2 a3 a4 a5 a6 b0 b1 b2 b3 b4 b5 b6
  clear hg hh HC
  go_enter Tryd.func36, Tryd.ntmps36
  go_wp2_with fail
  refine wp_loop_rounds 2 ?_
  rw [rounds_succ]
  go_wp2_with fail
  refine HI.out.mono ?_
  rintro r w1 ⟨rfl, b1⟩
  have HB1 := Lib.hid (HB0.out.trans (b1.mono HB0.out.size))
  clear b1 HI
  go_wp2_with fail
  rw [rounds_succ]
  go_wp2_with fail
  go_ret
  exact ⟨rfl, HB1.out⟩
set_option maxRecDepth 100000 in
set_option maxHeartbeats 2000000 in
theorem eqfD {W : World} {g h d e : Nat} {m n mc nc : Nat} (hg : Cl W g [.string ⟨#[100]⟩, .slice (some ⟨m, 0, none⟩) 1 mc]) (hh : Cl W h [.string ⟨#[100]⟩, .slice (some ⟨n, 0, none⟩) 1 nc]) (HC : ∀ W', Below W.heap.size W W' → Calls Tryd.prog 22 #[.agg #[.string ⟨#[100]⟩, .slice (some ⟨m, 0, none⟩) 1 mc], .agg #[.string ⟨#[100]⟩, .slice (some ⟨n, 0, none⟩) 1 nc]] W' fun r w' => r = .returned (.bool true) ∧ Below W'.heap.size W' w') : Calls Tryd.prog 21 #[.slice (some ⟨g, 0, none⟩) 1 d, .slice (some ⟨h, 0, none⟩) 1 e, .func (.func 22) #[] #[]] W fun r w' => r = .returned (.bool true) ∧ Below W.heap.size W w' := by
  have HB0 : Hid (Below W.heap.size W ((W.alloc (.cells #[.string ⟨#[100]⟩, .slice (some ⟨m, 0, none⟩) 1 mc] 34)).alloc (.cells #[.string ⟨#[100]⟩, .slice (some ⟨n, 0, none⟩) 1 nc] 34))) := ((Below.refl _ _).alloc (Nat.le_refl _) _).alloc (by simp) _
  have HI := Lib.hid (HC _ HB0.out)
  have a0 := hg.2 0 (by simp)
  have a1 := hg.2 1 (by simp)
  have b0 := (hh.alloc (.cells #[.string ⟨#[100]⟩, .slice (some ⟨m, 0, none⟩) 1 mc] 34)).2 0 (by simp)
  have b1 := (hh.alloc (.cells #[.string ⟨#[100]⟩, .slice (some ⟨m, 0, none⟩) 1 mc] 34)).2 1 (by simp)
  simp only [List.getElem?_cons_zero, List.getElem?_cons_succ] at a0 a1 b0 b1
  clear hg hh HC
  go_enter Tryd.func21, Tryd.ntmps21
  go_wp2_with fail
  refine wp_loop_rounds 2 ?_
  rw [rounds_succ]
  go_wp2_with fail
  refine HI.out.mono ?_
  rintro r w1 ⟨rfl, b1⟩
  have HB1 := Lib.hid (HB0.out.trans (b1.mono HB0.out.size))
  clear b1 HI
  go_wp2_with fail
  rw [rounds_succ]
  go_wp2_with fail
  go_ret
  exact ⟨rfl, HB1.out⟩
set_option maxRecDepth 100000 in
set_option maxHeartbeats 2000000 in
theorem sameD {W : World} {p q c c2 m n mc nc : Nat} {k l : Option Addr} {kc lc : Nat} (hp : Cl W p [.string ⟨#[117, 115, 101, 114]⟩, .string ⟨#[]⟩]) (hq : Cl W q [.string ⟨#[117, 115, 101, 114]⟩, .string ⟨#[]⟩]) (hm : Cl W m [.string ⟨#[97]⟩, .int .i64 1, .slice (some ⟨p, 0, none⟩) 1 c, .int .i64 0, .string ⟨#[]⟩, .string ⟨#[]⟩, .slice k 0 kc]) (hn : Cl W n [.string ⟨#[97]⟩, .int .i64 1, .slice (some ⟨q, 0, none⟩) 1 c2, .int .i64 0, .string ⟨#[]⟩, .string ⟨#[]⟩, .slice l 0 lc]) : Calls Tryd.prog 22 #[.agg #[.string ⟨#[100]⟩, .slice (some ⟨m, 0, none⟩) 1 mc], .agg #[.string ⟨#[100]⟩, .slice (some ⟨n, 0, none⟩) 1 nc]] W fun r w' => r = .returned (.bool true) ∧ Below W.heap.size W w' := by
  have HB0 : Hid (Below W.heap.size W ((W.alloc (.cells #[.string ⟨#[100]⟩, .slice (some ⟨m, 0, none⟩) 1 mc] 34)).alloc (.cells #[.string ⟨#[100]⟩, .slice (some ⟨n, 0, none⟩) 1 nc] 34))) := ((Below.refl _ _).alloc (Nat.le_refl _) _).alloc (by simp) _
  have HE := Lib.hid (eqfM (d := mc) (e := nc) ((hm.alloc _).alloc _ : Cl ((W.alloc (.cells #[.string ⟨#[100]⟩, .slice (some ⟨m, 0, none⟩) 1 mc] 34)).alloc (.cells #[.string ⟨#[100]⟩, .slice (some ⟨n, 0, none⟩) 1 nc] 34)) _ _) ((hn.alloc _).alloc _) fun W' hW => sameM (((hp.alloc _).alloc _ : Cl ((W.alloc (.cells #[.string ⟨#[100]⟩, .slice (some ⟨m, 0, none⟩) 1 mc] 34)).alloc (.cells #[.string ⟨#[100]⟩, .slice (some ⟨n, 0, none⟩) 1 nc] 34)) _ _).later hW) (((hq.alloc _).alloc _ : Cl ((W.alloc (.cells #[.string ⟨#[100]⟩, .slice (some ⟨m, 0, none⟩) 1 mc] 34)).alloc (.cells #[.string ⟨#[100]⟩, .slice (some ⟨n, 0, none⟩) 1 nc] 34)) _ _).later hW))
  clear hp hq hm hn
  go_enter Tryd.func22, Tryd.ntmps22
  go_wp2_with fail
  refine HE.out.mono ?_
  rintro r w1 ⟨rfl, b1⟩
  have HB1 := Lib.hid (HB0.out.trans (b1.mono HB0.out.size))
  clear b1
  go_wp2_with fail
  go_ret
  exact ⟨rfl, HB1.out⟩
set_option maxRecDepth 100000 in
set_option maxHeartbeats 2000000 in
theorem sameS {W : World} {p q c c2 m n mc nc d e dc ec : Nat} {k l : Option Addr} {kc lc : Nat} (hp : Cl W p [.string ⟨#[117, 115, 101, 114]⟩, .string ⟨#[]⟩]) (hq : Cl W q [.string ⟨#[117, 115, 101, 114]⟩, .string ⟨#[]⟩]) (hm : Cl W m [.string ⟨#[97]⟩, .int .i64 1, .slice (some ⟨p, 0, none⟩) 1 c, .int .i64 0, .string ⟨#[]⟩, .string ⟨#[]⟩, .slice k 0 kc]) (hn : Cl W n [.string ⟨#[97]⟩, .int .i64 1, .slice (some ⟨q, 0, none⟩) 1 c2, .int .i64 0, .string ⟨#[]⟩, .string ⟨#[]⟩, .slice l 0 lc]) (hd : Cl W d [.string ⟨#[100]⟩, .slice (some ⟨m, 0, none⟩) 1 mc]) (he : Cl W e [.string ⟨#[100]⟩, .slice (some ⟨n, 0, none⟩) 1 nc]) : Calls Tryd.prog 10 #[.agg #[.slice (some ⟨d, 0, none⟩) 1 dc], .agg #[.slice (some ⟨e, 0, none⟩) 1 ec]] W fun r w' => r = .returned (.bool true) ∧ Below W.heap.size W w' := by
  have HB0 : Hid (Below W.heap.size W ((W.alloc (.cells #[.slice (some ⟨d, 0, none⟩) 1 dc] 37)).alloc (.cells #[.slice (some ⟨e, 0, none⟩) 1 ec] 37))) := ((Below.refl _ _).alloc (Nat.le_refl _) _).alloc (by simp) _
  have HE := Lib.hid (eqfD (d := dc) (e := ec) ((hd.alloc _).alloc _ : Cl ((W.alloc (.cells #[.slice (some ⟨d, 0, none⟩) 1 dc] 37)).alloc (.cells #[.slice (some ⟨e, 0, none⟩) 1 ec] 37)) _ _) ((he.alloc _).alloc _ : Cl ((W.alloc (.cells #[.slice (some ⟨d, 0, none⟩) 1 dc] 37)).alloc (.cells #[.slice (some ⟨e, 0, none⟩) 1 ec] 37)) _ _) fun W' hW => sameD (((hp.alloc _).alloc _ : Cl ((W.alloc (.cells #[.slice (some ⟨d, 0, none⟩) 1 dc] 37)).alloc (.cells #[.slice (some ⟨e, 0, none⟩) 1 ec] 37)) _ _).later hW) (((hq.alloc _).alloc _ : Cl ((W.alloc (.cells #[.slice (some ⟨d, 0, none⟩) 1 dc] 37)).alloc (.cells #[.slice (some ⟨e, 0, none⟩) 1 ec] 37)) _ _).later hW) (((hm.alloc _).alloc _ : Cl ((W.alloc (.cells #[.slice (some ⟨d, 0, none⟩) 1 dc] 37)).alloc (.cells #[.slice (some ⟨e, 0, none⟩) 1 ec] 37)) _ _).later hW) (((hn.alloc _).alloc _ : Cl ((W.alloc (.cells #[.slice (some ⟨d, 0, none⟩) 1 dc] 37)).alloc (.cells #[.slice (some ⟨e, 0, none⟩) 1 ec] 37)) _ _).later hW))
  clear hp hq hm hn hd he
  go_enter Tryd.func10, Tryd.ntmps10
  go_wp2_with fail
  refine HE.out.mono ?_
  rintro r w1 ⟨rfl, b1⟩
  have HB1 := Lib.hid (HB0.out.trans (b1.mono HB0.out.size))
  clear b1
  go_wp2_with fail
  go_ret
  exact ⟨rfl, HB1.out⟩
end Go.Proofs.YtijokgddfcfcbaaDoor
