/-
  vestrylaw11.awake.
-/
import Derived.Test.YtijokgddfcfcbaaDoorScG
namespace Go.Proofs.YtijokgddfcfcbaaDoor
open Go.ChangeShapes Go.WideShapes Go.ChangeAt Go.RowKit
set_option linter.unusedVariables false

/-- What awake's calls find and keep. -/
def SB (w : World) (W : World) : Prop := Arr W 29 (w.heap.size) [.string ⟨#[117, 115, 101, 114]⟩, .string ⟨#[]⟩] ∧ Arr W 27 (w.heap.size + 1) [.string ⟨#[97]⟩, .int .i64 1, .slice (some ⟨w.heap.size, 0, none⟩) 1 1, .int .i64 0, .string ⟨#[]⟩, .string ⟨#[]⟩, .slice none 0 0] ∧ Arr W 27 (w.heap.size + 2) [.string ⟨#[97]⟩, .int .i64 1, .slice (some ⟨w.heap.size, 0, none⟩) 1 1, .int .i64 0, .string ⟨#[]⟩, .string ⟨#[]⟩, .slice none 0 0] ∧ Arr W 34 (w.heap.size + 3) [.string ⟨#[100]⟩, .slice (some ⟨w.heap.size + 2, 0, none⟩) 1 1] ∧ Arr W 37 (w.heap.size + 4) [.slice (some ⟨w.heap.size + 3, 0, none⟩) 1 1] ∧ Arr W 27 (w.heap.size + 5) [.string ⟨#[97]⟩, .int .i64 1, .slice none 0 0, .int .i64 0, .string ⟨#[]⟩, .string ⟨#[]⟩, .slice none 0 0] ∧ Arr W 34 (w.heap.size + 6) [.string ⟨#[100]⟩, .slice (some ⟨w.heap.size + 5, 0, none⟩) 1 1] ∧ Arr W 37 (w.heap.size + 7) [.slice (some ⟨w.heap.size + 6, 0, none⟩) 1 1] ∧ ResT W ∧ Below w.heap.size w W
theorem SB.later {w W W' : World} (h : SB w W) (hb : Below W.heap.size W W') : SB w W' := by
  obtain ⟨h0, h1, h2, h3, h4, h5, h6, h7, hr, hB⟩ := h
  exact ⟨h0.later hb, h1.later hb, h2.later hb, h3.later hb, h4.later hb, h5.later hb, h6.later hb, h7.later hb, hr.below hb hr.lt, hB.trans (hb.mono hB.size)⟩
theorem arr_at (w : World) (k : Nat) (t : TypeId) (cs : Array Value) (l : List Value) (h : cs.toList = l) (n : Nat) (hn : n = w.heap.size) : Arr (w.alloc (.cells cs t)) t n l := hn ▸ Arr.new' w t cs l h
set_option maxRecDepth 100000 in
theorem SB.start (w : World) (hr : ResT w) : SB w ((((((((w.alloc (.cells #[.string ⟨#[117, 115, 101, 114]⟩, .string ⟨#[]⟩] 29)).alloc (.cells #[.string ⟨#[97]⟩, .int .i64 1, .slice (some ⟨w.heap.size, 0, none⟩) 1 1, .int .i64 0, .string ⟨#[]⟩, .string ⟨#[]⟩, .slice none 0 0] 27)).alloc (.cells #[.string ⟨#[97]⟩, .int .i64 1, .slice (some ⟨w.heap.size, 0, none⟩) 1 1, .int .i64 0, .string ⟨#[]⟩, .string ⟨#[]⟩, .slice none 0 0] 27)).alloc (.cells #[.string ⟨#[100]⟩, .slice (some ⟨w.heap.size + 2, 0, none⟩) 1 1] 34)).alloc (.cells #[.slice (some ⟨w.heap.size + 3, 0, none⟩) 1 1] 37)).alloc (.cells #[.string ⟨#[97]⟩, .int .i64 1, .slice none 0 0, .int .i64 0, .string ⟨#[]⟩, .string ⟨#[]⟩, .slice none 0 0] 27)).alloc (.cells #[.string ⟨#[100]⟩, .slice (some ⟨w.heap.size + 5, 0, none⟩) 1 1] 34)).alloc (.cells #[.slice (some ⟨w.heap.size + 6, 0, none⟩) 1 1] 37)) := by
  have hb : Below w.heap.size w ((((((((w.alloc (.cells #[.string ⟨#[117, 115, 101, 114]⟩, .string ⟨#[]⟩] 29)).alloc (.cells #[.string ⟨#[97]⟩, .int .i64 1, .slice (some ⟨w.heap.size, 0, none⟩) 1 1, .int .i64 0, .string ⟨#[]⟩, .string ⟨#[]⟩, .slice none 0 0] 27)).alloc (.cells #[.string ⟨#[97]⟩, .int .i64 1, .slice (some ⟨w.heap.size, 0, none⟩) 1 1, .int .i64 0, .string ⟨#[]⟩, .string ⟨#[]⟩, .slice none 0 0] 27)).alloc (.cells #[.string ⟨#[100]⟩, .slice (some ⟨w.heap.size + 2, 0, none⟩) 1 1] 34)).alloc (.cells #[.slice (some ⟨w.heap.size + 3, 0, none⟩) 1 1] 37)).alloc (.cells #[.string ⟨#[97]⟩, .int .i64 1, .slice none 0 0, .int .i64 0, .string ⟨#[]⟩, .string ⟨#[]⟩, .slice none 0 0] 27)).alloc (.cells #[.string ⟨#[100]⟩, .slice (some ⟨w.heap.size + 5, 0, none⟩) 1 1] 34)).alloc (.cells #[.slice (some ⟨w.heap.size + 6, 0, none⟩) 1 1] 37)) := (((((((((Below.refl _ _).alloc (Nat.le_refl _) _).alloc (by simp) _).alloc (by simp [World.size_alloc]; try omega) _).alloc (by simp [World.size_alloc]; try omega) _).alloc (by simp [World.size_alloc]; try omega) _).alloc (by simp [World.size_alloc]; try omega) _).alloc (by simp [World.size_alloc]; try omega) _).alloc (by simp [World.size_alloc]; try omega) _)
  exact ⟨((((((((arr_at _ 0 _ _ _ rfl _ rfl).alloc _).alloc _).alloc _).alloc _).alloc _).alloc _).alloc _), (((((((arr_at _ 0 _ _ _ rfl _ (by simp)).alloc _).alloc _).alloc _).alloc _).alloc _).alloc _), ((((((arr_at _ 0 _ _ _ rfl _ (by simp [World.size_alloc])).alloc _).alloc _).alloc _).alloc _).alloc _), (((((arr_at _ 0 _ _ _ rfl _ (by simp [World.size_alloc])).alloc _).alloc _).alloc _).alloc _), ((((arr_at _ 0 _ _ _ rfl _ (by simp [World.size_alloc])).alloc _).alloc _).alloc _), (((arr_at _ 0 _ _ _ rfl _ (by simp [World.size_alloc])).alloc _).alloc _), ((arr_at _ 0 _ _ _ rfl _ (by simp [World.size_alloc])).alloc _), (arr_at _ 0 _ _ _ rfl _ (by simp [World.size_alloc])), hr.below hb hr.lt, hb⟩
/-- What the region keeps: with the box of the member found. -/
def SQ (w : World) (g : Nat) (W : World) : Prop := SB w W ∧ Arr W 27 g [.string ⟨#[97]⟩, .int .i64 1, .slice (some ⟨w.heap.size, 0, none⟩) 1 1, .int .i64 0, .string ⟨#[]⟩, .string ⟨#[]⟩, .slice none 0 0]
theorem SQ.later {w : World} {g : Nat} {W W' : World} (h : SQ w g W) (hb : Below W.heap.size W W') : SQ w g W' := ⟨h.1.later hb, h.2.later hb⟩
theorem neqFn2 (fn : Fn) (first cp : Array Value) (w : World) : (binOp BinOp.neq 47 (.func fn first cp) .nilFunc).run Tryd.prog w = .ok (.bool true) w := by kernel_rfl
/-- What Clone gives. -/
def CV (v : Value) (W : World) : Prop := ∃ (g0 c0 g1 c1 g2 c2 : Nat) (q : Option Addr) (c : Nat), v = .agg #[.slice (some ⟨g0, 0, none⟩) 1 c0] ∧ Cl W g0 [.string ⟨#[100]⟩, .slice (some ⟨g1, 0, none⟩) 1 c1] ∧ Cl W g1 [.string ⟨#[97]⟩, .int .i64 1, .slice (some ⟨g2, 0, none⟩) 1 c2, .int .i64 0, .string ⟨#[]⟩, .string ⟨#[]⟩, .slice q 0 c] ∧ Cl W g2 [.string ⟨#[117, 115, 101, 114]⟩, .string ⟨#[]⟩]
section
variable {w W : World} {g : Nat}
theorem wForm (h : SQ w g W) : Calls Tryd.prog 8 #[.agg #[.slice (some ⟨w.heap.size + 3, 0, none⟩) 1 1]] W fun e w' => ∃ v, e = .returned v ∧ (v = .bool true ∧ SQ w g w') :=
  (form_good h.1.1 h.1.2.2.2.1 h.1.2.2.1 h.1.2.2.2.2.2.2.2.2.1).mono fun e w' ⟨h1, h2⟩ => ⟨_, h1, rfl, h.later h2⟩
theorem wFormB (h : SQ w g W) : Calls Tryd.prog 8 #[.agg #[.slice (some ⟨w.heap.size + 6, 0, none⟩) 1 1]] W fun e w' => ∃ v, e = .returned v ∧ (v = .bool false ∧ SQ w g w') :=
  (form_bad h.1.2.2.2.2.2.2.1 h.1.2.2.2.2.2.1 h.1.2.2.2.2.2.2.2.2.1).mono fun e w' ⟨h1, h2⟩ => ⟨_, h1, rfl, h.later h2⟩
theorem wSameM (h : SQ w g W) : Calls Tryd.prog 9 #[.agg #[.string ⟨#[97]⟩, .int .i64 1, .slice (some ⟨w.heap.size, 0, none⟩) 1 1, .int .i64 0, .string ⟨#[]⟩, .string ⟨#[]⟩, .slice none 0 0], .agg #[.string ⟨#[97]⟩, .int .i64 1, .slice (some ⟨w.heap.size, 0, none⟩) 1 1, .int .i64 0, .string ⟨#[]⟩, .string ⟨#[]⟩, .slice none 0 0]] W fun e w' => ∃ v, e = .returned v ∧ (v = .bool true ∧ SQ w g w') :=
  (sameM (k := none) (l := none) (kc := 0) (lc := 0) (Cl.of h.1.1) (Cl.of h.1.1)).mono fun e w' ⟨h1, h2⟩ => ⟨_, h1, rfl, h.later h2⟩
theorem wClone (h : SQ w g W) : Calls Tryd.prog 11 #[.agg #[.slice (some ⟨w.heap.size + 3, 0, none⟩) 1 1]] W fun e w' => ∃ v, e = .returned v ∧ (CV v w' ∧ SQ w g w') :=
  (cloneS (Cl.of h.1.2.2.2.1) (Cl.of h.1.2.2.1) (Cl.of h.1.1)).mono fun e w' ⟨g0, c0, g1, c1, g2, c2, q, c, h1, k0, k1, k2, h2⟩ => ⟨_, h1, ⟨g0, c0, g1, c1, g2, c2, q, c, rfl, k0, k1, k2⟩, h.later h2⟩
theorem wSame (h : SQ w g W) {v : Value} (hv : CV v W) : Calls Tryd.prog 10 #[v, .agg #[.slice (some ⟨w.heap.size + 3, 0, none⟩) 1 1]] W fun e w' => ∃ v, e = .returned v ∧ (v = .bool true ∧ SQ w g w') := by
  obtain ⟨g0, c0, g1, c1, g2, c2, q, c, rfl, k0, k1, k2⟩ := hv
  exact (sameS (l := none) (lc := 0) k2 (Cl.of h.1.1) k1 (Cl.of h.1.2.2.1) k0 (Cl.of h.1.2.2.2.1)).mono fun e w' ⟨h1, h2⟩ => ⟨_, h1, rfl, h.later h2⟩
theorem wMembers (h : SQ w g W) : Calls Tryd.prog 12 #[.agg #[.slice (some ⟨w.heap.size + 3, 0, none⟩) 1 1]] W fun e w' => ∃ v, e = .returned v ∧ ((∃ b, v = .func (.func 25) #[] #[.pointer (some ⟨b, 0, none⟩)]) ∧ SQ w g w') :=
  (members_mk _ W).mono fun e w' ⟨h1, h2⟩ => ⟨_, h1, ⟨_, rfl⟩, h2 ▸ h.later ((Below.refl _ _).alloc (Nat.le_refl _) _)⟩
theorem wAllows (h : SQ w g W) : Calls Tryd.prog 5 #[.agg #[.string ⟨#[97]⟩, .int .i64 1, .slice (some ⟨w.heap.size, 0, none⟩) 1 1, .int .i64 0, .string ⟨#[]⟩, .string ⟨#[]⟩, .slice none 0 0], .agg #[.string ⟨#[117, 115, 101, 114]⟩, .string ⟨#[]⟩]] W fun e w' => ∃ v, e = .returned v ∧ (v = .bool true ∧ SQ w g w') :=
  (allows_any [(⟨#[117, 115, 101, 114]⟩, ⟨#[]⟩)] (⟨#[117, 115, 101, 114]⟩, ⟨#[]⟩) _ 1 (some ⟨w.heap.size, 0, none⟩) 1 1 0 _ _ none 0 0 W ⟨rfl, fun _ => ⟨w.heap.size, 0, rfl, h.1.1.lt, fun i hi => by
    obtain rfl : i = 0 := by simpa using hi
    exact ⟨h.1.1.cell 0, h.1.1.cell 1⟩⟩⟩ (by decide)).mono fun e w' ⟨h1, h2⟩ => ⟨_, h1, by simp [hasP], h.later h2⟩
end
set_option maxRecDepth 100000 in
set_option maxHeartbeats 16000000 in
theorem awake_any (w : World) (h : ResT w) : Calls Tryd.prog 4 #[] w fun e w' => e = .returned (.bool true) ∧ Below w.heap.size w w' := by
  have HS : Hid (SB w ((((((((w.alloc (.cells #[.string ⟨#[117, 115, 101, 114]⟩, .string ⟨#[]⟩] 29)).alloc (.cells #[.string ⟨#[97]⟩, .int .i64 1, .slice (some ⟨w.heap.size, 0, none⟩) 1 1, .int .i64 0, .string ⟨#[]⟩, .string ⟨#[]⟩, .slice none 0 0] 27)).alloc (.cells #[.string ⟨#[97]⟩, .int .i64 1, .slice (some ⟨w.heap.size, 0, none⟩) 1 1, .int .i64 0, .string ⟨#[]⟩, .string ⟨#[]⟩, .slice none 0 0] 27)).alloc (.cells #[.string ⟨#[100]⟩, .slice (some ⟨w.heap.size + 2, 0, none⟩) 1 1] 34)).alloc (.cells #[.slice (some ⟨w.heap.size + 3, 0, none⟩) 1 1] 37)).alloc (.cells #[.string ⟨#[97]⟩, .int .i64 1, .slice none 0 0, .int .i64 0, .string ⟨#[]⟩, .string ⟨#[]⟩, .slice none 0 0] 27)).alloc (.cells #[.string ⟨#[100]⟩, .slice (some ⟨w.heap.size + 5, 0, none⟩) 1 1] 34)).alloc (.cells #[.slice (some ⟨w.heap.size + 6, 0, none⟩) 1 1] 37))) := SB.start w h
  clear h
  go_enter Tryd.func4, Tryd.ntmps4
  go_wp2_with fail
  simp only [Nat.add_assoc, Nat.reduceAdd]
  generalize ((((((((w.alloc (.cells #[.string ⟨#[117, 115, 101, 114]⟩, .string ⟨#[]⟩] 29)).alloc (.cells #[.string ⟨#[97]⟩, .int .i64 1, .slice (some ⟨w.heap.size, 0, none⟩) 1 1, .int .i64 0, .string ⟨#[]⟩, .string ⟨#[]⟩, .slice none 0 0] 27)).alloc (.cells #[.string ⟨#[97]⟩, .int .i64 1, .slice (some ⟨w.heap.size, 0, none⟩) 1 1, .int .i64 0, .string ⟨#[]⟩, .string ⟨#[]⟩, .slice none 0 0] 27)).alloc (.cells #[.string ⟨#[100]⟩, .slice (some ⟨w.heap.size + 2, 0, none⟩) 1 1] 34)).alloc (.cells #[.slice (some ⟨w.heap.size + 3, 0, none⟩) 1 1] 37)).alloc (.cells #[.string ⟨#[97]⟩, .int .i64 1, .slice none 0 0, .int .i64 0, .string ⟨#[]⟩, .string ⟨#[]⟩, .slice none 0 0] 27)).alloc (.cells #[.string ⟨#[100]⟩, .slice (some ⟨w.heap.size + 5, 0, none⟩) 1 1] 34)).alloc (.cells #[.slice (some ⟨w.heap.size + 6, 0, none⟩) 1 1] 37)) = w1 at HS ⊢
  refine (member_a HS.out.2.2.2.1 HS.out.2.2.1).mono ?_
  rintro r w2 ⟨rfl, b2⟩
  have hb3 : Below w2.heap.size w2 (w2.alloc (.cells #[.string ⟨#[97]⟩, .int .i64 1, .slice (some ⟨w.heap.size, 0, none⟩) 1 1, .int .i64 0, .string ⟨#[]⟩, .string ⟨#[]⟩, .slice none 0 0] 27)) := (Below.refl _ _).alloc (Nat.le_refl _) _
  have HS3 : Hid (SQ w w2.heap.size (w2.alloc (.cells #[.string ⟨#[97]⟩, .int .i64 1, .slice (some ⟨w.heap.size, 0, none⟩) 1 1, .int .i64 0, .string ⟨#[]⟩, .string ⟨#[]⟩, .slice none 0 0] 27))) := ⟨(HS.out.later b2).later hb3, Arr.new' _ _ _ _ rfl⟩
  have HG : Hid (w.heap.size + 7 < w2.heap.size) := (HS.out.later b2).2.2.2.2.2.2.2.1.lt
  clear b2 hb3 HS
  have s0 := HS3.out.1.2.2.2.2.1.cell 0
  simp only [List.getElem?_cons_zero] at s0
  go_wp2_with fail
  generalize w2.heap.size = g4 at HS3 HG ⊢
  generalize w2.alloc (.cells #[.string ⟨#[97]⟩, .int .i64 1, .slice (some ⟨w.heap.size, 0, none⟩) 1 1, .int .i64 0, .string ⟨#[]⟩, .string ⟨#[]⟩, .slice none 0 0] 27) = w3 at HS3 s0 ⊢
  refine (member_b HS3.out.1.2.2.2.1 HS3.out.1.2.2.1).mono ?_
  rintro r w4 ⟨rfl, b4⟩
  have hb5 : Below w4.heap.size w4 (w4.alloc (.cells #[.string ByteArray.empty, .int .i64 0, .slice none 0 0, .int .i64 0, .string ByteArray.empty, .string ByteArray.empty, .slice none 0 0] 27)) := (Below.refl _ _).alloc (Nat.le_refl _) _
  have HS5 := Lib.hid ((HS3.out.later b4).later hb5)
  clear b4 hb5 HS3 s0
  have s0 := HS5.out.1.2.2.2.2.1.cell 0
  simp only [List.getElem?_cons_zero] at s0
  go_wp2_with fail
  refine (count_one HS5.out.1.2.2.2.1 HS5.out.1.2.2.1).mono ?_
  rintro r w6 ⟨rfl, b6⟩
  have HS6 := Lib.hid (HS5.out.later b6)
  clear b6 HS5 s0
  go_upto_region 7 with (fail)
  refine wp_region_noPanic ?_
  refine wp_region_held_drew (S := SQ w g4) (by kernel_rfl) (HS6.out.later (Below.refl _ _).drew) (fun hHeld => ?_)
  try simp only [Act.put]
  generalize w6.drew = w7 at hHeld ⊢
  clear HS6
  refine wpAnyH_take (i := 0) (oi := ⟨some 40, _, _, _, _, _⟩) (v := .agg #[.slice (some ⟨w.heap.size + 3, 0, none⟩) 1 1]) rfl (by kernel_rfl) (by kernel_rfl) (by kernel_rfl) (fun _ _ _ h => h) (.inl ⟨by rfl, fun w' hSw => ?_⟩) hHeld ?_
  focus (have q0 := hSw.1.2.2.2.2.1.cell 0; simp only [List.getElem?_cons_zero] at q0; clear hHeld; go_simp)
  try simp only [Act.put, List.setIfInBounds_toArray, List.set_cons_zero, List.set_cons_succ]
  refine wpAnyH_ready (rs := [1]) (by kernel_rfl) (by simp) ?_
  refine AllReadyH.cons (o := ⟨some 41, _, _, _, _, _⟩) rfl (fun K' hK' => ?_) AllReadyH.nil
  refine stepw_call (R := fun v w'' => v = .bool true ∧ SQ w g4 w'') (by rfl) ?_ (wForm hHeld) ?_
  focus go_simp
  rintro v w8 ⟨rfl, hkn⟩
  refine hK'.out _ _ hkn (fun _ => ?_)
  clear hK' K' hHeld
  have hHeld := hkn
  clear hkn
  try simp only [Act.put, List.setIfInBounds_toArray, List.set_cons_zero, List.set_cons_succ]
  refine wpAnyH_take (i := 2) (oi := ⟨some 42, _, _, _, _, _⟩) (v := .bool true) rfl (by kernel_rfl) (by kernel_rfl) (by kernel_rfl) (fun _ _ _ h => h) (.inl ⟨by rfl, fun w' hSw => ?_⟩) hHeld ?_
  focus (skip; clear hHeld; go_simp)
  try simp only [Act.put, List.setIfInBounds_toArray, List.set_cons_zero, List.set_cons_succ]
  refine wpAnyH_take (i := 3) (oi := ⟨some 43, _, _, _, _, _⟩) (v := .agg #[.slice (some ⟨w.heap.size + 6, 0, none⟩) 1 1]) rfl (by kernel_rfl) (by kernel_rfl) (by kernel_rfl) (fun _ _ _ h => h) (.inl ⟨by rfl, fun w' hSw => ?_⟩) hHeld ?_
  focus (have q0 := hSw.1.2.2.2.2.2.2.2.1.cell 0; simp only [List.getElem?_cons_zero] at q0; clear hHeld; go_simp)
  try simp only [Act.put, List.setIfInBounds_toArray, List.set_cons_zero, List.set_cons_succ]
  refine wpAnyH_ready (rs := [4]) (by kernel_rfl) (by simp) ?_
  refine AllReadyH.cons (o := ⟨some 44, _, _, _, _, _⟩) rfl (fun K' hK' => ?_) AllReadyH.nil
  refine stepw_call (R := fun v w'' => v = .bool false ∧ SQ w g4 w'') (by rfl) ?_ (wFormB hHeld) ?_
  focus go_simp
  rintro v w9 ⟨rfl, hkn⟩
  refine hK'.out _ _ hkn (fun _ => ?_)
  clear hK' K' hHeld
  have hHeld := hkn
  clear hkn
  try simp only [Act.put, List.setIfInBounds_toArray, List.set_cons_zero, List.set_cons_succ]
  refine wpAnyH_take (i := 5) (oi := ⟨some 45, _, _, _, _, _⟩) (v := .bool true) rfl (by kernel_rfl) (by kernel_rfl) (by kernel_rfl) (fun _ _ _ h => h) (.inl ⟨by rfl, fun w' hSw => ?_⟩) hHeld ?_
  focus (skip; clear hHeld; go_simp)
  try simp only [Act.put, List.setIfInBounds_toArray, List.set_cons_zero, List.set_cons_succ]
  refine wpAnyH_take (i := 6) (oi := ⟨some 46, _, _, _, _, _⟩) (v := .bool true) rfl (by kernel_rfl) (by kernel_rfl) (by kernel_rfl) (fun _ _ _ h => h) (.inl ⟨by rfl, fun w' hSw => ?_⟩) hHeld ?_
  focus (skip; clear hHeld; go_simp)
  try simp only [Act.put, List.setIfInBounds_toArray, List.set_cons_zero, List.set_cons_succ]
  refine wpAnyH_take (i := 7) (oi := ⟨some 47, _, _, _, _, _⟩) (v := .bool true) rfl (by kernel_rfl) (by kernel_rfl) (by kernel_rfl) (fun _ _ _ h => h) (.inl ⟨by rfl, fun w' hSw => ?_⟩) hHeld ?_
  focus (skip; clear hHeld; go_simp)
  try simp only [Act.put, List.setIfInBounds_toArray, List.set_cons_zero, List.set_cons_succ]
  refine wpAnyH_take (i := 8) (oi := ⟨some 48, _, _, _, _, _⟩) (v := .bool true) rfl (by kernel_rfl) (by kernel_rfl) (by kernel_rfl) (fun _ _ _ h => h) (.inl ⟨by rfl, fun w' hSw => ?_⟩) hHeld ?_
  focus (skip; clear hHeld; go_simp)
  try simp only [Act.put, List.setIfInBounds_toArray, List.set_cons_zero, List.set_cons_succ]
  refine wpAnyH_take (i := 9) (oi := ⟨some 49, _, _, _, _, _⟩) (v := .bool true) rfl (by kernel_rfl) (by kernel_rfl) (by kernel_rfl) (fun _ _ _ h => h) (.inl ⟨by rfl, fun w' hSw => ?_⟩) hHeld ?_
  focus (skip; clear hHeld; go_simp)
  try simp only [Act.put, List.setIfInBounds_toArray, List.set_cons_zero, List.set_cons_succ]
  refine wpAnyH_take (i := 10) (oi := ⟨some 50, _, _, _, _, _⟩) (v := .bool true) rfl (by kernel_rfl) (by kernel_rfl) (by kernel_rfl) (fun _ _ _ h => h) (.inl ⟨by rfl, fun w' hSw => ?_⟩) hHeld ?_
  focus (skip; clear hHeld; go_simp)
  try simp only [Act.put, List.setIfInBounds_toArray, List.set_cons_zero, List.set_cons_succ]
  refine wpAnyH_take (i := 11) (oi := ⟨some 51, _, _, _, _, _⟩) (v := .agg #[.string ⟨#[97]⟩, .int .i64 1, .slice (some ⟨w.heap.size, 0, none⟩) 1 1, .int .i64 0, .string ⟨#[]⟩, .string ⟨#[]⟩, .slice none 0 0]) rfl (by kernel_rfl) (by kernel_rfl) (by kernel_rfl) (fun _ _ _ h => h) (.inl ⟨by rfl, fun w' hSw => ?_⟩) hHeld ?_
  focus (have q0 := hSw.2.cell 0; have q1 := hSw.2.cell 1; have q2 := hSw.2.cell 2; have q3 := hSw.2.cell 3; have q4 := hSw.2.cell 4; have q5 := hSw.2.cell 5; have q6 := hSw.2.cell 6; simp only [List.getElem?_cons_zero, List.getElem?_cons_succ] at q0 q1 q2 q3 q4 q5 q6; clear hHeld; go_simp)
  try simp only [Act.put, List.setIfInBounds_toArray, List.set_cons_zero, List.set_cons_succ]
  refine wpAnyH_take (i := 12) (oi := ⟨some 52, _, _, _, _, _⟩) (v := .agg #[.string ⟨#[97]⟩, .int .i64 1, .slice (some ⟨w.heap.size, 0, none⟩) 1 1, .int .i64 0, .string ⟨#[]⟩, .string ⟨#[]⟩, .slice none 0 0]) rfl (by kernel_rfl) (by kernel_rfl) (by kernel_rfl) (fun _ _ _ h => h) (.inl ⟨by rfl, fun w' hSw => ?_⟩) hHeld ?_
  focus (have q0 := hSw.1.2.1.cell 0; have q1 := hSw.1.2.1.cell 1; have q2 := hSw.1.2.1.cell 2; have q3 := hSw.1.2.1.cell 3; have q4 := hSw.1.2.1.cell 4; have q5 := hSw.1.2.1.cell 5; have q6 := hSw.1.2.1.cell 6; simp only [List.getElem?_cons_zero, List.getElem?_cons_succ] at q0 q1 q2 q3 q4 q5 q6; clear hHeld; go_simp)
  try simp only [Act.put, List.setIfInBounds_toArray, List.set_cons_zero, List.set_cons_succ]
  refine wpAnyH_ready (rs := [13]) (by kernel_rfl) (by simp) ?_
  refine AllReadyH.cons (o := ⟨some 53, _, _, _, _, _⟩) rfl (fun K' hK' => ?_) AllReadyH.nil
  refine stepw_call (R := fun v w'' => v = .bool true ∧ SQ w g4 w'') (by rfl) ?_ (wSameM hHeld) ?_
  focus go_simp
  rintro v w10 ⟨rfl, hkn⟩
  refine hK'.out _ _ hkn (fun _ => ?_)
  clear hK' K' hHeld
  have hHeld := hkn
  clear hkn
  try simp only [Act.put, List.setIfInBounds_toArray, List.set_cons_zero, List.set_cons_succ]
  refine wpAnyH_take (i := 14) (oi := ⟨some 54, _, _, _, _, _⟩) (v := .bool true) rfl (by kernel_rfl) (by kernel_rfl) (by kernel_rfl) (fun _ _ _ h => h) (.inl ⟨by rfl, fun w' hSw => ?_⟩) hHeld ?_
  focus (skip; clear hHeld; go_simp)
  try simp only [Act.put, List.setIfInBounds_toArray, List.set_cons_zero, List.set_cons_succ]
  refine wpAnyH_take (i := 15) (oi := ⟨some 55, _, _, _, _, _⟩) (v := .bool true) rfl (by kernel_rfl) (by kernel_rfl) (by kernel_rfl) (fun _ _ _ h => h) (.inl ⟨by rfl, fun w' hSw => ?_⟩) hHeld ?_
  focus (skip; clear hHeld; go_simp)
  try simp only [Act.put, List.setIfInBounds_toArray, List.set_cons_zero, List.set_cons_succ]
  refine wpAnyH_take (i := 16) (oi := ⟨some 56, _, _, _, _, _⟩) (v := .bool false) rfl (by kernel_rfl) (by kernel_rfl) (by kernel_rfl) (fun _ _ _ h => h) (.inl ⟨by rfl, fun w' hSw => ?_⟩) hHeld ?_
  focus (skip; clear hHeld; go_simp)
  try simp only [Act.put, List.setIfInBounds_toArray, List.set_cons_zero, List.set_cons_succ]
  refine wpAnyH_take (i := 17) (oi := ⟨some 57, _, _, _, _, _⟩) (v := .bool true) rfl (by kernel_rfl) (by kernel_rfl) (by kernel_rfl) (fun _ _ _ h => h) (.inl ⟨by rfl, fun w' hSw => ?_⟩) hHeld ?_
  focus (skip; clear hHeld; go_simp)
  try simp only [Act.put, List.setIfInBounds_toArray, List.set_cons_zero, List.set_cons_succ]
  refine wpAnyH_take (i := 18) (oi := ⟨some 58, _, _, _, _, _⟩) (v := .bool true) rfl (by kernel_rfl) (by kernel_rfl) (by kernel_rfl) (fun _ _ _ h => h) (.inl ⟨by rfl, fun w' hSw => ?_⟩) hHeld ?_
  focus (skip; clear hHeld; go_simp)
  try simp only [Act.put, List.setIfInBounds_toArray, List.set_cons_zero, List.set_cons_succ]
  refine wpAnyH_take (i := 19) (oi := ⟨some 59, _, _, _, _, _⟩) (v := .bool true) rfl (by kernel_rfl) (by kernel_rfl) (by kernel_rfl) (fun _ _ _ h => h) (.inl ⟨by rfl, fun w' hSw => ?_⟩) hHeld ?_
  focus (skip; clear hHeld; go_simp)
  try simp only [Act.put, List.setIfInBounds_toArray, List.set_cons_zero, List.set_cons_succ]
  refine wpAnyH_take (i := 20) (oi := ⟨some 60, _, _, _, _, _⟩) (v := .int .i64 1) rfl (by kernel_rfl) (by kernel_rfl) (by kernel_rfl) (fun _ _ _ h => h) (.inl ⟨by rfl, fun w' hSw => ?_⟩) hHeld ?_
  focus (skip; clear hHeld; go_simp)
  try simp only [Act.put, List.setIfInBounds_toArray, List.set_cons_zero, List.set_cons_succ]
  refine wpAnyH_take (i := 21) (oi := ⟨some 61, _, _, _, _, _⟩) (v := .bool true) rfl (by kernel_rfl) (by kernel_rfl) (by kernel_rfl) (fun _ _ _ h => h) (.inl ⟨by rfl, fun w' hSw => ?_⟩) hHeld ?_
  focus (skip; clear hHeld; go_simp)
  try simp only [Act.put, List.setIfInBounds_toArray, List.set_cons_zero, List.set_cons_succ]
  refine wpAnyH_take (i := 22) (oi := ⟨some 62, _, _, _, _, _⟩) (v := .bool true) rfl (by kernel_rfl) (by kernel_rfl) (by kernel_rfl) (fun _ _ _ h => h) (.inl ⟨by rfl, fun w' hSw => ?_⟩) hHeld ?_
  focus (skip; clear hHeld; go_simp)
  try simp only [Act.put, List.setIfInBounds_toArray, List.set_cons_zero, List.set_cons_succ]
  refine wpAnyH_take (i := 23) (oi := ⟨some 63, _, _, _, _, _⟩) (v := .bool true) rfl (by kernel_rfl) (by kernel_rfl) (by kernel_rfl) (fun _ _ _ h => h) (.inl ⟨by rfl, fun w' hSw => ?_⟩) hHeld ?_
  focus (skip; clear hHeld; go_simp)
  try simp only [Act.put, List.setIfInBounds_toArray, List.set_cons_zero, List.set_cons_succ]
  refine wpAnyH_take (i := 24) (oi := ⟨some 64, _, _, _, _, _⟩) (v := .int .i64 1) rfl (by kernel_rfl) (by kernel_rfl) (by kernel_rfl) (fun _ _ _ h => h) (.inl ⟨by rfl, fun w' hSw => ?_⟩) hHeld ?_
  focus (skip; clear hHeld; go_simp)
  try simp only [Act.put, List.setIfInBounds_toArray, List.set_cons_zero, List.set_cons_succ]
  refine wpAnyH_take (i := 25) (oi := ⟨some 65, _, _, _, _, _⟩) (v := .bool true) rfl (by kernel_rfl) (by kernel_rfl) (by kernel_rfl) (fun _ _ _ h => h) (.inl ⟨by rfl, fun w' hSw => ?_⟩) hHeld ?_
  focus (skip; clear hHeld; go_simp)
  try simp only [Act.put, List.setIfInBounds_toArray, List.set_cons_zero, List.set_cons_succ]
  refine wpAnyH_take (i := 26) (oi := ⟨some 66, _, _, _, _, _⟩) (v := .bool true) rfl (by kernel_rfl) (by kernel_rfl) (by kernel_rfl) (fun _ _ _ h => h) (.inl ⟨by rfl, fun w' hSw => ?_⟩) hHeld ?_
  focus (skip; clear hHeld; go_simp)
  try simp only [Act.put, List.setIfInBounds_toArray, List.set_cons_zero, List.set_cons_succ]
  refine wpAnyH_take (i := 27) (oi := ⟨some 67, _, _, _, _, _⟩) (v := .bool true) rfl (by kernel_rfl) (by kernel_rfl) (by kernel_rfl) (fun _ _ _ h => h) (.inl ⟨by rfl, fun w' hSw => ?_⟩) hHeld ?_
  focus (skip; clear hHeld; go_simp)
  try simp only [Act.put, List.setIfInBounds_toArray, List.set_cons_zero, List.set_cons_succ]
  refine wpAnyH_take (i := 28) (oi := ⟨some 68, _, _, _, _, _⟩) (v := .int .i64 0) rfl (by kernel_rfl) (by kernel_rfl) (by kernel_rfl) (fun _ _ _ h => h) (.inl ⟨by rfl, fun w' hSw => ?_⟩) hHeld ?_
  focus (skip; clear hHeld; go_simp)
  try simp only [Act.put, List.setIfInBounds_toArray, List.set_cons_zero, List.set_cons_succ]
  refine wpAnyH_take (i := 29) (oi := ⟨some 69, _, _, _, _, _⟩) (v := .bool true) rfl (by kernel_rfl) (by kernel_rfl) (by kernel_rfl) (fun _ _ _ h => h) (.inl ⟨by rfl, fun w' hSw => ?_⟩) hHeld ?_
  focus (skip; clear hHeld; go_simp)
  try simp only [Act.put, List.setIfInBounds_toArray, List.set_cons_zero, List.set_cons_succ]
  refine wpAnyH_take (i := 30) (oi := ⟨some 70, _, _, _, _, _⟩) (v := .bool true) rfl (by kernel_rfl) (by kernel_rfl) (by kernel_rfl) (fun _ _ _ h => h) (.inl ⟨by rfl, fun w' hSw => ?_⟩) hHeld ?_
  focus (skip; clear hHeld; go_simp)
  try simp only [Act.put, List.setIfInBounds_toArray, List.set_cons_zero, List.set_cons_succ]
  refine wpAnyH_take (i := 31) (oi := ⟨some 71, _, _, _, _, _⟩) (v := .bool true) rfl (by kernel_rfl) (by kernel_rfl) (by kernel_rfl) (fun _ _ _ h => h) (.inl ⟨by rfl, fun w' hSw => ?_⟩) hHeld ?_
  focus (skip; clear hHeld; go_simp)
  try simp only [Act.put, List.setIfInBounds_toArray, List.set_cons_zero, List.set_cons_succ]
  refine wpAnyH_take (i := 32) (oi := ⟨some 72, _, _, _, _, _⟩) (v := .agg #[.slice (some ⟨w.heap.size + 3, 0, none⟩) 1 1]) rfl (by kernel_rfl) (by kernel_rfl) (by kernel_rfl) (fun _ _ _ h => h) (.inl ⟨by rfl, fun w' hSw => ?_⟩) hHeld ?_
  focus (have q0 := hSw.1.2.2.2.2.1.cell 0; simp only [List.getElem?_cons_zero] at q0; clear hHeld; go_simp)
  try simp only [Act.put, List.setIfInBounds_toArray, List.set_cons_zero, List.set_cons_succ]
  refine wpAnyH_take (i := 34) (oi := ⟨some 74, _, _, _, _, _⟩) (v := .agg #[.slice (some ⟨w.heap.size + 3, 0, none⟩) 1 1]) rfl (by kernel_rfl) (by kernel_rfl) (by kernel_rfl) (fun _ _ _ h => h) (.inl ⟨by rfl, fun w' hSw => ?_⟩) hHeld ?_
  focus (have q0 := hSw.1.2.2.2.2.1.cell 0; simp only [List.getElem?_cons_zero] at q0; clear hHeld; go_simp)
  try simp only [Act.put, List.setIfInBounds_toArray, List.set_cons_zero, List.set_cons_succ]
  refine wpAnyH_ready (rs := [33]) (by kernel_rfl) (by simp) ?_
  refine AllReadyH.cons (o := ⟨some 73, _, _, _, _, _⟩) rfl (fun K' hK' => ?_) AllReadyH.nil
  refine stepw_call (R := fun v w'' => CV v w'' ∧ SQ w g4 w'') (by rfl) ?_ (wClone hHeld) ?_
  focus go_simp
  rintro v w11 ⟨R8, hkn⟩
  refine hK'.out _ _ hkn (fun _ => ?_)
  clear hK' K' hHeld
  have hHeld := hkn
  clear hkn
  try simp only [Act.put, List.setIfInBounds_toArray, List.set_cons_zero, List.set_cons_succ]
  refine wpAnyH_ready (rs := [35]) (by kernel_rfl) (by simp) ?_
  refine AllReadyH.cons (o := ⟨some 75, _, _, _, _, _⟩) rfl (fun K' hK' => ?_) AllReadyH.nil
  refine stepw_call (R := fun v w'' => v = .bool true ∧ SQ w g4 w'') (by rfl) ?_ (wSame hHeld R8) ?_
  focus go_simp
  rintro v w12 ⟨rfl, hkn⟩
  refine hK'.out _ _ hkn (fun _ => ?_)
  clear hK' K' hHeld
  have hHeld := hkn
  clear hkn
  try simp only [Act.put, List.setIfInBounds_toArray, List.set_cons_zero, List.set_cons_succ]
  clear R8
  refine wpAnyH_take (i := 36) (oi := ⟨some 76, _, _, _, _, _⟩) (v := .bool true) rfl (by kernel_rfl) (by kernel_rfl) (by kernel_rfl) (fun _ _ _ h => h) (.inl ⟨by rfl, fun w' hSw => ?_⟩) hHeld ?_
  focus (skip; clear hHeld; go_simp)
  try simp only [Act.put, List.setIfInBounds_toArray, List.set_cons_zero, List.set_cons_succ]
  refine wpAnyH_take (i := 37) (oi := ⟨some 77, _, _, _, _, _⟩) (v := .bool true) rfl (by kernel_rfl) (by kernel_rfl) (by kernel_rfl) (fun _ _ _ h => h) (.inl ⟨by rfl, fun w' hSw => ?_⟩) hHeld ?_
  focus (skip; clear hHeld; go_simp)
  try simp only [Act.put, List.setIfInBounds_toArray, List.set_cons_zero, List.set_cons_succ]
  refine wpAnyH_take (i := 38) (oi := ⟨some 78, _, _, _, _, _⟩) (v := .agg #[.slice (some ⟨w.heap.size + 3, 0, none⟩) 1 1]) rfl (by kernel_rfl) (by kernel_rfl) (by kernel_rfl) (fun _ _ _ h => h) (.inl ⟨by rfl, fun w' hSw => ?_⟩) hHeld ?_
  focus (have q0 := hSw.1.2.2.2.2.1.cell 0; simp only [List.getElem?_cons_zero] at q0; clear hHeld; go_simp)
  try simp only [Act.put, List.setIfInBounds_toArray, List.set_cons_zero, List.set_cons_succ]
  refine wpAnyH_ready (rs := [39]) (by kernel_rfl) (by simp) ?_
  refine AllReadyH.cons (o := ⟨some 79, _, _, _, _, _⟩) rfl (fun K' hK' => ?_) AllReadyH.nil
  refine stepw_call (R := fun v w'' => (∃ b, v = .func (.func 25) #[] #[.pointer (some ⟨b, 0, none⟩)]) ∧ SQ w g4 w'') (by rfl) ?_ (wMembers hHeld) ?_
  focus go_simp
  rintro v w13 ⟨⟨bl, rfl⟩, hkn⟩
  refine hK'.out _ _ hkn (fun _ => ?_)
  clear hK' K' hHeld
  have hHeld := hkn
  clear hkn
  try simp only [Act.put, List.setIfInBounds_toArray, List.set_cons_zero, List.set_cons_succ]
  refine wpAnyH_take (i := 40) (oi := ⟨some 80, _, _, _, _, _⟩) (v := .bool true) rfl (by kernel_rfl) (by kernel_rfl) (by kernel_rfl) (fun _ _ _ h => h) (.inl ⟨by rfl, fun w' hSw => ?_⟩) hHeld ?_
  focus (have qf := neqFn2; clear hHeld; go_simp)
  try simp only [Act.put, List.setIfInBounds_toArray, List.set_cons_zero, List.set_cons_succ]
  refine wpAnyH_take (i := 41) (oi := ⟨some 81, _, _, _, _, _⟩) (v := .bool true) rfl (by kernel_rfl) (by kernel_rfl) (by kernel_rfl) (fun _ _ _ h => h) (.inl ⟨by rfl, fun w' hSw => ?_⟩) hHeld ?_
  focus (skip; clear hHeld; go_simp)
  try simp only [Act.put, List.setIfInBounds_toArray, List.set_cons_zero, List.set_cons_succ]
  refine wpAnyH_take (i := 42) (oi := ⟨some 82, _, _, _, _, _⟩) (v := .bool true) rfl (by kernel_rfl) (by kernel_rfl) (by kernel_rfl) (fun _ _ _ h => h) (.inl ⟨by rfl, fun w' hSw => ?_⟩) hHeld ?_
  focus (skip; clear hHeld; go_simp)
  try simp only [Act.put, List.setIfInBounds_toArray, List.set_cons_zero, List.set_cons_succ]
  refine wpAnyH_take (i := 43) (oi := ⟨some 83, _, _, _, _, _⟩) (v := .agg #[.string ⟨#[97]⟩, .int .i64 1, .slice (some ⟨w.heap.size, 0, none⟩) 1 1, .int .i64 0, .string ⟨#[]⟩, .string ⟨#[]⟩, .slice none 0 0]) rfl (by kernel_rfl) (by kernel_rfl) (by kernel_rfl) (fun _ _ _ h => h) (.inl ⟨by rfl, fun w' hSw => ?_⟩) hHeld ?_
  focus (have q0 := hSw.1.2.1.cell 0; have q1 := hSw.1.2.1.cell 1; have q2 := hSw.1.2.1.cell 2; have q3 := hSw.1.2.1.cell 3; have q4 := hSw.1.2.1.cell 4; have q5 := hSw.1.2.1.cell 5; have q6 := hSw.1.2.1.cell 6; simp only [List.getElem?_cons_zero, List.getElem?_cons_succ] at q0 q1 q2 q3 q4 q5 q6; clear hHeld; go_simp)
  try simp only [Act.put, List.setIfInBounds_toArray, List.set_cons_zero, List.set_cons_succ]
  refine wpAnyH_take (i := 44) (oi := ⟨some 84, _, _, _, _, _⟩) (v := .agg #[.string ⟨#[117, 115, 101, 114]⟩, .string ⟨#[]⟩]) rfl (by kernel_rfl) (by kernel_rfl) (by kernel_rfl) (fun _ _ _ h => h) (.inl ⟨by rfl, fun w' hSw => ?_⟩) hHeld ?_
  focus (skip; clear hHeld; go_simp)
  try simp only [Act.put, List.setIfInBounds_toArray, List.set_cons_zero, List.set_cons_succ]
  refine wpAnyH_ready (rs := [45]) (by kernel_rfl) (by simp) ?_
  refine AllReadyH.cons (o := ⟨some 85, _, _, _, _, _⟩) rfl (fun K' hK' => ?_) AllReadyH.nil
  refine stepw_call (R := fun v w'' => v = .bool true ∧ SQ w g4 w'') (by rfl) ?_ (wAllows hHeld) ?_
  focus go_simp
  rintro v w14 ⟨rfl, hkn⟩
  refine hK'.out _ _ hkn (fun _ => ?_)
  clear hK' K' hHeld
  have hHeld := hkn
  clear hkn
  try simp only [Act.put, List.setIfInBounds_toArray, List.set_cons_zero, List.set_cons_succ]
  refine wpAnyH_take (i := 46) (oi := ⟨some 86, _, _, _, _, _⟩) (v := .bool true) rfl (by kernel_rfl) (by kernel_rfl) (by kernel_rfl) (fun _ _ _ h => h) (.inl ⟨by rfl, fun w' hSw => ?_⟩) hHeld ?_
  focus (skip; clear hHeld; go_simp)
  try simp only [Act.put, List.setIfInBounds_toArray, List.set_cons_zero, List.set_cons_succ]
  refine wpAnyH_take (i := 47) (oi := ⟨some 0, _, _, _, _, _⟩) (v := .bool true) rfl (by kernel_rfl) (by kernel_rfl) (by kernel_rfl) (fun _ _ _ h => h) (.inl ⟨by rfl, fun w' hSw => ?_⟩) hHeld ?_
  focus (skip; clear hHeld; go_simp)
  try simp only [Act.put, List.setIfInBounds_toArray, List.set_cons_zero]
  refine wpAnyH_done (by kernel_rfl) ?_ _
  refine NoPanic.normal ?_
  have HB := Lib.hid hHeld.1.2.2.2.2.2.2.2.2.2
  clear hHeld
  go_wp2_with fail
  go_ret
  exact ⟨rfl, HB.out⟩
end Go.Proofs.YtijokgddfcfcbaaDoor
