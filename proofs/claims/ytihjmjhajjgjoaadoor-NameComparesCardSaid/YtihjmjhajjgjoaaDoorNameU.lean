/-
  vestryref08.Compare, cmp.Or, name.Compare.
-/
import Derived.Test.YtihjmjhajjgjoaaDoorNameT
import Derived.StillTailTactics
namespace Go.Proofs.YtihjmjhajjgjoaaDoor
open Go.ChangeShapes Go.WideShapes Go.ChangeAt Go.RowKit
set_option linter.unusedVariables false

/-- Block b holds two strings. -/
def Pair (w : World) (b : Nat) (t : TypeId) (x y : ByteArray) : Prop := w.heap[b]? = some (.cells #[.string x, .string y] t (0, 0))
theorem Pair.new (w : World) (t : TypeId) (x y : ByteArray) : Pair (w.alloc (.cells #[.string x, .string y] t)) w.heap.size t x y := heap_alloc_new w _
theorem Pair.below {w w' : World} {b : Nat} {t : TypeId} {x y : ByteArray} (h : Pair w b t x y) (hb : Below w.heap.size w w') : Pair w' b t x y := (hb.block b (Array.getElem?_eq_some_iff.1 h).1).trans h
theorem Pair.alloc {w : World} {b : Nat} {t : TypeId} {x y : ByteArray} (h : Pair w b t x y) (o : Obj) : Pair (w.alloc o) b t x y := h.below ((Below.refl _ _).alloc (Nat.le_refl _) o)
theorem Pair.c0 {w : World} {b : Nat} {t : TypeId} {x y : ByteArray} (h : Pair w b t x y) : w.cell? ⟨b, 0, none⟩ = some (.string x) := cell_of_row _ _ 0 _ _ _ h
theorem Pair.c1 {w : World} {b : Nat} {t : TypeId} {x y : ByteArray} (h : Pair w b t x y) : w.cell? ⟨b, 1, none⟩ = some (.string y) := cell_of_row _ _ 1 _ _ _ h
theorem Pair.at {w : World} {b c : Nat} {t : TypeId} {x y : ByteArray} (h : Pair w b t x y) (e : b = c) : Pair w c t x y := e ▸ h
theorem below_alloc {W w : World} (h : Below W.heap.size W w) (o : Obj) : Below W.heap.size W (w.alloc o) := h.alloc h.size o
theorem env_alloc {w : World} (h : Env w) (o : Obj) : Env (w.alloc o) := h.below ((Below.refl _ _).alloc (Nat.le_refl _) o)

set_option maxRecDepth 100000 in
set_option maxHeartbeats 1000000 in
theorem rcompare_any (t r u q : ByteArray) (ht : t.size ≤ 1000000) (hr : r.size ≤ 1000000) (hu : u.size ≤ 1000000) (hq : q.size ≤ 1000000) (w : World) :
    Calls Tryd.prog 26 #[.agg #[.string t, .string r], .agg #[.string u, .string q]] w fun e w' => e = .returned (.int .i64 (ord2 t r u q)) ∧ Below w.heap.size w w' := by
  have H1 := Lib.hid (order_any t u ht hu)
  have H2 := Lib.hid (order_any r q hr hq)
  have HO : Hid (ord2 t r u q = if ord t u = 0 then ord r q else ord t u) := rfl
  have HB := Lib.hid (below_alloc (below_alloc (Below.refl w.heap.size w) (.cells #[.string t, .string r] 34)) (.cells #[.string u, .string q] 34))
  have P1 := Lib.hid ((Pair.new w 34 t r).alloc (.cells #[.string u, .string q] 34))
  have P2 := Lib.hid (Pair.at (c := w.heap.size + 1) (Pair.new (w.alloc (.cells #[.string t, .string r] 34)) 34 u q) (by simp))
  obtain ⟨x, hx⟩ : ∃ x, ord t u = x := ⟨_, rfl⟩
  obtain ⟨y, hy⟩ : ∃ y, ord r q = y := ⟨_, rfl⟩
  rw [hx] at H1 HO
  rw [hy] at H2 HO
  clear hx hy
  go_enter Tryd.func26, Tryd.ntmps26
  go_wp2_with fail
  refine (H1.out _).mono ?_
  rintro e w1 ⟨rfl, b1⟩
  have HB1 := Lib.hid (HB.out.trans (b1.mono HB.out.size))
  have P11 := Lib.hid (P1.out.below b1)
  have P21 := Lib.hid (P2.out.below b1)
  clear HB P1 P2 b1
  have c1 := P11.out.c0
  have c2 := P11.out.c1
  have c3 := P21.out.c0
  have c4 := P21.out.c1
  by_cases h0 : x = 0
  · have HR : Hid (ord2 t r u q = y) := by show _ = _; rw [HO.out, if_pos h0]
    clear HO
    subst h0
    go_wp2_with fail
    refine (H2.out _).mono ?_
    rintro e w2 ⟨rfl, b2⟩
    have HB2 := Lib.hid (HB1.out.trans (b2.mono HB1.out.size))
    clear b2 HB1
    go_wp2_with fail
    go_ret
    exact ⟨by rw [HR.out]; rfl, HB2.out⟩
  · have HR : Hid (ord2 t r u q = x) := by show _ = _; rw [HO.out, if_neg h0]
    clear HO
    have h1 : (x == 0) = false := by rw [beq_eq_false_iff_ne]; exact h0
    go_wp2_with fail
    refine (H1.out _).mono ?_
    rintro e w2 ⟨rfl, b2⟩
    have HB2 := Lib.hid (HB1.out.trans (b2.mono HB1.out.size))
    clear b2 HB1
    go_wp2_with fail
    go_ret
    exact ⟨by rw [HR.out]; rfl, HB2.out⟩

set_option maxRecDepth 100000 in
set_option maxHeartbeats 1000000 in
theorem cor_any (x y : Int) (b : Nat) (w : World) (c0 : w.cell? ⟨b, 0, none⟩ = some (.int .i64 x)) (c1 : w.cell? ⟨b, 1, none⟩ = some (.int .i64 y)) :
    Calls Tryd.prog 37 #[.slice (some ⟨b, 0, none⟩) 2 2] w fun e w' => e = .returned (.int .i64 (if x = 0 then y else x)) ∧ w = w' := by
  have C0 := Lib.hid c0
  have C1 := Lib.hid c1
  obtain ⟨z, hz⟩ : ∃ z, z = (if x = 0 then y else x) := ⟨_, rfl⟩
  rw [← hz]
  have HZ := Lib.hid hz
  clear hz c0 c1
  go_enter Tryd.func37, Tryd.ntmps37
  go_wp2_with fail
  go_loop [8] (fun iv => iv = .int .i64 0 ∨ (iv = .int .i64 1 ∧ Hid (x = 0)) ∨ (iv = .int .i64 2 ∧ Hid (x = 0) ∧ Hid (y = 0))) (fun iv => 2 - (intOf iv).toNat)
  case atStart => exact .inl rfl
  case round =>
    rcases hrel with rfl | ⟨rfl, HX⟩ | ⟨rfl, HX, HY⟩
    · have c0 := C0.out
      by_cases h0 : x = 0
      · have HX := Lib.hid h0
        have h1 : (x == 0) = true := by rw [h0]; rfl
        clear h0
        go_wp2_with fail
        go_round
        case rel => exact .inr (.inl ⟨rfl, HX.out⟩)
        case measure => simp [intOf]
      · have HR : Hid (z = x) := by show _ = _; rw [HZ.out, if_neg h0]
        have h1 : (x == 0) = false := by rw [beq_eq_false_iff_ne]; exact h0
        go_wp2_with fail
        go_ret
        exact ⟨by rw [HR.out]; rfl, rfl⟩
    · have c1 := C1.out
      by_cases h0 : y = 0
      · have HY := Lib.hid h0
        have h1 : (y == 0) = true := by rw [h0]; rfl
        clear h0
        go_wp2_with fail
        go_round
        case rel => exact .inr (.inr ⟨rfl, HX.out, HY.out⟩)
        case measure => simp [intOf]
      · have HR : Hid (z = y) := by show _ = _; rw [HZ.out, if_pos HX.out]
        have h1 : (y == 0) = false := by rw [beq_eq_false_iff_ne]; exact h0
        go_wp2_with fail
        go_ret
        exact ⟨by rw [HR.out]; rfl, rfl⟩
    · have HR : Hid (z = 0) := by show _ = _; rw [HZ.out, if_pos HX.out, HY.out]
      go_wp2_with fail
      go_ret
      exact ⟨by rw [HR.out]; rfl, rfl⟩

theorem cor_new (x y : Int) (w : World) :
    Calls Tryd.prog 37 #[.slice (some ⟨w.heap.size, 0, none⟩) 2 2] (w.alloc (.cells #[.int .i64 x, .int .i64 y] 3)) fun e w' => e = .returned (.int .i64 (if x = 0 then y else x)) ∧ w.alloc (.cells #[.int .i64 x, .int .i64 y] 3) = w' := by
  have k := heap_alloc_new w (.cells #[.int .i64 x, .int .i64 y] 3)
  exact cor_any x y _ _ (cell_of_row _ _ 0 _ _ _ k) (cell_of_row _ _ 1 _ _ _ k)

set_option maxRecDepth 100000 in
set_option maxHeartbeats 1000000 in
theorem compare_any (t r u q : ByteArray) (w : World) :
    Calls Tryd.prog 25 #[.agg #[.string t, .string r], .agg #[.string u, .string q]] w fun e w' => e = .returned (.int .i64 (ord2 t r u q)) ∧ Below w.heap.size w w' := by
  have hb := below_alloc (below_alloc (Below.refl w.heap.size w) (.cells #[.string t, .string r] 34)) (.cells #[.string u, .string q] 34)
  have p1 := (Pair.new w 34 t r).alloc (.cells #[.string u, .string q] 34)
  have p2 := Pair.at (c := w.heap.size + 1) (Pair.new (w.alloc (.cells #[.string t, .string r] 34)) 34 u q) (by simp)
  obtain ⟨w0, hw0⟩ : ∃ w0, w0 = (w.alloc (.cells #[.string t, .string r] 34)).alloc (.cells #[.string u, .string q] 34) := ⟨_, rfl⟩
  rw [← hw0] at hb p1 p2
  have H1 := Lib.hid (Tryd.strings_Compare t u)
  have H2 := Lib.hid (Tryd.strings_Compare r q)
  have HO : Hid (ord2 t r u q = if ord t u = 0 then ord r q else ord t u) := rfl
  have HB := Lib.hid hb
  have HW := Lib.hid hw0
  have P1 := Lib.hid p1
  have P2 := Lib.hid p2
  clear hb p1 p2 hw0
  go_enter Tryd.func25, Tryd.ntmps25
  go_wp2_with fail
  rw [← HW.out]
  have c1 := P1.out.c0
  have c2 := P1.out.c1
  have c3 := P2.out.c0
  have c4 := P2.out.c1
  refine wp_region_still_tail 10 (by kernel_rfl) (by kernel_rfl) ?_
  simp only [List.take_succ_cons, List.take_zero, List.drop_succ_cons, List.drop_zero]
  repeat first | still_step | still_call (H1.out _) | still_call (H2.out _)
  refine wpStill_nil ?_
  change wpList _ _ _ _ _ w0.drew
  have HB2 : Hid (Below w.heap.size w w0.drew) := below_dr HB.out 1
  generalize w0.drew = w2 at HB2 ⊢
  obtain ⟨x, hx⟩ : ∃ x, ord t u = x := ⟨_, rfl⟩
  obtain ⟨y, hy⟩ : ∃ y, ord r q = y := ⟨_, rfl⟩
  rw [show Lib.compareBytes t.data.toList u.data.toList = x from hx, show Lib.compareBytes r.data.toList q.data.toList = y from hy]
  rw [hx, hy] at HO
  clear hx hy H1 H2 HW HB P1 P2 c1 c2 c3 c4
  go_wp2_with fail
  refine (cor_new x y _).mono ?_
  rintro e w3 ⟨rfl, rfl⟩
  rw [← HO.out]
  go_wp2_with fail
  go_ret
  exact ⟨rfl, below_alloc HB2.out _⟩
end Go.Proofs.YtihjmjhajjgjoaaDoor
