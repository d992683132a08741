/-
  DigestShort's awake.
-/
import Derived.Test.YtngcmikblcoheaaGreatDoorDgH
import Derived.Deep.Cut
namespace Go.Proofs.YtngcmikblcoheaaGreatDoor
open Go.ChangeShapes Go.WideShapes Go.ChangeAt Go.RowKit
set_option linter.unusedVariables false
theorem mk1 (w : World) : (Instr.makeSlice 30 (.int .i64 1) (.int .i64 1)).run Tryz.prog w = .ok (.slice (some ⟨w.heap.size, 0, none⟩) 1 1) (w.alloc (.cells #[.string ByteArray.empty, .slice none 0 0] 49)) := by kernel_rfl
theorem storeN2 {ops : Array Oper} {Q : Exit → Act → World → Prop} {rest : List Oper} {o : Oper} {a : Act} {w : World} {t : TypeId} {g : Nat} {x y : Operand} {old : List Value} (hA : Arr w t g old) (ho : old.length = 32) (hs : o.guard = none ∧ o.op = .store 22 x y ∧ a.eval x = .pointer (some ⟨g, 0, none⟩) ∧ a.eval y = .agg z32.toArray)
    (hk : wpList Tryz.prog ops Q rest (a.put o.dst undef) (w.setRow g z32.toArray)) : wpList Tryz.prog ops Q (o :: rest) a w :=
  store_arr hs.1 _ x y hs.2.1 (cs := z32) hA hs.2.2.1 hs.2.2.2 (by kernel_rfl) ho (by
    intro v hv
    simp only [z32, List.mem_cons, List.not_mem_nil, or_false, or_self] at hv
    subst hv; rfl) hk
theorem short_ab (w : World) : Calls Tryz.prog 5 #[.agg #[.int .u8 171, .int .u8 1, .int .u8 0, .int .u8 0, .int .u8 0, .int .u8 0, .int .u8 0, .int .u8 0, .int .u8 0, .int .u8 0, .int .u8 0, .int .u8 0, .int .u8 0, .int .u8 0, .int .u8 0, .int .u8 0, .int .u8 0, .int .u8 0, .int .u8 0, .int .u8 0, .int .u8 0, .int .u8 0, .int .u8 0, .int .u8 0, .int .u8 0, .int .u8 0, .int .u8 0, .int .u8 0, .int .u8 0, .int .u8 0, .int .u8 0, .int .u8 0]] w fun r w' => r = .returned (.string ⟨#[97, 98, 48, 49, 48, 48, 48, 48]⟩) ∧ Below w.heap.size w w' := by
  refine (short_any ([171, 1, 0, 0, 0, 0, 0, 0, 0, 0, 0, 0, 0, 0, 0, 0, 0, 0, 0, 0, 0, 0, 0, 0, 0, 0, 0, 0, 0, 0, 0, 0] : List UInt8) rfl w).mono ?_
  rintro r w1 ⟨s, rfl, hs, b⟩
  refine ⟨?_, b⟩
  have e : s.data.toList = [97, 98, 48, 49, 48, 48, 48, 48] := hs.trans (by decide)
  have e2 : s = ⟨#[97, 98, 48, 49, 48, 48, 48, 48]⟩ := by
    rcases s with ⟨⟨l⟩⟩
    simp only at e
    subst e; rfl
  rw [e2]
set_option maxRecDepth 100000 in
set_option maxHeartbeats 2000000 in
theorem awake17 (W : World) : Calls Tryz.prog 4 #[] W fun r w' => r = .returned (.bool true) ∧ Below W.heap.size W w' := by
  have hm := mk1
  go_enter Tryz.func4, Tryz.ntmps4
  go_wp2_with fail
  refine (input0 _).mono ?_
  rintro r w1 ⟨vI, rfl, o1, b1⟩
  have HO1 := Lib.hid (Rd.of_own o1)
  obtain ⟨qI, cI, rfl⟩ := own_form o1
  have HB := Lib.hid b1
  clear o1 b1
  go_wp2_with fail
  have HD := Lib.hid (Arr.new' w1 49 #[.string ByteArray.empty, .slice none 0 0] _ rfl)
  have HS := Lib.hid (schema1 _ _ HD.out)
  refine HS.out.mono ?_
  rintro r w2 ⟨rfl, b2⟩
  have b2' := (((Below.refl w1.heap.size w1).alloc (Nat.le_refl _) (.cells #[.string ByteArray.empty, .slice none 0 0] 49)).trans (b2.mono (by rw [World.size_alloc]; omega)))
  have HO2 := Lib.hid ((HO1.out.below b2' (Nat.le_refl _)).mono b2'.size)
  have HB2 := Lib.hid (HB.out.trans (b2'.mono HB.out.size))
  have HR := Lib.hid (Arr.new' w2 22 #[.int .u8 0, .int .u8 0, .int .u8 0, .int .u8 0, .int .u8 0, .int .u8 0, .int .u8 0, .int .u8 0, .int .u8 0, .int .u8 0, .int .u8 0, .int .u8 0, .int .u8 0, .int .u8 0, .int .u8 0, .int .u8 0, .int .u8 0, .int .u8 0, .int .u8 0, .int .u8 0, .int .u8 0, .int .u8 0, .int .u8 0, .int .u8 0, .int .u8 0, .int .u8 0, .int .u8 0, .int .u8 0, .int .u8 0, .int .u8 0, .int .u8 0, .int .u8 0] z32 rfl)
  have HRB := Lib.hid (below_row ((Below.refl w2.heap.size w2).alloc (Nat.le_refl _) (.cells #[.int .u8 0, .int .u8 0, .int .u8 0, .int .u8 0, .int .u8 0, .int .u8 0, .int .u8 0, .int .u8 0, .int .u8 0, .int .u8 0, .int .u8 0, .int .u8 0, .int .u8 0, .int .u8 0, .int .u8 0, .int .u8 0, .int .u8 0, .int .u8 0, .int .u8 0, .int .u8 0, .int .u8 0, .int .u8 0, .int .u8 0, .int .u8 0, .int .u8 0, .int .u8 0, .int .u8 0, .int .u8 0, .int .u8 0, .int .u8 0, .int .u8 0, .int .u8 0] 22)) (Nat.le_refl _) z32.toArray)
  clear b2 b2' HB HO1 HD HS
  go_upto_region 3 with ((with_reducible refine storeN2 (x := .tmp 3) (y := .tmp 16) (o := ⟨none, _, _, _, _, _⟩) HR.out (Eq.refl 32) ?_ ?_); exact ⟨rfl, rfl, rfl, rfl⟩)
  have HO3 := Lib.hid ((HO2.out.below HRB.out (Nat.le_refl _)).mono HRB.out.size)
  have HB3 := Lib.hid (HB2.out.trans (HRB.out.mono HB2.out.size))
  clear HRB HR HO2 HB2
  generalize (World.setRow (w2.alloc (.cells #[.int .u8 0, .int .u8 0, .int .u8 0, .int .u8 0, .int .u8 0, .int .u8 0, .int .u8 0, .int .u8 0, .int .u8 0, .int .u8 0, .int .u8 0, .int .u8 0, .int .u8 0, .int .u8 0, .int .u8 0, .int .u8 0, .int .u8 0, .int .u8 0, .int .u8 0, .int .u8 0, .int .u8 0, .int .u8 0, .int .u8 0, .int .u8 0, .int .u8 0, .int .u8 0, .int .u8 0, .int .u8 0, .int .u8 0, .int .u8 0, .int .u8 0, .int .u8 0] 22)) w2.heap.size z32.toArray) = w3 at HO3 HB3 ⊢
  go_wp2_with fail
  refine (text0 _).mono ?_
  rintro r w4 ⟨rfl, b4⟩
  have HO4 := Lib.hid ((HO3.out.below b4 (Nat.le_refl _)).mono b4.size)
  have HB4 := Lib.hid (HB3.out.trans (b4.mono HB3.out.size))
  clear b4 HO3 HB3
  go_wp2_with fail
  refine (same_any (HO4.out.below ((Below.refl w4.heap.size w4).alloc (Nat.le_refl _) (.cells #[.int .u8 0] 5)) (Nat.le_refl _)) (rd_lit w4 [0] #[.int .u8 0] rfl 1 rfl (by show 1 ≤ maxLen; unfold maxLen; omega))).mono ?_
  rintro r w5 ⟨rfl, n5, rfl⟩
  have e5 : eqB (put 0) [0] = true := by decide +kernel
  rw [e5]
  have HB5 := Lib.hid (HB4.out.trans (((Below.refl w4.heap.size w4).alloc (Nat.le_refl _) (.cells #[.int .u8 0] 5)).trans (Joins.below_draws w4.heap.size _ n5) |>.mono HB4.out.size))
  clear HO4 HB4 e5
  generalize (World.drewN (w4.alloc (.cells #[.int .u8 0] 5)) n5) = w5 at HB5 ⊢
  go_wp2_with fail
  refine (alike0 _).mono ?_
  rintro r w6 ⟨rfl, b6⟩
  have HB6 := Lib.hid (HB5.out.trans (b6.mono HB5.out.size))
  clear b6 HB5
  have HSH := Lib.hid (short_ab w6)
  go_wp2_with fail
  refine HSH.out.mono ?_
  rintro r w7 ⟨rfl, b7⟩
  have HB7 := Lib.hid (HB6.out.trans (b7.mono HB6.out.size))
  clear b7 HB6 HSH
  go_wp2_with fail
  go_ret
  exact ⟨rfl, HB7.out⟩
end Go.Proofs.YtngcmikblcoheaaGreatDoor
