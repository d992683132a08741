/-
  vestrylaw03.awake returns true; it changes nothing that was there.
-/
import Derived.Test.YtafkimnpopbofaaCrcOpen
import Derived.Test.YtafkimnpopbofaaStr
import Derived.Lib.SlBytesConst
import Derived.Lib.SmallJoins
namespace Go.Proofs.Ytafkimnpopbofaa
open Go.ChangeShapes Go.WideShapes Go.ChangeAt Go.RowKit
set_option linter.unusedVariables false

def s_ab : List UInt8 := le4 (crc [97, 98])
theorem crc_ab : sealed [97, 98] = [97, 98] ++ [s_ab.getD 0 0, s_ab.getD 1 0, s_ab.getD 2 0, s_ab.getD 3 0] := by decide +kernel
theorem crc_ab_len : (sealed [97, 98]).length = 6 := by decide +kernel
theorem crc_ab_le : le (s_ab.getD 0 0) (s_ab.getD 1 0) (s_ab.getD 2 0) (s_ab.getD 3 0) = crc [97, 98] := by decide +kernel
theorem crc_nine : crc [[49, 50, 51, 52], [53, 54, 55, 56, 57]].flatten = 3421780262 := by decide +kernel

theorem rd_litF (w : World) (l : List UInt8) (cs : Array Value) (fr : Nat × Nat) (hcs : cs.toList = bvs l) (n : Nat) (hn : n = l.length) (hm : l.length ≤ maxLen) : Rd (w.heap.size + 1) (w.alloc (.cells cs 5 fr)) (.slice (some ⟨w.heap.size, 0, none⟩) n n) l := by
  subst hn
  refine .inr ⟨_, 0, _, rfl, Nat.le_refl _, hm, by omega, fun i hi => ?_⟩
  rw [Nat.zero_add, cell_of_row _ _ i cs 5 fr (heap_alloc_new w _)]
  rw [← Array.getElem?_toList, hcs]
  exact bvs_getElem l i hi

set_option maxRecDepth 100000 in
set_option maxHeartbeats 1000000 in
theorem cawake_any (w : World) : Calls Try.prog 7 #[] w fun e w' => e = .returned (.bool true) ∧ Below w.heap.size w w' := by
  have hcv := fun (w : World) (C : Array Value) (n c g : Nat) (hg : g = w.heap.size) => Joins.run_convert_bytes_const_at (P := Try.prog) w 24 5 C n c g hg Try.underlying24 Try.underlying5
  go_enter Try.func7, Try.ntmps7
  go_wp2_with fail
  have hx : Below w.heap.size w (w.alloc (.cells #[.int .u8 97, .int .u8 98] 5 (2, 3))) := (Below.refl _ _).alloc (Nat.le_refl _) _
  refine (cseal_any (rd_litF w [97, 98] #[.int .u8 97, .int .u8 98] (2, 3) rfl 2 rfl (by decide)) (by simp) (by decide)).mono ?_
  rintro e w1 ⟨v1, rfl, o1, b1⟩
  have r1 := Rd.of_own o1
  have B1 : Below w.heap.size w w1 := hx.trans (b1.mono (by simp))
  obtain ⟨q1, c1, rfl, _, _⟩ := r1.form
  rw [crc_ab_len] at r1 ⊢
  have R1 : Rd w1.heap.size w1 (.slice q1 6 c1) ([97, 98] ++ [s_ab.getD 0 0, s_ab.getD 1 0, s_ab.getD 2 0, s_ab.getD 3 0]) := by rw [← crc_ab]; exact r1
  have HR1 := Lib.hid R1
  clear R1 r1 hx o1 b1
  go_wp2_with fail
  refine (open_yes HR1.out (Nat.le_refl _) (by decide) crc_ab_le).mono ?_
  rintro e w2 ⟨v2, rfl, o2, b2⟩
  have B2 := B1.trans (b2.mono B1.size)
  have r2 := Rd.of_own o2
  obtain ⟨q2, c2, rfl, _, _⟩ := r2.form
  clear b2 o2 B1 HR1
  go_wp2_with fail
  have B3 : Below w.heap.size w (w2.alloc (.cells #[.int .u8 1, .int .u8 2, .int .u8 3] 5)) := B2.alloc B2.size _
  refine (open_any (rd_lit w2 [1, 2, 3] #[.int .u8 1, .int .u8 2, .int .u8 3] rfl 3 rfl (by decide)) (by simp) (by decide)).mono ?_
  rintro e w3 ⟨rfl, rfl⟩
  have r3 := r2.below ((Below.refl w2.heap.size w2).alloc (Nat.le_refl _) (.cells #[.int .u8 1, .int .u8 2, .int .u8 3] 5)) (Nat.le_refl _)
  obtain ⟨w3, hw3⟩ : ∃ w3, w3 = w2.alloc (.cells #[.int .u8 1, .int .u8 2, .int .u8 3] 5) := ⟨_, rfl⟩
  have z3 : w2.heap.size ≤ w3.heap.size := by rw [hw3]; simp
  rw [← hw3] at B3 r3 ⊢
  clear hw3 r2 B2
  go_wp2_with fail
  have HL : ∀ t : TypeId, RdAll (w3.heap.size + 3) (((w3.alloc (.cells #[.int .u8 49, .int .u8 50, .int .u8 51, .int .u8 52] 5 (4, 5))).alloc (.cells #[.int .u8 53, .int .u8 54, .int .u8 55, .int .u8 56, .int .u8 57] 5 (5, 6))).alloc (.cells #[.slice (some ⟨w3.heap.size, 0, none⟩) 4 4, .slice (some ⟨w3.heap.size + 1, 0, none⟩) 5 5] t)) (some ⟨w3.heap.size + 1 + 1, 0, none⟩) [[49, 50, 51, 52], [53, 54, 55, 56, 57]] := by
    intro t _
    obtain ⟨wa, hwa⟩ : ∃ wa, wa = w3.alloc (.cells #[.int .u8 49, .int .u8 50, .int .u8 51, .int .u8 52] 5 (4, 5)) := ⟨_, rfl⟩
    have ra : Rd (w3.heap.size + 1) wa (.slice (some ⟨w3.heap.size, 0, none⟩) 4 4) [49, 50, 51, 52] := by rw [hwa]; exact rd_litF w3 [49, 50, 51, 52] _ _ rfl 4 rfl (by decide)
    have za : wa.heap.size = w3.heap.size + 1 := by rw [hwa]; simp
    rw [← hwa]
    obtain ⟨wb, hwb⟩ : ∃ wb, wb = wa.alloc (.cells #[.int .u8 53, .int .u8 54, .int .u8 55, .int .u8 56, .int .u8 57] 5 (5, 6)) := ⟨_, rfl⟩
    have rb' : Rd (wa.heap.size + 1) wb (.slice (some ⟨wa.heap.size, 0, none⟩) 5 5) [53, 54, 55, 56, 57] := by rw [hwb]; exact rd_litF wa [53, 54, 55, 56, 57] _ _ rfl 5 rfl (by decide)
    have bab : Below wa.heap.size wa wb := by rw [hwb]; exact (Below.refl _ _).alloc (Nat.le_refl _) _
    have zb : wb.heap.size = w3.heap.size + 1 + 1 := by rw [hwb]; simp [za]
    rw [← hwb]
    have bbc : Below wb.heap.size wb (wb.alloc (.cells #[.slice (some ⟨w3.heap.size, 0, none⟩) 4 4, .slice (some ⟨w3.heap.size + 1, 0, none⟩) 5 5] t)) := (Below.refl _ _).alloc (Nat.le_refl _) _
    rw [za] at rb'
    refine ⟨w3.heap.size + 1 + 1, 0, rfl, by omega, fun i hi => ?_⟩
    have hcell : ∀ i, (wb.alloc (.cells #[.slice (some ⟨w3.heap.size, 0, none⟩) 4 4, .slice (some ⟨w3.heap.size + 1, 0, none⟩) 5 5] t)).cell? ⟨w3.heap.size + 1 + 1, i, none⟩ = (#[.slice (some ⟨w3.heap.size, 0, none⟩) 4 4, .slice (some ⟨w3.heap.size + 1, 0, none⟩) 5 5] : Array Value)[i]? := by
      intro i
      rw [← zb]
      exact cell_of_row _ _ _ _ t (0, 0) (heap_alloc_new wb _)
    match i, hi with
    | 0, _ => exact ⟨_, hcell 0, ((ra.below bab (by omega)).below bbc (by omega)).mono (by omega)⟩
    | 1, _ => exact ⟨_, hcell 1, (rb'.below bbc (by omega)).mono (by omega)⟩
  refine (csum_any (ls := [[49, 50, 51, 52], [53, 54, 55, 56, 57]]) (HL _) (by decide)).mono ?_
  rintro e w4 ⟨rfl, rfl⟩
  rw [crc_nine]
  have hb4 : Below w.heap.size w (((w3.alloc (.cells #[.int .u8 49, .int .u8 50, .int .u8 51, .int .u8 52] 5 (4, 5))).alloc (.cells #[.int .u8 53, .int .u8 54, .int .u8 55, .int .u8 56, .int .u8 57] 5 (5, 6))).alloc (.cells #[.slice (some ⟨w3.heap.size, 0, none⟩) 4 4, .slice (some ⟨w3.heap.size + 1, 0, none⟩) 5 5] 24)) := ((B3.alloc B3.size _).alloc (by have := B3.size; simp; omega) _).alloc (by have := B3.size; simp; omega) _
  have hr4 : Rd w2.heap.size (((w3.alloc (.cells #[.int .u8 49, .int .u8 50, .int .u8 51, .int .u8 52] 5 (4, 5))).alloc (.cells #[.int .u8 53, .int .u8 54, .int .u8 55, .int .u8 56, .int .u8 57] 5 (5, 6))).alloc (.cells #[.slice (some ⟨w3.heap.size, 0, none⟩) 4 4, .slice (some ⟨w3.heap.size + 1, 0, none⟩) 5 5] 24)) (.slice q2 2 c2) [97, 98] :=
    r3.below ((((Below.refl w3.heap.size w3).alloc (Nat.le_refl _) _).alloc (by simp) _).alloc (by simp; omega) _) z3
  obtain ⟨w4, hw4⟩ : ∃ w4, w4 = (((w3.alloc (.cells #[.int .u8 49, .int .u8 50, .int .u8 51, .int .u8 52] 5 (4, 5))).alloc (.cells #[.int .u8 53, .int .u8 54, .int .u8 55, .int .u8 56, .int .u8 57] 5 (5, 6))).alloc (.cells #[.slice (some ⟨w3.heap.size, 0, none⟩) 4 4, .slice (some ⟨w3.heap.size + 1, 0, none⟩) 5 5] 24)) := ⟨_, rfl⟩
  rw [← hw4] at hb4 hr4 ⊢
  clear hw4 HL B3 r3
  go_wp2_with fail
  refine (csum_any (B := 0) (ls := []) (fun h => absurd h (by simp)) (by decide)).mono ?_
  rintro e w5 ⟨rfl, rfl⟩
  rw [show crc ([] : List (List UInt8)).flatten = 0 from by decide +kernel]
  have hcv2 := conv_bytes hr4
  rw [show str [97, 98] = ⟨#[97, 98]⟩ from rfl] at hcv2
  go_wp2_with fail
  go_ret
  exact ⟨rfl, hb4⟩
end Go.Proofs.Ytafkimnpopbofaa
