/-
  vestrylaw07.awake.
-/
import Derived.Test.YtomoopadeknfbaaDoorMacE
import Derived.Test.YtomoopadeknfbaaDoorLit
namespace Go.Proofs.YtomoopadeknfbaaDoor
open Go.ChangeShapes Go.WideShapes Go.ChangeAt Go.RowKit
set_option linter.unusedVariables false

theorem rd_marked {w : World} {l : List UInt8} {cs : Array Value} {fr : Nat × Nat} (hcs : cs.toList = bvs l) (n : Nat) (hn : n = l.length) (hm : l.length ≤ maxLen) : Rd (w.alloc (.cells cs 5 fr)).heap.size (w.alloc (.cells cs 5 fr)) (.slice (some ⟨w.heap.size, 0, none⟩) n n) l :=
  (rd_mark w l cs fr hcs n hn hm).mono (by simp)
theorem jefe : (hmac [74, 101, 102, 101] [119, 104, 97, 116, 32, 100, 111, 32, 121, 97, 32, 119, 97, 110, 116, 32, 102, 111, 114, 32, 110, 111, 116, 104, 105, 110, 103, 63]).getD 0 0 = 91 ∧ (hmac [74, 101, 102, 101] [119, 104, 97, 116, 32, 100, 111, 32, 121, 97, 32, 119, 97, 110, 116, 32, 102, 111, 114, 32, 110, 111, 116, 104, 105, 110, 103, 63]).getD 1 0 = 220 ∧ (hmac [74, 101, 102, 101] [119, 104, 97, 116, 32, 100, 111, 32, 121, 97, 32, 119, 97, 110, 116, 32, 102, 111, 114, 32, 110, 111, 116, 104, 105, 110, 103, 63]).getD 2 0 = 193 ∧ (hmac [74, 101, 102, 101] [119, 104, 97, 116, 32, 100, 111, 32, 121, 97, 32, 119, 97, 110, 116, 32, 102, 111, 114, 32, 110, 111, 116, 104, 105, 110, 103, 63]).getD 31 0 = 67 := by decide +kernel
theorem jefe1 : (hmac [74, 101, 102, 101] [119, 104, 97, 116, 32, 100, 111, 32, 121, 97, 32, 119, 97, 110, 116, 32, 102, 111, 114, 32, 110, 111, 116, 104, 105, 110, 103, 63] == (hmac [74, 101, 102, 101] [119, 104, 97, 116, 32, 100, 111, 32, 121, 97, 32, 119, 97, 110, 116, 32, 102, 111, 114, 32, 110, 111, 116, 104, 105, 110, 103, 63]).drop 1) = false := by decide +kernel

/-- What the region keeps. -/
def Sw (w0 : World) (X : Nat) (D : List UInt8) (w' : World) : Prop := Arr w' 26 X (bvs D) ∧ Env w' ∧ Below w0.heap.size w0 w'
theorem Sw.later {w0 w1 w2 : World} {X : Nat} {D : List UInt8} (h : Sw w0 X D w1) (hb : Below w1.heap.size w1 w2) : Sw w0 X D w2 := ⟨h.1.later hb, h.2.1.below (hb.mono (Nat.le_refl _)), h.2.2.trans (hb.mono h.2.2.size)⟩
theorem arr_take {w : World} {t : TypeId} {g : Nat} {l : List UInt8} (h : Arr w t g (bvs l)) (hl : l.length = 32) (n : Nat) (hn : n ≤ 32) : Rd w.heap.size w (.slice (some ⟨g, 0, none⟩) n 32) (l.take n) := by
  have e : (l.take n).length = n := by rw [List.length_take]; omega
  refine .inr ⟨g, 0, 32, by rw [e], by rw [e]; exact hn, by decide, h.lt, fun i hi => ?_⟩
  rw [e] at hi
  rw [Nat.zero_add, h.cell i, bvs_getElem l i (by omega)]
  simp [List.getD_eq_getElem?_getD, hi]
theorem arr_drop {w : World} {t : TypeId} {g : Nat} {l : List UInt8} (h : Arr w t g (bvs l)) (hl : l.length = 32) : Rd w.heap.size w (.slice (some ⟨g, 1, none⟩) 31 31) (l.drop 1) := by
  have e : (l.drop 1).length = 31 := by rw [List.length_drop]; omega
  refine .inr ⟨g, 1, 31, by rw [e], by rw [e]; exact Nat.le_refl _, by decide, h.lt, fun i hi => ?_⟩
  rw [e] at hi
  rw [h.cell, bvs_getElem l (1 + i) (by omega)]
  simp [List.getD_eq_getElem?_getD, Nat.add_comm]
theorem part_all {w : World} {gp g2 n : Nat} {l : List UInt8} (hp : w.heap[gp]? = some (.cells #[.slice (some ⟨g2, 0, none⟩) n n] 22 (0, 0))) (hr : Rd w.heap.size w (.slice (some ⟨g2, 0, none⟩) n n) l) : RdAll w.heap.size w (some ⟨gp, 0, none⟩) [l] := by
  intro _
  refine ⟨gp, 0, rfl, (Array.getElem?_eq_some_iff.1 hp).1, fun i hi => ?_⟩
  obtain rfl : i = 0 := by simpa using hi
  exact ⟨_, by rw [cell_of_row w gp _ _ _ (0, 0) hp]; rfl, hr⟩

set_option maxRecDepth 100000 in
set_option maxHeartbeats 40000000 in
theorem macawake_any (w : World) (he : Env w) : Calls Tryd.prog 8 #[] w fun e w' => e = .returned (.bool true) ∧ Below w.heap.size w w' := by
  have HE := Lib.hid he
  clear he
  obtain ⟨K, hK⟩ : ∃ K : List UInt8, K = [74, 101, 102, 101] := ⟨_, rfl⟩
  obtain ⟨M1, hM1⟩ : ∃ K : List UInt8, K = [119, 104, 97, 116, 32, 100, 111, 32, 121, 97, 32, 119, 97, 110, 116, 32] := ⟨_, rfl⟩
  obtain ⟨M2, hM2⟩ : ∃ K : List UInt8, K = [102, 111, 114, 32, 110, 111, 116, 104, 105, 110, 103, 63] := ⟨_, rfl⟩
  have b1 : Below w.heap.size w ((w).alloc (.cells #[.int .u8 74, .int .u8 101, .int .u8 102, .int .u8 101] 5 (4, 5))) := (Below.refl _ _).alloc (Nat.le_refl _) _
  have b2 : Below w.heap.size w (((w).alloc (.cells #[.int .u8 74, .int .u8 101, .int .u8 102, .int .u8 101] 5 (4, 5))).alloc (.cells #[.int .u8 119, .int .u8 104, .int .u8 97, .int .u8 116, .int .u8 32, .int .u8 100, .int .u8 111, .int .u8 32, .int .u8 121, .int .u8 97, .int .u8 32, .int .u8 119, .int .u8 97, .int .u8 110, .int .u8 116, .int .u8 32] 5 (16, 17))) := b1.alloc b1.size _
  have b3 : Below w.heap.size w ((((w).alloc (.cells #[.int .u8 74, .int .u8 101, .int .u8 102, .int .u8 101] 5 (4, 5))).alloc (.cells #[.int .u8 119, .int .u8 104, .int .u8 97, .int .u8 116, .int .u8 32, .int .u8 100, .int .u8 111, .int .u8 32, .int .u8 121, .int .u8 97, .int .u8 32, .int .u8 119, .int .u8 97, .int .u8 110, .int .u8 116, .int .u8 32] 5 (16, 17))).alloc (.cells #[.int .u8 102, .int .u8 111, .int .u8 114, .int .u8 32, .int .u8 110, .int .u8 111, .int .u8 116, .int .u8 104, .int .u8 105, .int .u8 110, .int .u8 103, .int .u8 63] 5 (12, 13))) := b2.alloc b2.size _
  have b12 : Below ((w).alloc (.cells #[.int .u8 74, .int .u8 101, .int .u8 102, .int .u8 101] 5 (4, 5))).heap.size ((w).alloc (.cells #[.int .u8 74, .int .u8 101, .int .u8 102, .int .u8 101] 5 (4, 5))) (((w).alloc (.cells #[.int .u8 74, .int .u8 101, .int .u8 102, .int .u8 101] 5 (4, 5))).alloc (.cells #[.int .u8 119, .int .u8 104, .int .u8 97, .int .u8 116, .int .u8 32, .int .u8 100, .int .u8 111, .int .u8 32, .int .u8 121, .int .u8 97, .int .u8 32, .int .u8 119, .int .u8 97, .int .u8 110, .int .u8 116, .int .u8 32] 5 (16, 17))) := (Below.refl _ _).alloc (Nat.le_refl _) _
  have b23 : Below (((w).alloc (.cells #[.int .u8 74, .int .u8 101, .int .u8 102, .int .u8 101] 5 (4, 5))).alloc (.cells #[.int .u8 119, .int .u8 104, .int .u8 97, .int .u8 116, .int .u8 32, .int .u8 100, .int .u8 111, .int .u8 32, .int .u8 121, .int .u8 97, .int .u8 32, .int .u8 119, .int .u8 97, .int .u8 110, .int .u8 116, .int .u8 32] 5 (16, 17))).heap.size (((w).alloc (.cells #[.int .u8 74, .int .u8 101, .int .u8 102, .int .u8 101] 5 (4, 5))).alloc (.cells #[.int .u8 119, .int .u8 104, .int .u8 97, .int .u8 116, .int .u8 32, .int .u8 100, .int .u8 111, .int .u8 32, .int .u8 121, .int .u8 97, .int .u8 32, .int .u8 119, .int .u8 97, .int .u8 110, .int .u8 116, .int .u8 32] 5 (16, 17))) ((((w).alloc (.cells #[.int .u8 74, .int .u8 101, .int .u8 102, .int .u8 101] 5 (4, 5))).alloc (.cells #[.int .u8 119, .int .u8 104, .int .u8 97, .int .u8 116, .int .u8 32, .int .u8 100, .int .u8 111, .int .u8 32, .int .u8 121, .int .u8 97, .int .u8 32, .int .u8 119, .int .u8 97, .int .u8 110, .int .u8 116, .int .u8 32] 5 (16, 17))).alloc (.cells #[.int .u8 102, .int .u8 111, .int .u8 114, .int .u8 32, .int .u8 110, .int .u8 111, .int .u8 116, .int .u8 104, .int .u8 105, .int .u8 110, .int .u8 103, .int .u8 63] 5 (12, 13))) := (Below.refl _ _).alloc (Nat.le_refl _) _
  have rk : Rd ((w).alloc (.cells #[.int .u8 74, .int .u8 101, .int .u8 102, .int .u8 101] 5 (4, 5))).heap.size ((w).alloc (.cells #[.int .u8 74, .int .u8 101, .int .u8 102, .int .u8 101] 5 (4, 5))) (.slice (some ⟨w.heap.size, 0, none⟩) 4 4) K := rd_marked (by rw [hK]; rfl) 4 (by rw [hK]; rfl) (by rw [hK]; decide)
  have ra : Rd (((w).alloc (.cells #[.int .u8 74, .int .u8 101, .int .u8 102, .int .u8 101] 5 (4, 5))).alloc (.cells #[.int .u8 119, .int .u8 104, .int .u8 97, .int .u8 116, .int .u8 32, .int .u8 100, .int .u8 111, .int .u8 32, .int .u8 121, .int .u8 97, .int .u8 32, .int .u8 119, .int .u8 97, .int .u8 110, .int .u8 116, .int .u8 32] 5 (16, 17))).heap.size (((w).alloc (.cells #[.int .u8 74, .int .u8 101, .int .u8 102, .int .u8 101] 5 (4, 5))).alloc (.cells #[.int .u8 119, .int .u8 104, .int .u8 97, .int .u8 116, .int .u8 32, .int .u8 100, .int .u8 111, .int .u8 32, .int .u8 121, .int .u8 97, .int .u8 32, .int .u8 119, .int .u8 97, .int .u8 110, .int .u8 116, .int .u8 32] 5 (16, 17))) (.slice (some ⟨((w).alloc (.cells #[.int .u8 74, .int .u8 101, .int .u8 102, .int .u8 101] 5 (4, 5))).heap.size, 0, none⟩) 16 16) M1 := rd_marked (by rw [hM1]; rfl) 16 (by rw [hM1]; rfl) (by rw [hM1]; decide)
  have rb : Rd ((((w).alloc (.cells #[.int .u8 74, .int .u8 101, .int .u8 102, .int .u8 101] 5 (4, 5))).alloc (.cells #[.int .u8 119, .int .u8 104, .int .u8 97, .int .u8 116, .int .u8 32, .int .u8 100, .int .u8 111, .int .u8 32, .int .u8 121, .int .u8 97, .int .u8 32, .int .u8 119, .int .u8 97, .int .u8 110, .int .u8 116, .int .u8 32] 5 (16, 17))).alloc (.cells #[.int .u8 102, .int .u8 111, .int .u8 114, .int .u8 32, .int .u8 110, .int .u8 111, .int .u8 116, .int .u8 104, .int .u8 105, .int .u8 110, .int .u8 103, .int .u8 63] 5 (12, 13))).heap.size ((((w).alloc (.cells #[.int .u8 74, .int .u8 101, .int .u8 102, .int .u8 101] 5 (4, 5))).alloc (.cells #[.int .u8 119, .int .u8 104, .int .u8 97, .int .u8 116, .int .u8 32, .int .u8 100, .int .u8 111, .int .u8 32, .int .u8 121, .int .u8 97, .int .u8 32, .int .u8 119, .int .u8 97, .int .u8 110, .int .u8 116, .int .u8 32] 5 (16, 17))).alloc (.cells #[.int .u8 102, .int .u8 111, .int .u8 114, .int .u8 32, .int .u8 110, .int .u8 111, .int .u8 116, .int .u8 104, .int .u8 105, .int .u8 110, .int .u8 103, .int .u8 63] 5 (12, 13))) (.slice (some ⟨(((w).alloc (.cells #[.int .u8 74, .int .u8 101, .int .u8 102, .int .u8 101] 5 (4, 5))).alloc (.cells #[.int .u8 119, .int .u8 104, .int .u8 97, .int .u8 116, .int .u8 32, .int .u8 100, .int .u8 111, .int .u8 32, .int .u8 121, .int .u8 97, .int .u8 32, .int .u8 119, .int .u8 97, .int .u8 110, .int .u8 116, .int .u8 32] 5 (16, 17))).heap.size, 0, none⟩) 12 12) M2 := rd_marked (by rw [hM2]; rfl) 12 (by rw [hM2]; rfl) (by rw [hM2]; decide)
  have rk3 := (((rk.below b12 (Nat.le_refl _)).mono b12.size).below b23 (Nat.le_refl _)).mono b23.size
  have ra3 := (ra.below b23 (Nat.le_refl _)).mono b23.size
  have rp := rd_two (t := 22) ra3 rb
  have e1 : ((w).alloc (.cells #[.int .u8 74, .int .u8 101, .int .u8 102, .int .u8 101] 5 (4, 5))).heap.size = w.heap.size + 1 := by simp
  have e2 : (((w).alloc (.cells #[.int .u8 74, .int .u8 101, .int .u8 102, .int .u8 101] 5 (4, 5))).alloc (.cells #[.int .u8 119, .int .u8 104, .int .u8 97, .int .u8 116, .int .u8 32, .int .u8 100, .int .u8 111, .int .u8 32, .int .u8 121, .int .u8 97, .int .u8 32, .int .u8 119, .int .u8 97, .int .u8 110, .int .u8 116, .int .u8 32] 5 (16, 17))).heap.size = w.heap.size + 1 + 1 := by simp
  have e3 : ((((w).alloc (.cells #[.int .u8 74, .int .u8 101, .int .u8 102, .int .u8 101] 5 (4, 5))).alloc (.cells #[.int .u8 119, .int .u8 104, .int .u8 97, .int .u8 116, .int .u8 32, .int .u8 100, .int .u8 111, .int .u8 32, .int .u8 121, .int .u8 97, .int .u8 32, .int .u8 119, .int .u8 97, .int .u8 110, .int .u8 116, .int .u8 32] 5 (16, 17))).alloc (.cells #[.int .u8 102, .int .u8 111, .int .u8 114, .int .u8 32, .int .u8 110, .int .u8 111, .int .u8 116, .int .u8 104, .int .u8 105, .int .u8 110, .int .u8 103, .int .u8 63] 5 (12, 13))).heap.size = w.heap.size + 1 + 1 + 1 := by simp
  have b34 : Below ((((w).alloc (.cells #[.int .u8 74, .int .u8 101, .int .u8 102, .int .u8 101] 5 (4, 5))).alloc (.cells #[.int .u8 119, .int .u8 104, .int .u8 97, .int .u8 116, .int .u8 32, .int .u8 100, .int .u8 111, .int .u8 32, .int .u8 121, .int .u8 97, .int .u8 32, .int .u8 119, .int .u8 97, .int .u8 110, .int .u8 116, .int .u8 32] 5 (16, 17))).alloc (.cells #[.int .u8 102, .int .u8 111, .int .u8 114, .int .u8 32, .int .u8 110, .int .u8 111, .int .u8 116, .int .u8 104, .int .u8 105, .int .u8 110, .int .u8 103, .int .u8 63] 5 (12, 13))).heap.size ((((w).alloc (.cells #[.int .u8 74, .int .u8 101, .int .u8 102, .int .u8 101] 5 (4, 5))).alloc (.cells #[.int .u8 119, .int .u8 104, .int .u8 97, .int .u8 116, .int .u8 32, .int .u8 100, .int .u8 111, .int .u8 32, .int .u8 121, .int .u8 97, .int .u8 32, .int .u8 119, .int .u8 97, .int .u8 110, .int .u8 116, .int .u8 32] 5 (16, 17))).alloc (.cells #[.int .u8 102, .int .u8 111, .int .u8 114, .int .u8 32, .int .u8 110, .int .u8 111, .int .u8 116, .int .u8 104, .int .u8 105, .int .u8 110, .int .u8 103, .int .u8 63] 5 (12, 13))) (((((w).alloc (.cells #[.int .u8 74, .int .u8 101, .int .u8 102, .int .u8 101] 5 (4, 5))).alloc (.cells #[.int .u8 119, .int .u8 104, .int .u8 97, .int .u8 116, .int .u8 32, .int .u8 100, .int .u8 111, .int .u8 32, .int .u8 121, .int .u8 97, .int .u8 32, .int .u8 119, .int .u8 97, .int .u8 110, .int .u8 116, .int .u8 32] 5 (16, 17))).alloc (.cells #[.int .u8 102, .int .u8 111, .int .u8 114, .int .u8 32, .int .u8 110, .int .u8 111, .int .u8 116, .int .u8 104, .int .u8 105, .int .u8 110, .int .u8 103, .int .u8 63] 5 (12, 13))).alloc (.cells #[.slice (some ⟨((w).alloc (.cells #[.int .u8 74, .int .u8 101, .int .u8 102, .int .u8 101] 5 (4, 5))).heap.size, 0, none⟩) 16 16, .slice (some ⟨(((w).alloc (.cells #[.int .u8 74, .int .u8 101, .int .u8 102, .int .u8 101] 5 (4, 5))).alloc (.cells #[.int .u8 119, .int .u8 104, .int .u8 97, .int .u8 116, .int .u8 32, .int .u8 100, .int .u8 111, .int .u8 32, .int .u8 121, .int .u8 97, .int .u8 32, .int .u8 119, .int .u8 97, .int .u8 110, .int .u8 116, .int .u8 32] 5 (16, 17))).heap.size, 0, none⟩) 12 12] 22)) := (Below.refl _ _).alloc (Nat.le_refl _) _
  have rk4 := (rk3.below b34 (Nat.le_refl _)).mono b34.size
  have b4 := b3.trans (b34.mono b3.size)
  have HSUM : Hid (Calls Tryd.prog 10 #[.slice (some ⟨w.heap.size, 0, none⟩) 4 4, .slice (some ⟨w.heap.size + 1 + 1 + 1, 0, none⟩) 2 2] (((((w).alloc (.cells #[.int .u8 74, .int .u8 101, .int .u8 102, .int .u8 101] 5 (4, 5))).alloc (.cells #[.int .u8 119, .int .u8 104, .int .u8 97, .int .u8 116, .int .u8 32, .int .u8 100, .int .u8 111, .int .u8 32, .int .u8 121, .int .u8 97, .int .u8 32, .int .u8 119, .int .u8 97, .int .u8 110, .int .u8 116, .int .u8 32] 5 (16, 17))).alloc (.cells #[.int .u8 102, .int .u8 111, .int .u8 114, .int .u8 32, .int .u8 110, .int .u8 111, .int .u8 116, .int .u8 104, .int .u8 105, .int .u8 110, .int .u8 103, .int .u8 63] 5 (12, 13))).alloc (.cells #[.slice (some ⟨w.heap.size + 1, 0, none⟩) 16 16, .slice (some ⟨w.heap.size + 1 + 1, 0, none⟩) 12 12] 22)) fun e w' => e = .returned (.agg (bvs (hmac K (M1 ++ M2))).toArray) ∧ Below w.heap.size w w') := by
    have hs := msum_any (cap := 2) rk4 (by rw [hK]; decide) rp (by simp) (by rw [hM1, hM2]; decide) (HE.out.below b4)
    have hs := hs.mono (fun e w' (h : _ ∧ _) => (⟨h.1, b4.trans (h.2.mono b4.size)⟩ : _ ∧ Below w.heap.size w w'))
    rw [e1, e2, e3] at hs
    rw [show [M1, M2].flatten = M1 ++ M2 by simp] at hs
    exact hs
  have h1 := Joins.run_convert_bytes_const_at (P := Tryd.prog) (w) 22 5 #[.int .u8 74, .int .u8 101, .int .u8 102, .int .u8 101] 4 4 (w.heap.size) (rfl) Tryd.underlying22 Tryd.underlying5
  have h2 := Joins.run_convert_bytes_const_at (P := Tryd.prog) ((w).alloc (.cells #[.int .u8 74, .int .u8 101, .int .u8 102, .int .u8 101] 5 (4, 5))) 22 5 #[.int .u8 119, .int .u8 104, .int .u8 97, .int .u8 116, .int .u8 32, .int .u8 100, .int .u8 111, .int .u8 32, .int .u8 121, .int .u8 97, .int .u8 32, .int .u8 119, .int .u8 97, .int .u8 110, .int .u8 116, .int .u8 32] 16 16 (w.heap.size + 1) (e1.symm) Tryd.underlying22 Tryd.underlying5
  have h3 := Joins.run_convert_bytes_const_at (P := Tryd.prog) (((w).alloc (.cells #[.int .u8 74, .int .u8 101, .int .u8 102, .int .u8 101] 5 (4, 5))).alloc (.cells #[.int .u8 119, .int .u8 104, .int .u8 97, .int .u8 116, .int .u8 32, .int .u8 100, .int .u8 111, .int .u8 32, .int .u8 121, .int .u8 97, .int .u8 32, .int .u8 119, .int .u8 97, .int .u8 110, .int .u8 116, .int .u8 32] 5 (16, 17))) 22 5 #[.int .u8 102, .int .u8 111, .int .u8 114, .int .u8 32, .int .u8 110, .int .u8 111, .int .u8 116, .int .u8 104, .int .u8 105, .int .u8 110, .int .u8 103, .int .u8 63] 12 12 (w.heap.size + 1 + 1) (e2.symm) Tryd.underlying22 Tryd.underlying5
  clear b1 b2 b3 b12 b23 rk ra rb rk3 ra3 rp e1 e2 e3 b34 rk4 b4
  have HKM := Lib.hid (And.intro hK (And.intro hM1 hM2))
  clear hK hM1 hM2
  go_enter Tryd.func8, Tryd.ntmps8
  go_wp2_with fail
  refine HSUM.out.mono ?_
  rintro e w1 ⟨rfl, b1⟩
  have HB1 := Lib.hid b1
  have HE1 := Lib.hid (HE.out.below b1)
  obtain ⟨D, hD⟩ : ∃ D, D = hmac K (M1 ++ M2) := ⟨_, rfl⟩
  rw [← hD]
  have HDL : Hid (D.length = 32) := by rw [hD]; exact hmac_length _ _
  have HDD := Lib.hid hD
  clear b1 hD HSUM h1 h2 h3
  have hb2 : Below w1.heap.size w1 (w1.alloc (.cells (bvs D).toArray 26)) := (Below.refl _ _).alloc (Nat.le_refl _) _
  have HB2 := Lib.hid (HB1.out.trans (hb2.mono HB1.out.size))
  have HA2 := Lib.hid (Arr.new' w1 26 (bvs D).toArray (bvs D) (by simp))
  have HE2 := Lib.hid (HE1.out.below (hb2.mono (Nat.le_refl _)))
  clear hb2 HB1 HE1
  have a0 := dcell HA2.out 0 (by rw [HDL.out]; omega) 91 (by rw [HDD.out, HKM.out.1, HKM.out.2.1, HKM.out.2.2]; exact congrArg UInt8.toNat jefe.1)
  have a1 := dcell HA2.out 1 (by rw [HDL.out]; omega) 220 (by rw [HDD.out, HKM.out.1, HKM.out.2.1, HKM.out.2.2]; exact congrArg UInt8.toNat jefe.2.1)
  have a2 := dcell HA2.out 2 (by rw [HDL.out]; omega) 193 (by rw [HDD.out, HKM.out.1, HKM.out.2.1, HKM.out.2.2]; exact congrArg UInt8.toNat jefe.2.2.1)
  have a3 := dcell HA2.out 31 (by rw [HDL.out]; omega) 67 (by rw [HDD.out, HKM.out.1, HKM.out.2.1, HKM.out.2.2]; exact congrArg UInt8.toNat jefe.2.2.2)
  go_wp2_with ((with_reducible refine at32b w1.heap.size (x := .tmp 1) (y := .tmp 9) (l := D) (o := ⟨none, .store _ _ _, _, _, _, _⟩) HDL.out ?_ ?_); exact ⟨rfl, rfl, rfl, rfl, rfl, rfl⟩)
  have hks : Sw w w1.heap.size D (w1.alloc (.cells (bvs D).toArray 26)) := ⟨HA2.out, HE2.out, HB2.out⟩
  generalize w1.alloc (.cells (bvs D).toArray 26) = w2 at hks ⊢
  generalize w1.heap.size = X at hks ⊢
  clear a0 a1 a2 a3 HA2 HE2 HB2
  have HE2 := HE
  have HKS := Lib.hid hks
  clear hks
  obtain ⟨KL, hKL⟩ : ∃ KL, KL = K := ⟨_, rfl⟩
  obtain ⟨MM, hMM⟩ : ∃ MM, MM = M1 ++ M2 := ⟨_, rfl⟩
  have HKL : Hid (KL = [74, 101, 102, 101]) := by show _ = _; rw [hKL, HKM.out.1]
  have HMM : Hid (MM = [119, 104, 97, 116, 32, 100, 111, 32, 121, 97, 32, 119, 97, 110, 116, 32, 102, 111, 114, 32, 110, 111, 116, 104, 105, 110, 103, 63]) := by show _ = _; rw [hMM, HKM.out.2.1, HKM.out.2.2]; rfl
  have HDE : Hid (D = hmac KL MM) := by show _ = _; rw [HDD.out, hKL, hMM]
  clear hKL hMM HKM HDD
  have HCELL : Hid (∀ w', Sw w X D w' → w'.cell? ⟨X, 0, none⟩ = some (.int .u8 (91 : Nat)) ∧ w'.cell? ⟨X, 1, none⟩ = some (.int .u8 (220 : Nat)) ∧ w'.cell? ⟨X, 2, none⟩ = some (.int .u8 (193 : Nat)) ∧ w'.cell? ⟨X, 31, none⟩ = some (.int .u8 (67 : Nat))) := fun w' h =>
    ⟨dcell h.1 0 (by rw [HDL.out]; omega) 91 (by rw [HDE.out, HKL.out, HMM.out]; exact congrArg UInt8.toNat jefe.1), dcell h.1 1 (by rw [HDL.out]; omega) 220 (by rw [HDE.out, HKL.out, HMM.out]; exact congrArg UInt8.toNat jefe.2.1), dcell h.1 2 (by rw [HDL.out]; omega) 193 (by rw [HDE.out, HKL.out, HMM.out]; exact congrArg UInt8.toNat jefe.2.2.1), dcell h.1 31 (by rw [HDL.out]; omega) 67 (by rw [HDE.out, HKL.out, HMM.out]; exact congrArg UInt8.toNat jefe.2.2.2)⟩
  have hs32 : ∀ w', Sw w X D w' → Rd w'.heap.size w' (.slice (some ⟨X, 0, none⟩) 32 32) D := fun w' h => by
    have := arr_take h.1 HDL.out 32 (Nat.le_refl _)
    rw [List.take_of_length_le (by rw [HDL.out]; exact Nat.le_refl _)] at this
    exact this
  have HEQ1 : Hid (∀ w', Sw w X D w' → Calls Tryd.prog 17 #[.slice (some ⟨X, 0, none⟩) 32 32, .slice (some ⟨X, 0, none⟩) 32 32] w' fun e w'' => ∃ v, e = .returned v ∧ (v = .bool true ∧ Sw w X D w'')) := fun w' h =>
    (mequal_any (hs32 w' h) (hs32 w' h) (Nat.le_refl _) (Nat.le_refl _)).mono fun e w'' ⟨h1, h2⟩ => ⟨_, h1, by rw [beq_self_eq_true], h.later h2⟩
  have HEQ2 : Hid (∀ w', Sw w X D w' → Calls Tryd.prog 17 #[.slice (some ⟨X, 0, none⟩) 32 32, .slice (some ⟨X, 1, none⟩) 31 31] w' fun e w'' => ∃ v, e = .returned v ∧ (v = .bool false ∧ Sw w X D w'')) := fun w' h =>
    (mequal_any (hs32 w' h) (arr_drop h.1 HDL.out) (Nat.le_refl _) (Nat.le_refl _)).mono fun e w'' ⟨h1, h2⟩ => ⟨_, h1, by rw [HDE.out, HKL.out, HMM.out]; exact congrArg Value.bool jefe1, h.later h2⟩
  have HDE1 : Hid (∀ w', Sw w X D w' → Calls Tryd.prog 12 #[.slice none 0 0, .string ⟨#[120]⟩, .int .i64 40] w' fun e w'' => ∃ v, e = .returned v ∧ ((∃ q c, v = .slice q 40 c) ∧ Sw w X D w'')) := fun w' h => by
    have hd := mderive_any (k := []) (lab := ⟨#[120]⟩) 40 (.inl ⟨none, rfl, rfl⟩ : Rd w'.heap.size w' (.slice none 0 0) []) (by simp) (by decide) (by omega) h.2.1
    refine hd.mono fun e w'' ⟨v', h1, h2, h3⟩ => ?_
    obtain ⟨q, c, hv, _, _⟩ := h2.form
    rw [derive_length] at hv
    exact ⟨v', h1, ⟨q, c, hv⟩, h.later h3⟩
  have HDE2 : Hid (∀ w', Sw w X D w' → Calls Tryd.prog 12 #[.slice none 0 0, .string ⟨#[120]⟩, .int .i64 (-1)] w' fun e w'' => ∃ v, e = .returned v ∧ (v = .slice none 0 0 ∧ Sw w X D w'')) := fun w' h =>
    (mderive_out (-1) (.inl (by omega))).mono fun e w'' ⟨h1, h2⟩ => ⟨_, h1, rfl, h2 ▸ h⟩
  have hchk : ∀ (n : Nat) (w' : World) (G1 G2 GP : Nat), n ≤ 32 → Sw w X D w' → LitAt w' G1 KL → LitAt w' G2 MM → w'.heap[GP]? = some (.cells #[.slice (some ⟨G2, 0, none⟩) 28 28] 22 (0, 0)) → Calls Tryd.prog 16 #[.slice (some ⟨G1, 0, none⟩) 4 4, .slice (some ⟨X, 0, none⟩) n 32, .slice (some ⟨GP, 0, none⟩) 1 1] w' fun e w'' => ∃ v, e = .returned v ∧ (v = .bool (decide (16 ≤ n ∧ n ≤ 32)) ∧ Sw w X D w'') := fun n w' G1 G2 GP hn h l1 l2 pc => by
    have ht := arr_take h.1 HDL.out n hn
    have htl : (D.take n).length = n := by rw [List.length_take, HDL.out]; omega
    have hra := part_all pc (l2.rd (n := 28) (by rw [HMM.out]; rfl) (by rw [HMM.out]; decide))
    have hc := mcheck_any (cap := 1) (ls := [MM]) (l1.rd (n := 4) (by rw [HKL.out]; rfl) (by rw [HKL.out]; decide)) (by rw [HKL.out]; decide) ht hra (by simp) (by rw [HMM.out]; decide) h.2.1
    rw [htl, show [MM].flatten = MM by simp, ← HDE.out, beq_self_eq_true, Bool.and_true] at hc
    exact hc.mono fun e w'' ⟨h1, h2⟩ => ⟨_, h1, rfl, h.later h2⟩
  have HC16 : Hid (∀ (w' : World) (G1 G2 GP : Nat), Sw w X D w' → LitAt w' G1 KL → LitAt w' G2 MM → w'.heap[GP]? = some (.cells #[.slice (some ⟨G2, 0, none⟩) 28 28] 22 (0, 0)) → Calls Tryd.prog 16 #[.slice (some ⟨G1, 0, none⟩) 4 4, .slice (some ⟨X, 0, none⟩) 16 32, .slice (some ⟨GP, 0, none⟩) 1 1] w' fun e w'' => ∃ v, e = .returned v ∧ (v = .bool true ∧ Sw w X D w'')) := fun w' G1 G2 GP => hchk 16 w' G1 G2 GP (by omega)
  have HC15 : Hid (∀ (w' : World) (G1 G2 GP : Nat), Sw w X D w' → LitAt w' G1 KL → LitAt w' G2 MM → w'.heap[GP]? = some (.cells #[.slice (some ⟨G2, 0, none⟩) 28 28] 22 (0, 0)) → Calls Tryd.prog 16 #[.slice (some ⟨G1, 0, none⟩) 4 4, .slice (some ⟨X, 0, none⟩) 15 32, .slice (some ⟨GP, 0, none⟩) 1 1] w' fun e w'' => ∃ v, e = .returned v ∧ (v = .bool false ∧ Sw w X D w'')) := fun w' G1 G2 GP => hchk 15 w' G1 G2 GP (by omega)
  clear hs32 hchk
  refine wp_region_noPanic ?_
  refine wp_region_held_drew (S := Sw w X D) (by kernel_rfl) (HKS.out.later (Below.refl _ _).drew) (fun hHeld => ?_)
  clear HKS
  try simp only [Act.put]
  refine wpAnyH_take (i := 0) (oi := ⟨some 10, _, _, _, _, _⟩) (v := .pointer (some ⟨X, 0, none⟩)) rfl (by kernel_rfl) (by kernel_rfl) (by kernel_rfl) (fun _ _ _ h => h) (.inl ⟨by rfl, fun w' hSw => ?_⟩) hHeld ?_
  focus (obtain ⟨c0, c1, c2, c3⟩ := HCELL.out w' hSw; clear hHeld; go_simp)
  try simp only [Act.put, List.setIfInBounds_toArray, List.set_cons_zero, List.set_cons_succ]
  refine wpAnyH_take (i := 1) (oi := ⟨some 11, _, _, _, _, _⟩) (v := .int .u8 91) rfl (by kernel_rfl) (by kernel_rfl) (by kernel_rfl) (fun _ _ _ h => h) (.inl ⟨by rfl, fun w' hSw => ?_⟩) hHeld ?_
  focus (obtain ⟨c0, c1, c2, c3⟩ := HCELL.out w' hSw; clear hHeld; go_simp)
  try simp only [Act.put, List.setIfInBounds_toArray, List.set_cons_zero, List.set_cons_succ]
  refine wpAnyH_take (i := 2) (oi := ⟨some 12, _, _, _, _, _⟩) (v := .bool true) rfl (by kernel_rfl) (by kernel_rfl) (by kernel_rfl) (fun _ _ _ h => h) (.inl ⟨by rfl, fun w' hSw => ?_⟩) hHeld ?_
  focus (obtain ⟨c0, c1, c2, c3⟩ := HCELL.out w' hSw; clear hHeld; go_simp)
  try simp only [Act.put, List.setIfInBounds_toArray, List.set_cons_zero, List.set_cons_succ]
  refine wpAnyH_take (i := 3) (oi := ⟨some 13, _, _, _, _, _⟩) (v := .bool true) rfl (by kernel_rfl) (by kernel_rfl) (by kernel_rfl) (fun _ _ _ h => h) (.inl ⟨by rfl, fun w' hSw => ?_⟩) hHeld ?_
  focus (obtain ⟨c0, c1, c2, c3⟩ := HCELL.out w' hSw; clear hHeld; go_simp)
  try simp only [Act.put, List.setIfInBounds_toArray, List.set_cons_zero, List.set_cons_succ]
  refine wpAnyH_take (i := 4) (oi := ⟨some 14, _, _, _, _, _⟩) (v := .pointer (some ⟨X, 1, none⟩)) rfl (by kernel_rfl) (by kernel_rfl) (by kernel_rfl) (fun _ _ _ h => h) (.inl ⟨by rfl, fun w' hSw => ?_⟩) hHeld ?_
  focus (obtain ⟨c0, c1, c2, c3⟩ := HCELL.out w' hSw; clear hHeld; go_simp)
  try simp only [Act.put, List.setIfInBounds_toArray, List.set_cons_zero, List.set_cons_succ]
  refine wpAnyH_take (i := 5) (oi := ⟨some 15, _, _, _, _, _⟩) (v := .int .u8 220) rfl (by kernel_rfl) (by kernel_rfl) (by kernel_rfl) (fun _ _ _ h => h) (.inl ⟨by rfl, fun w' hSw => ?_⟩) hHeld ?_
  focus (obtain ⟨c0, c1, c2, c3⟩ := HCELL.out w' hSw; clear hHeld; go_simp)
  try simp only [Act.put, List.setIfInBounds_toArray, List.set_cons_zero, List.set_cons_succ]
  refine wpAnyH_take (i := 6) (oi := ⟨some 16, _, _, _, _, _⟩) (v := .bool true) rfl (by kernel_rfl) (by kernel_rfl) (by kernel_rfl) (fun _ _ _ h => h) (.inl ⟨by rfl, fun w' hSw => ?_⟩) hHeld ?_
  focus (obtain ⟨c0, c1, c2, c3⟩ := HCELL.out w' hSw; clear hHeld; go_simp)
  try simp only [Act.put, List.setIfInBounds_toArray, List.set_cons_zero, List.set_cons_succ]
  refine wpAnyH_take (i := 7) (oi := ⟨some 17, _, _, _, _, _⟩) (v := .bool true) rfl (by kernel_rfl) (by kernel_rfl) (by kernel_rfl) (fun _ _ _ h => h) (.inl ⟨by rfl, fun w' hSw => ?_⟩) hHeld ?_
  focus (obtain ⟨c0, c1, c2, c3⟩ := HCELL.out w' hSw; clear hHeld; go_simp)
  try simp only [Act.put, List.setIfInBounds_toArray, List.set_cons_zero, List.set_cons_succ]
  refine wpAnyH_take (i := 8) (oi := ⟨some 18, _, _, _, _, _⟩) (v := .bool true) rfl (by kernel_rfl) (by kernel_rfl) (by kernel_rfl) (fun _ _ _ h => h) (.inl ⟨by rfl, fun w' hSw => ?_⟩) hHeld ?_
  focus (obtain ⟨c0, c1, c2, c3⟩ := HCELL.out w' hSw; clear hHeld; go_simp)
  try simp only [Act.put, List.setIfInBounds_toArray, List.set_cons_zero, List.set_cons_succ]
  refine wpAnyH_take (i := 9) (oi := ⟨some 19, _, _, _, _, _⟩) (v := .pointer (some ⟨X, 2, none⟩)) rfl (by kernel_rfl) (by kernel_rfl) (by kernel_rfl) (fun _ _ _ h => h) (.inl ⟨by rfl, fun w' hSw => ?_⟩) hHeld ?_
  focus (obtain ⟨c0, c1, c2, c3⟩ := HCELL.out w' hSw; clear hHeld; go_simp)
  try simp only [Act.put, List.setIfInBounds_toArray, List.set_cons_zero, List.set_cons_succ]
  refine wpAnyH_take (i := 10) (oi := ⟨some 20, _, _, _, _, _⟩) (v := .int .u8 193) rfl (by kernel_rfl) (by kernel_rfl) (by kernel_rfl) (fun _ _ _ h => h) (.inl ⟨by rfl, fun w' hSw => ?_⟩) hHeld ?_
  focus (obtain ⟨c0, c1, c2, c3⟩ := HCELL.out w' hSw; clear hHeld; go_simp)
  try simp only [Act.put, List.setIfInBounds_toArray, List.set_cons_zero, List.set_cons_succ]
  refine wpAnyH_take (i := 11) (oi := ⟨some 21, _, _, _, _, _⟩) (v := .bool true) rfl (by kernel_rfl) (by kernel_rfl) (by kernel_rfl) (fun _ _ _ h => h) (.inl ⟨by rfl, fun w' hSw => ?_⟩) hHeld ?_
  focus (obtain ⟨c0, c1, c2, c3⟩ := HCELL.out w' hSw; clear hHeld; go_simp)
  try simp only [Act.put, List.setIfInBounds_toArray, List.set_cons_zero, List.set_cons_succ]
  refine wpAnyH_take (i := 12) (oi := ⟨some 22, _, _, _, _, _⟩) (v := .bool true) rfl (by kernel_rfl) (by kernel_rfl) (by kernel_rfl) (fun _ _ _ h => h) (.inl ⟨by rfl, fun w' hSw => ?_⟩) hHeld ?_
  focus (obtain ⟨c0, c1, c2, c3⟩ := HCELL.out w' hSw; clear hHeld; go_simp)
  try simp only [Act.put, List.setIfInBounds_toArray, List.set_cons_zero, List.set_cons_succ]
  refine wpAnyH_take (i := 13) (oi := ⟨some 23, _, _, _, _, _⟩) (v := .bool true) rfl (by kernel_rfl) (by kernel_rfl) (by kernel_rfl) (fun _ _ _ h => h) (.inl ⟨by rfl, fun w' hSw => ?_⟩) hHeld ?_
  focus (obtain ⟨c0, c1, c2, c3⟩ := HCELL.out w' hSw; clear hHeld; go_simp)
  try simp only [Act.put, List.setIfInBounds_toArray, List.set_cons_zero, List.set_cons_succ]
  refine wpAnyH_take (i := 14) (oi := ⟨some 24, _, _, _, _, _⟩) (v := .pointer (some ⟨X, 31, none⟩)) rfl (by kernel_rfl) (by kernel_rfl) (by kernel_rfl) (fun _ _ _ h => h) (.inl ⟨by rfl, fun w' hSw => ?_⟩) hHeld ?_
  focus (obtain ⟨c0, c1, c2, c3⟩ := HCELL.out w' hSw; clear hHeld; go_simp)
  try simp only [Act.put, List.setIfInBounds_toArray, List.set_cons_zero, List.set_cons_succ]
  refine wpAnyH_take (i := 15) (oi := ⟨some 25, _, _, _, _, _⟩) (v := .int .u8 67) rfl (by kernel_rfl) (by kernel_rfl) (by kernel_rfl) (fun _ _ _ h => h) (.inl ⟨by rfl, fun w' hSw => ?_⟩) hHeld ?_
  focus (obtain ⟨c0, c1, c2, c3⟩ := HCELL.out w' hSw; clear hHeld; go_simp)
  try simp only [Act.put, List.setIfInBounds_toArray, List.set_cons_zero, List.set_cons_succ]
  refine wpAnyH_take (i := 16) (oi := ⟨some 26, _, _, _, _, _⟩) (v := .bool true) rfl (by kernel_rfl) (by kernel_rfl) (by kernel_rfl) (fun _ _ _ h => h) (.inl ⟨by rfl, fun w' hSw => ?_⟩) hHeld ?_
  focus (obtain ⟨c0, c1, c2, c3⟩ := HCELL.out w' hSw; clear hHeld; go_simp)
  try simp only [Act.put, List.setIfInBounds_toArray, List.set_cons_zero, List.set_cons_succ]
  refine wpAnyH_take (i := 17) (oi := ⟨some 27, _, _, _, _, _⟩) (v := .bool true) rfl (by kernel_rfl) (by kernel_rfl) (by kernel_rfl) (fun _ _ _ h => h) (.inl ⟨by rfl, fun w' hSw => ?_⟩) hHeld ?_
  focus (obtain ⟨c0, c1, c2, c3⟩ := HCELL.out w' hSw; clear hHeld; go_simp)
  try simp only [Act.put, List.setIfInBounds_toArray, List.set_cons_zero, List.set_cons_succ]
  refine wpAnyH_take (i := 18) (oi := ⟨some 28, _, _, _, _, _⟩) (v := .bool true) rfl (by kernel_rfl) (by kernel_rfl) (by kernel_rfl) (fun _ _ _ h => h) (.inl ⟨by rfl, fun w' hSw => ?_⟩) hHeld ?_
  focus (obtain ⟨c0, c1, c2, c3⟩ := HCELL.out w' hSw; clear hHeld; go_simp)
  try simp only [Act.put, List.setIfInBounds_toArray, List.set_cons_zero, List.set_cons_succ]
  refine wpAnyH_take (i := 19) (oi := ⟨some 29, _, _, _, _, _⟩) (v := .slice (some ⟨X, 0, none⟩) 32 32) rfl (by kernel_rfl) (by kernel_rfl) (by kernel_rfl) (fun _ _ _ h => h) (.inl ⟨by rfl, fun w' hSw => ?_⟩) hHeld ?_
  focus (obtain ⟨c0, c1, c2, c3⟩ := HCELL.out w' hSw; clear hHeld; go_simp)
  try simp only [Act.put, List.setIfInBounds_toArray, List.set_cons_zero, List.set_cons_succ]
  refine wpAnyH_take (i := 20) (oi := ⟨some 30, _, _, _, _, _⟩) (v := .slice (some ⟨X, 0, none⟩) 32 32) rfl (by kernel_rfl) (by kernel_rfl) (by kernel_rfl) (fun _ _ _ h => h) (.inl ⟨by rfl, fun w' hSw => ?_⟩) hHeld ?_
  focus (obtain ⟨c0, c1, c2, c3⟩ := HCELL.out w' hSw; clear hHeld; go_simp)
  try simp only [Act.put, List.setIfInBounds_toArray, List.set_cons_zero, List.set_cons_succ]
  refine wpAnyH_ready (rs := [21]) (by kernel_rfl) (by simp) ?_
  refine AllReadyH.cons (o := ⟨some 31, _, _, _, _, _⟩) rfl (fun K' hK' => ?_) AllReadyH.nil
  refine stepw_call (by rfl) ?_ (HEQ1.out _ hHeld) ?_
  focus go_simp
  rintro v wc1 ⟨rfl, hkn⟩
  refine hK'.out _ _ hkn (fun _ => ?_)
  clear hK' K' hHeld
  have hHeld := hkn
  clear hkn
  try simp only [Act.put, List.setIfInBounds_toArray, List.set_cons_zero, List.set_cons_succ]
  refine wpAnyH_take (i := 22) (oi := ⟨some 32, _, _, _, _, _⟩) (v := .bool true) rfl (by kernel_rfl) (by kernel_rfl) (by kernel_rfl) (fun _ _ _ h => h) (.inl ⟨by rfl, fun w' hSw => ?_⟩) hHeld ?_
  focus (obtain ⟨c0, c1, c2, c3⟩ := HCELL.out w' hSw; clear hHeld; go_simp)
  try simp only [Act.put, List.setIfInBounds_toArray, List.set_cons_zero, List.set_cons_succ]
  refine wpAnyH_take (i := 23) (oi := ⟨some 33, _, _, _, _, _⟩) (v := .bool true) rfl (by kernel_rfl) (by kernel_rfl) (by kernel_rfl) (fun _ _ _ h => h) (.inl ⟨by rfl, fun w' hSw => ?_⟩) hHeld ?_
  focus (obtain ⟨c0, c1, c2, c3⟩ := HCELL.out w' hSw; clear hHeld; go_simp)
  try simp only [Act.put, List.setIfInBounds_toArray, List.set_cons_zero, List.set_cons_succ]
  refine wpAnyH_take (i := 24) (oi := ⟨some 34, _, _, _, _, _⟩) (v := .slice (some ⟨X, 0, none⟩) 32 32) rfl (by kernel_rfl) (by kernel_rfl) (by kernel_rfl) (fun _ _ _ h => h) (.inl ⟨by rfl, fun w' hSw => ?_⟩) hHeld ?_
  focus (obtain ⟨c0, c1, c2, c3⟩ := HCELL.out w' hSw; clear hHeld; go_simp)
  try simp only [Act.put, List.setIfInBounds_toArray, List.set_cons_zero, List.set_cons_succ]
  refine wpAnyH_take (i := 25) (oi := ⟨some 35, _, _, _, _, _⟩) (v := .slice (some ⟨X, 1, none⟩) 31 31) rfl (by kernel_rfl) (by kernel_rfl) (by kernel_rfl) (fun _ _ _ h => h) (.inl ⟨by rfl, fun w' hSw => ?_⟩) hHeld ?_
  focus (obtain ⟨c0, c1, c2, c3⟩ := HCELL.out w' hSw; clear hHeld; go_simp)
  try simp only [Act.put, List.setIfInBounds_toArray, List.set_cons_zero, List.set_cons_succ]
  refine wpAnyH_ready (rs := [26]) (by kernel_rfl) (by simp) ?_
  refine AllReadyH.cons (o := ⟨some 36, _, _, _, _, _⟩) rfl (fun K' hK' => ?_) AllReadyH.nil
  refine stepw_call (by rfl) ?_ (HEQ2.out _ hHeld) ?_
  focus go_simp
  rintro v wc2 ⟨rfl, hkn⟩
  refine hK'.out _ _ hkn (fun _ => ?_)
  clear hK' K' hHeld
  have hHeld := hkn
  clear hkn
  try simp only [Act.put, List.setIfInBounds_toArray, List.set_cons_zero, List.set_cons_succ]
  refine wpAnyH_take (i := 27) (oi := ⟨some 37, _, _, _, _, _⟩) (v := .bool true) rfl (by kernel_rfl) (by kernel_rfl) (by kernel_rfl) (fun _ _ _ h => h) (.inl ⟨by rfl, fun w' hSw => ?_⟩) hHeld ?_
  focus (obtain ⟨c0, c1, c2, c3⟩ := HCELL.out w' hSw; clear hHeld; go_simp)
  try simp only [Act.put, List.setIfInBounds_toArray, List.set_cons_zero, List.set_cons_succ]
  refine wpAnyH_take (i := 28) (oi := ⟨some 38, _, _, _, _, _⟩) (v := .bool true) rfl (by kernel_rfl) (by kernel_rfl) (by kernel_rfl) (fun _ _ _ h => h) (.inl ⟨by rfl, fun w' hSw => ?_⟩) hHeld ?_
  focus (obtain ⟨c0, c1, c2, c3⟩ := HCELL.out w' hSw; clear hHeld; go_simp)
  try simp only [Act.put, List.setIfInBounds_toArray, List.set_cons_zero, List.set_cons_succ]
  refine wpAnyH_take (i := 29) (oi := ⟨some 39, _, _, _, _, _⟩) (v := .bool true) rfl (by kernel_rfl) (by kernel_rfl) (by kernel_rfl) (fun _ _ _ h => h) (.inl ⟨by rfl, fun w' hSw => ?_⟩) hHeld ?_
  focus (obtain ⟨c0, c1, c2, c3⟩ := HCELL.out w' hSw; clear hHeld; go_simp)
  try simp only [Act.put, List.setIfInBounds_toArray, List.set_cons_zero, List.set_cons_succ]
  refine wpAnyH_ready (rs := [30]) (by kernel_rfl) (by simp) ?_
  refine AllReadyH.cons (o := ⟨some 40, _, _, _, _, _⟩) rfl (fun K' hK' => ?_) AllReadyH.nil
  refine stepw_call (by rfl) ?_ (HDE1.out _ hHeld) ?_
  focus go_simp
  rintro v wc3 ⟨⟨qd, cd, rfl⟩, hkn⟩
  refine hK'.out _ _ hkn (fun _ => ?_)
  clear hK' K' hHeld
  have hHeld := hkn
  clear hkn
  try simp only [Act.put, List.setIfInBounds_toArray, List.set_cons_zero, List.set_cons_succ]
  refine wpAnyH_take (i := 31) (oi := ⟨some 41, _, _, _, _, _⟩) (v := .int .i64 40) rfl (by kernel_rfl) (by kernel_rfl) (by kernel_rfl) (fun _ _ _ h => h) (.inl ⟨by rfl, fun w' hSw => ?_⟩) hHeld ?_
  focus (obtain ⟨c0, c1, c2, c3⟩ := HCELL.out w' hSw; clear hHeld; go_simp)
  try simp only [Act.put, List.setIfInBounds_toArray, List.set_cons_zero, List.set_cons_succ]
  refine wpAnyH_take (i := 32) (oi := ⟨some 42, _, _, _, _, _⟩) (v := .bool true) rfl (by kernel_rfl) (by kernel_rfl) (by kernel_rfl) (fun _ _ _ h => h) (.inl ⟨by rfl, fun w' hSw => ?_⟩) hHeld ?_
  focus (obtain ⟨c0, c1, c2, c3⟩ := HCELL.out w' hSw; clear hHeld; go_simp)
  try simp only [Act.put, List.setIfInBounds_toArray, List.set_cons_zero, List.set_cons_succ]
  refine wpAnyH_take (i := 33) (oi := ⟨some 43, _, _, _, _, _⟩) (v := .bool true) rfl (by kernel_rfl) (by kernel_rfl) (by kernel_rfl) (fun _ _ _ h => h) (.inl ⟨by rfl, fun w' hSw => ?_⟩) hHeld ?_
  focus (obtain ⟨c0, c1, c2, c3⟩ := HCELL.out w' hSw; clear hHeld; go_simp)
  try simp only [Act.put, List.setIfInBounds_toArray, List.set_cons_zero, List.set_cons_succ]
  refine wpAnyH_take (i := 34) (oi := ⟨some 44, _, _, _, _, _⟩) (v := .bool true) rfl (by kernel_rfl) (by kernel_rfl) (by kernel_rfl) (fun _ _ _ h => h) (.inl ⟨by rfl, fun w' hSw => ?_⟩) hHeld ?_
  focus (obtain ⟨c0, c1, c2, c3⟩ := HCELL.out w' hSw; clear hHeld; go_simp)
  try simp only [Act.put, List.setIfInBounds_toArray, List.set_cons_zero, List.set_cons_succ]
  refine wpAnyH_ready (rs := [35]) (by kernel_rfl) (by simp) ?_
  refine AllReadyH.cons (o := ⟨some 45, _, _, _, _, _⟩) rfl (fun K' hK' => ?_) AllReadyH.nil
  refine stepw_call (by rfl) ?_ (HDE2.out _ hHeld) ?_
  focus go_simp
  rintro v wc4 ⟨rfl, hkn⟩
  refine hK'.out _ _ hkn (fun _ => ?_)
  clear hK' K' hHeld
  have hHeld := hkn
  clear hkn
  try simp only [Act.put, List.setIfInBounds_toArray, List.set_cons_zero, List.set_cons_succ]
  refine wpAnyH_take (i := 36) (oi := ⟨some 46, _, _, _, _, _⟩) (v := .int .i64 0) rfl (by kernel_rfl) (by kernel_rfl) (by kernel_rfl) (fun _ _ _ h => h) (.inl ⟨by rfl, fun w' hSw => ?_⟩) hHeld ?_
  focus (obtain ⟨c0, c1, c2, c3⟩ := HCELL.out w' hSw; clear hHeld; go_simp)
  try simp only [Act.put, List.setIfInBounds_toArray, List.set_cons_zero, List.set_cons_succ]
  refine wpAnyH_take (i := 37) (oi := ⟨some 47, _, _, _, _, _⟩) (v := .bool true) rfl (by kernel_rfl) (by kernel_rfl) (by kernel_rfl) (fun _ _ _ h => h) (.inl ⟨by rfl, fun w' hSw => ?_⟩) hHeld ?_
  focus (obtain ⟨c0, c1, c2, c3⟩ := HCELL.out w' hSw; clear hHeld; go_simp)
  try simp only [Act.put, List.setIfInBounds_toArray, List.set_cons_zero, List.set_cons_succ]
  refine wpAnyH_take (i := 38) (oi := ⟨some 48, _, _, _, _, _⟩) (v := .bool true) rfl (by kernel_rfl) (by kernel_rfl) (by kernel_rfl) (fun _ _ _ h => h) (.inl ⟨by rfl, fun w' hSw => ?_⟩) hHeld ?_
  focus (obtain ⟨c0, c1, c2, c3⟩ := HCELL.out w' hSw; clear hHeld; go_simp)
  try simp only [Act.put, List.setIfInBounds_toArray, List.set_cons_zero, List.set_cons_succ]
  refine wpAnyH_take (i := 39) (oi := ⟨some 49, _, _, _, _, _⟩) (v := .bool true) rfl (by kernel_rfl) (by kernel_rfl) (by kernel_rfl) (fun _ _ _ h => h) (.inl ⟨by rfl, fun w' hSw => ?_⟩) hHeld ?_
  focus (obtain ⟨c0, c1, c2, c3⟩ := HCELL.out w' hSw; clear hHeld; go_simp)
  try simp only [Act.put, List.setIfInBounds_toArray, List.set_cons_zero, List.set_cons_succ]
  refine wpAnyH_take (i := 42) (oi := ⟨some 52, _, _, _, _, _⟩) (v := .slice (some ⟨X, 0, none⟩) 16 32) rfl (by kernel_rfl) (by kernel_rfl) (by kernel_rfl) (fun _ _ _ h => h) (.inl ⟨by rfl, fun w' hSw => ?_⟩) hHeld ?_
  focus (obtain ⟨c0, c1, c2, c3⟩ := HCELL.out w' hSw; clear hHeld; go_simp)
  try simp only [Act.put, List.setIfInBounds_toArray, List.set_cons_zero, List.set_cons_succ]
  refine wpAnyH_later 12 #[true, true, true, true, true, true, true, true, true, true, true, true, true, true, true, true, true, true, true, true, true, true, true, true, true, true, true, true, true, true, true, true, true, true, true, true, true, true, true, true, true, true, true, true, true, true, true, false, false, false, false, false, false, false, false, false, false, false, false] (fun A a' w' => ∃ u50 u51 u53 u54 u55 : Value, a' = (((((A.put (some 50) u50).put (some 51) u51).put (some 53) u53).put (some 54) u54).put (some 55) u55).put (some 56) (.bool true) ∧ Sw w X D w') (fun hT => ?_) (fun a' w' hF => ?_)
  · refine wpAnyH_ready (rs := [40, 43]) (by kernel_rfl) (by simp) ?_
    refine AllReadyH.cons (o := ⟨some 50, _, _, _, _, _⟩) rfl (fun K' hK' => ?_) (AllReadyH.cons (o := ⟨some 53, _, _, _, _, _⟩) rfl (fun K' hK' => ?_) AllReadyH.nil)
    · go_simp
      have hb : Below wc4.heap.size wc4 (wc4.alloc (.cells #[.int .u8 74, .int .u8 101, .int .u8 102, .int .u8 101] 5)) := (Below.refl _ _).alloc (Nat.le_refl _) _
      have hkn := hHeld.later hb
      have L1 : LitAt (wc4.alloc (.cells #[.int .u8 74, .int .u8 101, .int .u8 102, .int .u8 101] 5)) wc4.heap.size KL := LitAt.new wc4 KL #[.int .u8 74, .int .u8 101, .int .u8 102, .int .u8 101] (by rw [HKL.out]; rfl)
      have xL1 : X ≠ wc4.heap.size ∧ w.heap.size ≤ wc4.heap.size := ⟨Nat.ne_of_lt hHeld.1.lt, hHeld.2.2.size⟩
      clear hb
      generalize wc4.alloc (.cells #[.int .u8 74, .int .u8 101, .int .u8 102, .int .u8 101] 5) = wk0 at hkn L1 ⊢
      obtain ⟨G1, hG1⟩ : ∃ x, x = wc4.heap.size := ⟨_, rfl⟩
      rw [← hG1] at L1 xL1 ⊢
      clear hG1
      refine hK'.out _ _ hkn (fun _ => ?_)
      clear hK' K' hHeld
      have hHeld := hkn
      clear hkn
      refine wpAnyH_ready (rs := [41, 43]) (by kernel_rfl) (by simp) ?_
      refine AllReadyH.cons (o := ⟨some 51, _, _, _, _, _⟩) rfl (fun K' hK' => ?_) (AllReadyH.cons (o := ⟨some 53, _, _, _, _, _⟩) rfl (fun K' hK' => ?_) AllReadyH.nil)
      · refine stepw_mark (by rfl) (.tmp 50) rfl rfl L1 ?_
        intro wk1 L1' bk hk
        have hkn : Sw w X D wk1 := ⟨(hk _ xL1.1).trans hHeld.1, HE2.out.below (hHeld.2.2.trans (bk _ xL1.2)), hHeld.2.2.trans (bk _ xL1.2)⟩
        clear bk hk
        clear L1
        have L1 := L1'
        clear L1'
        refine hK'.out _ _ hkn (fun _ => ?_)
        clear hK' K' hHeld
        have hHeld := hkn
        clear hkn
        try simp only [Act.put, List.setIfInBounds_toArray, List.set_cons_zero, List.set_cons_succ]
        refine wpAnyH_ready (rs := [43]) (by kernel_rfl) (by simp) ?_
        refine AllReadyH.cons (o := ⟨some 53, _, _, _, _, _⟩) rfl (fun K' hK' => ?_) AllReadyH.nil
        go_simp
        have hb : Below wk1.heap.size wk1 (wk1.alloc (.cells #[.int .u8 119, .int .u8 104, .int .u8 97, .int .u8 116, .int .u8 32, .int .u8 100, .int .u8 111, .int .u8 32, .int .u8 121, .int .u8 97, .int .u8 32, .int .u8 119, .int .u8 97, .int .u8 110, .int .u8 116, .int .u8 32, .int .u8 102, .int .u8 111, .int .u8 114, .int .u8 32, .int .u8 110, .int .u8 111, .int .u8 116, .int .u8 104, .int .u8 105, .int .u8 110, .int .u8 103, .int .u8 63] 5)) := (Below.refl _ _).alloc (Nat.le_refl _) _
        have hkn := hHeld.later hb
        have L1' := L1.later hb
        have L2 : LitAt (wk1.alloc (.cells #[.int .u8 119, .int .u8 104, .int .u8 97, .int .u8 116, .int .u8 32, .int .u8 100, .int .u8 111, .int .u8 32, .int .u8 121, .int .u8 97, .int .u8 32, .int .u8 119, .int .u8 97, .int .u8 110, .int .u8 116, .int .u8 32, .int .u8 102, .int .u8 111, .int .u8 114, .int .u8 32, .int .u8 110, .int .u8 111, .int .u8 116, .int .u8 104, .int .u8 105, .int .u8 110, .int .u8 103, .int .u8 63] 5)) wk1.heap.size MM := LitAt.new wk1 MM #[.int .u8 119, .int .u8 104, .int .u8 97, .int .u8 116, .int .u8 32, .int .u8 100, .int .u8 111, .int .u8 32, .int .u8 121, .int .u8 97, .int .u8 32, .int .u8 119, .int .u8 97, .int .u8 110, .int .u8 116, .int .u8 32, .int .u8 102, .int .u8 111, .int .u8 114, .int .u8 32, .int .u8 110, .int .u8 111, .int .u8 116, .int .u8 104, .int .u8 105, .int .u8 110, .int .u8 103, .int .u8 63] (by rw [HMM.out]; rfl)
        have xL2 : X ≠ wk1.heap.size ∧ w.heap.size ≤ wk1.heap.size := ⟨Nat.ne_of_lt hHeld.1.lt, hHeld.2.2.size⟩
        have dL1L2 : G1 ≠ wk1.heap.size := Nat.ne_of_lt L1.lt
        clear L1
        have L1 := L1'
        clear L1'
        clear hb
        generalize wk1.alloc (.cells #[.int .u8 119, .int .u8 104, .int .u8 97, .int .u8 116, .int .u8 32, .int .u8 100, .int .u8 111, .int .u8 32, .int .u8 121, .int .u8 97, .int .u8 32, .int .u8 119, .int .u8 97, .int .u8 110, .int .u8 116, .int .u8 32, .int .u8 102, .int .u8 111, .int .u8 114, .int .u8 32, .int .u8 110, .int .u8 111, .int .u8 116, .int .u8 104, .int .u8 105, .int .u8 110, .int .u8 103, .int .u8 63] 5) = wk2 at hkn L2 L1 ⊢
        obtain ⟨G2, hG2⟩ : ∃ x, x = wk1.heap.size := ⟨_, rfl⟩
        rw [← hG2] at L2 xL2 dL1L2 ⊢
        clear hG2
        refine hK'.out _ _ hkn (fun _ => ?_)
        clear hK' K' hHeld
        have hHeld := hkn
        clear hkn
        refine wpAnyH_ready (rs := [44]) (by kernel_rfl) (by simp) ?_
        refine AllReadyH.cons (o := ⟨some 54, _, _, _, _, _⟩) rfl (fun K' hK' => ?_) AllReadyH.nil
        refine stepw_mark (by rfl) (.tmp 53) rfl rfl L2 ?_
        intro wk3 L2' bk hk
        have hkn : Sw w X D wk3 := ⟨(hk _ xL2.1).trans hHeld.1, HE2.out.below (hHeld.2.2.trans (bk _ xL2.2)), hHeld.2.2.trans (bk _ xL2.2)⟩
        have L1' := L1.keep (hk _ dL1L2)
        clear bk hk
        clear L2
        have L2 := L2'
        clear L2'
        clear L1
        have L1 := L1'
        clear L1'
        refine hK'.out _ _ hkn (fun _ => ?_)
        clear hK' K' hHeld
        have hHeld := hkn
        clear hkn
        try simp only [Act.put, List.setIfInBounds_toArray, List.set_cons_zero, List.set_cons_succ]
        refine wpAnyH_ready (rs := [45]) (by kernel_rfl) (by simp) ?_
        refine AllReadyH.cons (o := ⟨some 55, _, _, _, _, _⟩) rfl (fun K' hK' => ?_) AllReadyH.nil
        go_simp
        have hb : Below wk3.heap.size wk3 (wk3.alloc (.cells #[.slice (some ⟨G2, 0, none⟩) 28 28] 22)) := (Below.refl _ _).alloc (Nat.le_refl _) _
        have hkn := hHeld.later hb
        have L1' := L1.later hb
        have L2' := L2.later hb
        have PC : (wk3.alloc (.cells #[.slice (some ⟨G2, 0, none⟩) 28 28] 22)).heap[wk3.heap.size]? = some (.cells #[.slice (some ⟨G2, 0, none⟩) 28 28] 22 (0, 0)) := heap_alloc_new wk3 _
        have dL1PC : G1 ≠ wk3.heap.size := Nat.ne_of_lt L1.lt
        have dL2PC : G2 ≠ wk3.heap.size := Nat.ne_of_lt L2.lt
        clear L1
        have L1 := L1'
        clear L1'
        clear L2
        have L2 := L2'
        clear L2'
        clear hb
        generalize wk3.alloc (.cells #[.slice (some ⟨G2, 0, none⟩) 28 28] 22) = wk4 at hkn PC L1 L2 ⊢
        obtain ⟨GP, hGP⟩ : ∃ x, x = wk3.heap.size := ⟨_, rfl⟩
        rw [← hGP] at PC dL1PC dL2PC ⊢
        clear hGP
        refine hK'.out _ _ hkn (fun _ => ?_)
        clear hK' K' hHeld
        have hHeld := hkn
        clear hkn
        refine wpAnyH_ready (rs := [46]) (by kernel_rfl) (by simp) ?_
        refine AllReadyH.cons (o := ⟨some 56, _, _, _, _, _⟩) rfl (fun K' hK' => ?_) AllReadyH.nil
        refine stepw_call (by rfl) ?_ (HC16.out _ _ _ _ hHeld L1 L2 PC) ?_
        focus go_simp
        rintro v wz ⟨rfl, hkn⟩
        refine hK'.out _ _ hkn (fun _ => ?_)
        clear hK' K' hHeld
        have hHeld := hkn
        clear hkn
        try simp only [Act.put, List.setIfInBounds_toArray, List.set_cons_zero, List.set_cons_succ]
        refine wpAnyH_listed (by kernel_rfl) (hT _ _ ⟨_, _, _, _, _, rfl, hHeld⟩)
      · go_simp
        have hb : Below wk0.heap.size wk0 (wk0.alloc (.cells #[.int .u8 119, .int .u8 104, .int .u8 97, .int .u8 116, .int .u8 32, .int .u8 100, .int .u8 111, .int .u8 32, .int .u8 121, .int .u8 97, .int .u8 32, .int .u8 119, .int .u8 97, .int .u8 110, .int .u8 116, .int .u8 32, .int .u8 102, .int .u8 111, .int .u8 114, .int .u8 32, .int .u8 110, .int .u8 111, .int .u8 116, .int .u8 104, .int .u8 105, .int .u8 110, .int .u8 103, .int .u8 63] 5)) := (Below.refl _ _).alloc (Nat.le_refl _) _
        have hkn := hHeld.later hb
        have L1' := L1.later hb
        have L2 : LitAt (wk0.alloc (.cells #[.int .u8 119, .int .u8 104, .int .u8 97, .int .u8 116, .int .u8 32, .int .u8 100, .int .u8 111, .int .u8 32, .int .u8 121, .int .u8 97, .int .u8 32, .int .u8 119, .int .u8 97, .int .u8 110, .int .u8 116, .int .u8 32, .int .u8 102, .int .u8 111, .int .u8 114, .int .u8 32, .int .u8 110, .int .u8 111, .int .u8 116, .int .u8 104, .int .u8 105, .int .u8 110, .int .u8 103, .int .u8 63] 5)) wk0.heap.size MM := LitAt.new wk0 MM #[.int .u8 119, .int .u8 104, .int .u8 97, .int .u8 116, .int .u8 32, .int .u8 100, .int .u8 111, .int .u8 32, .int .u8 121, .int .u8 97, .int .u8 32, .int .u8 119, .int .u8 97, .int .u8 110, .int .u8 116, .int .u8 32, .int .u8 102, .int .u8 111, .int .u8 114, .int .u8 32, .int .u8 110, .int .u8 111, .int .u8 116, .int .u8 104, .int .u8 105, .int .u8 110, .int .u8 103, .int .u8 63] (by rw [HMM.out]; rfl)
        have xL2 : X ≠ wk0.heap.size ∧ w.heap.size ≤ wk0.heap.size := ⟨Nat.ne_of_lt hHeld.1.lt, hHeld.2.2.size⟩
        have dL1L2 : G1 ≠ wk0.heap.size := Nat.ne_of_lt L1.lt
        clear L1
        have L1 := L1'
        clear L1'
        clear hb
        generalize wk0.alloc (.cells #[.int .u8 119, .int .u8 104, .int .u8 97, .int .u8 116, .int .u8 32, .int .u8 100, .int .u8 111, .int .u8 32, .int .u8 121, .int .u8 97, .int .u8 32, .int .u8 119, .int .u8 97, .int .u8 110, .int .u8 116, .int .u8 32, .int .u8 102, .int .u8 111, .int .u8 114, .int .u8 32, .int .u8 110, .int .u8 111, .int .u8 116, .int .u8 104, .int .u8 105, .int .u8 110, .int .u8 103, .int .u8 63] 5) = wk1 at hkn L2 L1 ⊢
        obtain ⟨G2, hG2⟩ : ∃ x, x = wk0.heap.size := ⟨_, rfl⟩
        rw [← hG2] at L2 xL2 dL1L2 ⊢
        clear hG2
        refine hK'.out _ _ hkn (fun _ => ?_)
        clear hK' K' hHeld
        have hHeld := hkn
        clear hkn
        refine wpAnyH_ready (rs := [41, 44]) (by kernel_rfl) (by simp) ?_
        refine AllReadyH.cons (o := ⟨some 51, _, _, _, _, _⟩) rfl (fun K' hK' => ?_) (AllReadyH.cons (o := ⟨some 54, _, _, _, _, _⟩) rfl (fun K' hK' => ?_) AllReadyH.nil)
        · refine stepw_mark (by rfl) (.tmp 50) rfl rfl L1 ?_
          intro wk2 L1' bk hk
          have hkn : Sw w X D wk2 := ⟨(hk _ xL1.1).trans hHeld.1, HE2.out.below (hHeld.2.2.trans (bk _ xL1.2)), hHeld.2.2.trans (bk _ xL1.2)⟩
          have L2' := L2.keep (hk _ (Ne.symm dL1L2))
          clear bk hk
          clear L1
          have L1 := L1'
          clear L1'
          clear L2
          have L2 := L2'
          clear L2'
          refine hK'.out _ _ hkn (fun _ => ?_)
          clear hK' K' hHeld
          have hHeld := hkn
          clear hkn
          try simp only [Act.put, List.setIfInBounds_toArray, List.set_cons_zero, List.set_cons_succ]
          refine wpAnyH_ready (rs := [44]) (by kernel_rfl) (by simp) ?_
          refine AllReadyH.cons (o := ⟨some 54, _, _, _, _, _⟩) rfl (fun K' hK' => ?_) AllReadyH.nil
          refine stepw_mark (by rfl) (.tmp 53) rfl rfl L2 ?_
          intro wk3 L2' bk hk
          have hkn : Sw w X D wk3 := ⟨(hk _ xL2.1).trans hHeld.1, HE2.out.below (hHeld.2.2.trans (bk _ xL2.2)), hHeld.2.2.trans (bk _ xL2.2)⟩
          have L1' := L1.keep (hk _ dL1L2)
          clear bk hk
          clear L2
          have L2 := L2'
          clear L2'
          clear L1
          have L1 := L1'
          clear L1'
          refine hK'.out _ _ hkn (fun _ => ?_)
          clear hK' K' hHeld
          have hHeld := hkn
          clear hkn
          try simp only [Act.put, List.setIfInBounds_toArray, List.set_cons_zero, List.set_cons_succ]
          refine wpAnyH_ready (rs := [45]) (by kernel_rfl) (by simp) ?_
          refine AllReadyH.cons (o := ⟨some 55, _, _, _, _, _⟩) rfl (fun K' hK' => ?_) AllReadyH.nil
          go_simp
          have hb : Below wk3.heap.size wk3 (wk3.alloc (.cells #[.slice (some ⟨G2, 0, none⟩) 28 28] 22)) := (Below.refl _ _).alloc (Nat.le_refl _) _
          have hkn := hHeld.later hb
          have L1' := L1.later hb
          have L2' := L2.later hb
          have PC : (wk3.alloc (.cells #[.slice (some ⟨G2, 0, none⟩) 28 28] 22)).heap[wk3.heap.size]? = some (.cells #[.slice (some ⟨G2, 0, none⟩) 28 28] 22 (0, 0)) := heap_alloc_new wk3 _
          have dL1PC : G1 ≠ wk3.heap.size := Nat.ne_of_lt L1.lt
          have dL2PC : G2 ≠ wk3.heap.size := Nat.ne_of_lt L2.lt
          clear L1
          have L1 := L1'
          clear L1'
          clear L2
          have L2 := L2'
          clear L2'
          clear hb
          generalize wk3.alloc (.cells #[.slice (some ⟨G2, 0, none⟩) 28 28] 22) = wk4 at hkn PC L1 L2 ⊢
          obtain ⟨GP, hGP⟩ : ∃ x, x = wk3.heap.size := ⟨_, rfl⟩
          rw [← hGP] at PC dL1PC dL2PC ⊢
          clear hGP
          refine hK'.out _ _ hkn (fun _ => ?_)
          clear hK' K' hHeld
          have hHeld := hkn
          clear hkn
          refine wpAnyH_ready (rs := [46]) (by kernel_rfl) (by simp) ?_
          refine AllReadyH.cons (o := ⟨some 56, _, _, _, _, _⟩) rfl (fun K' hK' => ?_) AllReadyH.nil
          refine stepw_call (by rfl) ?_ (HC16.out _ _ _ _ hHeld L1 L2 PC) ?_
          focus go_simp
          rintro v wz ⟨rfl, hkn⟩
          refine hK'.out _ _ hkn (fun _ => ?_)
          clear hK' K' hHeld
          have hHeld := hkn
          clear hkn
          try simp only [Act.put, List.setIfInBounds_toArray, List.set_cons_zero, List.set_cons_succ]
          refine wpAnyH_listed (by kernel_rfl) (hT _ _ ⟨_, _, _, _, _, rfl, hHeld⟩)
        · refine stepw_mark (by rfl) (.tmp 53) rfl rfl L2 ?_
          intro wk2 L2' bk hk
          have hkn : Sw w X D wk2 := ⟨(hk _ xL2.1).trans hHeld.1, HE2.out.below (hHeld.2.2.trans (bk _ xL2.2)), hHeld.2.2.trans (bk _ xL2.2)⟩
          have L1' := L1.keep (hk _ dL1L2)
          clear bk hk
          clear L2
          have L2 := L2'
          clear L2'
          clear L1
          have L1 := L1'
          clear L1'
          refine hK'.out _ _ hkn (fun _ => ?_)
          clear hK' K' hHeld
          have hHeld := hkn
          clear hkn
          try simp only [Act.put, List.setIfInBounds_toArray, List.set_cons_zero, List.set_cons_succ]
          refine wpAnyH_ready (rs := [41, 45]) (by kernel_rfl) (by simp) ?_
          refine AllReadyH.cons (o := ⟨some 51, _, _, _, _, _⟩) rfl (fun K' hK' => ?_) (AllReadyH.cons (o := ⟨some 55, _, _, _, _, _⟩) rfl (fun K' hK' => ?_) AllReadyH.nil)
          · refine stepw_mark (by rfl) (.tmp 50) rfl rfl L1 ?_
            intro wk3 L1' bk hk
            have hkn : Sw w X D wk3 := ⟨(hk _ xL1.1).trans hHeld.1, HE2.out.below (hHeld.2.2.trans (bk _ xL1.2)), hHeld.2.2.trans (bk _ xL1.2)⟩
            have L2' := L2.keep (hk _ (Ne.symm dL1L2))
            clear bk hk
            clear L1
            have L1 := L1'
            clear L1'
            clear L2
            have L2 := L2'
            clear L2'
            refine hK'.out _ _ hkn (fun _ => ?_)
            clear hK' K' hHeld
            have hHeld := hkn
            clear hkn
            try simp only [Act.put, List.setIfInBounds_toArray, List.set_cons_zero, List.set_cons_succ]
            refine wpAnyH_ready (rs := [45]) (by kernel_rfl) (by simp) ?_
            refine AllReadyH.cons (o := ⟨some 55, _, _, _, _, _⟩) rfl (fun K' hK' => ?_) AllReadyH.nil
            go_simp
            have hb : Below wk3.heap.size wk3 (wk3.alloc (.cells #[.slice (some ⟨G2, 0, none⟩) 28 28] 22)) := (Below.refl _ _).alloc (Nat.le_refl _) _
            have hkn := hHeld.later hb
            have L1' := L1.later hb
            have L2' := L2.later hb
            have PC : (wk3.alloc (.cells #[.slice (some ⟨G2, 0, none⟩) 28 28] 22)).heap[wk3.heap.size]? = some (.cells #[.slice (some ⟨G2, 0, none⟩) 28 28] 22 (0, 0)) := heap_alloc_new wk3 _
            have dL1PC : G1 ≠ wk3.heap.size := Nat.ne_of_lt L1.lt
            have dL2PC : G2 ≠ wk3.heap.size := Nat.ne_of_lt L2.lt
            clear L1
            have L1 := L1'
            clear L1'
            clear L2
            have L2 := L2'
            clear L2'
            clear hb
            generalize wk3.alloc (.cells #[.slice (some ⟨G2, 0, none⟩) 28 28] 22) = wk4 at hkn PC L1 L2 ⊢
            obtain ⟨GP, hGP⟩ : ∃ x, x = wk3.heap.size := ⟨_, rfl⟩
            rw [← hGP] at PC dL1PC dL2PC ⊢
            clear hGP
            refine hK'.out _ _ hkn (fun _ => ?_)
            clear hK' K' hHeld
            have hHeld := hkn
            clear hkn
            refine wpAnyH_ready (rs := [46]) (by kernel_rfl) (by simp) ?_
            refine AllReadyH.cons (o := ⟨some 56, _, _, _, _, _⟩) rfl (fun K' hK' => ?_) AllReadyH.nil
            refine stepw_call (by rfl) ?_ (HC16.out _ _ _ _ hHeld L1 L2 PC) ?_
            focus go_simp
            rintro v wz ⟨rfl, hkn⟩
            refine hK'.out _ _ hkn (fun _ => ?_)
            clear hK' K' hHeld
            have hHeld := hkn
            clear hkn
            try simp only [Act.put, List.setIfInBounds_toArray, List.set_cons_zero, List.set_cons_succ]
            refine wpAnyH_listed (by kernel_rfl) (hT _ _ ⟨_, _, _, _, _, rfl, hHeld⟩)
          · go_simp
            have hb : Below wk2.heap.size wk2 (wk2.alloc (.cells #[.slice (some ⟨G2, 0, none⟩) 28 28] 22)) := (Below.refl _ _).alloc (Nat.le_refl _) _
            have hkn := hHeld.later hb
            have L1' := L1.later hb
            have L2' := L2.later hb
            have PC : (wk2.alloc (.cells #[.slice (some ⟨G2, 0, none⟩) 28 28] 22)).heap[wk2.heap.size]? = some (.cells #[.slice (some ⟨G2, 0, none⟩) 28 28] 22 (0, 0)) := heap_alloc_new wk2 _
            have dL1PC : G1 ≠ wk2.heap.size := Nat.ne_of_lt L1.lt
            have dL2PC : G2 ≠ wk2.heap.size := Nat.ne_of_lt L2.lt
            clear L1
            have L1 := L1'
            clear L1'
            clear L2
            have L2 := L2'
            clear L2'
            clear hb
            generalize wk2.alloc (.cells #[.slice (some ⟨G2, 0, none⟩) 28 28] 22) = wk3 at hkn PC L1 L2 ⊢
            obtain ⟨GP, hGP⟩ : ∃ x, x = wk2.heap.size := ⟨_, rfl⟩
            rw [← hGP] at PC dL1PC dL2PC ⊢
            clear hGP
            refine hK'.out _ _ hkn (fun _ => ?_)
            clear hK' K' hHeld
            have hHeld := hkn
            clear hkn
            refine wpAnyH_ready (rs := [41]) (by kernel_rfl) (by simp) ?_
            refine AllReadyH.cons (o := ⟨some 51, _, _, _, _, _⟩) rfl (fun K' hK' => ?_) AllReadyH.nil
            refine stepw_mark (by rfl) (.tmp 50) rfl rfl L1 ?_
            intro wk4 L1' bk hk
            have hkn : Sw w X D wk4 := ⟨(hk _ xL1.1).trans hHeld.1, HE2.out.below (hHeld.2.2.trans (bk _ xL1.2)), hHeld.2.2.trans (bk _ xL1.2)⟩
            have L2' := L2.keep (hk _ (Ne.symm dL1L2))
            have PC' := (hk _ (Ne.symm dL1PC)).trans PC
            clear bk hk
            clear L1
            have L1 := L1'
            clear L1'
            clear L2
            have L2 := L2'
            clear L2'
            clear PC
            have PC := PC'
            clear PC'
            refine hK'.out _ _ hkn (fun _ => ?_)
            clear hK' K' hHeld
            have hHeld := hkn
            clear hkn
            try simp only [Act.put, List.setIfInBounds_toArray, List.set_cons_zero, List.set_cons_succ]
            refine wpAnyH_ready (rs := [46]) (by kernel_rfl) (by simp) ?_
            refine AllReadyH.cons (o := ⟨some 56, _, _, _, _, _⟩) rfl (fun K' hK' => ?_) AllReadyH.nil
            refine stepw_call (by rfl) ?_ (HC16.out _ _ _ _ hHeld L1 L2 PC) ?_
            focus go_simp
            rintro v wz ⟨rfl, hkn⟩
            refine hK'.out _ _ hkn (fun _ => ?_)
            clear hK' K' hHeld
            have hHeld := hkn
            clear hkn
            try simp only [Act.put, List.setIfInBounds_toArray, List.set_cons_zero, List.set_cons_succ]
            refine wpAnyH_listed (by kernel_rfl) (hT _ _ ⟨_, _, _, _, _, rfl, hHeld⟩)
    · go_simp
      have hb : Below wc4.heap.size wc4 (wc4.alloc (.cells #[.int .u8 119, .int .u8 104, .int .u8 97, .int .u8 116, .int .u8 32, .int .u8 100, .int .u8 111, .int .u8 32, .int .u8 121, .int .u8 97, .int .u8 32, .int .u8 119, .int .u8 97, .int .u8 110, .int .u8 116, .int .u8 32, .int .u8 102, .int .u8 111, .int .u8 114, .int .u8 32, .int .u8 110, .int .u8 111, .int .u8 116, .int .u8 104, .int .u8 105, .int .u8 110, .int .u8 103, .int .u8 63] 5)) := (Below.refl _ _).alloc (Nat.le_refl _) _
      have hkn := hHeld.later hb
      have L2 : LitAt (wc4.alloc (.cells #[.int .u8 119, .int .u8 104, .int .u8 97, .int .u8 116, .int .u8 32, .int .u8 100, .int .u8 111, .int .u8 32, .int .u8 121, .int .u8 97, .int .u8 32, .int .u8 119, .int .u8 97, .int .u8 110, .int .u8 116, .int .u8 32, .int .u8 102, .int .u8 111, .int .u8 114, .int .u8 32, .int .u8 110, .int .u8 111, .int .u8 116, .int .u8 104, .int .u8 105, .int .u8 110, .int .u8 103, .int .u8 63] 5)) wc4.heap.size MM := LitAt.new wc4 MM #[.int .u8 119, .int .u8 104, .int .u8 97, .int .u8 116, .int .u8 32, .int .u8 100, .int .u8 111, .int .u8 32, .int .u8 121, .int .u8 97, .int .u8 32, .int .u8 119, .int .u8 97, .int .u8 110, .int .u8 116, .int .u8 32, .int .u8 102, .int .u8 111, .int .u8 114, .int .u8 32, .int .u8 110, .int .u8 111, .int .u8 116, .int .u8 104, .int .u8 105, .int .u8 110, .int .u8 103, .int .u8 63] (by rw [HMM.out]; rfl)
      have xL2 : X ≠ wc4.heap.size ∧ w.heap.size ≤ wc4.heap.size := ⟨Nat.ne_of_lt hHeld.1.lt, hHeld.2.2.size⟩
      clear hb
      generalize wc4.alloc (.cells #[.int .u8 119, .int .u8 104, .int .u8 97, .int .u8 116, .int .u8 32, .int .u8 100, .int .u8 111, .int .u8 32, .int .u8 121, .int .u8 97, .int .u8 32, .int .u8 119, .int .u8 97, .int .u8 110, .int .u8 116, .int .u8 32, .int .u8 102, .int .u8 111, .int .u8 114, .int .u8 32, .int .u8 110, .int .u8 111, .int .u8 116, .int .u8 104, .int .u8 105, .int .u8 110, .int .u8 103, .int .u8 63] 5) = wk0 at hkn L2 ⊢
      obtain ⟨G2, hG2⟩ : ∃ x, x = wc4.heap.size := ⟨_, rfl⟩
      rw [← hG2] at L2 xL2 ⊢
      clear hG2
      refine hK'.out _ _ hkn (fun _ => ?_)
      clear hK' K' hHeld
      have hHeld := hkn
      clear hkn
      refine wpAnyH_ready (rs := [40, 44]) (by kernel_rfl) (by simp) ?_
      refine AllReadyH.cons (o := ⟨some 50, _, _, _, _, _⟩) rfl (fun K' hK' => ?_) (AllReadyH.cons (o := ⟨some 54, _, _, _, _, _⟩) rfl (fun K' hK' => ?_) AllReadyH.nil)
      · go_simp
        have hb : Below wk0.heap.size wk0 (wk0.alloc (.cells #[.int .u8 74, .int .u8 101, .int .u8 102, .int .u8 101] 5)) := (Below.refl _ _).alloc (Nat.le_refl _) _
        have hkn := hHeld.later hb
        have L2' := L2.later hb
        have L1 : LitAt (wk0.alloc (.cells #[.int .u8 74, .int .u8 101, .int .u8 102, .int .u8 101] 5)) wk0.heap.size KL := LitAt.new wk0 KL #[.int .u8 74, .int .u8 101, .int .u8 102, .int .u8 101] (by rw [HKL.out]; rfl)
        have xL1 : X ≠ wk0.heap.size ∧ w.heap.size ≤ wk0.heap.size := ⟨Nat.ne_of_lt hHeld.1.lt, hHeld.2.2.size⟩
        have dL2L1 : G2 ≠ wk0.heap.size := Nat.ne_of_lt L2.lt
        clear L2
        have L2 := L2'
        clear L2'
        clear hb
        generalize wk0.alloc (.cells #[.int .u8 74, .int .u8 101, .int .u8 102, .int .u8 101] 5) = wk1 at hkn L1 L2 ⊢
        obtain ⟨G1, hG1⟩ : ∃ x, x = wk0.heap.size := ⟨_, rfl⟩
        rw [← hG1] at L1 xL1 dL2L1 ⊢
        clear hG1
        refine hK'.out _ _ hkn (fun _ => ?_)
        clear hK' K' hHeld
        have hHeld := hkn
        clear hkn
        refine wpAnyH_ready (rs := [41, 44]) (by kernel_rfl) (by simp) ?_
        refine AllReadyH.cons (o := ⟨some 51, _, _, _, _, _⟩) rfl (fun K' hK' => ?_) (AllReadyH.cons (o := ⟨some 54, _, _, _, _, _⟩) rfl (fun K' hK' => ?_) AllReadyH.nil)
        · refine stepw_mark (by rfl) (.tmp 50) rfl rfl L1 ?_
          intro wk2 L1' bk hk
          have hkn : Sw w X D wk2 := ⟨(hk _ xL1.1).trans hHeld.1, HE2.out.below (hHeld.2.2.trans (bk _ xL1.2)), hHeld.2.2.trans (bk _ xL1.2)⟩
          have L2' := L2.keep (hk _ dL2L1)
          clear bk hk
          clear L1
          have L1 := L1'
          clear L1'
          clear L2
          have L2 := L2'
          clear L2'
          refine hK'.out _ _ hkn (fun _ => ?_)
          clear hK' K' hHeld
          have hHeld := hkn
          clear hkn
          try simp only [Act.put, List.setIfInBounds_toArray, List.set_cons_zero, List.set_cons_succ]
          refine wpAnyH_ready (rs := [44]) (by kernel_rfl) (by simp) ?_
          refine AllReadyH.cons (o := ⟨some 54, _, _, _, _, _⟩) rfl (fun K' hK' => ?_) AllReadyH.nil
          refine stepw_mark (by rfl) (.tmp 53) rfl rfl L2 ?_
          intro wk3 L2' bk hk
          have hkn : Sw w X D wk3 := ⟨(hk _ xL2.1).trans hHeld.1, HE2.out.below (hHeld.2.2.trans (bk _ xL2.2)), hHeld.2.2.trans (bk _ xL2.2)⟩
          have L1' := L1.keep (hk _ (Ne.symm dL2L1))
          clear bk hk
          clear L2
          have L2 := L2'
          clear L2'
          clear L1
          have L1 := L1'
          clear L1'
          refine hK'.out _ _ hkn (fun _ => ?_)
          clear hK' K' hHeld
          have hHeld := hkn
          clear hkn
          try simp only [Act.put, List.setIfInBounds_toArray, List.set_cons_zero, List.set_cons_succ]
          refine wpAnyH_ready (rs := [45]) (by kernel_rfl) (by simp) ?_
          refine AllReadyH.cons (o := ⟨some 55, _, _, _, _, _⟩) rfl (fun K' hK' => ?_) AllReadyH.nil
          go_simp
          have hb : Below wk3.heap.size wk3 (wk3.alloc (.cells #[.slice (some ⟨G2, 0, none⟩) 28 28] 22)) := (Below.refl _ _).alloc (Nat.le_refl _) _
          have hkn := hHeld.later hb
          have L2' := L2.later hb
          have L1' := L1.later hb
          have PC : (wk3.alloc (.cells #[.slice (some ⟨G2, 0, none⟩) 28 28] 22)).heap[wk3.heap.size]? = some (.cells #[.slice (some ⟨G2, 0, none⟩) 28 28] 22 (0, 0)) := heap_alloc_new wk3 _
          have dL2PC : G2 ≠ wk3.heap.size := Nat.ne_of_lt L2.lt
          have dL1PC : G1 ≠ wk3.heap.size := Nat.ne_of_lt L1.lt
          clear L2
          have L2 := L2'
          clear L2'
          clear L1
          have L1 := L1'
          clear L1'
          clear hb
          generalize wk3.alloc (.cells #[.slice (some ⟨G2, 0, none⟩) 28 28] 22) = wk4 at hkn PC L2 L1 ⊢
          obtain ⟨GP, hGP⟩ : ∃ x, x = wk3.heap.size := ⟨_, rfl⟩
          rw [← hGP] at PC dL2PC dL1PC ⊢
          clear hGP
          refine hK'.out _ _ hkn (fun _ => ?_)
          clear hK' K' hHeld
          have hHeld := hkn
          clear hkn
          refine wpAnyH_ready (rs := [46]) (by kernel_rfl) (by simp) ?_
          refine AllReadyH.cons (o := ⟨some 56, _, _, _, _, _⟩) rfl (fun K' hK' => ?_) AllReadyH.nil
          refine stepw_call (by rfl) ?_ (HC16.out _ _ _ _ hHeld L1 L2 PC) ?_
          focus go_simp
          rintro v wz ⟨rfl, hkn⟩
          refine hK'.out _ _ hkn (fun _ => ?_)
          clear hK' K' hHeld
          have hHeld := hkn
          clear hkn
          try simp only [Act.put, List.setIfInBounds_toArray, List.set_cons_zero, List.set_cons_succ]
          refine wpAnyH_listed (by kernel_rfl) (hT _ _ ⟨_, _, _, _, _, rfl, hHeld⟩)
        · refine stepw_mark (by rfl) (.tmp 53) rfl rfl L2 ?_
          intro wk2 L2' bk hk
          have hkn : Sw w X D wk2 := ⟨(hk _ xL2.1).trans hHeld.1, HE2.out.below (hHeld.2.2.trans (bk _ xL2.2)), hHeld.2.2.trans (bk _ xL2.2)⟩
          have L1' := L1.keep (hk _ (Ne.symm dL2L1))
          clear bk hk
          clear L2
          have L2 := L2'
          clear L2'
          clear L1
          have L1 := L1'
          clear L1'
          refine hK'.out _ _ hkn (fun _ => ?_)
          clear hK' K' hHeld
          have hHeld := hkn
          clear hkn
          try simp only [Act.put, List.setIfInBounds_toArray, List.set_cons_zero, List.set_cons_succ]
          refine wpAnyH_ready (rs := [41, 45]) (by kernel_rfl) (by simp) ?_
          refine AllReadyH.cons (o := ⟨some 51, _, _, _, _, _⟩) rfl (fun K' hK' => ?_) (AllReadyH.cons (o := ⟨some 55, _, _, _, _, _⟩) rfl (fun K' hK' => ?_) AllReadyH.nil)
          · refine stepw_mark (by rfl) (.tmp 50) rfl rfl L1 ?_
            intro wk3 L1' bk hk
            have hkn : Sw w X D wk3 := ⟨(hk _ xL1.1).trans hHeld.1, HE2.out.below (hHeld.2.2.trans (bk _ xL1.2)), hHeld.2.2.trans (bk _ xL1.2)⟩
            have L2' := L2.keep (hk _ dL2L1)
            clear bk hk
            clear L1
            have L1 := L1'
            clear L1'
            clear L2
            have L2 := L2'
            clear L2'
            refine hK'.out _ _ hkn (fun _ => ?_)
            clear hK' K' hHeld
            have hHeld := hkn
            clear hkn
            try simp only [Act.put, List.setIfInBounds_toArray, List.set_cons_zero, List.set_cons_succ]
            refine wpAnyH_ready (rs := [45]) (by kernel_rfl) (by simp) ?_
            refine AllReadyH.cons (o := ⟨some 55, _, _, _, _, _⟩) rfl (fun K' hK' => ?_) AllReadyH.nil
            go_simp
            have hb : Below wk3.heap.size wk3 (wk3.alloc (.cells #[.slice (some ⟨G2, 0, none⟩) 28 28] 22)) := (Below.refl _ _).alloc (Nat.le_refl _) _
            have hkn := hHeld.later hb
            have L2' := L2.later hb
            have L1' := L1.later hb
            have PC : (wk3.alloc (.cells #[.slice (some ⟨G2, 0, none⟩) 28 28] 22)).heap[wk3.heap.size]? = some (.cells #[.slice (some ⟨G2, 0, none⟩) 28 28] 22 (0, 0)) := heap_alloc_new wk3 _
            have dL2PC : G2 ≠ wk3.heap.size := Nat.ne_of_lt L2.lt
            have dL1PC : G1 ≠ wk3.heap.size := Nat.ne_of_lt L1.lt
            clear L2
            have L2 := L2'
            clear L2'
            clear L1
            have L1 := L1'
            clear L1'
            clear hb
            generalize wk3.alloc (.cells #[.slice (some ⟨G2, 0, none⟩) 28 28] 22) = wk4 at hkn PC L2 L1 ⊢
            obtain ⟨GP, hGP⟩ : ∃ x, x = wk3.heap.size := ⟨_, rfl⟩
            rw [← hGP] at PC dL2PC dL1PC ⊢
            clear hGP
            refine hK'.out _ _ hkn (fun _ => ?_)
            clear hK' K' hHeld
            have hHeld := hkn
            clear hkn
            refine wpAnyH_ready (rs := [46]) (by kernel_rfl) (by simp) ?_
            refine AllReadyH.cons (o := ⟨some 56, _, _, _, _, _⟩) rfl (fun K' hK' => ?_) AllReadyH.nil
            refine stepw_call (by rfl) ?_ (HC16.out _ _ _ _ hHeld L1 L2 PC) ?_
            focus go_simp
            rintro v wz ⟨rfl, hkn⟩
            refine hK'.out _ _ hkn (fun _ => ?_)
            clear hK' K' hHeld
            have hHeld := hkn
            clear hkn
            try simp only [Act.put, List.setIfInBounds_toArray, List.set_cons_zero, List.set_cons_succ]
            refine wpAnyH_listed (by kernel_rfl) (hT _ _ ⟨_, _, _, _, _, rfl, hHeld⟩)
          · go_simp
            have hb : Below wk2.heap.size wk2 (wk2.alloc (.cells #[.slice (some ⟨G2, 0, none⟩) 28 28] 22)) := (Below.refl _ _).alloc (Nat.le_refl _) _
            have hkn := hHeld.later hb
            have L2' := L2.later hb
            have L1' := L1.later hb
            have PC : (wk2.alloc (.cells #[.slice (some ⟨G2, 0, none⟩) 28 28] 22)).heap[wk2.heap.size]? = some (.cells #[.slice (some ⟨G2, 0, none⟩) 28 28] 22 (0, 0)) := heap_alloc_new wk2 _
            have dL2PC : G2 ≠ wk2.heap.size := Nat.ne_of_lt L2.lt
            have dL1PC : G1 ≠ wk2.heap.size := Nat.ne_of_lt L1.lt
            clear L2
            have L2 := L2'
            clear L2'
            clear L1
            have L1 := L1'
            clear L1'
            clear hb
            generalize wk2.alloc (.cells #[.slice (some ⟨G2, 0, none⟩) 28 28] 22) = wk3 at hkn PC L2 L1 ⊢
            obtain ⟨GP, hGP⟩ : ∃ x, x = wk2.heap.size := ⟨_, rfl⟩
            rw [← hGP] at PC dL2PC dL1PC ⊢
            clear hGP
            refine hK'.out _ _ hkn (fun _ => ?_)
            clear hK' K' hHeld
            have hHeld := hkn
            clear hkn
            refine wpAnyH_ready (rs := [41]) (by kernel_rfl) (by simp) ?_
            refine AllReadyH.cons (o := ⟨some 51, _, _, _, _, _⟩) rfl (fun K' hK' => ?_) AllReadyH.nil
            refine stepw_mark (by rfl) (.tmp 50) rfl rfl L1 ?_
            intro wk4 L1' bk hk
            have hkn : Sw w X D wk4 := ⟨(hk _ xL1.1).trans hHeld.1, HE2.out.below (hHeld.2.2.trans (bk _ xL1.2)), hHeld.2.2.trans (bk _ xL1.2)⟩
            have L2' := L2.keep (hk _ dL2L1)
            have PC' := (hk _ (Ne.symm dL1PC)).trans PC
            clear bk hk
            clear L1
            have L1 := L1'
            clear L1'
            clear L2
            have L2 := L2'
            clear L2'
            clear PC
            have PC := PC'
            clear PC'
            refine hK'.out _ _ hkn (fun _ => ?_)
            clear hK' K' hHeld
            have hHeld := hkn
            clear hkn
            try simp only [Act.put, List.setIfInBounds_toArray, List.set_cons_zero, List.set_cons_succ]
            refine wpAnyH_ready (rs := [46]) (by kernel_rfl) (by simp) ?_
            refine AllReadyH.cons (o := ⟨some 56, _, _, _, _, _⟩) rfl (fun K' hK' => ?_) AllReadyH.nil
            refine stepw_call (by rfl) ?_ (HC16.out _ _ _ _ hHeld L1 L2 PC) ?_
            focus go_simp
            rintro v wz ⟨rfl, hkn⟩
            refine hK'.out _ _ hkn (fun _ => ?_)
            clear hK' K' hHeld
            have hHeld := hkn
            clear hkn
            try simp only [Act.put, List.setIfInBounds_toArray, List.set_cons_zero, List.set_cons_succ]
            refine wpAnyH_listed (by kernel_rfl) (hT _ _ ⟨_, _, _, _, _, rfl, hHeld⟩)
      · refine stepw_mark (by rfl) (.tmp 53) rfl rfl L2 ?_
        intro wk1 L2' bk hk
        have hkn : Sw w X D wk1 := ⟨(hk _ xL2.1).trans hHeld.1, HE2.out.below (hHeld.2.2.trans (bk _ xL2.2)), hHeld.2.2.trans (bk _ xL2.2)⟩
        clear bk hk
        clear L2
        have L2 := L2'
        clear L2'
        refine hK'.out _ _ hkn (fun _ => ?_)
        clear hK' K' hHeld
        have hHeld := hkn
        clear hkn
        try simp only [Act.put, List.setIfInBounds_toArray, List.set_cons_zero, List.set_cons_succ]
        refine wpAnyH_ready (rs := [40, 45]) (by kernel_rfl) (by simp) ?_
        refine AllReadyH.cons (o := ⟨some 50, _, _, _, _, _⟩) rfl (fun K' hK' => ?_) (AllReadyH.cons (o := ⟨some 55, _, _, _, _, _⟩) rfl (fun K' hK' => ?_) AllReadyH.nil)
        · go_simp
          have hb : Below wk1.heap.size wk1 (wk1.alloc (.cells #[.int .u8 74, .int .u8 101, .int .u8 102, .int .u8 101] 5)) := (Below.refl _ _).alloc (Nat.le_refl _) _
          have hkn := hHeld.later hb
          have L2' := L2.later hb
          have L1 : LitAt (wk1.alloc (.cells #[.int .u8 74, .int .u8 101, .int .u8 102, .int .u8 101] 5)) wk1.heap.size KL := LitAt.new wk1 KL #[.int .u8 74, .int .u8 101, .int .u8 102, .int .u8 101] (by rw [HKL.out]; rfl)
          have xL1 : X ≠ wk1.heap.size ∧ w.heap.size ≤ wk1.heap.size := ⟨Nat.ne_of_lt hHeld.1.lt, hHeld.2.2.size⟩
          have dL2L1 : G2 ≠ wk1.heap.size := Nat.ne_of_lt L2.lt
          clear L2
          have L2 := L2'
          clear L2'
          clear hb
          generalize wk1.alloc (.cells #[.int .u8 74, .int .u8 101, .int .u8 102, .int .u8 101] 5) = wk2 at hkn L1 L2 ⊢
          obtain ⟨G1, hG1⟩ : ∃ x, x = wk1.heap.size := ⟨_, rfl⟩
          rw [← hG1] at L1 xL1 dL2L1 ⊢
          clear hG1
          refine hK'.out _ _ hkn (fun _ => ?_)
          clear hK' K' hHeld
          have hHeld := hkn
          clear hkn
          refine wpAnyH_ready (rs := [41, 45]) (by kernel_rfl) (by simp) ?_
          refine AllReadyH.cons (o := ⟨some 51, _, _, _, _, _⟩) rfl (fun K' hK' => ?_) (AllReadyH.cons (o := ⟨some 55, _, _, _, _, _⟩) rfl (fun K' hK' => ?_) AllReadyH.nil)
          · refine stepw_mark (by rfl) (.tmp 50) rfl rfl L1 ?_
            intro wk3 L1' bk hk
            have hkn : Sw w X D wk3 := ⟨(hk _ xL1.1).trans hHeld.1, HE2.out.below (hHeld.2.2.trans (bk _ xL1.2)), hHeld.2.2.trans (bk _ xL1.2)⟩
            have L2' := L2.keep (hk _ dL2L1)
            clear bk hk
            clear L1
            have L1 := L1'
            clear L1'
            clear L2
            have L2 := L2'
            clear L2'
            refine hK'.out _ _ hkn (fun _ => ?_)
            clear hK' K' hHeld
            have hHeld := hkn
            clear hkn
            try simp only [Act.put, List.setIfInBounds_toArray, List.set_cons_zero, List.set_cons_succ]
            refine wpAnyH_ready (rs := [45]) (by kernel_rfl) (by simp) ?_
            refine AllReadyH.cons (o := ⟨some 55, _, _, _, _, _⟩) rfl (fun K' hK' => ?_) AllReadyH.nil
            go_simp
            have hb : Below wk3.heap.size wk3 (wk3.alloc (.cells #[.slice (some ⟨G2, 0, none⟩) 28 28] 22)) := (Below.refl _ _).alloc (Nat.le_refl _) _
            have hkn := hHeld.later hb
            have L2' := L2.later hb
            have L1' := L1.later hb
            have PC : (wk3.alloc (.cells #[.slice (some ⟨G2, 0, none⟩) 28 28] 22)).heap[wk3.heap.size]? = some (.cells #[.slice (some ⟨G2, 0, none⟩) 28 28] 22 (0, 0)) := heap_alloc_new wk3 _
            have dL2PC : G2 ≠ wk3.heap.size := Nat.ne_of_lt L2.lt
            have dL1PC : G1 ≠ wk3.heap.size := Nat.ne_of_lt L1.lt
            clear L2
            have L2 := L2'
            clear L2'
            clear L1
            have L1 := L1'
            clear L1'
            clear hb
            generalize wk3.alloc (.cells #[.slice (some ⟨G2, 0, none⟩) 28 28] 22) = wk4 at hkn PC L2 L1 ⊢
            obtain ⟨GP, hGP⟩ : ∃ x, x = wk3.heap.size := ⟨_, rfl⟩
            rw [← hGP] at PC dL2PC dL1PC ⊢
            clear hGP
            refine hK'.out _ _ hkn (fun _ => ?_)
            clear hK' K' hHeld
            have hHeld := hkn
            clear hkn
            refine wpAnyH_ready (rs := [46]) (by kernel_rfl) (by simp) ?_
            refine AllReadyH.cons (o := ⟨some 56, _, _, _, _, _⟩) rfl (fun K' hK' => ?_) AllReadyH.nil
            refine stepw_call (by rfl) ?_ (HC16.out _ _ _ _ hHeld L1 L2 PC) ?_
            focus go_simp
            rintro v wz ⟨rfl, hkn⟩
            refine hK'.out _ _ hkn (fun _ => ?_)
            clear hK' K' hHeld
            have hHeld := hkn
            clear hkn
            try simp only [Act.put, List.setIfInBounds_toArray, List.set_cons_zero, List.set_cons_succ]
            refine wpAnyH_listed (by kernel_rfl) (hT _ _ ⟨_, _, _, _, _, rfl, hHeld⟩)
          · go_simp
            have hb : Below wk2.heap.size wk2 (wk2.alloc (.cells #[.slice (some ⟨G2, 0, none⟩) 28 28] 22)) := (Below.refl _ _).alloc (Nat.le_refl _) _
            have hkn := hHeld.later hb
            have L2' := L2.later hb
            have L1' := L1.later hb
            have PC : (wk2.alloc (.cells #[.slice (some ⟨G2, 0, none⟩) 28 28] 22)).heap[wk2.heap.size]? = some (.cells #[.slice (some ⟨G2, 0, none⟩) 28 28] 22 (0, 0)) := heap_alloc_new wk2 _
            have dL2PC : G2 ≠ wk2.heap.size := Nat.ne_of_lt L2.lt
            have dL1PC : G1 ≠ wk2.heap.size := Nat.ne_of_lt L1.lt
            clear L2
            have L2 := L2'
            clear L2'
            clear L1
            have L1 := L1'
            clear L1'
            clear hb
            generalize wk2.alloc (.cells #[.slice (some ⟨G2, 0, none⟩) 28 28] 22) = wk3 at hkn PC L2 L1 ⊢
            obtain ⟨GP, hGP⟩ : ∃ x, x = wk2.heap.size := ⟨_, rfl⟩
            rw [← hGP] at PC dL2PC dL1PC ⊢
            clear hGP
            refine hK'.out _ _ hkn (fun _ => ?_)
            clear hK' K' hHeld
            have hHeld := hkn
            clear hkn
            refine wpAnyH_ready (rs := [41]) (by kernel_rfl) (by simp) ?_
            refine AllReadyH.cons (o := ⟨some 51, _, _, _, _, _⟩) rfl (fun K' hK' => ?_) AllReadyH.nil
            refine stepw_mark (by rfl) (.tmp 50) rfl rfl L1 ?_
            intro wk4 L1' bk hk
            have hkn : Sw w X D wk4 := ⟨(hk _ xL1.1).trans hHeld.1, HE2.out.below (hHeld.2.2.trans (bk _ xL1.2)), hHeld.2.2.trans (bk _ xL1.2)⟩
            have L2' := L2.keep (hk _ dL2L1)
            have PC' := (hk _ (Ne.symm dL1PC)).trans PC
            clear bk hk
            clear L1
            have L1 := L1'
            clear L1'
            clear L2
            have L2 := L2'
            clear L2'
            clear PC
            have PC := PC'
            clear PC'
            refine hK'.out _ _ hkn (fun _ => ?_)
            clear hK' K' hHeld
            have hHeld := hkn
            clear hkn
            try simp only [Act.put, List.setIfInBounds_toArray, List.set_cons_zero, List.set_cons_succ]
            refine wpAnyH_ready (rs := [46]) (by kernel_rfl) (by simp) ?_
            refine AllReadyH.cons (o := ⟨some 56, _, _, _, _, _⟩) rfl (fun K' hK' => ?_) AllReadyH.nil
            refine stepw_call (by rfl) ?_ (HC16.out _ _ _ _ hHeld L1 L2 PC) ?_
            focus go_simp
            rintro v wz ⟨rfl, hkn⟩
            refine hK'.out _ _ hkn (fun _ => ?_)
            clear hK' K' hHeld
            have hHeld := hkn
            clear hkn
            try simp only [Act.put, List.setIfInBounds_toArray, List.set_cons_zero, List.set_cons_succ]
            refine wpAnyH_listed (by kernel_rfl) (hT _ _ ⟨_, _, _, _, _, rfl, hHeld⟩)
        · go_simp
          have hb : Below wk1.heap.size wk1 (wk1.alloc (.cells #[.slice (some ⟨G2, 0, none⟩) 28 28] 22)) := (Below.refl _ _).alloc (Nat.le_refl _) _
          have hkn := hHeld.later hb
          have L2' := L2.later hb
          have PC : (wk1.alloc (.cells #[.slice (some ⟨G2, 0, none⟩) 28 28] 22)).heap[wk1.heap.size]? = some (.cells #[.slice (some ⟨G2, 0, none⟩) 28 28] 22 (0, 0)) := heap_alloc_new wk1 _
          have dL2PC : G2 ≠ wk1.heap.size := Nat.ne_of_lt L2.lt
          clear L2
          have L2 := L2'
          clear L2'
          clear hb
          generalize wk1.alloc (.cells #[.slice (some ⟨G2, 0, none⟩) 28 28] 22) = wk2 at hkn PC L2 ⊢
          obtain ⟨GP, hGP⟩ : ∃ x, x = wk1.heap.size := ⟨_, rfl⟩
          rw [← hGP] at PC dL2PC ⊢
          clear hGP
          refine hK'.out _ _ hkn (fun _ => ?_)
          clear hK' K' hHeld
          have hHeld := hkn
          clear hkn
          refine wpAnyH_ready (rs := [40]) (by kernel_rfl) (by simp) ?_
          refine AllReadyH.cons (o := ⟨some 50, _, _, _, _, _⟩) rfl (fun K' hK' => ?_) AllReadyH.nil
          go_simp
          have hb : Below wk2.heap.size wk2 (wk2.alloc (.cells #[.int .u8 74, .int .u8 101, .int .u8 102, .int .u8 101] 5)) := (Below.refl _ _).alloc (Nat.le_refl _) _
          have hkn := hHeld.later hb
          have L2' := L2.later hb
          have PC' := (hb.block _ (Array.getElem?_eq_some_iff.1 PC).1).trans PC
          have L1 : LitAt (wk2.alloc (.cells #[.int .u8 74, .int .u8 101, .int .u8 102, .int .u8 101] 5)) wk2.heap.size KL := LitAt.new wk2 KL #[.int .u8 74, .int .u8 101, .int .u8 102, .int .u8 101] (by rw [HKL.out]; rfl)
          have xL1 : X ≠ wk2.heap.size ∧ w.heap.size ≤ wk2.heap.size := ⟨Nat.ne_of_lt hHeld.1.lt, hHeld.2.2.size⟩
          have dL2L1 : G2 ≠ wk2.heap.size := Nat.ne_of_lt L2.lt
          have dPCL1 : GP ≠ wk2.heap.size := Nat.ne_of_lt (Array.getElem?_eq_some_iff.1 PC).1
          clear L2
          have L2 := L2'
          clear L2'
          clear PC
          have PC := PC'
          clear PC'
          clear hb
          generalize wk2.alloc (.cells #[.int .u8 74, .int .u8 101, .int .u8 102, .int .u8 101] 5) = wk3 at hkn L1 L2 PC ⊢
          obtain ⟨G1, hG1⟩ : ∃ x, x = wk2.heap.size := ⟨_, rfl⟩
          rw [← hG1] at L1 xL1 dL2L1 dPCL1 ⊢
          clear hG1
          refine hK'.out _ _ hkn (fun _ => ?_)
          clear hK' K' hHeld
          have hHeld := hkn
          clear hkn
          refine wpAnyH_ready (rs := [41]) (by kernel_rfl) (by simp) ?_
          refine AllReadyH.cons (o := ⟨some 51, _, _, _, _, _⟩) rfl (fun K' hK' => ?_) AllReadyH.nil
          refine stepw_mark (by rfl) (.tmp 50) rfl rfl L1 ?_
          intro wk4 L1' bk hk
          have hkn : Sw w X D wk4 := ⟨(hk _ xL1.1).trans hHeld.1, HE2.out.below (hHeld.2.2.trans (bk _ xL1.2)), hHeld.2.2.trans (bk _ xL1.2)⟩
          have L2' := L2.keep (hk _ dL2L1)
          have PC' := (hk _ dPCL1).trans PC
          clear bk hk
          clear L1
          have L1 := L1'
          clear L1'
          clear L2
          have L2 := L2'
          clear L2'
          clear PC
          have PC := PC'
          clear PC'
          refine hK'.out _ _ hkn (fun _ => ?_)
          clear hK' K' hHeld
          have hHeld := hkn
          clear hkn
          try simp only [Act.put, List.setIfInBounds_toArray, List.set_cons_zero, List.set_cons_succ]
          refine wpAnyH_ready (rs := [46]) (by kernel_rfl) (by simp) ?_
          refine AllReadyH.cons (o := ⟨some 56, _, _, _, _, _⟩) rfl (fun K' hK' => ?_) AllReadyH.nil
          refine stepw_call (by rfl) ?_ (HC16.out _ _ _ _ hHeld L1 L2 PC) ?_
          focus go_simp
          rintro v wz ⟨rfl, hkn⟩
          refine hK'.out _ _ hkn (fun _ => ?_)
          clear hK' K' hHeld
          have hHeld := hkn
          clear hkn
          try simp only [Act.put, List.setIfInBounds_toArray, List.set_cons_zero, List.set_cons_succ]
          refine wpAnyH_listed (by kernel_rfl) (hT _ _ ⟨_, _, _, _, _, rfl, hHeld⟩)
  · obtain ⟨u50, u51, u53, u54, u55, rfl, hHeld⟩ := hF
    try simp only [Act.put, List.setIfInBounds_toArray, List.set_cons_zero, List.set_cons_succ]
    refine wpAnyH_take (i := 47) (oi := ⟨some 57, _, _, _, _, _⟩) (v := .bool true) rfl (by kernel_rfl) (by kernel_rfl) (by kernel_rfl) (fun _ _ _ h => h) (.inl ⟨by rfl, fun w' hSw => ?_⟩) hHeld ?_
    focus (obtain ⟨c0, c1, c2, c3⟩ := HCELL.out w' hSw; clear hHeld; go_simp)
    try simp only [Act.put, List.setIfInBounds_toArray, List.set_cons_zero, List.set_cons_succ]
    refine wpAnyH_take (i := 48) (oi := ⟨some 58, _, _, _, _, _⟩) (v := .bool true) rfl (by kernel_rfl) (by kernel_rfl) (by kernel_rfl) (fun _ _ _ h => h) (.inl ⟨by rfl, fun w' hSw => ?_⟩) hHeld ?_
    focus (obtain ⟨c0, c1, c2, c3⟩ := HCELL.out w' hSw; clear hHeld; go_simp)
    try simp only [Act.put, List.setIfInBounds_toArray, List.set_cons_zero, List.set_cons_succ]
    refine wpAnyH_take (i := 51) (oi := ⟨some 61, _, _, _, _, _⟩) (v := .slice (some ⟨X, 0, none⟩) 15 32) rfl (by kernel_rfl) (by kernel_rfl) (by kernel_rfl) (fun _ _ _ h => h) (.inl ⟨by rfl, fun w' hSw => ?_⟩) hHeld ?_
    focus (obtain ⟨c0, c1, c2, c3⟩ := HCELL.out w' hSw; clear hHeld; go_simp)
    try simp only [Act.put, List.setIfInBounds_toArray, List.set_cons_zero, List.set_cons_succ]
    refine wpAnyH_ready (rs := [49, 52]) (by kernel_rfl) (by simp) ?_
    refine AllReadyH.cons (o := ⟨some 59, _, _, _, _, _⟩) rfl (fun K' hK' => ?_) (AllReadyH.cons (o := ⟨some 62, _, _, _, _, _⟩) rfl (fun K' hK' => ?_) AllReadyH.nil)
    · go_simp
      have hb : Below w'.heap.size w' (w'.alloc (.cells #[.int .u8 74, .int .u8 101, .int .u8 102, .int .u8 101] 5)) := (Below.refl _ _).alloc (Nat.le_refl _) _
      have hkn := hHeld.later hb
      have L1 : LitAt (w'.alloc (.cells #[.int .u8 74, .int .u8 101, .int .u8 102, .int .u8 101] 5)) w'.heap.size KL := LitAt.new w' KL #[.int .u8 74, .int .u8 101, .int .u8 102, .int .u8 101] (by rw [HKL.out]; rfl)
      have xL1 : X ≠ w'.heap.size ∧ w.heap.size ≤ w'.heap.size := ⟨Nat.ne_of_lt hHeld.1.lt, hHeld.2.2.size⟩
      clear hb
      generalize w'.alloc (.cells #[.int .u8 74, .int .u8 101, .int .u8 102, .int .u8 101] 5) = wk0 at hkn L1 ⊢
      obtain ⟨G1, hG1⟩ : ∃ x, x = w'.heap.size := ⟨_, rfl⟩
      rw [← hG1] at L1 xL1 ⊢
      clear hG1
      refine hK'.out _ _ hkn (fun _ => ?_)
      clear hK' K' hHeld
      have hHeld := hkn
      clear hkn
      refine wpAnyH_ready (rs := [50, 52]) (by kernel_rfl) (by simp) ?_
      refine AllReadyH.cons (o := ⟨some 60, _, _, _, _, _⟩) rfl (fun K' hK' => ?_) (AllReadyH.cons (o := ⟨some 62, _, _, _, _, _⟩) rfl (fun K' hK' => ?_) AllReadyH.nil)
      · refine stepw_mark (by rfl) (.tmp 59) rfl rfl L1 ?_
        intro wk1 L1' bk hk
        have hkn : Sw w X D wk1 := ⟨(hk _ xL1.1).trans hHeld.1, HE2.out.below (hHeld.2.2.trans (bk _ xL1.2)), hHeld.2.2.trans (bk _ xL1.2)⟩
        clear bk hk
        clear L1
        have L1 := L1'
        clear L1'
        refine hK'.out _ _ hkn (fun _ => ?_)
        clear hK' K' hHeld
        have hHeld := hkn
        clear hkn
        try simp only [Act.put, List.setIfInBounds_toArray, List.set_cons_zero, List.set_cons_succ]
        refine wpAnyH_ready (rs := [52]) (by kernel_rfl) (by simp) ?_
        refine AllReadyH.cons (o := ⟨some 62, _, _, _, _, _⟩) rfl (fun K' hK' => ?_) AllReadyH.nil
        go_simp
        have hb : Below wk1.heap.size wk1 (wk1.alloc (.cells #[.int .u8 119, .int .u8 104, .int .u8 97, .int .u8 116, .int .u8 32, .int .u8 100, .int .u8 111, .int .u8 32, .int .u8 121, .int .u8 97, .int .u8 32, .int .u8 119, .int .u8 97, .int .u8 110, .int .u8 116, .int .u8 32, .int .u8 102, .int .u8 111, .int .u8 114, .int .u8 32, .int .u8 110, .int .u8 111, .int .u8 116, .int .u8 104, .int .u8 105, .int .u8 110, .int .u8 103, .int .u8 63] 5)) := (Below.refl _ _).alloc (Nat.le_refl _) _
        have hkn := hHeld.later hb
        have L1' := L1.later hb
        have L2 : LitAt (wk1.alloc (.cells #[.int .u8 119, .int .u8 104, .int .u8 97, .int .u8 116, .int .u8 32, .int .u8 100, .int .u8 111, .int .u8 32, .int .u8 121, .int .u8 97, .int .u8 32, .int .u8 119, .int .u8 97, .int .u8 110, .int .u8 116, .int .u8 32, .int .u8 102, .int .u8 111, .int .u8 114, .int .u8 32, .int .u8 110, .int .u8 111, .int .u8 116, .int .u8 104, .int .u8 105, .int .u8 110, .int .u8 103, .int .u8 63] 5)) wk1.heap.size MM := LitAt.new wk1 MM #[.int .u8 119, .int .u8 104, .int .u8 97, .int .u8 116, .int .u8 32, .int .u8 100, .int .u8 111, .int .u8 32, .int .u8 121, .int .u8 97, .int .u8 32, .int .u8 119, .int .u8 97, .int .u8 110, .int .u8 116, .int .u8 32, .int .u8 102, .int .u8 111, .int .u8 114, .int .u8 32, .int .u8 110, .int .u8 111, .int .u8 116, .int .u8 104, .int .u8 105, .int .u8 110, .int .u8 103, .int .u8 63] (by rw [HMM.out]; rfl)
        have xL2 : X ≠ wk1.heap.size ∧ w.heap.size ≤ wk1.heap.size := ⟨Nat.ne_of_lt hHeld.1.lt, hHeld.2.2.size⟩
        have dL1L2 : G1 ≠ wk1.heap.size := Nat.ne_of_lt L1.lt
        clear L1
        have L1 := L1'
        clear L1'
        clear hb
        generalize wk1.alloc (.cells #[.int .u8 119, .int .u8 104, .int .u8 97, .int .u8 116, .int .u8 32, .int .u8 100, .int .u8 111, .int .u8 32, .int .u8 121, .int .u8 97, .int .u8 32, .int .u8 119, .int .u8 97, .int .u8 110, .int .u8 116, .int .u8 32, .int .u8 102, .int .u8 111, .int .u8 114, .int .u8 32, .int .u8 110, .int .u8 111, .int .u8 116, .int .u8 104, .int .u8 105, .int .u8 110, .int .u8 103, .int .u8 63] 5) = wk2 at hkn L2 L1 ⊢
        obtain ⟨G2, hG2⟩ : ∃ x, x = wk1.heap.size := ⟨_, rfl⟩
        rw [← hG2] at L2 xL2 dL1L2 ⊢
        clear hG2
        refine hK'.out _ _ hkn (fun _ => ?_)
        clear hK' K' hHeld
        have hHeld := hkn
        clear hkn
        refine wpAnyH_ready (rs := [53]) (by kernel_rfl) (by simp) ?_
        refine AllReadyH.cons (o := ⟨some 63, _, _, _, _, _⟩) rfl (fun K' hK' => ?_) AllReadyH.nil
        refine stepw_mark (by rfl) (.tmp 62) rfl rfl L2 ?_
        intro wk3 L2' bk hk
        have hkn : Sw w X D wk3 := ⟨(hk _ xL2.1).trans hHeld.1, HE2.out.below (hHeld.2.2.trans (bk _ xL2.2)), hHeld.2.2.trans (bk _ xL2.2)⟩
        have L1' := L1.keep (hk _ dL1L2)
        clear bk hk
        clear L2
        have L2 := L2'
        clear L2'
        clear L1
        have L1 := L1'
        clear L1'
        refine hK'.out _ _ hkn (fun _ => ?_)
        clear hK' K' hHeld
        have hHeld := hkn
        clear hkn
        try simp only [Act.put, List.setIfInBounds_toArray, List.set_cons_zero, List.set_cons_succ]
        refine wpAnyH_ready (rs := [54]) (by kernel_rfl) (by simp) ?_
        refine AllReadyH.cons (o := ⟨some 64, _, _, _, _, _⟩) rfl (fun K' hK' => ?_) AllReadyH.nil
        go_simp
        have hb : Below wk3.heap.size wk3 (wk3.alloc (.cells #[.slice (some ⟨G2, 0, none⟩) 28 28] 22)) := (Below.refl _ _).alloc (Nat.le_refl _) _
        have hkn := hHeld.later hb
        have L1' := L1.later hb
        have L2' := L2.later hb
        have PC : (wk3.alloc (.cells #[.slice (some ⟨G2, 0, none⟩) 28 28] 22)).heap[wk3.heap.size]? = some (.cells #[.slice (some ⟨G2, 0, none⟩) 28 28] 22 (0, 0)) := heap_alloc_new wk3 _
        have dL1PC : G1 ≠ wk3.heap.size := Nat.ne_of_lt L1.lt
        have dL2PC : G2 ≠ wk3.heap.size := Nat.ne_of_lt L2.lt
        clear L1
        have L1 := L1'
        clear L1'
        clear L2
        have L2 := L2'
        clear L2'
        clear hb
        generalize wk3.alloc (.cells #[.slice (some ⟨G2, 0, none⟩) 28 28] 22) = wk4 at hkn PC L1 L2 ⊢
        obtain ⟨GP, hGP⟩ : ∃ x, x = wk3.heap.size := ⟨_, rfl⟩
        rw [← hGP] at PC dL1PC dL2PC ⊢
        clear hGP
        refine hK'.out _ _ hkn (fun _ => ?_)
        clear hK' K' hHeld
        have hHeld := hkn
        clear hkn
        refine wpAnyH_ready (rs := [55]) (by kernel_rfl) (by simp) ?_
        refine AllReadyH.cons (o := ⟨some 65, _, _, _, _, _⟩) rfl (fun K' hK' => ?_) AllReadyH.nil
        refine stepw_call (by rfl) ?_ (HC15.out _ _ _ _ hHeld L1 L2 PC) ?_
        focus go_simp
        rintro v wz ⟨rfl, hkn⟩
        refine hK'.out _ _ hkn (fun _ => ?_)
        clear hK' K' hHeld
        have hHeld := hkn
        clear hkn
        try simp only [Act.put, List.setIfInBounds_toArray, List.set_cons_zero, List.set_cons_succ]
        refine wpAnyH_take (i := 56) (oi := ⟨some 66, _, _, _, _, _⟩) (v := .bool true) rfl (by kernel_rfl) (by kernel_rfl) (by kernel_rfl) (fun _ _ _ h => h) (.inl ⟨by rfl, fun w' hSw => ?_⟩) hHeld ?_
        focus (obtain ⟨c0, c1, c2, c3⟩ := HCELL.out w' hSw; clear hHeld; go_simp)
        try simp only [Act.put, List.setIfInBounds_toArray, List.set_cons_zero, List.set_cons_succ]
        refine wpAnyH_take (i := 57) (oi := ⟨some 67, _, _, _, _, _⟩) (v := .bool true) rfl (by kernel_rfl) (by kernel_rfl) (by kernel_rfl) (fun _ _ _ h => h) (.inl ⟨by rfl, fun w' hSw => ?_⟩) hHeld ?_
        focus (obtain ⟨c0, c1, c2, c3⟩ := HCELL.out w' hSw; clear hHeld; go_simp)
        try simp only [Act.put, List.setIfInBounds_toArray, List.set_cons_zero, List.set_cons_succ]
        refine wpAnyH_take (i := 58) (oi := ⟨some 0, _, _, _, _, _⟩) (v := .bool true) rfl (by kernel_rfl) (by kernel_rfl) (by kernel_rfl) (fun _ _ _ h => h) (.inl ⟨by rfl, fun w' hSw => ?_⟩) hHeld ?_
        focus (obtain ⟨c0, c1, c2, c3⟩ := HCELL.out w' hSw; clear hHeld; go_simp)
        try simp only [Act.put, List.setIfInBounds_toArray, List.set_cons_zero, List.set_cons_succ]
        refine wpAnyH_done (by kernel_rfl) ?_ _
        refine NoPanic.normal ?_
        have HBZ := Lib.hid hHeld.2.2
        clear hHeld
        go_wp2_with fail
        go_ret
        exact ⟨rfl, HBZ.out⟩
      · go_simp
        have hb : Below wk0.heap.size wk0 (wk0.alloc (.cells #[.int .u8 119, .int .u8 104, .int .u8 97, .int .u8 116, .int .u8 32, .int .u8 100, .int .u8 111, .int .u8 32, .int .u8 121, .int .u8 97, .int .u8 32, .int .u8 119, .int .u8 97, .int .u8 110, .int .u8 116, .int .u8 32, .int .u8 102, .int .u8 111, .int .u8 114, .int .u8 32, .int .u8 110, .int .u8 111, .int .u8 116, .int .u8 104, .int .u8 105, .int .u8 110, .int .u8 103, .int .u8 63] 5)) := (Below.refl _ _).alloc (Nat.le_refl _) _
        have hkn := hHeld.later hb
        have L1' := L1.later hb
        have L2 : LitAt (wk0.alloc (.cells #[.int .u8 119, .int .u8 104, .int .u8 97, .int .u8 116, .int .u8 32, .int .u8 100, .int .u8 111, .int .u8 32, .int .u8 121, .int .u8 97, .int .u8 32, .int .u8 119, .int .u8 97, .int .u8 110, .int .u8 116, .int .u8 32, .int .u8 102, .int .u8 111, .int .u8 114, .int .u8 32, .int .u8 110, .int .u8 111, .int .u8 116, .int .u8 104, .int .u8 105, .int .u8 110, .int .u8 103, .int .u8 63] 5)) wk0.heap.size MM := LitAt.new wk0 MM #[.int .u8 119, .int .u8 104, .int .u8 97, .int .u8 116, .int .u8 32, .int .u8 100, .int .u8 111, .int .u8 32, .int .u8 121, .int .u8 97, .int .u8 32, .int .u8 119, .int .u8 97, .int .u8 110, .int .u8 116, .int .u8 32, .int .u8 102, .int .u8 111, .int .u8 114, .int .u8 32, .int .u8 110, .int .u8 111, .int .u8 116, .int .u8 104, .int .u8 105, .int .u8 110, .int .u8 103, .int .u8 63] (by rw [HMM.out]; rfl)
        have xL2 : X ≠ wk0.heap.size ∧ w.heap.size ≤ wk0.heap.size := ⟨Nat.ne_of_lt hHeld.1.lt, hHeld.2.2.size⟩
        have dL1L2 : G1 ≠ wk0.heap.size := Nat.ne_of_lt L1.lt
        clear L1
        have L1 := L1'
        clear L1'
        clear hb
        generalize wk0.alloc (.cells #[.int .u8 119, .int .u8 104, .int .u8 97, .int .u8 116, .int .u8 32, .int .u8 100, .int .u8 111, .int .u8 32, .int .u8 121, .int .u8 97, .int .u8 32, .int .u8 119, .int .u8 97, .int .u8 110, .int .u8 116, .int .u8 32, .int .u8 102, .int .u8 111, .int .u8 114, .int .u8 32, .int .u8 110, .int .u8 111, .int .u8 116, .int .u8 104, .int .u8 105, .int .u8 110, .int .u8 103, .int .u8 63] 5) = wk1 at hkn L2 L1 ⊢
        obtain ⟨G2, hG2⟩ : ∃ x, x = wk0.heap.size := ⟨_, rfl⟩
        rw [← hG2] at L2 xL2 dL1L2 ⊢
        clear hG2
        refine hK'.out _ _ hkn (fun _ => ?_)
        clear hK' K' hHeld
        have hHeld := hkn
        clear hkn
        refine wpAnyH_ready (rs := [50, 53]) (by kernel_rfl) (by simp) ?_
        refine AllReadyH.cons (o := ⟨some 60, _, _, _, _, _⟩) rfl (fun K' hK' => ?_) (AllReadyH.cons (o := ⟨some 63, _, _, _, _, _⟩) rfl (fun K' hK' => ?_) AllReadyH.nil)
        · refine stepw_mark (by rfl) (.tmp 59) rfl rfl L1 ?_
          intro wk2 L1' bk hk
          have hkn : Sw w X D wk2 := ⟨(hk _ xL1.1).trans hHeld.1, HE2.out.below (hHeld.2.2.trans (bk _ xL1.2)), hHeld.2.2.trans (bk _ xL1.2)⟩
          have L2' := L2.keep (hk _ (Ne.symm dL1L2))
          clear bk hk
          clear L1
          have L1 := L1'
          clear L1'
          clear L2
          have L2 := L2'
          clear L2'
          refine hK'.out _ _ hkn (fun _ => ?_)
          clear hK' K' hHeld
          have hHeld := hkn
          clear hkn
          try simp only [Act.put, List.setIfInBounds_toArray, List.set_cons_zero, List.set_cons_succ]
          refine wpAnyH_ready (rs := [53]) (by kernel_rfl) (by simp) ?_
          refine AllReadyH.cons (o := ⟨some 63, _, _, _, _, _⟩) rfl (fun K' hK' => ?_) AllReadyH.nil
          refine stepw_mark (by rfl) (.tmp 62) rfl rfl L2 ?_
          intro wk3 L2' bk hk
          have hkn : Sw w X D wk3 := ⟨(hk _ xL2.1).trans hHeld.1, HE2.out.below (hHeld.2.2.trans (bk _ xL2.2)), hHeld.2.2.trans (bk _ xL2.2)⟩
          have L1' := L1.keep (hk _ dL1L2)
          clear bk hk
          clear L2
          have L2 := L2'
          clear L2'
          clear L1
          have L1 := L1'
          clear L1'
          refine hK'.out _ _ hkn (fun _ => ?_)
          clear hK' K' hHeld
          have hHeld := hkn
          clear hkn
          try simp only [Act.put, List.setIfInBounds_toArray, List.set_cons_zero, List.set_cons_succ]
          refine wpAnyH_ready (rs := [54]) (by kernel_rfl) (by simp) ?_
          refine AllReadyH.cons (o := ⟨some 64, _, _, _, _, _⟩) rfl (fun K' hK' => ?_) AllReadyH.nil
          go_simp
          have hb : Below wk3.heap.size wk3 (wk3.alloc (.cells #[.slice (some ⟨G2, 0, none⟩) 28 28] 22)) := (Below.refl _ _).alloc (Nat.le_refl _) _
          have hkn := hHeld.later hb
          have L1' := L1.later hb
          have L2' := L2.later hb
          have PC : (wk3.alloc (.cells #[.slice (some ⟨G2, 0, none⟩) 28 28] 22)).heap[wk3.heap.size]? = some (.cells #[.slice (some ⟨G2, 0, none⟩) 28 28] 22 (0, 0)) := heap_alloc_new wk3 _
          have dL1PC : G1 ≠ wk3.heap.size := Nat.ne_of_lt L1.lt
          have dL2PC : G2 ≠ wk3.heap.size := Nat.ne_of_lt L2.lt
          clear L1
          have L1 := L1'
          clear L1'
          clear L2
          have L2 := L2'
          clear L2'
          clear hb
          generalize wk3.alloc (.cells #[.slice (some ⟨G2, 0, none⟩) 28 28] 22) = wk4 at hkn PC L1 L2 ⊢
          obtain ⟨GP, hGP⟩ : ∃ x, x = wk3.heap.size := ⟨_, rfl⟩
          rw [← hGP] at PC dL1PC dL2PC ⊢
          clear hGP
          refine hK'.out _ _ hkn (fun _ => ?_)
          clear hK' K' hHeld
          have hHeld := hkn
          clear hkn
          refine wpAnyH_ready (rs := [55]) (by kernel_rfl) (by simp) ?_
          refine AllReadyH.cons (o := ⟨some 65, _, _, _, _, _⟩) rfl (fun K' hK' => ?_) AllReadyH.nil
          refine stepw_call (by rfl) ?_ (HC15.out _ _ _ _ hHeld L1 L2 PC) ?_
          focus go_simp
          rintro v wz ⟨rfl, hkn⟩
          refine hK'.out _ _ hkn (fun _ => ?_)
          clear hK' K' hHeld
          have hHeld := hkn
          clear hkn
          try simp only [Act.put, List.setIfInBounds_toArray, List.set_cons_zero, List.set_cons_succ]
          refine wpAnyH_take (i := 56) (oi := ⟨some 66, _, _, _, _, _⟩) (v := .bool true) rfl (by kernel_rfl) (by kernel_rfl) (by kernel_rfl) (fun _ _ _ h => h) (.inl ⟨by rfl, fun w' hSw => ?_⟩) hHeld ?_
          focus (obtain ⟨c0, c1, c2, c3⟩ := HCELL.out w' hSw; clear hHeld; go_simp)
          try simp only [Act.put, List.setIfInBounds_toArray, List.set_cons_zero, List.set_cons_succ]
          refine wpAnyH_take (i := 57) (oi := ⟨some 67, _, _, _, _, _⟩) (v := .bool true) rfl (by kernel_rfl) (by kernel_rfl) (by kernel_rfl) (fun _ _ _ h => h) (.inl ⟨by rfl, fun w' hSw => ?_⟩) hHeld ?_
          focus (obtain ⟨c0, c1, c2, c3⟩ := HCELL.out w' hSw; clear hHeld; go_simp)
          try simp only [Act.put, List.setIfInBounds_toArray, List.set_cons_zero, List.set_cons_succ]
          refine wpAnyH_take (i := 58) (oi := ⟨some 0, _, _, _, _, _⟩) (v := .bool true) rfl (by kernel_rfl) (by kernel_rfl) (by kernel_rfl) (fun _ _ _ h => h) (.inl ⟨by rfl, fun w' hSw => ?_⟩) hHeld ?_
          focus (obtain ⟨c0, c1, c2, c3⟩ := HCELL.out w' hSw; clear hHeld; go_simp)
          try simp only [Act.put, List.setIfInBounds_toArray, List.set_cons_zero, List.set_cons_succ]
          refine wpAnyH_done (by kernel_rfl) ?_ _
          refine NoPanic.normal ?_
          have HBZ := Lib.hid hHeld.2.2
          clear hHeld
          go_wp2_with fail
          go_ret
          exact ⟨rfl, HBZ.out⟩
        · refine stepw_mark (by rfl) (.tmp 62) rfl rfl L2 ?_
          intro wk2 L2' bk hk
          have hkn : Sw w X D wk2 := ⟨(hk _ xL2.1).trans hHeld.1, HE2.out.below (hHeld.2.2.trans (bk _ xL2.2)), hHeld.2.2.trans (bk _ xL2.2)⟩
          have L1' := L1.keep (hk _ dL1L2)
          clear bk hk
          clear L2
          have L2 := L2'
          clear L2'
          clear L1
          have L1 := L1'
          clear L1'
          refine hK'.out _ _ hkn (fun _ => ?_)
          clear hK' K' hHeld
          have hHeld := hkn
          clear hkn
          try simp only [Act.put, List.setIfInBounds_toArray, List.set_cons_zero, List.set_cons_succ]
          refine wpAnyH_ready (rs := [50, 54]) (by kernel_rfl) (by simp) ?_
          refine AllReadyH.cons (o := ⟨some 60, _, _, _, _, _⟩) rfl (fun K' hK' => ?_) (AllReadyH.cons (o := ⟨some 64, _, _, _, _, _⟩) rfl (fun K' hK' => ?_) AllReadyH.nil)
          · refine stepw_mark (by rfl) (.tmp 59) rfl rfl L1 ?_
            intro wk3 L1' bk hk
            have hkn : Sw w X D wk3 := ⟨(hk _ xL1.1).trans hHeld.1, HE2.out.below (hHeld.2.2.trans (bk _ xL1.2)), hHeld.2.2.trans (bk _ xL1.2)⟩
            have L2' := L2.keep (hk _ (Ne.symm dL1L2))
            clear bk hk
            clear L1
            have L1 := L1'
            clear L1'
            clear L2
            have L2 := L2'
            clear L2'
            refine hK'.out _ _ hkn (fun _ => ?_)
            clear hK' K' hHeld
            have hHeld := hkn
            clear hkn
            try simp only [Act.put, List.setIfInBounds_toArray, List.set_cons_zero, List.set_cons_succ]
            refine wpAnyH_ready (rs := [54]) (by kernel_rfl) (by simp) ?_
            refine AllReadyH.cons (o := ⟨some 64, _, _, _, _, _⟩) rfl (fun K' hK' => ?_) AllReadyH.nil
            go_simp
            have hb : Below wk3.heap.size wk3 (wk3.alloc (.cells #[.slice (some ⟨G2, 0, none⟩) 28 28] 22)) := (Below.refl _ _).alloc (Nat.le_refl _) _
            have hkn := hHeld.later hb
            have L1' := L1.later hb
            have L2' := L2.later hb
            have PC : (wk3.alloc (.cells #[.slice (some ⟨G2, 0, none⟩) 28 28] 22)).heap[wk3.heap.size]? = some (.cells #[.slice (some ⟨G2, 0, none⟩) 28 28] 22 (0, 0)) := heap_alloc_new wk3 _
            have dL1PC : G1 ≠ wk3.heap.size := Nat.ne_of_lt L1.lt
            have dL2PC : G2 ≠ wk3.heap.size := Nat.ne_of_lt L2.lt
            clear L1
            have L1 := L1'
            clear L1'
            clear L2
            have L2 := L2'
            clear L2'
            clear hb
            generalize wk3.alloc (.cells #[.slice (some ⟨G2, 0, none⟩) 28 28] 22) = wk4 at hkn PC L1 L2 ⊢
            obtain ⟨GP, hGP⟩ : ∃ x, x = wk3.heap.size := ⟨_, rfl⟩
            rw [← hGP] at PC dL1PC dL2PC ⊢
            clear hGP
            refine hK'.out _ _ hkn (fun _ => ?_)
            clear hK' K' hHeld
            have hHeld := hkn
            clear hkn
            refine wpAnyH_ready (rs := [55]) (by kernel_rfl) (by simp) ?_
            refine AllReadyH.cons (o := ⟨some 65, _, _, _, _, _⟩) rfl (fun K' hK' => ?_) AllReadyH.nil
            refine stepw_call (by rfl) ?_ (HC15.out _ _ _ _ hHeld L1 L2 PC) ?_
            focus go_simp
            rintro v wz ⟨rfl, hkn⟩
            refine hK'.out _ _ hkn (fun _ => ?_)
            clear hK' K' hHeld
            have hHeld := hkn
            clear hkn
            try simp only [Act.put, List.setIfInBounds_toArray, List.set_cons_zero, List.set_cons_succ]
            refine wpAnyH_take (i := 56) (oi := ⟨some 66, _, _, _, _, _⟩) (v := .bool true) rfl (by kernel_rfl) (by kernel_rfl) (by kernel_rfl) (fun _ _ _ h => h) (.inl ⟨by rfl, fun w' hSw => ?_⟩) hHeld ?_
            focus (obtain ⟨c0, c1, c2, c3⟩ := HCELL.out w' hSw; clear hHeld; go_simp)
            try simp only [Act.put, List.setIfInBounds_toArray, List.set_cons_zero, List.set_cons_succ]
            refine wpAnyH_take (i := 57) (oi := ⟨some 67, _, _, _, _, _⟩) (v := .bool true) rfl (by kernel_rfl) (by kernel_rfl) (by kernel_rfl) (fun _ _ _ h => h) (.inl ⟨by rfl, fun w' hSw => ?_⟩) hHeld ?_
            focus (obtain ⟨c0, c1, c2, c3⟩ := HCELL.out w' hSw; clear hHeld; go_simp)
            try simp only [Act.put, List.setIfInBounds_toArray, List.set_cons_zero, List.set_cons_succ]
            refine wpAnyH_take (i := 58) (oi := ⟨some 0, _, _, _, _, _⟩) (v := .bool true) rfl (by kernel_rfl) (by kernel_rfl) (by kernel_rfl) (fun _ _ _ h => h) (.inl ⟨by rfl, fun w' hSw => ?_⟩) hHeld ?_
            focus (obtain ⟨c0, c1, c2, c3⟩ := HCELL.out w' hSw; clear hHeld; go_simp)
            try simp only [Act.put, List.setIfInBounds_toArray, List.set_cons_zero, List.set_cons_succ]
            refine wpAnyH_done (by kernel_rfl) ?_ _
            refine NoPanic.normal ?_
            have HBZ := Lib.hid hHeld.2.2
            clear hHeld
            go_wp2_with fail
            go_ret
            exact ⟨rfl, HBZ.out⟩
          · go_simp
            have hb : Below wk2.heap.size wk2 (wk2.alloc (.cells #[.slice (some ⟨G2, 0, none⟩) 28 28] 22)) := (Below.refl _ _).alloc (Nat.le_refl _) _
            have hkn := hHeld.later hb
            have L1' := L1.later hb
            have L2' := L2.later hb
            have PC : (wk2.alloc (.cells #[.slice (some ⟨G2, 0, none⟩) 28 28] 22)).heap[wk2.heap.size]? = some (.cells #[.slice (some ⟨G2, 0, none⟩) 28 28] 22 (0, 0)) := heap_alloc_new wk2 _
            have dL1PC : G1 ≠ wk2.heap.size := Nat.ne_of_lt L1.lt
            have dL2PC : G2 ≠ wk2.heap.size := Nat.ne_of_lt L2.lt
            clear L1
            have L1 := L1'
            clear L1'
            clear L2
            have L2 := L2'
            clear L2'
            clear hb
            generalize wk2.alloc (.cells #[.slice (some ⟨G2, 0, none⟩) 28 28] 22) = wk3 at hkn PC L1 L2 ⊢
            obtain ⟨GP, hGP⟩ : ∃ x, x = wk2.heap.size := ⟨_, rfl⟩
            rw [← hGP] at PC dL1PC dL2PC ⊢
            clear hGP
            refine hK'.out _ _ hkn (fun _ => ?_)
            clear hK' K' hHeld
            have hHeld := hkn
            clear hkn
            refine wpAnyH_ready (rs := [50]) (by kernel_rfl) (by simp) ?_
            refine AllReadyH.cons (o := ⟨some 60, _, _, _, _, _⟩) rfl (fun K' hK' => ?_) AllReadyH.nil
            refine stepw_mark (by rfl) (.tmp 59) rfl rfl L1 ?_
            intro wk4 L1' bk hk
            have hkn : Sw w X D wk4 := ⟨(hk _ xL1.1).trans hHeld.1, HE2.out.below (hHeld.2.2.trans (bk _ xL1.2)), hHeld.2.2.trans (bk _ xL1.2)⟩
            have L2' := L2.keep (hk _ (Ne.symm dL1L2))
            have PC' := (hk _ (Ne.symm dL1PC)).trans PC
            clear bk hk
            clear L1
            have L1 := L1'
            clear L1'
            clear L2
            have L2 := L2'
            clear L2'
            clear PC
            have PC := PC'
            clear PC'
            refine hK'.out _ _ hkn (fun _ => ?_)
            clear hK' K' hHeld
            have hHeld := hkn
            clear hkn
            try simp only [Act.put, List.setIfInBounds_toArray, List.set_cons_zero, List.set_cons_succ]
            refine wpAnyH_ready (rs := [55]) (by kernel_rfl) (by simp) ?_
            refine AllReadyH.cons (o := ⟨some 65, _, _, _, _, _⟩) rfl (fun K' hK' => ?_) AllReadyH.nil
            refine stepw_call (by rfl) ?_ (HC15.out _ _ _ _ hHeld L1 L2 PC) ?_
            focus go_simp
            rintro v wz ⟨rfl, hkn⟩
            refine hK'.out _ _ hkn (fun _ => ?_)
            clear hK' K' hHeld
            have hHeld := hkn
            clear hkn
            try simp only [Act.put, List.setIfInBounds_toArray, List.set_cons_zero, List.set_cons_succ]
            refine wpAnyH_take (i := 56) (oi := ⟨some 66, _, _, _, _, _⟩) (v := .bool true) rfl (by kernel_rfl) (by kernel_rfl) (by kernel_rfl) (fun _ _ _ h => h) (.inl ⟨by rfl, fun w' hSw => ?_⟩) hHeld ?_
            focus (obtain ⟨c0, c1, c2, c3⟩ := HCELL.out w' hSw; clear hHeld; go_simp)
            try simp only [Act.put, List.setIfInBounds_toArray, List.set_cons_zero, List.set_cons_succ]
            refine wpAnyH_take (i := 57) (oi := ⟨some 67, _, _, _, _, _⟩) (v := .bool true) rfl (by kernel_rfl) (by kernel_rfl) (by kernel_rfl) (fun _ _ _ h => h) (.inl ⟨by rfl, fun w' hSw => ?_⟩) hHeld ?_
            focus (obtain ⟨c0, c1, c2, c3⟩ := HCELL.out w' hSw; clear hHeld; go_simp)
            try simp only [Act.put, List.setIfInBounds_toArray, List.set_cons_zero, List.set_cons_succ]
            refine wpAnyH_take (i := 58) (oi := ⟨some 0, _, _, _, _, _⟩) (v := .bool true) rfl (by kernel_rfl) (by kernel_rfl) (by kernel_rfl) (fun _ _ _ h => h) (.inl ⟨by rfl, fun w' hSw => ?_⟩) hHeld ?_
            focus (obtain ⟨c0, c1, c2, c3⟩ := HCELL.out w' hSw; clear hHeld; go_simp)
            try simp only [Act.put, List.setIfInBounds_toArray, List.set_cons_zero, List.set_cons_succ]
            refine wpAnyH_done (by kernel_rfl) ?_ _
            refine NoPanic.normal ?_
            have HBZ := Lib.hid hHeld.2.2
            clear hHeld
            go_wp2_with fail
            go_ret
            exact ⟨rfl, HBZ.out⟩
    · go_simp
      have hb : Below w'.heap.size w' (w'.alloc (.cells #[.int .u8 119, .int .u8 104, .int .u8 97, .int .u8 116, .int .u8 32, .int .u8 100, .int .u8 111, .int .u8 32, .int .u8 121, .int .u8 97, .int .u8 32, .int .u8 119, .int .u8 97, .int .u8 110, .int .u8 116, .int .u8 32, .int .u8 102, .int .u8 111, .int .u8 114, .int .u8 32, .int .u8 110, .int .u8 111, .int .u8 116, .int .u8 104, .int .u8 105, .int .u8 110, .int .u8 103, .int .u8 63] 5)) := (Below.refl _ _).alloc (Nat.le_refl _) _
      have hkn := hHeld.later hb
      have L2 : LitAt (w'.alloc (.cells #[.int .u8 119, .int .u8 104, .int .u8 97, .int .u8 116, .int .u8 32, .int .u8 100, .int .u8 111, .int .u8 32, .int .u8 121, .int .u8 97, .int .u8 32, .int .u8 119, .int .u8 97, .int .u8 110, .int .u8 116, .int .u8 32, .int .u8 102, .int .u8 111, .int .u8 114, .int .u8 32, .int .u8 110, .int .u8 111, .int .u8 116, .int .u8 104, .int .u8 105, .int .u8 110, .int .u8 103, .int .u8 63] 5)) w'.heap.size MM := LitAt.new w' MM #[.int .u8 119, .int .u8 104, .int .u8 97, .int .u8 116, .int .u8 32, .int .u8 100, .int .u8 111, .int .u8 32, .int .u8 121, .int .u8 97, .int .u8 32, .int .u8 119, .int .u8 97, .int .u8 110, .int .u8 116, .int .u8 32, .int .u8 102, .int .u8 111, .int .u8 114, .int .u8 32, .int .u8 110, .int .u8 111, .int .u8 116, .int .u8 104, .int .u8 105, .int .u8 110, .int .u8 103, .int .u8 63] (by rw [HMM.out]; rfl)
      have xL2 : X ≠ w'.heap.size ∧ w.heap.size ≤ w'.heap.size := ⟨Nat.ne_of_lt hHeld.1.lt, hHeld.2.2.size⟩
      clear hb
      generalize w'.alloc (.cells #[.int .u8 119, .int .u8 104, .int .u8 97, .int .u8 116, .int .u8 32, .int .u8 100, .int .u8 111, .int .u8 32, .int .u8 121, .int .u8 97, .int .u8 32, .int .u8 119, .int .u8 97, .int .u8 110, .int .u8 116, .int .u8 32, .int .u8 102, .int .u8 111, .int .u8 114, .int .u8 32, .int .u8 110, .int .u8 111, .int .u8 116, .int .u8 104, .int .u8 105, .int .u8 110, .int .u8 103, .int .u8 63] 5) = wk0 at hkn L2 ⊢
      obtain ⟨G2, hG2⟩ : ∃ x, x = w'.heap.size := ⟨_, rfl⟩
      rw [← hG2] at L2 xL2 ⊢
      clear hG2
      refine hK'.out _ _ hkn (fun _ => ?_)
      clear hK' K' hHeld
      have hHeld := hkn
      clear hkn
      refine wpAnyH_ready (rs := [49, 53]) (by kernel_rfl) (by simp) ?_
      refine AllReadyH.cons (o := ⟨some 59, _, _, _, _, _⟩) rfl (fun K' hK' => ?_) (AllReadyH.cons (o := ⟨some 63, _, _, _, _, _⟩) rfl (fun K' hK' => ?_) AllReadyH.nil)
      · go_simp
        have hb : Below wk0.heap.size wk0 (wk0.alloc (.cells #[.int .u8 74, .int .u8 101, .int .u8 102, .int .u8 101] 5)) := (Below.refl _ _).alloc (Nat.le_refl _) _
        have hkn := hHeld.later hb
        have L2' := L2.later hb
        have L1 : LitAt (wk0.alloc (.cells #[.int .u8 74, .int .u8 101, .int .u8 102, .int .u8 101] 5)) wk0.heap.size KL := LitAt.new wk0 KL #[.int .u8 74, .int .u8 101, .int .u8 102, .int .u8 101] (by rw [HKL.out]; rfl)
        have xL1 : X ≠ wk0.heap.size ∧ w.heap.size ≤ wk0.heap.size := ⟨Nat.ne_of_lt hHeld.1.lt, hHeld.2.2.size⟩
        have dL2L1 : G2 ≠ wk0.heap.size := Nat.ne_of_lt L2.lt
        clear L2
        have L2 := L2'
        clear L2'
        clear hb
        generalize wk0.alloc (.cells #[.int .u8 74, .int .u8 101, .int .u8 102, .int .u8 101] 5) = wk1 at hkn L1 L2 ⊢
        obtain ⟨G1, hG1⟩ : ∃ x, x = wk0.heap.size := ⟨_, rfl⟩
        rw [← hG1] at L1 xL1 dL2L1 ⊢
        clear hG1
        refine hK'.out _ _ hkn (fun _ => ?_)
        clear hK' K' hHeld
        have hHeld := hkn
        clear hkn
        refine wpAnyH_ready (rs := [50, 53]) (by kernel_rfl) (by simp) ?_
        refine AllReadyH.cons (o := ⟨some 60, _, _, _, _, _⟩) rfl (fun K' hK' => ?_) (AllReadyH.cons (o := ⟨some 63, _, _, _, _, _⟩) rfl (fun K' hK' => ?_) AllReadyH.nil)
        · refine stepw_mark (by rfl) (.tmp 59) rfl rfl L1 ?_
          intro wk2 L1' bk hk
          have hkn : Sw w X D wk2 := ⟨(hk _ xL1.1).trans hHeld.1, HE2.out.below (hHeld.2.2.trans (bk _ xL1.2)), hHeld.2.2.trans (bk _ xL1.2)⟩
          have L2' := L2.keep (hk _ dL2L1)
          clear bk hk
          clear L1
          have L1 := L1'
          clear L1'
          clear L2
          have L2 := L2'
          clear L2'
          refine hK'.out _ _ hkn (fun _ => ?_)
          clear hK' K' hHeld
          have hHeld := hkn
          clear hkn
          try simp only [Act.put, List.setIfInBounds_toArray, List.set_cons_zero, List.set_cons_succ]
          refine wpAnyH_ready (rs := [53]) (by kernel_rfl) (by simp) ?_
          refine AllReadyH.cons (o := ⟨some 63, _, _, _, _, _⟩) rfl (fun K' hK' => ?_) AllReadyH.nil
          refine stepw_mark (by rfl) (.tmp 62) rfl rfl L2 ?_
          intro wk3 L2' bk hk
          have hkn : Sw w X D wk3 := ⟨(hk _ xL2.1).trans hHeld.1, HE2.out.below (hHeld.2.2.trans (bk _ xL2.2)), hHeld.2.2.trans (bk _ xL2.2)⟩
          have L1' := L1.keep (hk _ (Ne.symm dL2L1))
          clear bk hk
          clear L2
          have L2 := L2'
          clear L2'
          clear L1
          have L1 := L1'
          clear L1'
          refine hK'.out _ _ hkn (fun _ => ?_)
          clear hK' K' hHeld
          have hHeld := hkn
          clear hkn
          try simp only [Act.put, List.setIfInBounds_toArray, List.set_cons_zero, List.set_cons_succ]
          refine wpAnyH_ready (rs := [54]) (by kernel_rfl) (by simp) ?_
          refine AllReadyH.cons (o := ⟨some 64, _, _, _, _, _⟩) rfl (fun K' hK' => ?_) AllReadyH.nil
          go_simp
          have hb : Below wk3.heap.size wk3 (wk3.alloc (.cells #[.slice (some ⟨G2, 0, none⟩) 28 28] 22)) := (Below.refl _ _).alloc (Nat.le_refl _) _
          have hkn := hHeld.later hb
          have L2' := L2.later hb
          have L1' := L1.later hb
          have PC : (wk3.alloc (.cells #[.slice (some ⟨G2, 0, none⟩) 28 28] 22)).heap[wk3.heap.size]? = some (.cells #[.slice (some ⟨G2, 0, none⟩) 28 28] 22 (0, 0)) := heap_alloc_new wk3 _
          have dL2PC : G2 ≠ wk3.heap.size := Nat.ne_of_lt L2.lt
          have dL1PC : G1 ≠ wk3.heap.size := Nat.ne_of_lt L1.lt
          clear L2
          have L2 := L2'
          clear L2'
          clear L1
          have L1 := L1'
          clear L1'
          clear hb
          generalize wk3.alloc (.cells #[.slice (some ⟨G2, 0, none⟩) 28 28] 22) = wk4 at hkn PC L2 L1 ⊢
          obtain ⟨GP, hGP⟩ : ∃ x, x = wk3.heap.size := ⟨_, rfl⟩
          rw [← hGP] at PC dL2PC dL1PC ⊢
          clear hGP
          refine hK'.out _ _ hkn (fun _ => ?_)
          clear hK' K' hHeld
          have hHeld := hkn
          clear hkn
          refine wpAnyH_ready (rs := [55]) (by kernel_rfl) (by simp) ?_
          refine AllReadyH.cons (o := ⟨some 65, _, _, _, _, _⟩) rfl (fun K' hK' => ?_) AllReadyH.nil
          refine stepw_call (by rfl) ?_ (HC15.out _ _ _ _ hHeld L1 L2 PC) ?_
          focus go_simp
          rintro v wz ⟨rfl, hkn⟩
          refine hK'.out _ _ hkn (fun _ => ?_)
          clear hK' K' hHeld
          have hHeld := hkn
          clear hkn
          try simp only [Act.put, List.setIfInBounds_toArray, List.set_cons_zero, List.set_cons_succ]
          refine wpAnyH_take (i := 56) (oi := ⟨some 66, _, _, _, _, _⟩) (v := .bool true) rfl (by kernel_rfl) (by kernel_rfl) (by kernel_rfl) (fun _ _ _ h => h) (.inl ⟨by rfl, fun w' hSw => ?_⟩) hHeld ?_
          focus (obtain ⟨c0, c1, c2, c3⟩ := HCELL.out w' hSw; clear hHeld; go_simp)
          try simp only [Act.put, List.setIfInBounds_toArray, List.set_cons_zero, List.set_cons_succ]
          refine wpAnyH_take (i := 57) (oi := ⟨some 67, _, _, _, _, _⟩) (v := .bool true) rfl (by kernel_rfl) (by kernel_rfl) (by kernel_rfl) (fun _ _ _ h => h) (.inl ⟨by rfl, fun w' hSw => ?_⟩) hHeld ?_
          focus (obtain ⟨c0, c1, c2, c3⟩ := HCELL.out w' hSw; clear hHeld; go_simp)
          try simp only [Act.put, List.setIfInBounds_toArray, List.set_cons_zero, List.set_cons_succ]
          refine wpAnyH_take (i := 58) (oi := ⟨some 0, _, _, _, _, _⟩) (v := .bool true) rfl (by kernel_rfl) (by kernel_rfl) (by kernel_rfl) (fun _ _ _ h => h) (.inl ⟨by rfl, fun w' hSw => ?_⟩) hHeld ?_
          focus (obtain ⟨c0, c1, c2, c3⟩ := HCELL.out w' hSw; clear hHeld; go_simp)
          try simp only [Act.put, List.setIfInBounds_toArray, List.set_cons_zero, List.set_cons_succ]
          refine wpAnyH_done (by kernel_rfl) ?_ _
          refine NoPanic.normal ?_
          have HBZ := Lib.hid hHeld.2.2
          clear hHeld
          go_wp2_with fail
          go_ret
          exact ⟨rfl, HBZ.out⟩
        · refine stepw_mark (by rfl) (.tmp 62) rfl rfl L2 ?_
          intro wk2 L2' bk hk
          have hkn : Sw w X D wk2 := ⟨(hk _ xL2.1).trans hHeld.1, HE2.out.below (hHeld.2.2.trans (bk _ xL2.2)), hHeld.2.2.trans (bk _ xL2.2)⟩
          have L1' := L1.keep (hk _ (Ne.symm dL2L1))
          clear bk hk
          clear L2
          have L2 := L2'
          clear L2'
          clear L1
          have L1 := L1'
          clear L1'
          refine hK'.out _ _ hkn (fun _ => ?_)
          clear hK' K' hHeld
          have hHeld := hkn
          clear hkn
          try simp only [Act.put, List.setIfInBounds_toArray, List.set_cons_zero, List.set_cons_succ]
          refine wpAnyH_ready (rs := [50, 54]) (by kernel_rfl) (by simp) ?_
          refine AllReadyH.cons (o := ⟨some 60, _, _, _, _, _⟩) rfl (fun K' hK' => ?_) (AllReadyH.cons (o := ⟨some 64, _, _, _, _, _⟩) rfl (fun K' hK' => ?_) AllReadyH.nil)
          · refine stepw_mark (by rfl) (.tmp 59) rfl rfl L1 ?_
            intro wk3 L1' bk hk
            have hkn : Sw w X D wk3 := ⟨(hk _ xL1.1).trans hHeld.1, HE2.out.below (hHeld.2.2.trans (bk _ xL1.2)), hHeld.2.2.trans (bk _ xL1.2)⟩
            have L2' := L2.keep (hk _ dL2L1)
            clear bk hk
            clear L1
            have L1 := L1'
            clear L1'
            clear L2
            have L2 := L2'
            clear L2'
            refine hK'.out _ _ hkn (fun _ => ?_)
            clear hK' K' hHeld
            have hHeld := hkn
            clear hkn
            try simp only [Act.put, List.setIfInBounds_toArray, List.set_cons_zero, List.set_cons_succ]
            refine wpAnyH_ready (rs := [54]) (by kernel_rfl) (by simp) ?_
            refine AllReadyH.cons (o := ⟨some 64, _, _, _, _, _⟩) rfl (fun K' hK' => ?_) AllReadyH.nil
            go_simp
            have hb : Below wk3.heap.size wk3 (wk3.alloc (.cells #[.slice (some ⟨G2, 0, none⟩) 28 28] 22)) := (Below.refl _ _).alloc (Nat.le_refl _) _
            have hkn := hHeld.later hb
            have L2' := L2.later hb
            have L1' := L1.later hb
            have PC : (wk3.alloc (.cells #[.slice (some ⟨G2, 0, none⟩) 28 28] 22)).heap[wk3.heap.size]? = some (.cells #[.slice (some ⟨G2, 0, none⟩) 28 28] 22 (0, 0)) := heap_alloc_new wk3 _
            have dL2PC : G2 ≠ wk3.heap.size := Nat.ne_of_lt L2.lt
            have dL1PC : G1 ≠ wk3.heap.size := Nat.ne_of_lt L1.lt
            clear L2
            have L2 := L2'
            clear L2'
            clear L1
            have L1 := L1'
            clear L1'
            clear hb
            generalize wk3.alloc (.cells #[.slice (some ⟨G2, 0, none⟩) 28 28] 22) = wk4 at hkn PC L2 L1 ⊢
            obtain ⟨GP, hGP⟩ : ∃ x, x = wk3.heap.size := ⟨_, rfl⟩
            rw [← hGP] at PC dL2PC dL1PC ⊢
            clear hGP
            refine hK'.out _ _ hkn (fun _ => ?_)
            clear hK' K' hHeld
            have hHeld := hkn
            clear hkn
            refine wpAnyH_ready (rs := [55]) (by kernel_rfl) (by simp) ?_
            refine AllReadyH.cons (o := ⟨some 65, _, _, _, _, _⟩) rfl (fun K' hK' => ?_) AllReadyH.nil
            refine stepw_call (by rfl) ?_ (HC15.out _ _ _ _ hHeld L1 L2 PC) ?_
            focus go_simp
            rintro v wz ⟨rfl, hkn⟩
            refine hK'.out _ _ hkn (fun _ => ?_)
            clear hK' K' hHeld
            have hHeld := hkn
            clear hkn
            try simp only [Act.put, List.setIfInBounds_toArray, List.set_cons_zero, List.set_cons_succ]
            refine wpAnyH_take (i := 56) (oi := ⟨some 66, _, _, _, _, _⟩) (v := .bool true) rfl (by kernel_rfl) (by kernel_rfl) (by kernel_rfl) (fun _ _ _ h => h) (.inl ⟨by rfl, fun w' hSw => ?_⟩) hHeld ?_
            focus (obtain ⟨c0, c1, c2, c3⟩ := HCELL.out w' hSw; clear hHeld; go_simp)
            try simp only [Act.put, List.setIfInBounds_toArray, List.set_cons_zero, List.set_cons_succ]
            refine wpAnyH_take (i := 57) (oi := ⟨some 67, _, _, _, _, _⟩) (v := .bool true) rfl (by kernel_rfl) (by kernel_rfl) (by kernel_rfl) (fun _ _ _ h => h) (.inl ⟨by rfl, fun w' hSw => ?_⟩) hHeld ?_
            focus (obtain ⟨c0, c1, c2, c3⟩ := HCELL.out w' hSw; clear hHeld; go_simp)
            try simp only [Act.put, List.setIfInBounds_toArray, List.set_cons_zero, List.set_cons_succ]
            refine wpAnyH_take (i := 58) (oi := ⟨some 0, _, _, _, _, _⟩) (v := .bool true) rfl (by kernel_rfl) (by kernel_rfl) (by kernel_rfl) (fun _ _ _ h => h) (.inl ⟨by rfl, fun w' hSw => ?_⟩) hHeld ?_
            focus (obtain ⟨c0, c1, c2, c3⟩ := HCELL.out w' hSw; clear hHeld; go_simp)
            try simp only [Act.put, List.setIfInBounds_toArray, List.set_cons_zero, List.set_cons_succ]
            refine wpAnyH_done (by kernel_rfl) ?_ _
            refine NoPanic.normal ?_
            have HBZ := Lib.hid hHeld.2.2
            clear hHeld
            go_wp2_with fail
            go_ret
            exact ⟨rfl, HBZ.out⟩
          · go_simp
            have hb : Below wk2.heap.size wk2 (wk2.alloc (.cells #[.slice (some ⟨G2, 0, none⟩) 28 28] 22)) := (Below.refl _ _).alloc (Nat.le_refl _) _
            have hkn := hHeld.later hb
            have L2' := L2.later hb
            have L1' := L1.later hb
            have PC : (wk2.alloc (.cells #[.slice (some ⟨G2, 0, none⟩) 28 28] 22)).heap[wk2.heap.size]? = some (.cells #[.slice (some ⟨G2, 0, none⟩) 28 28] 22 (0, 0)) := heap_alloc_new wk2 _
            have dL2PC : G2 ≠ wk2.heap.size := Nat.ne_of_lt L2.lt
            have dL1PC : G1 ≠ wk2.heap.size := Nat.ne_of_lt L1.lt
            clear L2
            have L2 := L2'
            clear L2'
            clear L1
            have L1 := L1'
            clear L1'
            clear hb
            generalize wk2.alloc (.cells #[.slice (some ⟨G2, 0, none⟩) 28 28] 22) = wk3 at hkn PC L2 L1 ⊢
            obtain ⟨GP, hGP⟩ : ∃ x, x = wk2.heap.size := ⟨_, rfl⟩
            rw [← hGP] at PC dL2PC dL1PC ⊢
            clear hGP
            refine hK'.out _ _ hkn (fun _ => ?_)
            clear hK' K' hHeld
            have hHeld := hkn
            clear hkn
            refine wpAnyH_ready (rs := [50]) (by kernel_rfl) (by simp) ?_
            refine AllReadyH.cons (o := ⟨some 60, _, _, _, _, _⟩) rfl (fun K' hK' => ?_) AllReadyH.nil
            refine stepw_mark (by rfl) (.tmp 59) rfl rfl L1 ?_
            intro wk4 L1' bk hk
            have hkn : Sw w X D wk4 := ⟨(hk _ xL1.1).trans hHeld.1, HE2.out.below (hHeld.2.2.trans (bk _ xL1.2)), hHeld.2.2.trans (bk _ xL1.2)⟩
            have L2' := L2.keep (hk _ dL2L1)
            have PC' := (hk _ (Ne.symm dL1PC)).trans PC
            clear bk hk
            clear L1
            have L1 := L1'
            clear L1'
            clear L2
            have L2 := L2'
            clear L2'
            clear PC
            have PC := PC'
            clear PC'
            refine hK'.out _ _ hkn (fun _ => ?_)
            clear hK' K' hHeld
            have hHeld := hkn
            clear hkn
            try simp only [Act.put, List.setIfInBounds_toArray, List.set_cons_zero, List.set_cons_succ]
            refine wpAnyH_ready (rs := [55]) (by kernel_rfl) (by simp) ?_
            refine AllReadyH.cons (o := ⟨some 65, _, _, _, _, _⟩) rfl (fun K' hK' => ?_) AllReadyH.nil
            refine stepw_call (by rfl) ?_ (HC15.out _ _ _ _ hHeld L1 L2 PC) ?_
            focus go_simp
            rintro v wz ⟨rfl, hkn⟩
            refine hK'.out _ _ hkn (fun _ => ?_)
            clear hK' K' hHeld
            have hHeld := hkn
            clear hkn
            try simp only [Act.put, List.setIfInBounds_toArray, List.set_cons_zero, List.set_cons_succ]
            refine wpAnyH_take (i := 56) (oi := ⟨some 66, _, _, _, _, _⟩) (v := .bool true) rfl (by kernel_rfl) (by kernel_rfl) (by kernel_rfl) (fun _ _ _ h => h) (.inl ⟨by rfl, fun w' hSw => ?_⟩) hHeld ?_
            focus (obtain ⟨c0, c1, c2, c3⟩ := HCELL.out w' hSw; clear hHeld; go_simp)
            try simp only [Act.put, List.setIfInBounds_toArray, List.set_cons_zero, List.set_cons_succ]
            refine wpAnyH_take (i := 57) (oi := ⟨some 67, _, _, _, _, _⟩) (v := .bool true) rfl (by kernel_rfl) (by kernel_rfl) (by kernel_rfl) (fun _ _ _ h => h) (.inl ⟨by rfl, fun w' hSw => ?_⟩) hHeld ?_
            focus (obtain ⟨c0, c1, c2, c3⟩ := HCELL.out w' hSw; clear hHeld; go_simp)
            try simp only [Act.put, List.setIfInBounds_toArray, List.set_cons_zero, List.set_cons_succ]
            refine wpAnyH_take (i := 58) (oi := ⟨some 0, _, _, _, _, _⟩) (v := .bool true) rfl (by kernel_rfl) (by kernel_rfl) (by kernel_rfl) (fun _ _ _ h => h) (.inl ⟨by rfl, fun w' hSw => ?_⟩) hHeld ?_
            focus (obtain ⟨c0, c1, c2, c3⟩ := HCELL.out w' hSw; clear hHeld; go_simp)
            try simp only [Act.put, List.setIfInBounds_toArray, List.set_cons_zero, List.set_cons_succ]
            refine wpAnyH_done (by kernel_rfl) ?_ _
            refine NoPanic.normal ?_
            have HBZ := Lib.hid hHeld.2.2
            clear hHeld
            go_wp2_with fail
            go_ret
            exact ⟨rfl, HBZ.out⟩
      · refine stepw_mark (by rfl) (.tmp 62) rfl rfl L2 ?_
        intro wk1 L2' bk hk
        have hkn : Sw w X D wk1 := ⟨(hk _ xL2.1).trans hHeld.1, HE2.out.below (hHeld.2.2.trans (bk _ xL2.2)), hHeld.2.2.trans (bk _ xL2.2)⟩
        clear bk hk
        clear L2
        have L2 := L2'
        clear L2'
        refine hK'.out _ _ hkn (fun _ => ?_)
        clear hK' K' hHeld
        have hHeld := hkn
        clear hkn
        try simp only [Act.put, List.setIfInBounds_toArray, List.set_cons_zero, List.set_cons_succ]
        refine wpAnyH_ready (rs := [49, 54]) (by kernel_rfl) (by simp) ?_
        refine AllReadyH.cons (o := ⟨some 59, _, _, _, _, _⟩) rfl (fun K' hK' => ?_) (AllReadyH.cons (o := ⟨some 64, _, _, _, _, _⟩) rfl (fun K' hK' => ?_) AllReadyH.nil)
        · go_simp
          have hb : Below wk1.heap.size wk1 (wk1.alloc (.cells #[.int .u8 74, .int .u8 101, .int .u8 102, .int .u8 101] 5)) := (Below.refl _ _).alloc (Nat.le_refl _) _
          have hkn := hHeld.later hb
          have L2' := L2.later hb
          have L1 : LitAt (wk1.alloc (.cells #[.int .u8 74, .int .u8 101, .int .u8 102, .int .u8 101] 5)) wk1.heap.size KL := LitAt.new wk1 KL #[.int .u8 74, .int .u8 101, .int .u8 102, .int .u8 101] (by rw [HKL.out]; rfl)
          have xL1 : X ≠ wk1.heap.size ∧ w.heap.size ≤ wk1.heap.size := ⟨Nat.ne_of_lt hHeld.1.lt, hHeld.2.2.size⟩
          have dL2L1 : G2 ≠ wk1.heap.size := Nat.ne_of_lt L2.lt
          clear L2
          have L2 := L2'
          clear L2'
          clear hb
          generalize wk1.alloc (.cells #[.int .u8 74, .int .u8 101, .int .u8 102, .int .u8 101] 5) = wk2 at hkn L1 L2 ⊢
          obtain ⟨G1, hG1⟩ : ∃ x, x = wk1.heap.size := ⟨_, rfl⟩
          rw [← hG1] at L1 xL1 dL2L1 ⊢
          clear hG1
          refine hK'.out _ _ hkn (fun _ => ?_)
          clear hK' K' hHeld
          have hHeld := hkn
          clear hkn
          refine wpAnyH_ready (rs := [50, 54]) (by kernel_rfl) (by simp) ?_
          refine AllReadyH.cons (o := ⟨some 60, _, _, _, _, _⟩) rfl (fun K' hK' => ?_) (AllReadyH.cons (o := ⟨some 64, _, _, _, _, _⟩) rfl (fun K' hK' => ?_) AllReadyH.nil)
          · refine stepw_mark (by rfl) (.tmp 59) rfl rfl L1 ?_
            intro wk3 L1' bk hk
            have hkn : Sw w X D wk3 := ⟨(hk _ xL1.1).trans hHeld.1, HE2.out.below (hHeld.2.2.trans (bk _ xL1.2)), hHeld.2.2.trans (bk _ xL1.2)⟩
            have L2' := L2.keep (hk _ dL2L1)
            clear bk hk
            clear L1
            have L1 := L1'
            clear L1'
            clear L2
            have L2 := L2'
            clear L2'
            refine hK'.out _ _ hkn (fun _ => ?_)
            clear hK' K' hHeld
            have hHeld := hkn
            clear hkn
            try simp only [Act.put, List.setIfInBounds_toArray, List.set_cons_zero, List.set_cons_succ]
            refine wpAnyH_ready (rs := [54]) (by kernel_rfl) (by simp) ?_
            refine AllReadyH.cons (o := ⟨some 64, _, _, _, _, _⟩) rfl (fun K' hK' => ?_) AllReadyH.nil
            go_simp
            have hb : Below wk3.heap.size wk3 (wk3.alloc (.cells #[.slice (some ⟨G2, 0, none⟩) 28 28] 22)) := (Below.refl _ _).alloc (Nat.le_refl _) _
            have hkn := hHeld.later hb
            have L2' := L2.later hb
            have L1' := L1.later hb
            have PC : (wk3.alloc (.cells #[.slice (some ⟨G2, 0, none⟩) 28 28] 22)).heap[wk3.heap.size]? = some (.cells #[.slice (some ⟨G2, 0, none⟩) 28 28] 22 (0, 0)) := heap_alloc_new wk3 _
            have dL2PC : G2 ≠ wk3.heap.size := Nat.ne_of_lt L2.lt
            have dL1PC : G1 ≠ wk3.heap.size := Nat.ne_of_lt L1.lt
            clear L2
            have L2 := L2'
            clear L2'
            clear L1
            have L1 := L1'
            clear L1'
            clear hb
            generalize wk3.alloc (.cells #[.slice (some ⟨G2, 0, none⟩) 28 28] 22) = wk4 at hkn PC L2 L1 ⊢
            obtain ⟨GP, hGP⟩ : ∃ x, x = wk3.heap.size := ⟨_, rfl⟩
            rw [← hGP] at PC dL2PC dL1PC ⊢
            clear hGP
            refine hK'.out _ _ hkn (fun _ => ?_)
            clear hK' K' hHeld
            have hHeld := hkn
            clear hkn
            refine wpAnyH_ready (rs := [55]) (by kernel_rfl) (by simp) ?_
            refine AllReadyH.cons (o := ⟨some 65, _, _, _, _, _⟩) rfl (fun K' hK' => ?_) AllReadyH.nil
            refine stepw_call (by rfl) ?_ (HC15.out _ _ _ _ hHeld L1 L2 PC) ?_
            focus go_simp
            rintro v wz ⟨rfl, hkn⟩
            refine hK'.out _ _ hkn (fun _ => ?_)
            clear hK' K' hHeld
            have hHeld := hkn
            clear hkn
            try simp only [Act.put, List.setIfInBounds_toArray, List.set_cons_zero, List.set_cons_succ]
            refine wpAnyH_take (i := 56) (oi := ⟨some 66, _, _, _, _, _⟩) (v := .bool true) rfl (by kernel_rfl) (by kernel_rfl) (by kernel_rfl) (fun _ _ _ h => h) (.inl ⟨by rfl, fun w' hSw => ?_⟩) hHeld ?_
            focus (obtain ⟨c0, c1, c2, c3⟩ := HCELL.out w' hSw; clear hHeld; go_simp)
            try simp only [Act.put, List.setIfInBounds_toArray, List.set_cons_zero, List.set_cons_succ]
            refine wpAnyH_take (i := 57) (oi := ⟨some 67, _, _, _, _, _⟩) (v := .bool true) rfl (by kernel_rfl) (by kernel_rfl) (by kernel_rfl) (fun _ _ _ h => h) (.inl ⟨by rfl, fun w' hSw => ?_⟩) hHeld ?_
            focus (obtain ⟨c0, c1, c2, c3⟩ := HCELL.out w' hSw; clear hHeld; go_simp)
            try simp only [Act.put, List.setIfInBounds_toArray, List.set_cons_zero, List.set_cons_succ]
            refine wpAnyH_take (i := 58) (oi := ⟨some 0, _, _, _, _, _⟩) (v := .bool true) rfl (by kernel_rfl) (by kernel_rfl) (by kernel_rfl) (fun _ _ _ h => h) (.inl ⟨by rfl, fun w' hSw => ?_⟩) hHeld ?_
            focus (obtain ⟨c0, c1, c2, c3⟩ := HCELL.out w' hSw; clear hHeld; go_simp)
            try simp only [Act.put, List.setIfInBounds_toArray, List.set_cons_zero, List.set_cons_succ]
            refine wpAnyH_done (by kernel_rfl) ?_ _
            refine NoPanic.normal ?_
            have HBZ := Lib.hid hHeld.2.2
            clear hHeld
            go_wp2_with fail
            go_ret
            exact ⟨rfl, HBZ.out⟩
          · go_simp
            have hb : Below wk2.heap.size wk2 (wk2.alloc (.cells #[.slice (some ⟨G2, 0, none⟩) 28 28] 22)) := (Below.refl _ _).alloc (Nat.le_refl _) _
            have hkn := hHeld.later hb
            have L2' := L2.later hb
            have L1' := L1.later hb
            have PC : (wk2.alloc (.cells #[.slice (some ⟨G2, 0, none⟩) 28 28] 22)).heap[wk2.heap.size]? = some (.cells #[.slice (some ⟨G2, 0, none⟩) 28 28] 22 (0, 0)) := heap_alloc_new wk2 _
            have dL2PC : G2 ≠ wk2.heap.size := Nat.ne_of_lt L2.lt
            have dL1PC : G1 ≠ wk2.heap.size := Nat.ne_of_lt L1.lt
            clear L2
            have L2 := L2'
            clear L2'
            clear L1
            have L1 := L1'
            clear L1'
            clear hb
            generalize wk2.alloc (.cells #[.slice (some ⟨G2, 0, none⟩) 28 28] 22) = wk3 at hkn PC L2 L1 ⊢
            obtain ⟨GP, hGP⟩ : ∃ x, x = wk2.heap.size := ⟨_, rfl⟩
            rw [← hGP] at PC dL2PC dL1PC ⊢
            clear hGP
            refine hK'.out _ _ hkn (fun _ => ?_)
            clear hK' K' hHeld
            have hHeld := hkn
            clear hkn
            refine wpAnyH_ready (rs := [50]) (by kernel_rfl) (by simp) ?_
            refine AllReadyH.cons (o := ⟨some 60, _, _, _, _, _⟩) rfl (fun K' hK' => ?_) AllReadyH.nil
            refine stepw_mark (by rfl) (.tmp 59) rfl rfl L1 ?_
            intro wk4 L1' bk hk
            have hkn : Sw w X D wk4 := ⟨(hk _ xL1.1).trans hHeld.1, HE2.out.below (hHeld.2.2.trans (bk _ xL1.2)), hHeld.2.2.trans (bk _ xL1.2)⟩
            have L2' := L2.keep (hk _ dL2L1)
            have PC' := (hk _ (Ne.symm dL1PC)).trans PC
            clear bk hk
            clear L1
            have L1 := L1'
            clear L1'
            clear L2
            have L2 := L2'
            clear L2'
            clear PC
            have PC := PC'
            clear PC'
            refine hK'.out _ _ hkn (fun _ => ?_)
            clear hK' K' hHeld
            have hHeld := hkn
            clear hkn
            try simp only [Act.put, List.setIfInBounds_toArray, List.set_cons_zero, List.set_cons_succ]
            refine wpAnyH_ready (rs := [55]) (by kernel_rfl) (by simp) ?_
            refine AllReadyH.cons (o := ⟨some 65, _, _, _, _, _⟩) rfl (fun K' hK' => ?_) AllReadyH.nil
            refine stepw_call (by rfl) ?_ (HC15.out _ _ _ _ hHeld L1 L2 PC) ?_
            focus go_simp
            rintro v wz ⟨rfl, hkn⟩
            refine hK'.out _ _ hkn (fun _ => ?_)
            clear hK' K' hHeld
            have hHeld := hkn
            clear hkn
            try simp only [Act.put, List.setIfInBounds_toArray, List.set_cons_zero, List.set_cons_succ]
            refine wpAnyH_take (i := 56) (oi := ⟨some 66, _, _, _, _, _⟩) (v := .bool true) rfl (by kernel_rfl) (by kernel_rfl) (by kernel_rfl) (fun _ _ _ h => h) (.inl ⟨by rfl, fun w' hSw => ?_⟩) hHeld ?_
            focus (obtain ⟨c0, c1, c2, c3⟩ := HCELL.out w' hSw; clear hHeld; go_simp)
            try simp only [Act.put, List.setIfInBounds_toArray, List.set_cons_zero, List.set_cons_succ]
            refine wpAnyH_take (i := 57) (oi := ⟨some 67, _, _, _, _, _⟩) (v := .bool true) rfl (by kernel_rfl) (by kernel_rfl) (by kernel_rfl) (fun _ _ _ h => h) (.inl ⟨by rfl, fun w' hSw => ?_⟩) hHeld ?_
            focus (obtain ⟨c0, c1, c2, c3⟩ := HCELL.out w' hSw; clear hHeld; go_simp)
            try simp only [Act.put, List.setIfInBounds_toArray, List.set_cons_zero, List.set_cons_succ]
            refine wpAnyH_take (i := 58) (oi := ⟨some 0, _, _, _, _, _⟩) (v := .bool true) rfl (by kernel_rfl) (by kernel_rfl) (by kernel_rfl) (fun _ _ _ h => h) (.inl ⟨by rfl, fun w' hSw => ?_⟩) hHeld ?_
            focus (obtain ⟨c0, c1, c2, c3⟩ := HCELL.out w' hSw; clear hHeld; go_simp)
            try simp only [Act.put, List.setIfInBounds_toArray, List.set_cons_zero, List.set_cons_succ]
            refine wpAnyH_done (by kernel_rfl) ?_ _
            refine NoPanic.normal ?_
            have HBZ := Lib.hid hHeld.2.2
            clear hHeld
            go_wp2_with fail
            go_ret
            exact ⟨rfl, HBZ.out⟩
        · go_simp
          have hb : Below wk1.heap.size wk1 (wk1.alloc (.cells #[.slice (some ⟨G2, 0, none⟩) 28 28] 22)) := (Below.refl _ _).alloc (Nat.le_refl _) _
          have hkn := hHeld.later hb
          have L2' := L2.later hb
          have PC : (wk1.alloc (.cells #[.slice (some ⟨G2, 0, none⟩) 28 28] 22)).heap[wk1.heap.size]? = some (.cells #[.slice (some ⟨G2, 0, none⟩) 28 28] 22 (0, 0)) := heap_alloc_new wk1 _
          have dL2PC : G2 ≠ wk1.heap.size := Nat.ne_of_lt L2.lt
          clear L2
          have L2 := L2'
          clear L2'
          clear hb
          generalize wk1.alloc (.cells #[.slice (some ⟨G2, 0, none⟩) 28 28] 22) = wk2 at hkn PC L2 ⊢
          obtain ⟨GP, hGP⟩ : ∃ x, x = wk1.heap.size := ⟨_, rfl⟩
          rw [← hGP] at PC dL2PC ⊢
          clear hGP
          refine hK'.out _ _ hkn (fun _ => ?_)
          clear hK' K' hHeld
          have hHeld := hkn
          clear hkn
          refine wpAnyH_ready (rs := [49]) (by kernel_rfl) (by simp) ?_
          refine AllReadyH.cons (o := ⟨some 59, _, _, _, _, _⟩) rfl (fun K' hK' => ?_) AllReadyH.nil
          go_simp
          have hb : Below wk2.heap.size wk2 (wk2.alloc (.cells #[.int .u8 74, .int .u8 101, .int .u8 102, .int .u8 101] 5)) := (Below.refl _ _).alloc (Nat.le_refl _) _
          have hkn := hHeld.later hb
          have L2' := L2.later hb
          have PC' := (hb.block _ (Array.getElem?_eq_some_iff.1 PC).1).trans PC
          have L1 : LitAt (wk2.alloc (.cells #[.int .u8 74, .int .u8 101, .int .u8 102, .int .u8 101] 5)) wk2.heap.size KL := LitAt.new wk2 KL #[.int .u8 74, .int .u8 101, .int .u8 102, .int .u8 101] (by rw [HKL.out]; rfl)
          have xL1 : X ≠ wk2.heap.size ∧ w.heap.size ≤ wk2.heap.size := ⟨Nat.ne_of_lt hHeld.1.lt, hHeld.2.2.size⟩
          have dL2L1 : G2 ≠ wk2.heap.size := Nat.ne_of_lt L2.lt
          have dPCL1 : GP ≠ wk2.heap.size := Nat.ne_of_lt (Array.getElem?_eq_some_iff.1 PC).1
          clear L2
          have L2 := L2'
          clear L2'
          clear PC
          have PC := PC'
          clear PC'
          clear hb
          generalize wk2.alloc (.cells #[.int .u8 74, .int .u8 101, .int .u8 102, .int .u8 101] 5) = wk3 at hkn L1 L2 PC ⊢
          obtain ⟨G1, hG1⟩ : ∃ x, x = wk2.heap.size := ⟨_, rfl⟩
          rw [← hG1] at L1 xL1 dL2L1 dPCL1 ⊢
          clear hG1
          refine hK'.out _ _ hkn (fun _ => ?_)
          clear hK' K' hHeld
          have hHeld := hkn
          clear hkn
          refine wpAnyH_ready (rs := [50]) (by kernel_rfl) (by simp) ?_
          refine AllReadyH.cons (o := ⟨some 60, _, _, _, _, _⟩) rfl (fun K' hK' => ?_) AllReadyH.nil
          refine stepw_mark (by rfl) (.tmp 59) rfl rfl L1 ?_
          intro wk4 L1' bk hk
          have hkn : Sw w X D wk4 := ⟨(hk _ xL1.1).trans hHeld.1, HE2.out.below (hHeld.2.2.trans (bk _ xL1.2)), hHeld.2.2.trans (bk _ xL1.2)⟩
          have L2' := L2.keep (hk _ dL2L1)
          have PC' := (hk _ dPCL1).trans PC
          clear bk hk
          clear L1
          have L1 := L1'
          clear L1'
          clear L2
          have L2 := L2'
          clear L2'
          clear PC
          have PC := PC'
          clear PC'
          refine hK'.out _ _ hkn (fun _ => ?_)
          clear hK' K' hHeld
          have hHeld := hkn
          clear hkn
          try simp only [Act.put, List.setIfInBounds_toArray, List.set_cons_zero, List.set_cons_succ]
          refine wpAnyH_ready (rs := [55]) (by kernel_rfl) (by simp) ?_
          refine AllReadyH.cons (o := ⟨some 65, _, _, _, _, _⟩) rfl (fun K' hK' => ?_) AllReadyH.nil
          refine stepw_call (by rfl) ?_ (HC15.out _ _ _ _ hHeld L1 L2 PC) ?_
          focus go_simp
          rintro v wz ⟨rfl, hkn⟩
          refine hK'.out _ _ hkn (fun _ => ?_)
          clear hK' K' hHeld
          have hHeld := hkn
          clear hkn
          try simp only [Act.put, List.setIfInBounds_toArray, List.set_cons_zero, List.set_cons_succ]
          refine wpAnyH_take (i := 56) (oi := ⟨some 66, _, _, _, _, _⟩) (v := .bool true) rfl (by kernel_rfl) (by kernel_rfl) (by kernel_rfl) (fun _ _ _ h => h) (.inl ⟨by rfl, fun w' hSw => ?_⟩) hHeld ?_
          focus (obtain ⟨c0, c1, c2, c3⟩ := HCELL.out w' hSw; clear hHeld; go_simp)
          try simp only [Act.put, List.setIfInBounds_toArray, List.set_cons_zero, List.set_cons_succ]
          refine wpAnyH_take (i := 57) (oi := ⟨some 67, _, _, _, _, _⟩) (v := .bool true) rfl (by kernel_rfl) (by kernel_rfl) (by kernel_rfl) (fun _ _ _ h => h) (.inl ⟨by rfl, fun w' hSw => ?_⟩) hHeld ?_
          focus (obtain ⟨c0, c1, c2, c3⟩ := HCELL.out w' hSw; clear hHeld; go_simp)
          try simp only [Act.put, List.setIfInBounds_toArray, List.set_cons_zero, List.set_cons_succ]
          refine wpAnyH_take (i := 58) (oi := ⟨some 0, _, _, _, _, _⟩) (v := .bool true) rfl (by kernel_rfl) (by kernel_rfl) (by kernel_rfl) (fun _ _ _ h => h) (.inl ⟨by rfl, fun w' hSw => ?_⟩) hHeld ?_
          focus (obtain ⟨c0, c1, c2, c3⟩ := HCELL.out w' hSw; clear hHeld; go_simp)
          try simp only [Act.put, List.setIfInBounds_toArray, List.set_cons_zero, List.set_cons_succ]
          refine wpAnyH_done (by kernel_rfl) ?_ _
          refine NoPanic.normal ?_
          have HBZ := Lib.hid hHeld.2.2
          clear hHeld
          go_wp2_with fail
          go_ret
          exact ⟨rfl, HBZ.out⟩
end Go.Proofs.YtomoopadeknfbaaDoor
