/-
  What frame.Read returns; fault.New and fault.Shift of a code.
-/
import Derived.Test.YtikokimnhanloaaDoorFrA
import Derived.Test.YtikokimnhanloaaDoorErrCode
namespace Go.Proofs.YtikokimnhanloaaDoor
open Go.ChangeShapes Go.WideShapes Go.ChangeAt Go.RowKit
open errAs (ErrT)
set_option linter.unusedVariables false

theorem numGo_take : ∀ (n i x : Nat) (l : List UInt8), i + n = 10 → 0 < n → numGo i x (l.take n) = numGo i x l
  | 0, i, x, l, _, h => absurd h (Nat.lt_irrefl 0)
  | n + 1, i, x, [], h, _ => by simp
  | n + 1, i, x, g :: r, h, _ => by
    rw [List.take_succ_cons]
    by_cases h1 : i = 9 ∧ 1 < g.toNat
    · rw [go_long h1, go_long h1]
    · by_cases h2 : 0 < i ∧ g.toNat = 0
      · rw [go_min h1 h2, go_min h1 h2]
      · by_cases h3 : g.toNat < 128
        · rw [go_last h1 h2 h3, go_last h1 h2 h3]
        · rw [go_next h1 h2 h3, go_next h1 h2 h3]
          exact numGo_take n (i + 1) _ r (by omega) (by omega)
theorem num_take10 (l : List UInt8) : num (l.take 10) = num l := numGo_take 10 0 0 l rfl (by omega)
theorem numGo_at : ∀ (l : List UInt8) (i x : Nat), i ≤ 9 → (numGo i x l).2.2 = 0 → i < (numGo i x l).2.1 ∧ (numGo i x l).2.1 ≤ i + l.length ∧ (numGo i x l).2.1 ≤ 10
  | [], i, x, _, h => by simp [numGo] at h
  | g :: r, i, x, hi, h => by
    by_cases h1 : i = 9 ∧ 1 < g.toNat
    · rw [go_long h1] at h; cases h
    · by_cases h2 : 0 < i ∧ g.toNat = 0
      · rw [go_min h1 h2] at h; cases h
      · by_cases h3 : g.toNat < 128
        · rw [go_last h1 h2 h3]
          simp; omega
        · rw [go_next h1 h2 h3] at h ⊢
          have := numGo_at r (i + 1) _ (by omega) h
          simp only [List.length_cons]
          omega
theorem num_at {l : List UInt8} (h : (num l).2.2 = 0) : 0 < (num l).2.1 ∧ (num l).2.1 ≤ l.length ∧ (num l).2.1 ≤ 10 := by
  have := numGo_at l 0 0 (by omega) h
  unfold num
  omega

def faultN (c n : Nat) : Value := .iface 83 (.agg #[.int .i64 c, .int .i64 n])
def errF (c n : Nat) : Value := if c = 0 then .nilIface else faultN c n
def readF (b : List UInt8) : List UInt8 × Nat × Nat × Nat :=
  if (num b).2.2 = 1 then ([], 0, 1, b.length) else if (num b).2.2 ≠ 0 then ([], 0, (num b).2.2, 0)
  else if 65536 < (num b).1 then ([], 0, 15, 0) else if b.length < (num b).2.1 + (num b).1 + 4 then ([], 0, 1, b.length)
  else if isSealed ((b.drop (num b).2.1).take ((num b).1 + 4)) = true then (inside ((b.drop (num b).2.1).take ((num b).1 + 4)), (num b).2.1 + (num b).1 + 4, 0, 0) else ([], 0, 4, (num b).2.1)
theorem read_short {b : List UInt8} (h : (num b).2.2 = 1) : readF b = ([], 0, 1, b.length) := by unfold readF; rw [if_pos h]
theorem read_code {b : List UInt8} (h1 : (num b).2.2 ≠ 1) (h0 : (num b).2.2 ≠ 0) : readF b = ([], 0, (num b).2.2, 0) := by unfold readF; rw [if_neg h1, if_pos h0]
theorem read_limit {b : List UInt8} (h0 : (num b).2.2 = 0) (hl : 65536 < (num b).1) : readF b = ([], 0, 15, 0) := by
  unfold readF; rw [if_neg (by omega), if_neg (by omega), if_pos hl]
theorem read_cut {b : List UInt8} (h0 : (num b).2.2 = 0) (hl : ¬ 65536 < (num b).1) (hc : b.length < (num b).2.1 + (num b).1 + 4) : readF b = ([], 0, 1, b.length) := by
  unfold readF; rw [if_neg (by omega), if_neg (by omega), if_neg hl, if_pos hc]
theorem read_yes {b : List UInt8} (h0 : (num b).2.2 = 0) (hl : ¬ 65536 < (num b).1) (hc : ¬ b.length < (num b).2.1 + (num b).1 + 4) (hs : isSealed ((b.drop (num b).2.1).take ((num b).1 + 4)) = true) :
    readF b = (inside ((b.drop (num b).2.1).take ((num b).1 + 4)), (num b).2.1 + (num b).1 + 4, 0, 0) := by
  unfold readF; rw [if_neg (by omega), if_neg (by omega), if_neg hl, if_neg hc, if_pos hs]
theorem read_no {b : List UInt8} (h0 : (num b).2.2 = 0) (hl : ¬ 65536 < (num b).1) (hc : ¬ b.length < (num b).2.1 + (num b).1 + 4) (hs : isSealed ((b.drop (num b).2.1).take ((num b).1 + 4)) = false) :
    readF b = ([], 0, 4, (num b).2.1) := by
  unfold readF; rw [if_neg (by omega), if_neg (by omega), if_neg hl, if_neg hc, if_neg (by rw [hs]; exact Bool.false_ne_true)]

set_option maxRecDepth 100000 in
theorem fnew_any (c n : Int) (w : World) : Calls Tryd.prog 28 #[.int .i64 c, .int .i64 n] w fun e w' => e = .returned (.iface 83 (.agg #[.int .i64 c, .int .i64 n])) ∧ w = w' := by
  go_enter Tryd.func28, Tryd.ntmps28
  go_wp2_with fail
  go_ret
  exact ⟨rfl, rfl⟩
theorem errT_below {w w' : World} (h : ErrT w) (hb : Below w.heap.size w w') : ErrT w' := h.below hb h.lt
set_option maxRecDepth 100000 in
theorem shift_C (c : Nat) (w : World) (hg : ErrT w) :
    Calls Tryd.prog 29 #[.iface 51 (.int .i64 c), .int .i64 0] w fun e w' => e = .returned (faultN c 0) ∧ Below w.heap.size w w' := by
  have HE := Lib.hid hg
  clear hg
  go_enter Tryd.func29, Tryd.ntmps29
  go_wp2_with fail
  refine (errAs.code_C c _ HE.out).mono ?_
  rintro e w1 ⟨rfl, b1⟩
  have HE1 := Lib.hid (errT_below HE.out b1)
  have HB1 := Lib.hid b1
  clear b1
  go_wp2_with fail
  refine (errAs.at_C c _ HE1.out).mono ?_
  rintro e w2 ⟨rfl, b2⟩
  have HB2 := Lib.hid (HB1.out.trans (b2.mono HB1.out.size))
  clear b2
  go_wp2_with fail
  refine (fnew_any _ _ _).mono ?_
  rintro e w3 ⟨rfl, rfl⟩
  go_wp2_with fail
  go_ret
  exact ⟨rfl, HB2.out⟩

set_option maxRecDepth 100000 in
theorem told_none (n : Nat) (w : World) : Calls Tryd.prog 15 #[.nilIface, .int .i64 0, .int .i64 n] w fun e w' => e = .returned (.bool true) ∧ w = w' := by
  go_enter Tryd.func15, Tryd.ntmps15
  go_wp2_with fail
  go_ret
  exact ⟨rfl, rfl⟩
set_option maxRecDepth 100000 in
theorem told_fault (c n : Nat) (hc : c ≠ 0) (w : World) (hg : ErrT w) : Calls Tryd.prog 15 #[faultN c n, .int .i64 c, .int .i64 n] w fun e w' => e = .returned (.bool true) ∧ Below w.heap.size w w' := by
  have HE := Lib.hid hg
  have h0 : ¬ (c : Int) = 0 := by omega
  have h0' : ((c : Int) == 0) = false := by rw [beq_eq_false_iff_ne]; omega
  clear hg
  unfold faultN
  go_enter Tryd.func15, Tryd.ntmps15
  go_wp2_with fail
  refine (errAs.code_F c n _ HE.out).mono ?_
  rintro e w1 ⟨rfl, b1⟩
  have HE1 := Lib.hid (errT_below HE.out b1)
  have HB1 := Lib.hid b1
  clear b1
  go_wp2_with fail
  refine (errAs.at_F c n _ HE1.out).mono ?_
  rintro e w2 ⟨rfl, b2⟩
  have HB2 := Lib.hid (HB1.out.trans (b2.mono HB1.out.size))
  clear b2
  go_wp2_with fail
  go_ret
  exact ⟨rfl, HB2.out⟩
theorem told_any (c n : Nat) (w : World) (hg : ErrT w) : Calls Tryd.prog 15 #[errF c n, .int .i64 c, .int .i64 n] w fun e w' => e = .returned (.bool true) ∧ Below w.heap.size w w' := by
  by_cases hc : c = 0
  · subst hc
    exact (told_none n w).mono fun e w' ⟨h1, h2⟩ => ⟨h1, h2 ▸ Below.refl _ _⟩
  · unfold errF
    rw [if_neg hc]
    exact told_fault c n hc w hg
end Go.Proofs.YtikokimnhanloaaDoor
