/-
  vestryref02.Few, fault.New, fault.In.
-/
import Derived.Test.YtnbeeahfohfgoaaDoorFltB
namespace Go.Proofs.YtnbeeahfohfgoaaDoor
open Go.ChangeShapes Go.WideShapes Go.ChangeAt Go.RowKit
set_option linter.unusedVariables false

/-- The slice of strings that a description holds. -/
def Strs (w : World) (sl : Value) (l : List ByteArray) : Prop :=
  (∃ x, sl = .slice x 0 0 ∧ l = []) ∨ ∃ b off cap, sl = .slice (some ⟨b, off, none⟩) l.length cap ∧ b < w.heap.size ∧ ∀ j, (h : j < l.length) → w.cell? ⟨b, off + j, none⟩ = some (.string l[j])
theorem Strs.below {w w' : World} {sl : Value} {l : List ByteArray} (h : Strs w sl l) (hb : Below w.heap.size w w') : Strs w' sl l := by
  rcases h with h | ⟨b, off, cap, h1, h2, h3⟩
  · exact .inl h
  · exact .inr ⟨b, off, cap, h1, Nat.lt_of_lt_of_le h2 hb.size, fun j hj => (hb.cell (by exact h2)).trans (h3 j hj)⟩
def errD (nl : Bool) (sl : Value) (c a : Int) (f : Bool) : Value := .agg #[.bool nl, sl, .int .i64 c, .int .i64 a, .bool f]

set_option maxRecDepth 100000 in
theorem fnew_any (c n : Int) (w : World) : Calls Tryd.prog 16 #[.int .i64 c, .int .i64 n] w fun e w' => e = .returned (faultV c n) ∧ w = w' := by
  go_enter Tryd.func16, Tryd.ntmps16
  go_wp2_with fail
  go_ret
  exact ⟨rfl, rfl⟩
set_option maxRecDepth 100000 in
theorem in_nil (p : ByteArray) (w : World) : Calls Tryd.prog 13 #[.string p, .nilIface] w fun e w' => e = .returned .nilIface ∧ w = w' := by
  go_enter Tryd.func13, Tryd.ntmps13
  go_wp2_with fail
  go_ret
  exact ⟨rfl, rfl⟩
set_option maxRecDepth 100000 in
theorem in_any (p : ByteArray) (t : TypeId) (v : Value) (w : World) : Calls Tryd.prog 13 #[.string p, .iface t v] w fun e w' => e = .returned (.iface 52 (.agg #[.string p, .iface t v])) ∧ Below w.heap.size w w' := by
  go_enter Tryd.func13, Tryd.ntmps13
  go_wp2_with fail
  go_ret
  refine ⟨rfl, ?_⟩
  first | exact Below.refl _ _ | exact (Below.refl _ _).alloc (Nat.le_refl _) _

/-- Few, in plain words. -/
def fewB (l : List ByteArray) (a : Int) : Bool := (l.all fun p => decide (p.size ≤ 50)) && decide (l.length ≤ 20 ∧ -1152921504606846976 < a ∧ a < 1152921504606846976)

theorem ret_b {x y : Bool} (h : x = y) : Ending.returned (Value.bool x) = Ending.returned (Value.bool y) := by rw [h]
theorem few_no {l : List ByteArray} {a : Int} {k : Nat} (hk : k < l.length) (h : ¬ l[k].size ≤ 50) : fewB l a = false := by
  unfold fewB
  have : (l.all fun p => decide (p.size ≤ 50)) = false := by
    rw [List.all_eq_false]
    exact ⟨l[k], List.getElem_mem _, by simpa using h⟩
  rw [this]; rfl
theorem few_end {l : List ByteArray} {a : Int} (h : ∀ j, (hj : j < l.length) → l[j].size ≤ 50) : fewB l a = decide (l.length ≤ 20 ∧ -1152921504606846976 < a ∧ a < 1152921504606846976) := by
  unfold fewB
  have : (l.all fun p => decide (p.size ≤ 50)) = true := by
    rw [List.all_eq_true]
    intro x hx
    obtain ⟨j, hj, rfl⟩ := List.getElem_of_mem hx
    simpa using h j hj
  rw [this]; rfl

set_option maxRecDepth 100000 in
set_option maxHeartbeats 1000000 in
theorem few_any (nl : Bool) (sl : Value) (l : List ByteArray) (c a : Int) (f : Bool) (w : World) (hs : Strs w sl l) (hl : l.length ≤ 9223372036854775807) :
    Calls Tryd.prog 7 #[errD nl sl c a f] w fun e w' => e = .returned (.bool (fewB l a)) ∧ Below w.heap.size w w' := by
  unfold errD
  have hb := (Below.refl w.heap.size w).alloc (Nat.le_refl _) (.cells #[.bool nl, sl, .int .i64 c, .int .i64 a, .bool f] 24)
  have hs0 := hs.below hb
  obtain ⟨w0, hw0⟩ : ∃ w0, w0 = w.alloc (.cells #[.bool nl, sl, .int .i64 c, .int .i64 a, .bool f] 24) := ⟨_, rfl⟩
  have k0 : w0.heap[w.heap.size]? = some (.cells #[.bool nl, sl, .int .i64 c, .int .i64 a, .bool f] 24 (0, 0)) := by rw [hw0]; exact heap_alloc_new w _
  rw [← hw0] at hb hs0
  have c1 : w0.cell? ⟨w.heap.size, 1, none⟩ = some sl := cell_of_row _ _ 1 _ _ _ k0
  have c3 : w0.cell? ⟨w.heap.size, 3, none⟩ = some (.int .i64 a) := cell_of_row _ _ 3 _ _ _ k0
  have HB := Lib.hid hb
  have HW := Lib.hid hw0
  have HE := Lib.hid (fun h => few_end (l := l) (a := a) h)
  have HN := Lib.hid (fun k hk h => few_no (l := l) (a := a) (k := k) hk h)
  clear hb hw0 k0 hs
  rcases hs0 with ⟨x0, rfl, rfl⟩ | ⟨b, off, cap, rfl, hbl, hc⟩
  · have HR : Hid (fewB [] a = decide (([] : List ByteArray).length ≤ 20 ∧ -1152921504606846976 < a ∧ a < 1152921504606846976)) := HE.out (fun j hj => by cases hj)
    go_enter Tryd.func7, Tryd.ntmps7
    go_wp2_with fail
    rw [← HW.out]
    go_loop [3] (fun iv => iv = .int .i64 0) (fun _ => 0)
    case atStart => rfl
    case round =>
      obtain rfl := hrel
      clear HE HN
      go_wp2_with fail
      all_goals go_ret
      all_goals refine ⟨ret_b ?_, HB.out⟩
      all_goals rw [HR.out]
      all_goals rw [Bool.eq_iff_iff]
      all_goals simp only [decide_eq_true_eq, Bool.false_eq_true, false_iff, List.length_nil]
      all_goals omega
  · have HC := Lib.hid hc
    clear hc
    go_enter Tryd.func7, Tryd.ntmps7
    go_wp2_with fail
    rw [← HW.out]
    go_loop [3] (fun iv => ∃ k : Nat, k ≤ l.length ∧ iv = .int .i64 k ∧ Hid (∀ j, (hj : j < l.length) → j < k → l[j].size ≤ 50)) (fun iv => l.length - (intOf iv).toNat)
    case atStart => exact ⟨0, Nat.zero_le _, rfl, fun j _ hj => by omega⟩
    case round =>
      obtain ⟨k, hk, rfl, HP⟩ := hrel
      by_cases hlt : k < l.length
      · have hk0 : (0 : Int) ≤ k := by omega
        have hk1 : (k : Int) < l.length := by omega
        have ck := HC.out k hlt
        by_cases h50 : l[k].size ≤ 50
        · have g : ¬ (50 : Int) < l[k].size := by omega
          have HL := Lib.hid h50
          go_wp2_with fail
          go_round
          case rel =>
            refine ⟨k + 1, by omega, by go_num, fun j hj hlt' => ?_⟩
            by_cases e : j = k
            · subst e; exact HL.out
            · exact HP.out j hj (by omega)
          case measure => simp [intOf]; omega
        · have g : (50 : Int) < l[k].size := by omega
          have HR : Hid (fewB l a = false) := HN.out k hlt h50
          clear h50
          go_wp2_with fail
          go_ret
          exact ⟨by rw [HR.out]; rfl, HB.out⟩
      · obtain rfl : k = l.length := by omega
        have HR := Lib.hid (HE.out (fun j hj => HP.out j hj hj))
        clear HP HE HN
        go_wp2_with fail
        all_goals go_ret
        all_goals refine ⟨ret_b ?_, HB.out⟩
        all_goals rw [HR.out]
        all_goals rw [Bool.eq_iff_iff]
        all_goals simp only [decide_eq_true_eq, Bool.false_eq_true, false_iff]
        all_goals omega
end Go.Proofs.YtnbeeahfohfgoaaDoor
