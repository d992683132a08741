/-
  crc.Open and the reference's Sealed for any bytes, by one Bool.
-/
import Derived.Test.YtikokimnhanloaaDoorCrcDamage
namespace Go.Proofs.YtikokimnhanloaaDoor
open Go.ChangeShapes Go.WideShapes Go.ChangeAt Go.RowKit

def isSealed (l : List UInt8) : Bool := decide (4 ≤ l.length ∧ reg ones l = tn 32 ones)
def inside (l : List UInt8) : List UInt8 := if isSealed l = true then l.take (l.length - 4) else []
theorem isSealed_short {l : List UInt8} (h : l.length < 4) : isSealed l = false := decide_eq_false (by omega)
theorem isSealed_long (a : List UInt8) (x0 x1 x2 x3 : UInt8) : isSealed (a ++ [x0, x1, x2, x3]) = decide (le x0 x1 x2 x3 = crc a) := by
  have h : le x0 x1 x2 x3 = crc a ↔ reg ones (a ++ [x0, x1, x2, x3]) = tn 32 ones := sealed_reg a x0 x1 x2 x3
  unfold isSealed
  rw [decide_eq_decide, h]
  exact ⟨fun h => h.2, fun h => ⟨by simp, h⟩⟩
theorem isSealed_sealed (l : List UInt8) : isSealed (sealed l) = true := decide_eq_true ⟨by simp [sealed, le4], sealed_ok l⟩
theorem inside_sealed (l : List UInt8) : inside (sealed l) = l := by
  unfold inside
  rw [if_pos (isSealed_sealed l)]
  have e : (sealed l).length - 4 = l.length := by simp [sealed, le4]
  rw [e]
  exact List.take_left' rfl
def OpenPost (w : World) (l : List UInt8) (e : Ending) (w' : World) : Prop :=
  ∃ v, e = .returned (.tuple #[v, .bool (isSealed l)]) ∧ w'.ownsRow w.heap.size 5 1 v (inside l).length (bvs (inside l)) ∧ Below w.heap.size w w'

theorem open_spec {B : Nat} {w : World} {vb : Value} {l : List UInt8} (hr : Rd B w vb l) (hB : B ≤ w.heap.size) (hl : l.length ≤ 30000000000000) :
    Calls Tryd.prog 31 #[vb] w (OpenPost w l) := by
  by_cases h4 : l.length < 4
  · refine (open_any hr hB h4).mono fun e w' ⟨he, hw⟩ => ?_
    subst hw
    have h := isSealed_short h4
    refine ⟨_, by rw [h]; exact he, ?_, Below.refl _ _⟩
    have e2 : inside l = [] := by unfold inside; rw [h]; rfl
    rw [e2]
    exact World.ownsRow_nil _ _ _ _
  · obtain ⟨a, x0, x1, x2, x3, rfl⟩ := tail4 l (by omega)
    have hal : a.length ≤ 30000000000000 := by simp at hl; omega
    have hs := isSealed_long a x0 x1 x2 x3
    by_cases h : le x0 x1 x2 x3 = crc a
    · rw [decide_eq_true h] at hs
      refine (open_yes hr hB hal h).mono fun e w' ⟨v, he, ho, hb⟩ => ⟨v, by rw [hs]; exact he, ?_, hb⟩
      have e2 : inside (a ++ [x0, x1, x2, x3]) = a := by
        unfold inside
        rw [hs, if_pos rfl]
        have e : (a ++ [x0, x1, x2, x3]).length - 4 = a.length := by simp
        rw [e]
        exact List.take_left' rfl
      rw [e2]
      exact ho
    · rw [decide_eq_false h] at hs
      refine (open_no hr hB hal h).mono fun e w' ⟨he, hb⟩ => ⟨_, by rw [hs]; exact he, ?_, hb⟩
      have e2 : inside (a ++ [x0, x1, x2, x3]) = [] := by unfold inside; rw [hs]; rfl
      rw [e2]
      exact World.ownsRow_nil _ _ _ _

theorem rsealed_spec {B : Nat} {w : World} {vb : Value} {l : List UInt8} (hr : Rd B w vb l) (hl : l.length ≤ 30000000000000) :
    Calls Tryd.prog 33 #[vb] w fun e w' => e = .returned (.bool (isSealed l)) ∧ w = w' := by
  by_cases h4 : l.length < 4
  · rw [isSealed_short h4]
    exact sealed_short hr h4
  · obtain ⟨a, x0, x1, x2, x3, rfl⟩ := tail4 l (by omega)
    rw [isSealed_long]
    exact sealed_long hr (by simp at hl; omega)
theorem same_t {A B : Nat} {w : World} {va vb : Value} {l : List UInt8} (ha : Rd A w va l) (hb : Rd B w vb l) :
    Calls Tryd.prog 11 #[va, vb] w fun e w' => e = .returned (.bool true) ∧ ∃ n, w' = w.drewN n := by
  have := same_any ha hb
  rw [show eqB l l = true from by unfold eqB; simp] at this
  exact this
theorem below_drewN {B : Nat} {w w' : World} (h : Below B w w') (n : Nat) : Below B w (w'.drewN n) := ⟨h.os, h.tape, h.output, h.size, h.block⟩
theorem own_below {w w' : World} {base n : Nat} {v : Value} {l : List UInt8} (h : w.ownsRow base 5 1 v n (bvs l)) (hb : Below w.heap.size w w') : w'.ownsRow base 5 1 v n (bvs l) := by
  refine ⟨h.1, ?_⟩
  rcases h.2 with h | ⟨g', cap, cur, e, a1, a2, r⟩
  · exact .inl h
  · exact .inr ⟨g', cap, cur, e, a1, (hb.block g' (Array.getElem?_eq_some_iff.1 a2).1).trans a2, r⟩
theorem own_base {w : World} {base base' n : Nat} {v : Value} {l : List UInt8} (h : w.ownsRow base 5 1 v n (bvs l)) (hb : base' ≤ base) : w.ownsRow base' 5 1 v n (bvs l) := Joins.ownsRow_le h hb
end Go.Proofs.YtikokimnhanloaaDoor
