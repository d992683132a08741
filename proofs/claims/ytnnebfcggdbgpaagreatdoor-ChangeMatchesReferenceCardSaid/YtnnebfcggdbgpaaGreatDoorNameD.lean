/-
  name.ParseAllowed, Object, Allowed.
-/
import Derived.Test.YtnnebfcggdbgpaaGreatDoorNameC
namespace Go.Proofs.YtnnebfcggdbgpaaGreatDoor
open Go.ChangeShapes Go.WideShapes Go.ChangeAt Go.RowKit
set_option linter.unusedVariables false

def hashA : ByteArray := ⟨#[35]⟩
def parseAll (s : ByteArray) : ByteArray × ByteArray × Nat × Nat :=
  if isName (cut3 s hashA).1 = false then (⟨#[]⟩, ⟨#[]⟩, 5, 0)
  else if (cut3 s hashA).2.2 = true ∧ isName (cut3 s hashA).2.1 = false then (⟨#[]⟩, ⟨#[]⟩, 5, (cut3 s hashA).1.size + 1)
  else ((cut3 s hashA).1, (cut3 s hashA).2.1, 0, 0)

/-- The text of two parts with a sign between them. -/
def objS (t i : ByteArray) : ByteArray := if isName t = true ∧ isId i = true then t ++ ⟨#[58]⟩ ++ i else ⟨#[]⟩
def objB (t i : ByteArray) : Bool := isName t && isId i
def allS (t r : ByteArray) : ByteArray := if isName t = true ∧ r = ⟨#[]⟩ then t else if isName t = true ∧ isName r = true then t ++ ⟨#[35]⟩ ++ r else ⟨#[]⟩
def allB (t r : ByteArray) : Bool := isName t && (decide (r = ⟨#[]⟩) || isName r)

set_option maxRecDepth 100000 in
theorem object_any (t i : ByteArray) (w : World) (h : Env w) (ht : t.size ≤ 1000000) (hi : i.size ≤ 1000000) : Calls Tryz.prog 54 #[.agg #[.string t, .string i]] w fun e w' =>
    e = .returned (.tuple #[.string (objS t i), .bool (objB t i)]) ∧ Below w.heap.size w w' := by
  have hb0 : Below w.heap.size w (w.alloc (.cells #[.string t, .string i] 23)) := (Below.refl w.heap.size w).alloc (Nat.le_refl _) _
  have HE := Lib.hid (h.below hb0)
  have HB := Lib.hid hb0
  have g1 : (t.size : Int) ≤ 1000000 := by omega
  have g2 : (i.size : Int) ≤ 1000000 := by omega
  clear h hb0
  go_enter Tryz.func54, Tryz.ntmps54
  go_wp2_with fail
  refine (isName_any t _ HE.out.1).mono ?_
  rintro e w1 ⟨rfl, b1⟩
  have k1 : w1.heap[w.heap.size]? = some (.cells #[.string t, .string i] 23 (0, 0)) := (b1.block w.heap.size (by simp)).trans (heap_alloc_new w _)
  have HB1 := Lib.hid (HB.out.trans (b1.mono HB.out.size))
  have c0 : w1.cell? ⟨w.heap.size, 0, none⟩ = some (.string t) := cell_of_row _ _ 0 _ _ _ k1
  have c1 : w1.cell? ⟨w.heap.size, 1, none⟩ = some (.string i) := cell_of_row _ _ 1 _ _ _ k1
  have K1 := Lib.hid k1
  have Z1 : Hid (w.heap.size < w1.heap.size) := Nat.lt_of_lt_of_le (by simp) b1.size
  clear b1 k1 HE HB
  cases hn : isName t with
  | false =>
    have HR : Hid (objS t i = ⟨#[]⟩ ∧ objB t i = false) := by constructor <;> simp [objS, objB, hn]
    clear hn
    go_wp2_with fail
    go_ret2
    exact ⟨by rw [HR.out.1, HR.out.2]; rfl, HB1.out⟩
  | true =>
    have HN := Lib.hid hn
    clear hn
    go_wp2_with fail
    refine (isId_any i _).mono ?_
    rintro e w2 ⟨rfl, b2⟩
    have k2 := (b2.block w.heap.size Z1.out).trans K1.out
    have HB2 := Lib.hid (HB1.out.trans (b2.mono HB1.out.size))
    have d0 : w2.cell? ⟨w.heap.size, 0, none⟩ = some (.string t) := cell_of_row _ _ 0 _ _ _ k2
    have d1 : w2.cell? ⟨w.heap.size, 1, none⟩ = some (.string i) := cell_of_row _ _ 1 _ _ _ k2
    clear b2 k2 K1 HB1 Z1 c0 c1
    cases hid : isId i with
    | false =>
      have HR : Hid (objS t i = ⟨#[]⟩ ∧ objB t i = false) := by constructor <;> simp [objS, objB, hid]
      clear hid
      go_wp2_with fail
      go_ret2
      exact ⟨by rw [HR.out.1, HR.out.2]; rfl, HB2.out⟩
    | true =>
      have HR : Hid (objS t i = t ++ ⟨#[58]⟩ ++ i ∧ objB t i = true) := by constructor <;> simp [objS, objB, hid, HN.out]
      clear hid
      go_wp2_with fail
      go_ret2
      exact ⟨by rw [HR.out.1, HR.out.2]; rfl, HB2.out⟩

end Go.Proofs.YtnnebfcggdbgpaaGreatDoor
