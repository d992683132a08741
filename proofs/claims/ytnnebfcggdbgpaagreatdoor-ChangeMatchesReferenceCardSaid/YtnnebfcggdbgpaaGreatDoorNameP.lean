/-
  Texts that are cut at a sign; vestryref08.RightObject, RightAllowed, Allowed.
-/
import Derived.Test.YtnnebfcggdbgpaaGreatDoorNameR
import Derived.Test.YtnnebfcggdbgpaaGreatDoorNameD
namespace Go.Proofs.YtnnebfcggdbgpaaGreatDoor
open Go.ChangeShapes Go.WideShapes Go.ChangeAt Go.RowKit
set_option linter.unusedVariables false

theorem index_at (c : UInt8) : ∀ (l r : List UInt8), c ∉ l → Lib.index (l ++ c :: r) [c] = l.length
  | [], r, _ => by simp [Lib.index, List.isPrefixOf]
  | b :: l, r, h => by
    have hb : ¬ c = b := fun e => h (by simp [e])
    have hl : c ∉ l := fun e => h (by simp [e])
    have ih := index_at c l r hl
    show (if [c].isPrefixOf (b :: (l ++ c :: r)) = true then (0 : Int) else if (Lib.index (l ++ c :: r) [c] == -1) = true then -1 else Lib.index (l ++ c :: r) [c] + 1) = _
    have e1 : [c].isPrefixOf (b :: (l ++ c :: r)) = false := by simp [List.isPrefixOf, hb]
    rw [e1, ih]
    have e2 : ((l.length : Int) == -1) = false := by rw [beq_eq_false_iff_ne]; omega
    rw [e2]
    simp
theorem index_no (c : UInt8) : ∀ (l : List UInt8), c ∉ l → Lib.index l [c] = -1
  | [], _ => by simp [Lib.index]
  | b :: l, h => by
    have hb : ¬ c = b := fun e => h (by simp [e])
    have hl : c ∉ l := fun e => h (by simp [e])
    have ih := index_no c l hl
    show (if [c].isPrefixOf (b :: l) = true then (0 : Int) else if (Lib.index l [c] == -1) = true then -1 else Lib.index l [c] + 1) = _
    have e1 : [c].isPrefixOf (b :: l) = false := by simp [List.isPrefixOf, hb]
    rw [e1, ih]
    simp
theorem cut_at (c : UInt8) (t i : ByteArray) (h : c ∉ t.data.toList) : cut3 (t ++ ⟨#[c]⟩ ++ i) ⟨#[c]⟩ = (t, i, true) := by
  have e : (t ++ ⟨#[c]⟩ ++ i).data.toList = t.data.toList ++ c :: i.data.toList := by simp
  unfold cut3
  rw [e]
  have hx := index_at c t.data.toList i.data.toList h
  unfold Lib.cut
  rw [show (⟨#[c]⟩ : ByteArray).data.toList = [c] from rfl, hx, if_pos (by omega)]
  simp only [Int.toNat_natCast]
  rw [List.take_left', List.drop_append]
  · have hd : List.drop (t.size + 1) t.data.toList = [] := List.drop_eq_nil_of_le (by rw [Array.length_toList]; show t.size ≤ _; omega)
    simp [bstr, hd]
  · rfl
theorem cut_no (c : UInt8) (t : ByteArray) (h : c ∉ t.data.toList) : cut3 t ⟨#[c]⟩ = (t, ⟨#[]⟩, false) := by
  unfold cut3
  have hx := index_no c t.data.toList h
  unfold Lib.cut
  rw [show (⟨#[c]⟩ : ByteArray).data.toList = [c] from rfl, hx, if_neg (by omega)]
  rfl
theorem name_no {t : ByteArray} (h : isName t = true) (c : UInt8) (hc : hasB false ⟨#[95]⟩ c = false) : c ∉ t.data.toList := by
  intro hm
  unfold isName at h
  simp only [Bool.and_eq_true] at h
  have h1 := (of_decide_eq_true h.1.1).2.2 c hm
  rw [hc] at h1; cases h1
theorem parse_obj (t i : ByteArray) (h : isName t = true) (hi : isId i = true) : parseObj (t ++ ⟨#[58]⟩ ++ i) = (t, i, 0, 0) := by
  have e := cut_at 58 t i (name_no h 58 (by decide +kernel))
  unfold parseObj
  rw [show colonA = ⟨#[58]⟩ from rfl, e]
  simp [h, hi]
theorem parse_all (t r : ByteArray) (h : isName t = true) (hi : isName r = true) : parseAll (t ++ ⟨#[35]⟩ ++ r) = (t, r, 0, 0) := by
  have e := cut_at 35 t r (name_no h 35 (by decide +kernel))
  unfold parseAll
  rw [show hashA = ⟨#[35]⟩ from rfl, e]
  simp [h, hi]
theorem parse_all0 (t : ByteArray) (h : isName t = true) : parseAll t = (t, ⟨#[]⟩, 0, 0) := by
  have e := cut_no 35 t (name_no h 35 (by decide +kernel))
  unfold parseAll
  rw [show hashA = ⟨#[35]⟩ from rfl, e]
  simp [h]

set_option maxRecDepth 100000 in
theorem right_any (t i : ByteArray) (ht : t.size ≤ 1000000) (hi : i.size ≤ 1000000) (w : World) : Calls Tryz.prog 59 #[.agg #[.string t, .string i]] w fun e w' => e = .returned (.bool (objB t i)) ∧ Below w.heap.size w w' := by
  go_enter Tryz.func59, Tryz.ntmps59
  go_wp2_with fail
  refine (risName_any t ht _).mono ?_
  rintro e w1 ⟨rfl, rfl⟩
  have HT : ∀ b, isName t = b → Hid (isName t = b) := fun _ h => h
  cases hn : isName t with
  | false =>
    have H : Hid (objB t i = false) := by show objB t i = false; simp [objB, hn]
    clear hn
    go_wp2_with fail
    go_ret
    exact ⟨by rw [H.out]; rfl, (Below.refl _ _).alloc (Nat.le_refl _) _⟩
  | true =>
    have H : Hid (objB t i = isId i) := by show objB t i = isId i; simp [objB, hn]
    clear hn
    go_wp2_with fail
    refine (risId_any i hi _).mono ?_
    rintro e w1 ⟨rfl, rfl⟩
    rw [← H.out]
    go_wp2_with fail
    go_ret
    exact ⟨rfl, (Below.refl _ _).alloc (Nat.le_refl _) _⟩

theorem empty_ne {r : ByteArray} (h : ¬ r = ⟨#[]⟩) : (¬ r.toList = []) ∧ r.toList.isEmpty = false := by
  have hne : ¬ r.toList = [] := by
    intro e
    rw [toList_data] at e
    exact h (bytes_inj e)
  refine ⟨hne, ?_⟩
  cases h : r.toList with
  | nil => exact absurd h hne
  | cons a b => rfl
theorem trod_str {H : Type} {enc : TypeId × Value → H} {w : World} {base : Nat} {spare : Nat → Bool} {held : Bool} {s : ByteArray} (h : s.size ≤ maxLen) : ∃ n, DataW.trod enc Tryz.prog w base spare held n 9 [.string s] = some (.lit (.string s.data.toList), []) := by
  refine ⟨1, ?_⟩
  unfold DataW.trod
  rw [Tryz.underlying9]
  simp [h]
end Go.Proofs.YtnnebfcggdbgpaaGreatDoor
