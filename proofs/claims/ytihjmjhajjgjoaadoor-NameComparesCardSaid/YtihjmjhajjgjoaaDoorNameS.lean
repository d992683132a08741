/-
  The order of strings, cmp.Or, name.Compare, vestryref08.Order and Compare.
-/
import Derived.Test.YtihjmjhajjgjoaaDoorNameP
import Derived.RegionTactic
import Derived.BigRegion
namespace Go.Proofs.YtihjmjhajjgjoaaDoor
open Go.ChangeShapes Go.WideShapes Go.ChangeAt Go.RowKit
set_option linter.unusedVariables false

theorem cb_flip : ∀ (a b : List UInt8), Lib.compareBytes b a = - Lib.compareBytes a b
  | [], [] => rfl
  | [], _ :: _ => rfl
  | _ :: _, [] => rfl
  | a :: xs, b :: bs => by
    unfold Lib.compareBytes
    by_cases h : a < b
    · have h2 : ¬ b < a := by rw [UInt8.lt_iff_toNat_lt] at *; omega
      rw [if_pos h, if_neg h2, if_pos h]; rfl
    · by_cases h2 : b < a
      · rw [if_pos h2, if_neg h, if_pos h2]
      · rw [if_neg h, if_neg h2, if_neg h2, if_neg h]; exact cb_flip xs bs
theorem cb_eq : ∀ (a b : List UInt8), Lib.compareBytes a b = 0 → a = b
  | [], [], _ => rfl
  | [], _ :: _, h => by simp [Lib.compareBytes] at h
  | _ :: _, [], h => by simp [Lib.compareBytes] at h
  | a :: xs, b :: bs, h => by
    unfold Lib.compareBytes at h
    by_cases h1 : a < b
    · rw [if_pos h1] at h; cases h
    · by_cases h2 : b < a
      · rw [if_neg h1, if_pos h2] at h; cases h
      · rw [if_neg h1, if_neg h2] at h
        have e : a = b := by
          apply UInt8.toNat_inj.1
          rw [UInt8.lt_iff_toNat_lt] at *; omega
        rw [e, cb_eq xs bs h]
theorem cb_self : ∀ (a : List UInt8), Lib.compareBytes a a = 0
  | [] => rfl
  | a :: xs => by
    unfold Lib.compareBytes
    have h2 : ¬ a < a := by rw [UInt8.lt_iff_toNat_lt]; omega
    rw [if_neg h2, if_neg h2]; exact cb_self xs
theorem cb_three : ∀ (a b : List UInt8), Lib.compareBytes a b = -1 ∨ Lib.compareBytes a b = 0 ∨ Lib.compareBytes a b = 1
  | [], [] => .inr (.inl rfl)
  | [], _ :: _ => .inl rfl
  | _ :: _, [] => .inr (.inr rfl)
  | a :: xs, b :: bs => by
    unfold Lib.compareBytes
    by_cases h1 : a < b
    · rw [if_pos h1]; exact .inl rfl
    · by_cases h2 : b < a
      · rw [if_neg h1, if_pos h2]; exact .inr (.inr rfl)
      · rw [if_neg h1, if_neg h2]; exact cb_three xs bs
/-- Going up twice goes up. -/
theorem cb_up : ∀ (a b c : List UInt8), Lib.compareBytes a b < 0 → Lib.compareBytes b c < 0 → Lib.compareBytes a c < 0
  | _, [], [], _, h => by simp [Lib.compareBytes] at h
  | [], [], _ :: _, h, _ => by simp [Lib.compareBytes] at h
  | _ :: _, [], _ :: _, h, _ => by simp [Lib.compareBytes] at h
  | _, _ :: _, [], _, h => by simp [Lib.compareBytes] at h
  | [], _ :: _, _ :: _, _, _ => by simp [Lib.compareBytes]
  | a :: xs, b :: bs, c :: cs, h1, h2 => by
    unfold Lib.compareBytes at h1 h2 ⊢
    by_cases x1 : a < b
    · by_cases x2 : b < c
      · rw [if_pos (by rw [UInt8.lt_iff_toNat_lt] at *; omega)]; decide
      · by_cases x3 : c < b
        · rw [if_neg x2, if_pos x3] at h2; exact absurd h2 (by decide)
        · rw [if_pos (by rw [UInt8.lt_iff_toNat_lt] at *; omega)]; decide
    · by_cases y1 : b < a
      · rw [if_neg x1, if_pos y1] at h1; exact absurd h1 (by decide)
      · rw [if_neg x1, if_neg y1] at h1
        by_cases x2 : b < c
        · rw [if_pos (by rw [UInt8.lt_iff_toNat_lt] at *; omega)]; decide
        · by_cases x3 : c < b
          · rw [if_neg x2, if_pos x3] at h2; exact absurd h2 (by decide)
          · rw [if_neg x2, if_neg x3] at h2
            have e1 : ¬ a < c := by rw [UInt8.lt_iff_toNat_lt] at *; omega
            have e2 : ¬ c < a := by rw [UInt8.lt_iff_toNat_lt] at *; omega
            rw [if_neg e1, if_neg e2]
            exact cb_up xs bs cs h1 h2

def ord (a b : ByteArray) : Int := Lib.compareBytes a.data.toList b.data.toList
def ord2 (t r u q : ByteArray) : Int := if ord t u = 0 then ord r q else ord t u
theorem ord_three (a b : ByteArray) : ord a b = -1 ∨ ord a b = 0 ∨ ord a b = 1 := cb_three _ _
theorem ord_flip (a b : ByteArray) : ord b a = - ord a b := cb_flip _ _
theorem ord_eq {a b : ByteArray} (h : ord a b = 0) : a = b := bytes_inj (cb_eq _ _ h)
theorem ord_self (a : ByteArray) : ord a a = 0 := cb_self _
theorem ord2_three (t r u q : ByteArray) : ord2 t r u q = -1 ∨ ord2 t r u q = 0 ∨ ord2 t r u q = 1 := by
  unfold ord2; split
  · exact ord_three _ _
  · exact ord_three _ _
theorem ord2_flip (t r u q : ByteArray) : ord2 u q t r = - ord2 t r u q := by
  unfold ord2
  rw [ord_flip t u, ord_flip r q]
  by_cases h : ord t u = 0
  · rw [if_pos h, if_pos (by omega)]
  · rw [if_neg h, if_neg (by omega)]
theorem ord2_zero (t r u q : ByteArray) : ord2 t r u q = 0 ↔ t = u ∧ r = q := by
  unfold ord2
  constructor
  · intro h
    by_cases h1 : ord t u = 0
    · rw [if_pos h1] at h; exact ⟨ord_eq h1, ord_eq h⟩
    · rw [if_neg h1] at h; exact absurd h h1
  · rintro ⟨rfl, rfl⟩
    rw [if_pos (ord_self _)]; exact ord_self _
theorem ord_up {a b c : ByteArray} (h1 : ord a b < 0) (h2 : ord b c < 0) : ord a c < 0 := cb_up _ _ _ h1 h2
theorem ord2_le (t r u q v p : ByteArray) (h1 : ¬ 0 < ord2 t r u q) (h2 : ¬ 0 < ord2 u q v p) : ord2 t r v p ≤ 0 := by
  unfold ord2 at *
  by_cases x : ord t u = 0
  · rw [if_pos x] at h1
    obtain rfl := ord_eq x
    by_cases y : ord t v = 0
    · rw [if_pos y] at h2 ⊢
      by_cases z : ord r q = 0
      · obtain rfl := ord_eq z; omega
      · by_cases z2 : ord q p = 0
        · obtain rfl := ord_eq z2; omega
        · have := ord_up (a := r) (b := q) (c := p) (by omega) (by omega); omega
    · rw [if_neg y] at h2 ⊢; omega
  · rw [if_neg x] at h1
    by_cases y : ord u v = 0
    · obtain rfl := ord_eq y
      rw [if_neg x]; omega
    · rw [if_neg y] at h2
      have := ord_up (a := t) (b := u) (c := v) (by omega) (by omega)
      rw [if_neg (by omega)]; omega

theorem cb_drop (a b : List UInt8) : ∀ (k : Nat), k ≤ a.length → k ≤ b.length → (∀ j, (h1 : j < a.length) → (h2 : j < b.length) → j < k → a[j] = b[j]) → Lib.compareBytes a b = Lib.compareBytes (a.drop k) (b.drop k)
  | 0, _, _, _ => by simp
  | k + 1, h1, h2, h => by
    rw [cb_drop a b k (by omega) (by omega) (fun j x y z => h j x y (by omega))]
    rw [List.drop_eq_getElem_cons (i := k) (l := a) (by omega), List.drop_eq_getElem_cons (i := k) (l := b) (by omega)]
    have e := h k (by omega) (by omega) (by omega)
    rw [e, Lib.compareBytes]
    have h2 : ¬ b[k] < b[k] := by rw [UInt8.lt_iff_toNat_lt]; omega
    rw [if_neg h2, if_neg h2]
theorem ord_lt {a b : ByteArray} {k : Nat} (h : ∀ j, (h1 : j < a.size) → (h2 : j < b.size) → j < k → a[j] = b[j]) (ha : k < a.size) (hb : k < b.size) (hl : a[k] < b[k]) : ord a b = -1 := by
  have la : a.data.toList.length = a.size := by rw [Array.length_toList]; rfl
  have lb : b.data.toList.length = b.size := by rw [Array.length_toList]; rfl
  unfold ord
  rw [cb_drop _ _ k (by omega) (by omega) (fun j x y z => h j (by omega) (by omega) z)]
  rw [List.drop_eq_getElem_cons (i := k) (l := a.data.toList) (by omega), List.drop_eq_getElem_cons (i := k) (l := b.data.toList) (by omega), Lib.compareBytes]
  exact if_pos hl
theorem ord_gt {a b : ByteArray} {k : Nat} (h : ∀ j, (h1 : j < a.size) → (h2 : j < b.size) → j < k → a[j] = b[j]) (ha : k < a.size) (hb : k < b.size) (hl : b[k] < a[k]) : ord a b = 1 := by
  have h' := ord_lt (a := b) (b := a) (k := k) (fun j x y z => (h j y x z).symm) hb ha hl
  have := ord_flip a b; omega
theorem ord_end {a b : ByteArray} {k : Nat} (h : ∀ j, (h1 : j < a.size) → (h2 : j < b.size) → j < k → a[j] = b[j]) (ha : k ≤ a.size) (hb : k ≤ b.size) (he : ¬ (k < a.size ∧ k < b.size)) : ord a b = if a.size < b.size then -1 else if b.size < a.size then 1 else 0 := by
  have la : a.data.toList.length = a.size := by rw [Array.length_toList]; rfl
  have lb : b.data.toList.length = b.size := by rw [Array.length_toList]; rfl
  unfold ord
  rw [cb_drop _ _ k (by omega) (by omega) (fun j x y z => h j (by omega) (by omega) z)]
  by_cases h1 : k < a.size
  · have h2 : b.size = k := by omega
    rw [List.drop_eq_getElem_cons (i := k) (l := a.data.toList) (by omega), show b.data.toList.drop k = [] from List.drop_eq_nil_of_le (by omega)]
    rw [if_neg (by omega), if_pos (by omega)]; rfl
  · rw [show a.data.toList.drop k = [] from List.drop_eq_nil_of_le (by omega)]
    by_cases h2 : k < b.size
    · rw [List.drop_eq_getElem_cons (i := k) (l := b.data.toList) (by omega), if_pos (by omega)]; rfl
    · rw [show b.data.toList.drop k = [] from List.drop_eq_nil_of_le (by omega), if_neg (by omega), if_neg (by omega)]; rfl
end Go.Proofs.YtihjmjhajjgjoaaDoor
