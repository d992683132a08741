/-
  The order of strings; vestryref08.Order.
-/
import Derived.Test.YtdnmgemjhpkekaaGreatNameR
import Derived.Test.YtdnmgemjhpkekaaGreatShelf
import Derived.RegionTactic
import Derived.BigRegion
namespace Go.Proofs.YtdnmgemjhpkekaaGreat
open Go.ChangeShapes Go.WideShapes Go.ChangeAt Go.RowKit
set_option linter.unusedVariables false

theorem cb_flip : ∀ (a b : List UInt8), Lib.compareBytes b a = - Lib.compareBytes a b
  | [], [] => rfl
  | [], _ :: _ => rfl
  | _ :: _, [] => rfl
  | a :: xs, b :: bs => by
    unfold Lib.compareBytes
    by_cases h : a < b
    · have h2 : ¬ b < a := by rw [UInt8.lt_iff_toNat_lt] at *; omega
      rw [if_pos h, if_neg h2, if_pos h]; rfl
    · by_cases h2 : b < a
      · rw [if_pos h2, if_neg h, if_pos h2]
      · rw [if_neg h, if_neg h2, if_neg h2, if_neg h]; exact cb_flip xs bs
theorem cb_eq : ∀ (a b : List UInt8), Lib.compareBytes a b = 0 → a = b
  | [], [], _ => rfl
  | [], _ :: _, h => by simp [Lib.compareBytes] at h
  | _ :: _, [], h => by simp [Lib.compareBytes] at h
  | a :: xs, b :: bs, h => by
    unfold Lib.compareBytes at h
    by_cases h1 : a < b
    · rw [if_pos h1] at h; cases h
    · by_cases h2 : b < a
      · rw [if_neg h1, if_pos h2] at h; cases h
      · rw [if_neg h1, if_neg h2] at h
        have e : a = b := by
          apply UInt8.toNat_inj.1
          rw [UInt8.lt_iff_toNat_lt] at *; omega
        rw [e, cb_eq xs bs h]
theorem cb_self : ∀ (a : List UInt8), Lib.compareBytes a a = 0
  | [] => rfl
  | a :: xs => by
    unfold Lib.compareBytes
    have h2 : ¬ a < a := by rw [UInt8.lt_iff_toNat_lt]; omega
    rw [if_neg h2, if_neg h2]; exact cb_self xs
theorem cb_three : ∀ (a b : List UInt8), Lib.compareBytes a b = -1 ∨ Lib.compareBytes a b = 0 ∨ Lib.compareBytes a b = 1
  | [], [] => .inr (.inl rfl)
  | [], _ :: _ => .inl rfl
  | _ :: _, [] => .inr (.inr rfl)
  | a :: xs, b :: bs => by
    unfold Lib.compareBytes
    by_cases h1 : a < b
    · rw [if_pos h1]; exact .inl rfl
    · by_cases h2 : b < a
      · rw [if_neg h1, if_pos h2]; exact .inr (.inr rfl)
      · rw [if_neg h1, if_neg h2]; exact cb_three xs bs
/-- Going up twice goes up. -/
theorem cb_up : ∀ (a b c : List UInt8), Lib.compareBytes a b < 0 → Lib.compareBytes b c < 0 → Lib.compareBytes a c < 0
  | _, [], [], _, h => by simp [Lib.compareBytes] at h
  | [], [], _ :: _, h, _ => by simp [Lib.compareBytes] at h
  | _ :: _, [], _ :: _, h, _ => by simp [Lib.compareBytes] at h
  | _, _ :: _, [], _, h => by simp [Lib.compareBytes] at h
  | [], _ :: _, _ :: _, _, _ => by simp [Lib.compareBytes]
  | a :: xs, b :: bs, c :: cs, h1, h2 => by
    unfold Lib.compareBytes at h1 h2 ⊢
    by_cases x1 : a < b
    · by_cases x2 : b < c
      · rw [if_pos (by rw [UInt8.lt_iff_toNat_lt] at *; omega)]; decide
      · by_cases x3 : c < b
        · rw [if_neg x2, if_pos x3] at h2; exact absurd h2 (by decide)
        · rw [if_pos (by rw [UInt8.lt_iff_toNat_lt] at *; omega)]; decide
    · by_cases y1 : b < a
      · rw [if_neg x1, if_pos y1] at h1; exact absurd h1 (by decide)
      · rw [if_neg x1, if_neg y1] at h1
        by_cases x2 : b < c
        · rw [if_pos (by rw [UInt8.lt_iff_toNat_lt] at *; omega)]; decide
        · by_cases x3 : c < b
          · rw [if_neg x2, if_pos x3] at h2; exact absurd h2 (by decide)
          · rw [if_neg x2, if_neg x3] at h2
            have e1 : ¬ a < c := by rw [UInt8.lt_iff_toNat_lt] at *; omega
            have e2 : ¬ c < a := by rw [UInt8.lt_iff_toNat_lt] at *; omega
            rw [if_neg e1, if_neg e2]
            exact cb_up xs bs cs h1 h2

def ord (a b : ByteArray) : Int := Lib.compareBytes a.data.toList b.data.toList
def ord2 (t r u q : ByteArray) : Int := if ord t u = 0 then ord r q else ord t u
theorem ord_three (a b : ByteArray) : ord a b = -1 ∨ ord a b = 0 ∨ ord a b = 1 := cb_three _ _
theorem ord_flip (a b : ByteArray) : ord b a = - ord a b := cb_flip _ _
theorem ord_eq {a b : ByteArray} (h : ord a b = 0) : a = b := bytes_inj (cb_eq _ _ h)
theorem ord_self (a : ByteArray) : ord a a = 0 := cb_self _
theorem ord2_three (t r u q : ByteArray) : ord2 t r u q = -1 ∨ ord2 t r u q = 0 ∨ ord2 t r u q = 1 := by
  unfold ord2; split
  · exact ord_three _ _
  · exact ord_three _ _
theorem ord2_flip (t r u q : ByteArray) : ord2 u q t r = - ord2 t r u q := by
  unfold ord2
  rw [ord_flip t u, ord_flip r q]
  by_cases h : ord t u = 0
  · rw [if_pos h, if_pos (by omega)]
  · rw [if_neg h, if_neg (by omega)]
theorem ord2_zero (t r u q : ByteArray) : ord2 t r u q = 0 ↔ t = u ∧ r = q := by
  unfold ord2
  constructor
  · intro h
    by_cases h1 : ord t u = 0
    · rw [if_pos h1] at h; exact ⟨ord_eq h1, ord_eq h⟩
    · rw [if_neg h1] at h; exact absurd h h1
  · rintro ⟨rfl, rfl⟩
    rw [if_pos (ord_self _)]; exact ord_self _
theorem ord_up {a b c : ByteArray} (h1 : ord a b < 0) (h2 : ord b c < 0) : ord a c < 0 := cb_up _ _ _ h1 h2
theorem ord2_le (t r u q v p : ByteArray) (h1 : ¬ 0 < ord2 t r u q) (h2 : ¬ 0 < ord2 u q v p) : ord2 t r v p ≤ 0 := by
  unfold ord2 at *
  by_cases x : ord t u = 0
  · rw [if_pos x] at h1
    obtain rfl := ord_eq x
    by_cases y : ord t v = 0
    · rw [if_pos y] at h2 ⊢
      by_cases z : ord r q = 0
      · obtain rfl := ord_eq z; omega
      · by_cases z2 : ord q p = 0
        · obtain rfl := ord_eq z2; omega
        · have := ord_up (a := r) (b := q) (c := p) (by omega) (by omega); omega
    · rw [if_neg y] at h2 ⊢; omega
  · rw [if_neg x] at h1
    by_cases y : ord u v = 0
    · obtain rfl := ord_eq y
      rw [if_neg x]; omega
    · rw [if_neg y] at h2
      have := ord_up (a := t) (b := u) (c := v) (by omega) (by omega)
      rw [if_neg (by omega)]; omega

theorem cb_drop (a b : List UInt8) : ∀ (k : Nat), k ≤ a.length → k ≤ b.length → (∀ j, (h1 : j < a.length) → (h2 : j < b.length) → j < k → a[j] = b[j]) → Lib.compareBytes a b = Lib.compareBytes (a.drop k) (b.drop k)
  | 0, _, _, _ => by simp
  | k + 1, h1, h2, h => by
    rw [cb_drop a b k (by omega) (by omega) (fun j x y z => h j x y (by omega))]
    rw [List.drop_eq_getElem_cons (i := k) (l := a) (by omega), List.drop_eq_getElem_cons (i := k) (l := b) (by omega)]
    have e := h k (by omega) (by omega) (by omega)
    rw [e, Lib.compareBytes]
    have h2 : ¬ b[k] < b[k] := by rw [UInt8.lt_iff_toNat_lt]; omega
    rw [if_neg h2, if_neg h2]
theorem ord_lt {a b : ByteArray} {k : Nat} (h : ∀ j, (h1 : j < a.size) → (h2 : j < b.size) → j < k → a[j] = b[j]) (ha : k < a.size) (hb : k < b.size) (hl : a[k] < b[k]) : ord a b = -1 := by
  have la : a.data.toList.length = a.size := by rw [Array.length_toList]; rfl
  have lb : b.data.toList.length = b.size := by rw [Array.length_toList]; rfl
  unfold ord
  rw [cb_drop _ _ k (by omega) (by omega) (fun j x y z => h j (by omega) (by omega) z)]
  rw [List.drop_eq_getElem_cons (i := k) (l := a.data.toList) (by omega), List.drop_eq_getElem_cons (i := k) (l := b.data.toList) (by omega), Lib.compareBytes]
  exact if_pos hl
theorem ord_gt {a b : ByteArray} {k : Nat} (h : ∀ j, (h1 : j < a.size) → (h2 : j < b.size) → j < k → a[j] = b[j]) (ha : k < a.size) (hb : k < b.size) (hl : b[k] < a[k]) : ord a b = 1 := by
  have h' := ord_lt (a := b) (b := a) (k := k) (fun j x y z => (h j y x z).symm) hb ha hl
  have := ord_flip a b; omega
theorem ord_end {a b : ByteArray} {k : Nat} (h : ∀ j, (h1 : j < a.size) → (h2 : j < b.size) → j < k → a[j] = b[j]) (ha : k ≤ a.size) (hb : k ≤ b.size) (he : ¬ (k < a.size ∧ k < b.size)) : ord a b = if a.size < b.size then -1 else if b.size < a.size then 1 else 0 := by
  have la : a.data.toList.length = a.size := by rw [Array.length_toList]; rfl
  have lb : b.data.toList.length = b.size := by rw [Array.length_toList]; rfl
  unfold ord
  rw [cb_drop _ _ k (by omega) (by omega) (fun j x y z => h j (by omega) (by omega) z)]
  by_cases h1 : k < a.size
  · have h2 : b.size = k := by omega
    rw [List.drop_eq_getElem_cons (i := k) (l := a.data.toList) (by omega), show b.data.toList.drop k = [] from List.drop_eq_nil_of_le (by omega)]
    rw [if_neg (by omega), if_pos (by omega)]; rfl
  · rw [show a.data.toList.drop k = [] from List.drop_eq_nil_of_le (by omega)]
    by_cases h2 : k < b.size
    · rw [List.drop_eq_getElem_cons (i := k) (l := b.data.toList) (by omega), if_pos (by omega)]; rfl
    · rw [show b.data.toList.drop k = [] from List.drop_eq_nil_of_le (by omega), if_neg (by omega), if_neg (by omega)]; rfl

theorem below_dr {B : Nat} {w w' : World} (h : Below B w w') (n : Nat) : Below B w (w'.drewN n) := ⟨h.os, h.tape, h.output, h.size, h.block⟩
def Same (a b : ByteArray) (k : Nat) : Prop := ∀ j, (h1 : j < a.size) → (h2 : j < b.size) → j < k → a[j] = b[j]
def ends (a b : ByteArray) : Int := if a.size < b.size then -1 else if b.size < a.size then 1 else 0

set_option maxRecDepth 100000 in
set_option maxHeartbeats 1000000 in
theorem order_any (a b : ByteArray) (ha : a.size ≤ 1000000) (hb : b.size ≤ 1000000) (w : World) : Calls Tryz.prog 20 #[.string a, .string b] w fun e w' => e = .returned (.int .i64 (ord a b)) ∧ Below w.heap.size w w' := by
  have ha' : (a.size : Int) ≤ 1000000 := by omega
  have hb' : (b.size : Int) ≤ 1000000 := by omega
  go_enter Tryz.func20, Tryz.ntmps20
  go_wp2_with fail
  go_loopw [5] (fun iv wr => ∃ k : Nat, k ≤ a.size ∧ k ≤ b.size ∧ iv = .int .i64 k ∧ Hid (Same a b k) ∧ Hid (Below w.heap.size w wr)) (fun iv _ => a.size - (intOf iv).toNat)
  case atStart => exact ⟨0, Nat.zero_le _, Nat.zero_le _, rfl, fun j _ _ hj => by omega, Below.refl _ _⟩
  case round =>
    obtain ⟨k, hk, hkb, rfl, HP, HB⟩ := hrel
    have HEND := Lib.hid (fun h => ord_end HP.out hk hkb h)
    have HLT := Lib.hid (fun h1 h2 h3 => ord_lt HP.out (k := k) h1 h2 h3)
    have HGT := Lib.hid (fun h1 h2 h3 => ord_gt HP.out (k := k) h1 h2 h3)
    have hk0 : (0 : Int) ≤ k := by omega
    by_cases hl1 : k < a.size
    · by_cases hl2 : k < b.size
      · have g1 : (k : Int) < a.size := by omega
        have g2 : (k : Int) < b.size := by omega
        have NX : Hid (a[k] = b[k] → Same a b (k + 1)) := fun h j x y hlt => by
          by_cases e : j = k
          · subst e; exact h
          · exact HP.out j x y (by omega)
        clear HEND
        by_cases c1 : a[k].toNat < b[k].toNat
        · have HR : Hid (ord a b = -1) := HLT.out hl1 hl2 (by rw [UInt8.lt_iff_toNat_lt]; exact c1)
          have d1 : (a[k].toNat : Int) < b[k].toNat := by omega
          clear HLT HGT NX HP
          go_wp2_with fail
          go_region
          go_wp2_with fail
          go_ret
          exact ⟨by rw [HR.out]; rfl, below_dr HB.out _⟩
        · by_cases c2 : b[k].toNat < a[k].toNat
          · have HR : Hid (ord a b = 1) := HGT.out hl1 hl2 (by rw [UInt8.lt_iff_toNat_lt]; exact c2)
            have d1 : ¬ (a[k].toNat : Int) < b[k].toNat := by omega
            have d2 : (b[k].toNat : Int) < a[k].toNat := by omega
            clear HLT HGT NX HP
            go_wp2_with fail
            go_region
            go_wp2_with fail
            go_region
            go_wp2_with fail
            go_ret
            exact ⟨by rw [HR.out]; rfl, below_dr (below_dr HB.out 1) 1⟩
          · have HX := Lib.hid (NX.out (UInt8.toNat_inj.1 (by omega)))
            have d1 : ¬ (a[k].toNat : Int) < b[k].toNat := by omega
            have d2 : ¬ (b[k].toNat : Int) < a[k].toNat := by omega
            clear HLT HGT NX HP
            go_wp2_with fail
            go_region
            go_wp2_with fail
            go_region
            go_wp2_with fail
            go_roundw
            case rel => exact ⟨k + 1, by omega, by omega, by go_num, HX.out, below_dr (below_dr HB.out 1) 1⟩
            case measure => simp [intOf]; omega
      · obtain rfl : k = b.size := by omega
        have HR : Hid (ord a b = 1) := by
          show _ = _
          rw [HEND.out (by omega), if_neg (by omega), if_pos (by omega)]
        have g1 : (b.size : Int) < a.size := by omega
        have g2 : ¬ (a.size : Int) < b.size := by omega
        clear HLT HGT HP HEND
        go_wp2_with fail
        go_ret
        exact ⟨by rw [HR.out]; rfl, HB.out⟩
    · obtain rfl : k = a.size := by omega
      by_cases hl2 : a.size < b.size
      · have HR : Hid (ord a b = -1) := by
          show _ = _
          rw [HEND.out (by omega), if_pos (by omega)]
        have g1 : (a.size : Int) < b.size := by omega
        clear HLT HGT HP HEND
        go_wp2_with fail
        go_ret
        exact ⟨by rw [HR.out]; rfl, HB.out⟩
      · have HR : Hid (ord a b = 0) := by
          show _ = _
          rw [HEND.out (by omega), if_neg (by omega), if_neg (by omega)]
        have g1 : ¬ (a.size : Int) < b.size := by omega
        have g2 : ¬ (b.size : Int) < a.size := by omega
        clear HLT HGT HP HEND
        go_wp2_with fail
        go_ret
        exact ⟨by rw [HR.out]; rfl, HB.out⟩
end Go.Proofs.YtdnmgemjhpkekaaGreat
