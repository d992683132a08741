/-
  The order of strings; vestryref08.Order.
-/
import Derived.Test.YteieimchleioaaaGreatDoorMp0
import Derived.RegionTactic
import Derived.BigRegion
import Derived.Test.YteieimchleioaaaGreatDoorMp6
import Derived.StillTailTactics
import Derived.Test.YteieimchleioaaaGreatDoorMp5
import Derived.WalkKit
import Derived.ProofKit
import Derived.Below
import Derived.Lib.Hide
import Derived.Deep.RegionHeld3
import Derived.Deep.RegionLaw
namespace Go.Proofs.YteieimchleioaaaGreatDoor
open Go.ChangeShapes Go.WideShapes Go.ChangeAt Go.RowKit
set_option linter.unusedVariables false

theorem cb_flip : ∀ (a b : List UInt8), Lib.compareBytes b a = - Lib.compareBytes a b
 | [], [] => rfl
 | [], _ :: _ => rfl
 | _ :: _, [] => rfl
 | a :: xs, b :: bs => by
  unfold Lib.compareBytes
  by_cases h : a < b
  ·have h2 : ¬ b < a := by rw [UInt8.lt_iff_toNat_lt] at *; omega
   rw [if_pos h, if_neg h2, if_pos h]; rfl
  ·by_cases h2 : b < a
   ·rw [if_pos h2, if_neg h, if_pos h2]
   ·rw [if_neg h, if_neg h2, if_neg h2, if_neg h]; exact cb_flip xs bs
theorem cb_eq : ∀ (a b : List UInt8), Lib.compareBytes a b = 0 → a = b
 | [], [], _ => rfl
 | [], _ :: _, h => by simp [Lib.compareBytes] at h
 | _ :: _, [], h => by simp [Lib.compareBytes] at h
 | a :: xs, b :: bs, h => by
  unfold Lib.compareBytes at h
  by_cases h1 : a < b
  ·rw [if_pos h1] at h; cases h
  ·by_cases h2 : b < a
   ·rw [if_neg h1, if_pos h2] at h; cases h
   ·rw [if_neg h1, if_neg h2] at h
    have e : a = b := by
     apply UInt8.toNat_inj.1
     rw [UInt8.lt_iff_toNat_lt] at *; omega
    rw [e, cb_eq xs bs h]
theorem cb_self : ∀ (a : List UInt8), Lib.compareBytes a a = 0
 | [] => rfl
 | a :: xs => by
  unfold Lib.compareBytes
  have h2 : ¬ a < a := by rw [UInt8.lt_iff_toNat_lt]; omega
  rw [if_neg h2, if_neg h2]; exact cb_self xs
theorem cb_three : ∀ (a b : List UInt8), Lib.compareBytes a b = -1 ∨ Lib.compareBytes a b = 0 ∨ Lib.compareBytes a b = 1
 | [], [] => .inr (.inl rfl)
 | [], _ :: _ => .inl rfl
 | _ :: _, [] => .inr (.inr rfl)
 | a :: xs, b :: bs => by
  unfold Lib.compareBytes
  by_cases h1 : a < b
  ·rw [if_pos h1]; exact .inl rfl
  ·by_cases h2 : b < a
   ·rw [if_neg h1, if_pos h2]; exact .inr (.inr rfl)
   ·rw [if_neg h1, if_neg h2]; exact cb_three xs bs
/-- Going up twice goes up. -/
theorem cb_up : ∀ (a b c : List UInt8), Lib.compareBytes a b < 0 → Lib.compareBytes b c < 0 → Lib.compareBytes a c < 0
 | _, [], [], _, h => by simp [Lib.compareBytes] at h
 | [], [], _ :: _, h, _ => by simp [Lib.compareBytes] at h
 | _ :: _, [], _ :: _, h, _ => by simp [Lib.compareBytes] at h
 | _, _ :: _, [], _, h => by simp [Lib.compareBytes] at h
 | [], _ :: _, _ :: _, _, _ => by simp [Lib.compareBytes]
 | a :: xs, b :: bs, c :: cs, h1, h2 => by
  unfold Lib.compareBytes at h1 h2 ⊢
  by_cases x1 : a < b
  ·by_cases x2 : b < c
   ·rw [if_pos (by rw [UInt8.lt_iff_toNat_lt] at *; omega)]; decide
   ·by_cases x3 : c < b
    ·rw [if_neg x2, if_pos x3] at h2; exact absurd h2 (by decide)
    ·rw [if_pos (by rw [UInt8.lt_iff_toNat_lt] at *; omega)]; decide
  ·by_cases y1 : b < a
   ·rw [if_neg x1, if_pos y1] at h1; exact absurd h1 (by decide)
   ·rw [if_neg x1, if_neg y1] at h1
    by_cases x2 : b < c
    ·rw [if_pos (by rw [UInt8.lt_iff_toNat_lt] at *; omega)]; decide
    ·by_cases x3 : c < b
     ·rw [if_neg x2, if_pos x3] at h2; exact absurd h2 (by decide)
     ·rw [if_neg x2, if_neg x3] at h2
      have e1 : ¬ a < c := by rw [UInt8.lt_iff_toNat_lt] at *; omega
      have e2 : ¬ c < a := by rw [UInt8.lt_iff_toNat_lt] at *; omega
      rw [if_neg e1, if_neg e2]
      exact cb_up xs bs cs h1 h2

def ord (a b : ByteArray) : Int := Lib.compareBytes a.data.toList b.data.toList
def ord2 (t r u q : ByteArray) : Int := if ord t u = 0 then ord r q else ord t u
theorem ord_three (a b : ByteArray) : ord a b = -1 ∨ ord a b = 0 ∨ ord a b = 1 := cb_three _ _
theorem ord_flip (a b : ByteArray) : ord b a = - ord a b := cb_flip _ _
theorem ord_eq {a b : ByteArray} (h : ord a b = 0) : a = b := bytes_inj (cb_eq _ _ h)
theorem ord_self (a : ByteArray) : ord a a = 0 := cb_self _
theorem ord2_three (t r u q : ByteArray) : ord2 t r u q = -1 ∨ ord2 t r u q = 0 ∨ ord2 t r u q = 1 := by
 unfold ord2; split
 ·exact ord_three _ _
 ·exact ord_three _ _
theorem ord2_flip (t r u q : ByteArray) : ord2 u q t r = - ord2 t r u q := by
 unfold ord2
 rw [ord_flip t u, ord_flip r q]
 by_cases h : ord t u = 0
 ·rw [if_pos h, if_pos (by omega)]
 ·rw [if_neg h, if_neg (by omega)]
theorem ord2_zero (t r u q : ByteArray) : ord2 t r u q = 0 ↔ t = u ∧ r = q := by
 unfold ord2
 constructor
 ·intro h
  by_cases h1 : ord t u = 0
  ·rw [if_pos h1] at h; exact ⟨ord_eq h1, ord_eq h⟩
  ·rw [if_neg h1] at h; exact absurd h h1
 ·rintro ⟨rfl, rfl⟩
  rw [if_pos (ord_self _)]; exact ord_self _
theorem ord_up {a b c : ByteArray} (h1 : ord a b < 0) (h2 : ord b c < 0) : ord a c < 0 := cb_up _ _ _ h1 h2
theorem ord2_le (t r u q v p : ByteArray) (h1 : ¬ 0 < ord2 t r u q) (h2 : ¬ 0 < ord2 u q v p) : ord2 t r v p ≤ 0 := by
 unfold ord2 at *
 by_cases x : ord t u = 0
 ·rw [if_pos x] at h1
  obtain rfl := ord_eq x
  by_cases y : ord t v = 0
  ·rw [if_pos y] at h2 ⊢
   by_cases z : ord r q = 0
   ·obtain rfl := ord_eq z; omega
   ·by_cases z2 : ord q p = 0
    ·obtain rfl := ord_eq z2; omega
    ·have := ord_up (a := r) (b := q) (c := p) (by omega) (by omega); omega
  ·rw [if_neg y] at h2 ⊢; omega
 ·rw [if_neg x] at h1
  by_cases y : ord u v = 0
  ·obtain rfl := ord_eq y
   rw [if_neg x]; omega
  ·rw [if_neg y] at h2
   have := ord_up (a := t) (b := u) (c := v) (by omega) (by omega)
   rw [if_neg (by omega)]; omega

theorem cb_drop (a b : List UInt8) : ∀ (k : Nat), k ≤ a.length → k ≤ b.length → (∀ j, (h1 : j < a.length) → (h2 : j < b.length) → j < k → a[j] = b[j]) → Lib.compareBytes a b = Lib.compareBytes (a.drop k) (b.drop k)
 | 0, _, _, _ => by simp
 | k + 1, h1, h2, h => by
  rw [cb_drop a b k (by omega) (by omega) (fun j x y z => h j x y (by omega))]
  rw [List.drop_eq_getElem_cons (i := k) (l := a) (by omega), List.drop_eq_getElem_cons (i := k) (l := b) (by omega)]
  have e := h k (by omega) (by omega) (by omega)
  rw [e, Lib.compareBytes]
  have h2 : ¬ b[k] < b[k] := by rw [UInt8.lt_iff_toNat_lt]; omega
  rw [if_neg h2, if_neg h2]
theorem ord_lt {a b : ByteArray} {k : Nat} (h : ∀ j, (h1 : j < a.size) → (h2 : j < b.size) → j < k → a[j] = b[j]) (ha : k < a.size) (hb : k < b.size) (hl : a[k] < b[k]) : ord a b = -1 := by
 have la : a.data.toList.length = a.size := by rw [Array.length_toList]; rfl
 have lb : b.data.toList.length = b.size := by rw [Array.length_toList]; rfl
 unfold ord
 rw [cb_drop _ _ k (by omega) (by omega) (fun j x y z => h j (by omega) (by omega) z)]
 rw [List.drop_eq_getElem_cons (i := k) (l := a.data.toList) (by omega), List.drop_eq_getElem_cons (i := k) (l := b.data.toList) (by omega), Lib.compareBytes]
 exact if_pos hl
theorem ord_gt {a b : ByteArray} {k : Nat} (h : ∀ j, (h1 : j < a.size) → (h2 : j < b.size) → j < k → a[j] = b[j]) (ha : k < a.size) (hb : k < b.size) (hl : b[k] < a[k]) : ord a b = 1 := by
 have h' := ord_lt (a := b) (b := a) (k := k) (fun j x y z => (h j y x z).symm) hb ha hl
 have := ord_flip a b; omega
theorem ord_end {a b : ByteArray} {k : Nat} (h : ∀ j, (h1 : j < a.size) → (h2 : j < b.size) → j < k → a[j] = b[j]) (ha : k ≤ a.size) (hb : k ≤ b.size) (he : ¬ (k < a.size ∧ k < b.size)) : ord a b = if a.size < b.size then -1 else if b.size < a.size then 1 else 0 := by
 have la : a.data.toList.length = a.size := by rw [Array.length_toList]; rfl
 have lb : b.data.toList.length = b.size := by rw [Array.length_toList]; rfl
 unfold ord
 rw [cb_drop _ _ k (by omega) (by omega) (fun j x y z => h j (by omega) (by omega) z)]
 by_cases h1 : k < a.size
 ·have h2 : b.size = k := by omega
  rw [List.drop_eq_getElem_cons (i := k) (l := a.data.toList) (by omega), show b.data.toList.drop k = [] from List.drop_eq_nil_of_le (by omega)]
  rw [if_neg (by omega), if_pos (by omega)]; rfl
 ·rw [show a.data.toList.drop k = [] from List.drop_eq_nil_of_le (by omega)]
  by_cases h2 : k < b.size
  ·rw [List.drop_eq_getElem_cons (i := k) (l := b.data.toList) (by omega), if_pos (by omega)]; rfl
  ·rw [show b.data.toList.drop k = [] from List.drop_eq_nil_of_le (by omega), if_neg (by omega), if_neg (by omega)]; rfl

theorem below_dr {B : Nat} {w w' : World} (h : Below B w w') (n : Nat) : Below B w (w'.drewN n) := ⟨h.os, h.tape, h.output, h.size, h.block⟩
def Same (a b : ByteArray) (k : Nat) : Prop := ∀ j, (h1 : j < a.size) → (h2 : j < b.size) → j < k → a[j] = b[j]
def ends (a b : ByteArray) : Int := if a.size < b.size then -1 else if b.size < a.size then 1 else 0

set_option maxRecDepth 100000 in
set_option maxHeartbeats 1000000 in
theorem order_any (a b : ByteArray) (ha : a.size ≤ 1000000) (hb : b.size ≤ 1000000) (w : World) : Calls Tryz.prog 29 #[.string a, .string b] w fun e w' => e = .returned (.int .i64 (ord a b)) ∧ Below w.heap.size w w' := by
 have ha' : (a.size : Int) ≤ 1000000 := by omega
 have hb' : (b.size : Int) ≤ 1000000 := by omega
 go_enter Tryz.func29, Tryz.ntmps29
 go_wp2_with fail
 go_loopw [5] (fun iv wr => ∃ k : Nat, k ≤ a.size ∧ k ≤ b.size ∧ iv = .int .i64 k ∧ Hid (Same a b k) ∧ Hid (Below w.heap.size w wr)) (fun iv _ => a.size - (intOf iv).toNat)
 case atStart => exact ⟨0, Nat.zero_le _, Nat.zero_le _, rfl, fun j _ _ hj => by omega, Below.refl _ _⟩
 case round =>
  obtain ⟨k, hk, hkb, rfl, HP, HB⟩ := hrel
  have HEND := Lib.hid (fun h => ord_end HP.out hk hkb h)
  have HLT := Lib.hid (fun h1 h2 h3 => ord_lt HP.out (k := k) h1 h2 h3)
  have HGT := Lib.hid (fun h1 h2 h3 => ord_gt HP.out (k := k) h1 h2 h3)
  have hk0 : (0 : Int) ≤ k := by omega
  by_cases hl1 : k < a.size
  ·by_cases hl2 : k < b.size
   ·have g1 : (k : Int) < a.size := by omega
    have g2 : (k : Int) < b.size := by omega
    have NX : Hid (a[k] = b[k] → Same a b (k + 1)) := fun h j x y hlt => by
     by_cases e : j = k
     ·subst e; exact h
     ·exact HP.out j x y (by omega)
    clear HEND
    by_cases c1 : a[k].toNat < b[k].toNat
    ·have HR : Hid (ord a b = -1) := HLT.out hl1 hl2 (by rw [UInt8.lt_iff_toNat_lt]; exact c1)
     have d1 : (a[k].toNat : Int) < b[k].toNat := by omega
     clear HLT HGT NX HP
     go_wp2_with fail
     go_region
     go_wp2_with fail
     go_ret
     exact ⟨by rw [HR.out]; rfl, below_dr HB.out _⟩
    ·by_cases c2 : b[k].toNat < a[k].toNat
     ·have HR : Hid (ord a b = 1) := HGT.out hl1 hl2 (by rw [UInt8.lt_iff_toNat_lt]; exact c2)
      have d1 : ¬ (a[k].toNat : Int) < b[k].toNat := by omega
      have d2 : (b[k].toNat : Int) < a[k].toNat := by omega
      clear HLT HGT NX HP
      go_wp2_with fail
      go_region
      go_wp2_with fail
      go_region
      go_wp2_with fail
      go_ret
      exact ⟨by rw [HR.out]; rfl, below_dr (below_dr HB.out 1) 1⟩
     ·have HX := Lib.hid (NX.out (UInt8.toNat_inj.1 (by omega)))
      have d1 : ¬ (a[k].toNat : Int) < b[k].toNat := by omega
      have d2 : ¬ (b[k].toNat : Int) < a[k].toNat := by omega
      clear HLT HGT NX HP
      go_wp2_with fail
      go_region
      go_wp2_with fail
      go_region
      go_wp2_with fail
      go_roundw
      case rel => exact ⟨k + 1, by omega, by omega, by go_num, HX.out, below_dr (below_dr HB.out 1) 1⟩
      case measure => simp [intOf]; omega
   ·obtain rfl : k = b.size := by omega
    have HR : Hid (ord a b = 1) := by
     show _ = _
     rw [HEND.out (by omega), if_neg (by omega), if_pos (by omega)]
    have g1 : (b.size : Int) < a.size := by omega
    have g2 : ¬ (a.size : Int) < b.size := by omega
    clear HLT HGT HP HEND
    go_wp2_with fail
    go_ret
    exact ⟨by rw [HR.out]; rfl, HB.out⟩
  ·obtain rfl : k = a.size := by omega
   by_cases hl2 : a.size < b.size
   ·have HR : Hid (ord a b = -1) := by
     show _ = _
     rw [HEND.out (by omega), if_pos (by omega)]
    have g1 : (a.size : Int) < b.size := by omega
    clear HLT HGT HP HEND
    go_wp2_with fail
    go_ret
    exact ⟨by rw [HR.out]; rfl, HB.out⟩
   ·have HR : Hid (ord a b = 0) := by
     show _ = _
     rw [HEND.out (by omega), if_neg (by omega), if_neg (by omega)]
    have g1 : ¬ (a.size : Int) < b.size := by omega
    have g2 : ¬ (b.size : Int) < a.size := by omega
    clear HLT HGT HP HEND
    go_wp2_with fail
    go_ret
    exact ⟨by rw [HR.out]; rfl, HB.out⟩
end Go.Proofs.YteieimchleioaaaGreatDoor
/-
  vestryref10.Compare.
-/
namespace Go.Proofs.YteieimchleioaaaGreatDoor
open Go.ChangeShapes Go.WideShapes Go.ChangeAt Go.RowKit
set_option linter.unusedVariables false

theorem cmpE_lt {k k2 : Int} {v n v2 n2 : List UInt8} {ks ls : List Ex} (h : k < k2) : cmpE (.mk k v n ks) (.mk k2 v2 n2 ls) = -1 := by
 unfold cmpE
 simp [orL, Ex.kind, Lib.compareInt, h]
theorem cmpE_gt {k k2 : Int} {v n v2 n2 : List UInt8} {ks ls : List Ex} (h : k2 < k) : cmpE (.mk k v n ks) (.mk k2 v2 n2 ls) = 1 := by
 unfold cmpE
 have h2 : ¬ k < k2 := by omega
 simp [orL, Ex.kind, Lib.compareInt, h, h2]
theorem cmpE_via {k : Int} {v n v2 n2 : List UInt8} {ks ls : List Ex} (h : Lib.compareBytes v v2 ≠ 0) : cmpE (.mk k v n ks) (.mk k v2 n2 ls) = Lib.compareBytes v v2 := by
 unfold cmpE
 simp [orL, Ex.kind, Ex.via, Lib.compareInt, h]
theorem cmpE_nm {k : Int} {v n v2 n2 : List UInt8} {ks ls : List Ex} (h1 : Lib.compareBytes v v2 = 0) (h : Lib.compareBytes n n2 ≠ 0) : cmpE (.mk k v n ks) (.mk k v2 n2 ls) = Lib.compareBytes n n2 := by
 unfold cmpE
 simp [orL, Ex.kind, Ex.via, Ex.nm, Lib.compareInt, h, h1]
theorem cmpE_kids {k : Int} {v n v2 n2 : List UInt8} {ks ls : List Ex} (h1 : Lib.compareBytes v v2 = 0) (h : Lib.compareBytes n n2 = 0) : cmpE (.mk k v n ks) (.mk k v2 n2 ls) = cmpL ks ls := by
 rw [cmpE, show Lib.compareInt k (Ex.mk k v2 n2 ls).kind = 0 by simp [Ex.kind, Lib.compareInt]]
 simp only [orL, Ex.via, Ex.nm, Ex.kids, h1, h, if_true]
 by_cases h3 : cmpL ks ls = 0 <;> simp [h3]
theorem cmpL_end {ks ls : List Ex} {i : Nat} (h1 : i ≤ ks.length) (h2 : i ≤ ls.length) (h : ¬ (i < ks.length ∧ i < ls.length)) : cmpL (ks.drop i) (ls.drop i) = if ks.length < ls.length then -1 else if ls.length < ks.length then 1 else 0 := by
 by_cases h3 : i < ks.length
 ·rw [List.drop_eq_getElem_cons h3, show ls.drop i = [] from List.drop_eq_nil_of_le (by omega), if_neg (by omega), if_pos (by omega)]
  unfold cmpL; rfl
 ·rw [show ks.drop i = [] from List.drop_eq_nil_of_le (by omega)]
  by_cases h4 : i < ls.length
  ·rw [List.drop_eq_getElem_cons h4, if_pos (by omega)]
   unfold cmpL; rfl
  ·rw [show ls.drop i = [] from List.drop_eq_nil_of_le (by omega), if_neg (by omega), if_neg (by omega)]
   unfold cmpL; rfl

set_option maxRecDepth 100000 in
set_option maxHeartbeats 8000000 in
theorem rcompare_any : ∀ (n : Nat) (x y : Ex) (vx vy : Value) (P Q : Nat → Prop) (w : World), sizeE x ≤ n → sizeE x ≤ 900000 → sizeE y ≤ 900000 → okE 100000 x → okE 100000 y → RdE P w x vx → RdE Q w y vy → (∀ b, P b → b < w.heap.size) → (∀ b, Q b → b < w.heap.size) → Calls Tryz.prog 12 #[vx, vy] w fun r w' => r = .returned (.int .i64 (cmpE x y)) ∧ Below w.heap.size w w' := by
 intro n
 induction n with
 | zero => intro x y vx vy P Q w h; have := sizeE_pos x; omega
 | succ n ih =>
  intro x y vx vy P Q w hx hxm hy hox hoy h1 h2 hP hQ
  obtain ⟨q, c, rfl, _, hk⟩ := h1.form
  obtain ⟨q2, c2, rfl, _, hl⟩ := h2.form
  obtain ⟨k, xv, xn, ks⟩ := x
  obtain ⟨k2, yv, yn, ls⟩ := y
  unfold exv
  show Calls _ _ #[.agg #[.int .i64 k, .string (bstr xv), .string (bstr xn), .slice q ks.length c], .agg #[.int .i64 k2, .string (bstr yv), .string (bstr yn), .slice q2 ls.length c2]] _ _
  have hks : sizeL ks ≤ n := by unfold sizeE at hx; omega
  have hkm : sizeL ks ≤ 900000 := by unfold sizeE at hxm; omega
  have hls : sizeL ls ≤ 900000 := by unfold sizeE at hy; omega
  have hlen := sizeL_len ks
  have hlen2 := sizeL_len ls
  unfold okE at hox hoy
  have HOK := Lib.hid hox.2.2
  have HOL := Lib.hid hoy.2.2
  have HOV : Hid (∀ W, Calls Tryz.prog 29 #[.string (bstr xv), .string (bstr yv)] W fun e w' => e = .returned (.int .i64 (Lib.compareBytes xv yv)) ∧ Below W.heap.size W w') := fun W => order_any (bstr xv) (bstr yv) (by rw [bstr_size]; omega) (by rw [bstr_size]; omega) W
  have HON : Hid (∀ W, Calls Tryz.prog 29 #[.string (bstr xn), .string (bstr yn)] W fun e w' => e = .returned (.int .i64 (Lib.compareBytes xn yn)) ∧ Below W.heap.size W w') := fun W => order_any (bstr xn) (bstr yn) (by rw [bstr_size]; omega) (by rw [bstr_size]; omega) W
  have hb : Below w.heap.size w ((w.alloc (.cells #[.int .i64 k, .string (bstr xv), .string (bstr xn), .slice q ks.length c] 38)).alloc (.cells #[.int .i64 k2, .string (bstr yv), .string (bstr yn), .slice q2 ls.length c2] 38)) := ((Below.refl _ _).alloc (Nat.le_refl _) _).alloc (by simp) _
  have ha1 : Arr ((w.alloc (.cells #[.int .i64 k, .string (bstr xv), .string (bstr xn), .slice q ks.length c] 38)).alloc (.cells #[.int .i64 k2, .string (bstr yv), .string (bstr yn), .slice q2 ls.length c2] 38)) 38 w.heap.size [.int .i64 k, .string (bstr xv), .string (bstr xn), .slice q ks.length c] := (Arr.new' w _ _ _ rfl).alloc _
  have ha2 : Arr ((w.alloc (.cells #[.int .i64 k, .string (bstr xv), .string (bstr xn), .slice q ks.length c] 38)).alloc (.cells #[.int .i64 k2, .string (bstr yv), .string (bstr yn), .slice q2 ls.length c2] 38)) 38 (w.heap.size + 1) [.int .i64 k2, .string (bstr yv), .string (bstr yn), .slice q2 ls.length c2] := Arr.new2 w _ _ _ _ rfl
  have HB := Lib.hid hb
  have HA1 := Lib.hid ha1
  have HA2 := Lib.hid ha2
  have HIH := Lib.hid ih
  have HP := Lib.hid hP
  have HQ := Lib.hid hQ
  have HK : Hid (0 < ks.length → ∃ b o, q = some ⟨b, o, none⟩ ∧ P b ∧ RdL P w ks b o) := hk
  have HL : Hid (0 < ls.length → ∃ b o, q2 = some ⟨b, o, none⟩ ∧ Q b ∧ RdL Q w ls b o) := hl
  clear h1 h2 hk hl hx hy hxm hb ha1 ha2 ih hox hoy hP hQ
  by_cases hlt : k < k2
  ·have HE : Hid (cmpE (.mk k xv xn ks) (.mk k2 yv yn ls) = -1) := cmpE_lt hlt
   go_enter Tryz.func12, Tryz.ntmps12
   go_wp2_with fail
   go_ret
   exact ⟨by rw [HE.out]; rfl, HB.out⟩
  by_cases hgt : k2 < k
  ·have HE : Hid (cmpE (.mk k xv xn ks) (.mk k2 yv yn ls) = 1) := cmpE_gt hgt
   go_enter Tryz.func12, Tryz.ntmps12
   go_wp2_with fail
   go_ret
   exact ⟨by rw [HE.out]; rfl, HB.out⟩
  obtain rfl : k = k2 := by omega
  have HEV : Hid (Lib.compareBytes xv yv ≠ 0 → cmpE (.mk k xv xn ks) (.mk k yv yn ls) = Lib.compareBytes xv yv) := cmpE_via
  have HEN : Hid (Lib.compareBytes xv yv = 0 → Lib.compareBytes xn yn ≠ 0 → cmpE (.mk k xv xn ks) (.mk k yv yn ls) = Lib.compareBytes xn yn) := cmpE_nm
  have HEK : Hid (Lib.compareBytes xv yv = 0 → Lib.compareBytes xn yn = 0 → cmpE (.mk k xv xn ks) (.mk k yv yn ls) = cmpL ks ls) := cmpE_kids
  obtain ⟨A, hA⟩ : ∃ A, A = Lib.compareBytes xv yv := ⟨_, rfl⟩
  obtain ⟨B, hB⟩ : ∃ B, B = Lib.compareBytes xn yn := ⟨_, rfl⟩
  rw [← hA] at HOV HEV HEN HEK
  rw [← hB] at HON HEN HEK
  obtain ⟨CE, hCE⟩ : ∃ E, E = cmpE (.mk k xv xn ks) (.mk k yv yn ls) := ⟨_, rfl⟩
  rw [← hCE] at HEV HEN HEK ⊢
  clear hA hB hCE hlt hgt
  have hself : ¬ k < k := by omega
  go_enter Tryz.func12, Tryz.ntmps12
  go_wp2_with fail
  refine (HOV.out _).mono ?_
  rintro r w1 ⟨rfl, b1⟩
  have HA11 := Lib.hid (HA1.out.later b1)
  have HA21 := Lib.hid (HA2.out.later b1)
  have HB1 := Lib.hid (HB.out.trans (b1.mono HB.out.size))
  clear b1 HA1 HA2 HB
  have a1 := HA11.out.cell 1
  have a2 := HA11.out.cell 2
  have e1 := HA21.out.cell 1
  have e2 := HA21.out.cell 2
  simp only [List.getElem?_cons_zero, List.getElem?_cons_succ] at a1 a2 e1 e2
  by_cases hz : A = 0
  case neg =>
   have bz : (A != 0) = true := by rw [bne_iff_ne]; exact hz
   have HE2 := Lib.hid (HEV.out hz)
   clear hz
   go_wp2_with fail
   refine (HOV.out _).mono ?_
   rintro r w2 ⟨rfl, b2⟩
   have HB2 := Lib.hid (HB1.out.trans (b2.mono HB1.out.size))
   clear b2
   go_wp2_with fail
   go_ret
   exact ⟨by rw [HE2.out]; rfl, HB2.out⟩
  have bz : (A != 0) = false := by rw [hz]; rfl
  have HEN2 := Lib.hid (HEN.out hz)
  have HEK2 := Lib.hid (HEK.out hz)
  clear hz
  go_wp2_with fail
  refine (HON.out _).mono ?_
  rintro r w2 ⟨rfl, b2⟩
  have HA12 := Lib.hid (HA11.out.later b2)
  have HA22 := Lib.hid (HA21.out.later b2)
  have HB2 := Lib.hid (HB1.out.trans (b2.mono HB1.out.size))
  clear b2 a1 a2 e1 e2 HA11 HA21 HB1
  have a2 := HA12.out.cell 2
  have e2 := HA22.out.cell 2
  simp only [List.getElem?_cons_zero, List.getElem?_cons_succ] at a2 e2
  by_cases hz : B = 0
  case neg =>
   have bz2 : (B != 0) = true := by rw [bne_iff_ne]; exact hz
   have HE2 := Lib.hid (HEN2.out hz)
   clear hz
   go_wp2_with fail
   refine (HON.out _).mono ?_
   rintro r w3 ⟨rfl, b3⟩
   have HB3 := Lib.hid (HB2.out.trans (b3.mono HB2.out.size))
   clear b3
   go_wp2_with fail
   go_ret
   exact ⟨by rw [HE2.out]; rfl, HB3.out⟩
  have bz2 : (B != 0) = false := by rw [hz]; rfl
  have HE2 := Lib.hid (HEK2.out hz)
  clear hz a2 e2 HEV HEN HEK HEN2 HEK2 HOV HON
  go_wp2_with fail
  go_loopw [5] (fun iv wr => ∃ i : Nat, i ≤ ks.length ∧ i ≤ ls.length ∧ iv = .int .i64 i ∧ Hid (cmpL ks ls = cmpL (ks.drop i) (ls.drop i)) ∧ Hid (Below w.heap.size w wr ∧ Arr wr 38 w.heap.size [.int .i64 k, .string (bstr xv), .string (bstr xn), .slice q ks.length c] ∧ Arr wr 38 (w.heap.size + 1) [.int .i64 k, .string (bstr yv), .string (bstr yn), .slice q2 ls.length c2])) (fun iv _ => ks.length - (intOf iv).toNat)
  case atStart => exact ⟨0, Nat.zero_le _, Nat.zero_le _, rfl, rfl, HB2.out, HA12.out, HA22.out⟩
  case round =>
   obtain ⟨i, hi, hi2, rfl, HD, HI2⟩ := hrel
   have HI := Lib.hid HI2.out.1
   have HAI := Lib.hid HI2.out.2.1
   have HAJ := Lib.hid HI2.out.2.2
   clear HI2 HB2 HA12 HA22
   have hi0 : (0 : Int) ≤ i := by omega
   have a3 := HAI.out.cell 3
   have e3 := HAJ.out.cell 3
   simp only [List.getElem?_cons_zero, List.getElem?_cons_succ] at a3 e3
   by_cases hboth : i < ks.length ∧ i < ls.length
   ·obtain ⟨hlt, hlt2⟩ := hboth
    have hi1 : (i : Int) < ks.length := by omega
    have hi3 : (i : Int) < ls.length := by omega
    have HST := Lib.hid (cmpL_step hlt hlt2)
    have hP := HP.out
    obtain ⟨ba, oa, rfl, hba, hl⟩ := HK.out (by omega)
    obtain ⟨x, hx⟩ : ∃ x, x = ks.getD i ex0 := ⟨_, rfl⟩
    obtain ⟨q2a, c2a, x0, x1, x2, x3, hr⟩ := hl.at hlt
    have hxs := sizeL_get ks i hlt
    have hxd := depthL_get ks i hlt
    rw [← hx] at x0 x1 x2 x3 hr hxs hxd
    have HX := Lib.hid hx
    obtain ⟨xk, xv2, xn2, xs⟩ := x
    have cc : ∀ n, wr.cell? ⟨ba, n, none⟩ = w.cell? ⟨ba, n, none⟩ := fun n => (HI.out).cell (p := ⟨ba, n, none⟩) (hP _ hba)
    have X0 : wr.cell? ⟨ba, oa + i * 4, none⟩ = some (.int .i64 xk) := (cc _).trans x0
    have X1 : wr.cell? ⟨ba, oa + i * 4 + 1, none⟩ = some (.string (bstr xv2)) := (cc _).trans x1
    have X2 : wr.cell? ⟨ba, oa + i * 4 + 2, none⟩ = some (.string (bstr xn2)) := (cc _).trans x2
    have X3 : wr.cell? ⟨ba, oa + i * 4 + 3, none⟩ = some (.slice q2a xs.length c2a) := (cc _).trans x3
    clear x0 x1 x2 x3 cc hx
    have hQ := HQ.out
    obtain ⟨bab, oab, rfl, hbab, hlb⟩ := HL.out (by omega)
    obtain ⟨x, hx⟩ : ∃ x, x = ls.getD i ex0 := ⟨_, rfl⟩
    obtain ⟨q2b, c2b, x0, x1, x2, x3, hrb⟩ := hlb.at hlt2
    have hxsb := sizeL_get ls i hlt2
    have hxdb := depthL_get ls i hlt2
    rw [← hx] at x0 x1 x2 x3 hrb hxsb hxdb
    have HXb := Lib.hid hx
    obtain ⟨xkb, xv2b, xn2b, xsb⟩ := x
    have cc : ∀ n, wr.cell? ⟨bab, n, none⟩ = w.cell? ⟨bab, n, none⟩ := fun n => (HI.out).cell (p := ⟨bab, n, none⟩) (hQ _ hbab)
    have X0b : wr.cell? ⟨bab, oab + i * 4, none⟩ = some (.int .i64 xkb) := (cc _).trans x0
    have X1b : wr.cell? ⟨bab, oab + i * 4 + 1, none⟩ = some (.string (bstr xv2b)) := (cc _).trans x1
    have X2b : wr.cell? ⟨bab, oab + i * 4 + 2, none⟩ = some (.string (bstr xn2b)) := (cc _).trans x2
    have X3b : wr.cell? ⟨bab, oab + i * 4 + 3, none⟩ = some (.slice q2b xsb.length c2b) := (cc _).trans x3
    clear x0 x1 x2 x3 cc hx
    have HR : Hid (RdE P wr (.mk xk xv2 xn2 xs) (.agg #[.int .i64 xk, .string (bstr xv2), .string (bstr xn2), .slice q2a xs.length c2a])) := hr.below HI.out hP
    have HR2 : Hid (RdE Q wr (.mk xkb xv2b xn2b xsb) (.agg #[.int .i64 xkb, .string (bstr xv2b), .string (bstr xn2b), .slice q2b xsb.length c2b])) := hrb.below HI.out hQ
    have HC : Hid (∀ W, Below wr.heap.size wr W → Calls Tryz.prog 12 #[.agg #[.int .i64 xk, .string (bstr xv2), .string (bstr xn2), .slice q2a xs.length c2a], .agg #[.int .i64 xkb, .string (bstr xv2b), .string (bstr xn2b), .slice q2b xsb.length c2b]] W fun r w' => r = .returned (.int .i64 (cmpE (.mk xk xv2 xn2 xs) (.mk xkb xv2b xn2b xsb))) ∧ Below W.heap.size W w') :=
     fun W hW => HIH.out (.mk xk xv2 xn2 xs) (.mk xkb xv2b xn2b xsb) _ _ P Q W (by omega) (by omega) (by omega) (HX.out ▸ okL_get HOK.out hlt) (HXb.out ▸ okL_get HOL.out hlt2) (HR.out.below hW (fun b hb => Nat.lt_of_lt_of_le (hP b hb) HI.out.size)) (HR2.out.below hW (fun b hb => Nat.lt_of_lt_of_le (hQ b hb) HI.out.size)) (fun b hb => Nat.lt_of_lt_of_le (hP b hb) (Nat.le_trans HI.out.size hW.size)) (fun b hb => Nat.lt_of_lt_of_le (hQ b hb) (Nat.le_trans HI.out.size hW.size))
    rw [← HX.out, ← HXb.out, orL2] at HST
    obtain ⟨E, hE⟩ : ∃ E, E = cmpE (.mk xk xv2 xn2 xs) (.mk xkb xv2b xn2b xsb) := ⟨_, rfl⟩
    rw [← hE] at HC HST
    clear hl hr hxs hxd hba hP hE hlb hrb hxsb hxdb hbab hQ
    go_upto_region 12 with (fail)
    refine wp_region_still_tail 10 (by kernel_rfl) (by kernel_rfl) ?_
    simp only [List.take_succ_cons, List.take_zero, List.drop_succ_cons, List.drop_zero]
    repeat still_step
    refine wpStill_nil ?_
    change wpList _ _ _ _ _ wr.drew
    have HBd : Hid (Below wr.heap.size wr wr.drew) := (Below.refl _ _).drew
    have HCd := Lib.hid (HC.out _ HBd.out)
    have HId := Lib.hid (HI.out.trans (HBd.out.mono HI.out.size))
    have HAd := Lib.hid (HAI.out.later HBd.out)
    have HAe := Lib.hid (HAJ.out.later HBd.out)
    clear a3 e3 X0 X1 X2 X3 X0b X1b X2b X3b HC HAI HAJ HR HR2 HI
    generalize wr.drew = wd at HBd HCd HId HAd HAe ⊢
    go_wp2_with fail
    refine HCd.out.mono ?_
    rintro r w5 ⟨rfl, b5⟩
    have HB5 := Lib.hid (HId.out.trans (b5.mono HId.out.size))
    have HA5 := Lib.hid (HAd.out.later b5)
    have HA6 := Lib.hid (HAe.out.later b5)
    clear b5
    by_cases hz : E = 0
    ·have bz5 : (E != 0) = false := by rw [hz]; rfl
     have HST2 : Hid (cmpL ks ls = cmpL (ks.drop (i + 1)) (ls.drop (i + 1))) := by show _ = _; rw [HD.out, HST.out, if_pos hz]
     clear hz
     go_wp2_with fail
     go_roundw
     case rel => exact ⟨i + 1, by omega, by omega, by go_num, HST2.out, HB5.out, HA5.out, HA6.out⟩
     case measure => simp [intOf]; omega
    ·have bz5 : (E != 0) = true := by rw [bne_iff_ne]; exact hz
     have HST2 : Hid (cmpL ks ls = E) := by show _ = _; rw [HD.out, HST.out, if_neg hz]
     clear hz
     go_wp2_with fail
     go_ret
     exact ⟨by rw [HE2.out, HST2.out]; rfl, HB5.out⟩
   ·have HEN := Lib.hid (cmpL_end hi hi2 hboth)
    by_cases hlt : i < ks.length
    ·have hi1 : (i : Int) < ks.length := by omega
     have hi3 : ¬ (i : Int) < ls.length := by omega
     have h4 : ¬ (ks.length : Int) < ls.length := by omega
     have h5 : (ls.length : Int) < ks.length := by omega
     have HRS : Hid (CE = 1) := by show _ = _; rw [HE2.out, HD.out, HEN.out, if_neg (by omega), if_pos (by omega)]
     clear hboth
     go_wp2_with fail
     go_ret
     exact ⟨by rw [HRS.out]; rfl, HI.out⟩
    ·have hi1 : ¬ (i : Int) < ks.length := by omega
     by_cases hl2 : ks.length < ls.length
     ·have h4 : (ks.length : Int) < ls.length := by omega
      have HRS : Hid (CE = -1) := by show _ = _; rw [HE2.out, HD.out, HEN.out, if_pos hl2]
      clear hboth
      go_wp2_with fail
      go_ret
      exact ⟨by rw [HRS.out]; rfl, HI.out⟩
     ·have h4 : ¬ (ks.length : Int) < ls.length := by omega
      have h5 : ¬ (ls.length : Int) < ks.length := by omega
      have HRS : Hid (CE = 0) := by show _ = _; rw [HE2.out, HD.out, HEN.out, if_neg hl2, if_neg (by omega)]
      clear hboth
      go_wp2_with fail
      go_ret
      exact ⟨by rw [HRS.out]; rfl, HI.out⟩
end Go.Proofs.YteieimchleioaaaGreatDoor
/-
  The law's awake is true.
-/
namespace Go.Proofs.YteieimchleioaaaGreatDoor
open Go.ChangeShapes Go.WideShapes Go.ChangeAt Go.RowKit
set_option linter.unusedVariables false

open errAs (ErrT)
def Env (w : World) : Prop := ResT w ∧ ErrT w
theorem Env.below {w w' : World} (h : Env w) (hb : Below w.heap.size w w') : Env w' := ⟨h.1.below hb h.1.lt, errT_below h.2 hb⟩
theorem ReadPost.ok {α : Type} {val : Nat → α → World → Value → Prop} {zero : Value} {w : World} {r : RR α} {e : Ending} {w' : World} {x : α} (h : ReadPost val zero w r e w') (hr : r = .ok x) : ∃ v, e = .returned (.tuple #[v, .nilIface]) ∧ val w.heap.size x w' v ∧ Below w.heap.size w w' := by
 obtain ⟨h1, ⟨y, v, h2, h3, h4⟩ | ⟨c, i, _, h2, _⟩⟩ := h
 ·rw [hr] at h2; cases h2; exact ⟨v, h3, h4, h1⟩
 ·rw [hr] at h2; cases h2
theorem ReadPost.bad {α : Type} {val : Nat → α → World → Value → Prop} {zero : Value} {w : World} {r : RR α} {e : Ending} {w' : World} {c i : Nat} (h : ReadPost val zero w r e w') (hr : r = .bad c i) : e = .returned (.tuple #[zero, faultN c i]) ∧ c ≠ 0 ∧ Below w.heap.size w w' := by
 obtain ⟨h1, ⟨y, v, h2, _⟩ | ⟨c', i', h0, h2, h3⟩⟩ := h
 ·rw [hr] at h2; cases h2
 ·rw [hr] at h2; cases h2; exact ⟨h3, h0, h1⟩
/-- Where a schema's definitions lie, and the members of one. -/
theorem VS.at {B : Nat} {l : List DefB} {w : World} {q : Option Addr} {c : Nat} (h : RdK kdDef (Bt B w.heap.size) w l (.slice q l.length c)) {i : Nat} (hi : i < l.length) : ∃ b o q2 c2, q = some ⟨b, o, none⟩ ∧ b < w.heap.size ∧ w.cell? ⟨b, o + i * 2, none⟩ = some (.string (bstr (l.getD i ([], [])).1)) ∧ w.cell? ⟨b, o + i * 2 + 1, none⟩ = some (.slice q2 (l.getD i ([], [])).2.length c2) := by
 obtain ⟨q', c', e, _, h3⟩ := h
 simp only [Value.slice.injEq] at e
 obtain ⟨rfl, _, rfl⟩ := e
 obtain ⟨b, o, rfl, hb, cs, h6, h7⟩ := h3 (by omega)
 have key : ∀ (l : List DefB) (cs : List Value) (o i : Nat), CellsK kdDef (Bt B w.heap.size) w l cs → (∀ j u, cs[j]? = some u → w.cell? ⟨b, o + j, none⟩ = some u) → i < l.length → ∃ q2 c2, w.cell? ⟨b, o + i * 2, none⟩ = some (.string (bstr (l.getD i ([], [])).1)) ∧ w.cell? ⟨b, o + i * 2 + 1, none⟩ = some (.slice q2 (l.getD i ([], [])).2.length c2) := by
  intro l
  induction l with
  | nil => intro cs o i _ _ h; simp at h
  | cons d r ih =>
   intro cs o i hc hx hi
   obtain ⟨a, b', rfl, ⟨v, rfl, hv⟩, h2⟩ := hc
   cases i with
   | zero =>
    obtain ⟨q2, c2, rfl, _⟩ := hv
    exact ⟨q2, c2, hx 0 _ rfl, hx 1 _ rfl⟩
   | succ i =>
    have := ih b' (o + 2) i h2 (fun j u hj => by rw [show o + 2 + j = o + (j + 2) by omega]; exact hx (j + 2) u hj) (by simpa using hi)
    rw [show o + 2 + i * 2 = o + (i + 1) * 2 by omega] at this
    exact this
 obtain ⟨q2, c2, h8, h9⟩ := key l cs o i h6 h7 hi
 exact ⟨b, o, q2, c2, rfl, hb.2, h8, h9⟩
mutual
theorem okE_le {M N : Nat} (h : M ≤ N) : ∀ e : Ex, okE M e → okE N e
 | .mk k v n ks, he => by
  rw [okE] at he ⊢
  exact ⟨Nat.le_trans he.1 h, Nat.le_trans he.2.1 h, okL_le h ks he.2.2⟩
theorem okL_le {M N : Nat} (h : M ≤ N) : ∀ l : List Ex, okL M l → okL N l
 | [], he => by rw [okL]; trivial
 | e :: r, he => by
  rw [okL] at he ⊢
  exact ⟨okE_le h e he.1, okL_le h r he.2⟩
end
/-- What is read as an expression is right and small. -/
theorem readF_right {l : List UInt8} {e : Ex} (h : readF exprF l = .ok e) : rightE e = true ∧ okE 100000 e ∧ sizeE e ≤ 64 := by
 unfold readF at h
 split at h
 ·rename_i h0
  have ho : OkTs (tokS l).1 := tokF_ok _ _ _ (Nat.lt_succ_self _) h0
  cases hr : exprF (tokS l).1 ps0 with
  | ok x s =>
   rw [hr] at h
   unfold endF at h
   rw [PR.then_ok] at h
   split at h
   ·cases h
    have := expr_right ho (okTs_pos ho) hr
    exact ⟨this.1, okE_le (by decide) _ this.2.1, this.2.2⟩
   ·cases h
  | bad k i => rw [hr] at h; cases h
 ·cases h
/-- The law's own expression in memory. -/
theorem lit_arr1 (W : World) : Arr ((W.alloc (.cells #[.int .i64 1, .string ⟨#[]⟩, .string ⟨#[98]⟩, .slice none 0 0, .int .i64 1, .string ⟨#[]⟩, .string ⟨#[99]⟩, .slice none 0 0] 38)).alloc (.cells #[.int .i64 1, .string ⟨#[]⟩, .string ⟨#[97]⟩, .slice none 0 0, .int .i64 4, .string ⟨#[]⟩, .string ⟨#[]⟩, .slice (some ⟨W.heap.size, 0, none⟩) 2 2] 38)) 38 W.heap.size [.int .i64 1, .string ⟨#[]⟩, .string ⟨#[98]⟩, .slice none 0 0, .int .i64 1, .string ⟨#[]⟩, .string ⟨#[99]⟩, .slice none 0 0] := (Arr.new' _ _ _ _ rfl).alloc _
theorem lit_arr2 (W : World) : Arr ((W.alloc (.cells #[.int .i64 1, .string ⟨#[]⟩, .string ⟨#[98]⟩, .slice none 0 0, .int .i64 1, .string ⟨#[]⟩, .string ⟨#[99]⟩, .slice none 0 0] 38)).alloc (.cells #[.int .i64 1, .string ⟨#[]⟩, .string ⟨#[97]⟩, .slice none 0 0, .int .i64 4, .string ⟨#[]⟩, .string ⟨#[]⟩, .slice (some ⟨W.heap.size, 0, none⟩) 2 2] 38)) 38 (W.heap.size + 1) [.int .i64 1, .string ⟨#[]⟩, .string ⟨#[97]⟩, .slice none 0 0, .int .i64 4, .string ⟨#[]⟩, .string ⟨#[]⟩, .slice (some ⟨W.heap.size, 0, none⟩) 2 2] := Arr.new2 _ _ _ _ _ rfl
theorem lit_rd (W : World) : RdE (Bt W.heap.size (W.heap.size + 2)) ((W.alloc (.cells #[.int .i64 1, .string ⟨#[]⟩, .string ⟨#[98]⟩, .slice none 0 0, .int .i64 1, .string ⟨#[]⟩, .string ⟨#[99]⟩, .slice none 0 0] 38)).alloc (.cells #[.int .i64 1, .string ⟨#[]⟩, .string ⟨#[97]⟩, .slice none 0 0, .int .i64 4, .string ⟨#[]⟩, .string ⟨#[]⟩, .slice (some ⟨W.heap.size, 0, none⟩) 2 2] 38)) aw2E (.agg #[.int .i64 3, .string ⟨#[]⟩, .string ⟨#[]⟩, .slice (some ⟨W.heap.size + 1, 0, none⟩) 2 2]) := by
 have h1 := lit_arr1 W
 have h2 := lit_arr2 W
 generalize ((W.alloc (.cells #[.int .i64 1, .string ⟨#[]⟩, .string ⟨#[98]⟩, .slice none 0 0, .int .i64 1, .string ⟨#[]⟩, .string ⟨#[99]⟩, .slice none 0 0] 38)).alloc (.cells #[.int .i64 1, .string ⟨#[]⟩, .string ⟨#[97]⟩, .slice none 0 0, .int .i64 4, .string ⟨#[]⟩, .string ⟨#[]⟩, .slice (some ⟨W.heap.size, 0, none⟩) 2 2] 38)) = w at h1 h2 ⊢
 unfold aw2E RdE
 refine ⟨_, _, rfl, Nat.le_refl _, fun _ => ⟨W.heap.size + 1, 0, rfl, ⟨by omega, by omega⟩, ?_⟩⟩
 unfold RdL
 refine ⟨⟨_, _, _, _, h2.cell 0, h2.cell 1, h2.cell 2, h2.cell 3, ?_⟩, ?_⟩
 ·unfold RdE; exact ⟨none, 0, rfl, Nat.le_refl _, fun h => by simp at h⟩
 unfold RdL
 refine ⟨⟨_, _, _, _, h2.cell 4, h2.cell 5, h2.cell 6, h2.cell 7, ?_⟩, by unfold RdL; trivial⟩
 unfold RdE
 refine ⟨_, _, rfl, Nat.le_refl _, fun _ => ⟨W.heap.size, 0, rfl, ⟨by omega, by omega⟩, ?_⟩⟩
 unfold RdL
 refine ⟨⟨_, _, _, _, h1.cell 0, h1.cell 1, h1.cell 2, h1.cell 3, ?_⟩, ?_⟩
 ·unfold RdE; exact ⟨none, 0, rfl, Nat.le_refl _, fun h => by simp at h⟩
 unfold RdL
 refine ⟨⟨_, _, _, _, h1.cell 4, h1.cell 5, h1.cell 6, h1.cell 7, ?_⟩, by unfold RdL; trivial⟩
 unfold RdE; exact ⟨none, 0, rfl, Nat.le_refl _, fun h => by simp at h⟩
set_option maxRecDepth 100000 in
set_option maxHeartbeats 4000000 in
theorem awake_any (w : World) (h : Env w) : Calls Tryz.prog 4 #[] w fun e w' => e = .returned (.bool true) ∧ Below w.heap.size w w' := by
 have HE := Lib.hid h
 have HQ1 := Lib.hid (parseE_any ⟨#[97, 32, 43, 32, 98, 32, 38, 32, 99]⟩ (by decide) w h.1)
 clear h
 go_enter Tryz.func4, Tryz.ntmps4
 go_wp2_with fail
 refine HQ1.out.mono ?_
 rintro r w1 h1
 obtain ⟨rfl, -, b1⟩ := h1.bad aw1_bad
 have hb2 : Below w1.heap.size w1 (w1.alloc (.cells #[.int .i64 0, .string ⟨#[]⟩, .string ⟨#[]⟩, .slice none 0 0] 38)) := (Below.refl _ _).alloc (Nat.le_refl _) _
 have HE2 := Lib.hid ((HE.out.below b1).below hb2)
 have HB2 := Lib.hid (b1.trans (hb2.mono b1.size))
 have HQ2 := Lib.hid (parseE_any ⟨#[97, 32, 43, 32, 40, 98, 32, 38, 32, 99, 41]⟩ (by decide) _ HE2.out.1)
 clear h1 b1 HQ1 hb2
 unfold faultN
 go_wp2_with fail
 refine HQ2.out.mono ?_
 rintro r w3 h3
 obtain ⟨e2, he2, hc2⟩ := aw2_ok
 obtain ⟨v3, rfl, hv3, b3⟩ := h3.ok he2
 have HRT := Lib.hid (readF_right he2)
 obtain ⟨mk, mv, mn, ms⟩ := e2
 have HC2 : Hid (cmpE (.mk mk mv mn ms) aw2E = 0) := (by simpa using hc2 : cmpE (.mk mk mv mn ms) aw2E = 0)
 have HE3 := Lib.hid (HE2.out.below b3)
 have HB3 := Lib.hid (HB2.out.trans (b3.mono HB2.out.size))
 have HV3 := Lib.hid hv3
 obtain ⟨q4, c4, rfl⟩ := VE.form hv3
 have hb4 : Below w3.heap.size w3 (w3.alloc (.cells #[.int .i64 mk, .string (bstr mv), .string (bstr mn), .slice q4 ms.length c4] 38)) := (Below.refl _ _).alloc (Nat.le_refl _) _
 have HE4 := Lib.hid (HE3.out.below hb4)
 have HB4 := Lib.hid (HB3.out.trans (hb4.mono HB3.out.size))
 have HV4 := Lib.hid (HV3.out.later hb4)
 have HX4 : Hid (Arr (w3.alloc (.cells #[.int .i64 mk, .string (bstr mv), .string (bstr mn), .slice q4 ms.length c4] 38)) 38 w3.heap.size [.int .i64 mk, .string (bstr mv), .string (bstr mn), .slice q4 ms.length c4]) := Arr.new' _ _ _ _ rfl
 have HQ3 := Lib.hid (parseS_any ⟨#[100, 101, 102, 105, 110, 105, 116, 105, 111, 110, 32, 117, 115, 101, 114, 32, 123, 125, 32, 100, 101, 102, 105, 110, 105, 116, 105, 111, 110, 32, 100, 111, 99, 32, 123, 32, 114, 101, 108, 97, 116, 105, 111, 110, 32, 118, 58, 32, 117, 115, 101, 114, 32, 124, 32, 100, 111, 99, 35, 118, 59, 32, 112, 101, 114, 109, 105, 115, 115, 105, 111, 110, 32, 119, 32, 61, 32, 118, 32, 45, 32, 118, 45, 62, 119, 59, 32, 125]⟩ (by decide) _ HE4.out.1)
 clear h3 hv3 b3 HQ2 hb4 he2 hc2 HE2 HB2 HE3 HB3 HV3
 go_wp2_with fail
 refine HQ3.out.mono ?_
 rintro r w5 h5
 obtain ⟨d, hd, hdl⟩ := aw3_ok
 obtain ⟨v5, rfl, hv5, b5⟩ := h5.ok hd
 have HE5 := Lib.hid (HE4.out.below b5)
 have HB5 := Lib.hid (HB4.out.trans (b5.mono HB4.out.size))
 have HV5 := Lib.hid (HV4.out.later b5)
 have HX5 := Lib.hid (HX4.out.later b5)
 obtain ⟨q5, c5, rfl, hv5b⟩ := VS.form hv5
 simp only [Bool.and_eq_true, decide_eq_true_eq] at hdl
 obtain ⟨hd1, hd2⟩ := hdl
 obtain ⟨b, o, q6, c6, rfl, hbl, -, hm6⟩ := VS.at hv5b (i := 1) (by omega)
 rw [hd2] at hm6
 rw [hd1]
 have hm7 : w5.cell? ⟨b, o + 3, none⟩ = some (.slice q6 2 c6) := by rw [show o + 3 = o + 1 * 2 + 1 by omega]; exact hm6
 have hb6 : Below w5.heap.size w5 (w5.alloc (.cells #[.slice (some ⟨b, o, none⟩) 2 c5] 25)) := (Below.refl _ _).alloc (Nat.le_refl _) _
 have HE6 := Lib.hid (HE5.out.below hb6)
 have HB6 := Lib.hid (HB5.out.trans (hb6.mono HB5.out.size))
 have HV6 := Lib.hid (HV5.out.later hb6)
 have HX6 := Lib.hid (HX5.out.later hb6)
 have HM6 : Hid ((w5.alloc (.cells #[.slice (some ⟨b, o, none⟩) 2 c5] 25)).cell? ⟨b, o + 3, none⟩ = some (.slice q6 2 c6) ∧ b < (w5.alloc (.cells #[.slice (some ⟨b, o, none⟩) 2 c5] 25)).heap.size) := ⟨(hb6.cell (p := ⟨b, o + 3, none⟩) hbl).trans hm7, Nat.lt_of_lt_of_le hbl hb6.size⟩
 have HS6 : Hid (Arr (w5.alloc (.cells #[.slice (some ⟨b, o, none⟩) 2 c5] 25)) 25 w5.heap.size [.slice (some ⟨b, o, none⟩) 2 c5]) := Arr.new' _ _ _ _ rfl
 have HT6 := Lib.hid (told_fault 6 6 (by decide) _ HE6.out.2)
 clear h5 b5 HQ3 hb6 hd hd1 hd2 hm6 hm7 hv5 hv5b HE4 HB4 HV4 HX4 HE5 HB5 HV5 HX5 hbl
 have c0 := HS6.out.cell 0
 simp only [List.getElem?_cons_zero] at c0
 go_wp2_with fail
 refine HT6.out.mono ?_
 rintro r w7 ⟨rfl, b7⟩
 have hb8 : Below w7.heap.size w7 ((w7.alloc (.cells #[.int .i64 1, .string ⟨#[]⟩, .string ⟨#[98]⟩, .slice none 0 0, .int .i64 1, .string ⟨#[]⟩, .string ⟨#[99]⟩, .slice none 0 0] 38)).alloc (.cells #[.int .i64 1, .string ⟨#[]⟩, .string ⟨#[97]⟩, .slice none 0 0, .int .i64 4, .string ⟨#[]⟩, .string ⟨#[]⟩, .slice (some ⟨w7.heap.size, 0, none⟩) 2 2] 38)) := ((Below.refl _ _).alloc (Nat.le_refl _) _).alloc (by simp) _
 have HX7 := Lib.hid (HX6.out.later b7)
 have HV8 := Lib.hid ((HV6.out.later b7).later hb8)
 have HB8 := Lib.hid ((HB6.out.trans (b7.mono HB6.out.size)).trans (hb8.mono (Nat.le_trans HB6.out.size b7.size)))
 have HS8 := Lib.hid ((HS6.out.later b7).later hb8)
 have HM8 : Hid (((w7.alloc (.cells #[.int .i64 1, .string ⟨#[]⟩, .string ⟨#[98]⟩, .slice none 0 0, .int .i64 1, .string ⟨#[]⟩, .string ⟨#[99]⟩, .slice none 0 0] 38)).alloc (.cells #[.int .i64 1, .string ⟨#[]⟩, .string ⟨#[97]⟩, .slice none 0 0, .int .i64 4, .string ⟨#[]⟩, .string ⟨#[]⟩, .slice (some ⟨w7.heap.size, 0, none⟩) 2 2] 38)).cell? ⟨b, o + 3, none⟩ = some (.slice q6 2 c6)) := (hb8.cell (p := ⟨b, o + 3, none⟩) (Nat.lt_of_lt_of_le HM6.out.2 b7.size)).trans ((b7.cell (p := ⟨b, o + 3, none⟩) HM6.out.2).trans HM6.out.1)
 have HCM := Lib.hid (rcompare_any _ _ _ _ _ _ _ ((w7.alloc (.cells #[.int .i64 1, .string ⟨#[]⟩, .string ⟨#[98]⟩, .slice none 0 0, .int .i64 1, .string ⟨#[]⟩, .string ⟨#[99]⟩, .slice none 0 0] 38)).alloc (.cells #[.int .i64 1, .string ⟨#[]⟩, .string ⟨#[97]⟩, .slice none 0 0, .int .i64 4, .string ⟨#[]⟩, .string ⟨#[]⟩, .slice (some ⟨w7.heap.size, 0, none⟩) 2 2] 38)) (Nat.le_refl _) (Nat.le_trans HRT.out.2.2 (by decide)) (by decide) HRT.out.2.1 (okE_le (M := 64) (by decide) aw2E (by unfold aw2E; simp [okE, okL])) HV8.out (lit_rd w7) (fun b hb => hb.2) (fun b hb => by have := hb.2; simp; omega))
 rw [HC2.out] at HCM
 clear b7 hb8 HT6 HV6 HB6 HM6 HE6 HX6 HS6 c0
 obtain ⟨x0, y0, x1, y1, x2, y2, x3, y3⟩ := HX7.out.all4
 go_wp2_with fail
 refine HCM.out.mono ?_
 rintro r w9 ⟨rfl, b9⟩
 have HS9 := Lib.hid (HS8.out.later b9)
 have HM9 : Hid (w9.cell? ⟨b, o + 3, none⟩ = some (.slice q6 2 c6)) := (b9.cell (p := ⟨b, o + 3, none⟩) (World.block_lt_of_cell? _ _ HM8.out)).trans HM8.out
 have HB9 := Lib.hid (HB8.out.trans (b9.mono HB8.out.size))
 have c0 := HS9.out.cell 0
 have m0 := HM9.out
 have m1 : w9.cell? ⟨b, o + 2 + 1, none⟩ = some (.slice q6 2 c6) := m0
 simp only [List.getElem?_cons_zero] at c0
 clear b9 HCM
 go_wp2_with fail
 go_ret
 exact ⟨rfl, HB9.out⟩
end Go.Proofs.YteieimchleioaaaGreatDoor
/-
  A schema that was read is good: its names, its types, its expressions, and how many there are. And elements of rows of cells, one at a time.
-/
namespace Go.Proofs.YteieimchleioaaaGreatDoor
open Go.ChangeShapes Go.WideShapes Go.ChangeAt Go.RowKit
set_option linter.unusedVariables false

def GoodA (a : AlB) : Prop := isName (bstr a.1) = true ∧ (a.2 = [] ∨ isName (bstr a.2) = true)
def FineE (e : Ex) : Prop := rightE e = true ∧ okE 64 e ∧ sizeE e ≤ 64
def GoodM (m : MemB) : Prop := isName (bstr m.1) = true ∧ ((m.2.1 = 1 ∧ 1 ≤ m.2.2.1.length ∧ m.2.2.1.length ≤ 32 ∧ (∀ a ∈ m.2.2.1, GoodA a) ∧ m.2.2.2 = ex0) ∨ (m.2.1 = 2 ∧ m.2.2.1 = [] ∧ FineE m.2.2.2))
def GoodD (d : DefB) : Prop := isName (bstr d.1) = true ∧ d.2.length ≤ 64 ∧ ∀ m ∈ d.2, GoodM m
def GoodS (l : List DefB) : Prop := l.length ≤ 64 ∧ ∀ d ∈ l, GoodD d
theorem allowed_good {ts : List Tok} {s : PS} {a : AlB} {s' : PS} (h : allowedF ts s = .ok a s') : GoodA a := by
 unfold allowedF at h
 obtain ⟨x, s1, e1, e⟩ := then_some h
 split at e
 ·obtain ⟨y, s2, e2, e⟩ := then_some e
  cases e
  exact ⟨(name_some e1).1, .inr (name_some e2).1⟩
 ·cases e
  exact ⟨(name_some e1).1, .inl rfl⟩
theorem all_snoc {α : Type} {p : α → Prop} {l : List α} {x : α} (h : ∀ y ∈ l, p y) (hx : p x) : ∀ y ∈ l ++ [x], p y := by
 intro y hy
 rcases List.mem_append.1 hy with hy | hy
 ·exact h y hy
 ·rw [List.mem_singleton] at hy
  exact hy ▸ hx
theorem types_good {ts : List Tok} : ∀ (n : Nat) (acc : List AlB) (s : PS) (l : List AlB) (s' : PS), typesF ts n acc s = .ok l s' → acc.length + n = 33 → acc.length ≤ 32 → (∀ a ∈ acc, GoodA a) → 1 ≤ l.length ∧ l.length ≤ 32 ∧ ∀ a ∈ l, GoodA a
 | 0, acc, s, l, s', h, hn, ha, hg => by omega
 | n + 1, acc, s, l, s', h, hn, ha, hg => by
  unfold typesF at h
  split at h
  ·cases h
  ·rename_i h32
   obtain ⟨a, s1, e1, e2⟩ := then_some h
   split at e2
   ·exact types_good n _ _ _ _ e2 (by rw [List.length_append, List.length_singleton]; omega) (by rw [List.length_append, List.length_singleton]; omega) (all_snoc hg (allowed_good e1))
   ·cases e2
    exact ⟨by rw [List.length_append, List.length_singleton]; omega, by rw [List.length_append, List.length_singleton]; omega, all_snoc hg (allowed_good e1)⟩
theorem member_good {ts : List Tok} (h : OkTs ts) {s : PS} {m : MemB} {s' : PS} (hi : s.i < ts.length) (e : memberF ts s = .ok m s') : GoodM m := by
 by_cases hr : txt ts s.i = wRelB
 ·rw [memberF_rel hr] at e
  obtain ⟨n, s1, e1, e⟩ := then_some e
  obtain ⟨_, s2, e2, e⟩ := then_some e
  obtain ⟨l, s3, e3, e⟩ := then_some e
  obtain ⟨_, s4, e4, e⟩ := then_some e
  cases e
  have k := types_good 33 [] _ _ _ e3 rfl (by decide) (fun a ha => by cases ha)
  exact ⟨(name_some e1).1, .inl ⟨rfl, k.1, k.2.1, k.2.2, rfl⟩⟩
 ·rw [memberF_perm hr] at e
  obtain ⟨_, s0, e0, e⟩ := then_some e
  obtain ⟨n, s1, e1, e⟩ := then_some e
  obtain ⟨_, s2, e2, e⟩ := then_some e
  obtain ⟨x, s3, e3, e⟩ := then_some e
  obtain ⟨_, s4, e4, e⟩ := then_some e
  cases e
  have k0 := (keeps_want h (by decide) _ _ _ hi e0).1
  have k1 := (keeps_name h _ _ _ k0 e1).1
  have k2 := (keeps_want h (by decide) _ _ _ k1 e2).1
  exact ⟨(name_some e1).1, .inr ⟨rfl, rfl, expr_right h k2 e3⟩⟩
theorem members_good {ts : List Tok} (h : OkTs ts) : ∀ (n : Nat) (acc : List MemB) s l s', s.i < ts.length → membersF ts n acc s = .ok l s' → acc.length ≤ 64 → (∀ m ∈ acc, GoodM m) → l.length ≤ 64 ∧ ∀ m ∈ l, GoodM m
 | 0, acc, s, l, s', hi, e, ha, hg => by rw [membersF] at e; cases e; exact ⟨ha, hg⟩
 | n + 1, acc, s, l, s', hi, e, ha, hg => by
  rw [membersF] at e
  split at e
  ·split at e
   ·rename_i h64
    obtain ⟨m, s1, e1, e⟩ := then_some e
    exact members_good h n _ _ _ _ (keeps_member h _ _ _ hi e1) e (by rw [List.length_append, List.length_singleton]; omega) (all_snoc hg (member_good h hi e1))
   ·cases e
  ·cases e; exact ⟨ha, hg⟩
theorem def_good {ts : List Tok} (h : OkTs ts) {s : PS} {d : DefB} {s' : PS} (hi : s.i < ts.length) (e : defF ts s = .ok d s') : GoodD d := by
 unfold defF at e
 obtain ⟨_, s0, e0, e⟩ := then_some e
 obtain ⟨n, s1, e1, e⟩ := then_some e
 obtain ⟨_, s2, e2, e⟩ := then_some e
 obtain ⟨l, s3, e3, e⟩ := then_some e
 obtain ⟨_, s4, e4, e⟩ := then_some e
 cases e
 have k0 := (keeps_want h (by decide) _ _ _ hi e0).1
 have k1 := (keeps_name h _ _ _ k0 e1).1
 have k2 := (keeps_want h (by decide) _ _ _ k1 e2).1
 exact ⟨(name_some e1).1, members_good h _ _ _ _ _ k2 e3 (by decide) (fun m hm => by cases hm)⟩
theorem defs_good {ts : List Tok} (h : OkTs ts) : ∀ (n : Nat) (acc : List DefB) s l s', s.i < ts.length → defsF ts n acc s = .ok l s' → acc.length ≤ 64 → (∀ d ∈ acc, GoodD d) → GoodS l
 | 0, acc, s, l, s', hi, e, ha, hg => by rw [defsF] at e; cases e; exact ⟨ha, hg⟩
 | n + 1, acc, s, l, s', hi, e, ha, hg => by
  rw [defsF] at e
  split at e
  ·split at e
   ·rename_i h64
    obtain ⟨m, s1, e1, e⟩ := then_some e
    exact defs_good h n _ _ _ _ (keeps_def h _ _ _ hi e1) e (by rw [List.length_append, List.length_singleton]; omega) (all_snoc hg (def_good h hi e1))
   ·cases e
  ·cases e; exact ⟨ha, hg⟩
theorem readF_good {l : List UInt8} {d : List DefB} (h : readF schemaR l = .ok d) : GoodS d := by
 unfold readF at h
 split at h
 ·rename_i h0
  have ho : OkTs (tokS l).1 := tokF_ok _ _ _ (Nat.lt_succ_self _) h0
  cases hr : schemaR (tokS l).1 ps0 with
  | ok x s =>
   rw [hr] at h
   unfold endF at h
   rw [PR.then_ok] at h
   split at h
   ·cases h
    exact defs_good ho _ _ _ _ _ (okTs_pos ho) hr (by decide) (fun d hd => by cases hd)
   ·cases h
  | bad k i => rw [hr] at h; cases h
 ·cases h
/-- One element of a row. -/
theorem CellsK.at {α : Type} {K : Kd α} {P : Nat → Prop} {w : World} : ∀ {xs : List α} {cs : List Value} {i : Nat} {x : α}, CellsK K P w xs cs → xs[i]? = some x → ∃ a, K.rd P w x a ∧ ∀ j u, a[j]? = some u → cs[i * K.size + j]? = some u
 | [], _, i, x, _, hx => by simp at hx
 | y :: r, _, 0, x, ⟨a, b, rfl, h1, h2⟩, hx => by
  cases hx
  refine ⟨a, h1, fun j u hj => ?_⟩
  have hl : j < a.length := (List.getElem?_eq_some_iff.1 hj).1
  rw [Nat.zero_mul, Nat.zero_add, List.getElem?_append_left hl]
  exact hj
 | y :: r, _, i + 1, x, ⟨a, b, rfl, h1, h2⟩, hx => by
  obtain ⟨a2, h3, h4⟩ := CellsK.at h2 (by simpa using hx)
  refine ⟨a2, h3, fun j u hj => ?_⟩
  have hl := K.len h1
  rw [List.getElem?_append_right (by rw [hl, Nat.succ_mul]; omega), hl, show (i + 1) * K.size + j - K.size = i * K.size + j by rw [Nat.succ_mul]; omega]
  exact h4 j u hj
theorem RdK.at {α : Type} {K : Kd α} {P : Nat → Prop} {w : World} {xs : List α} {q : Option Addr} {n c i : Nat} {x : α} (h : RdK K P w xs (.slice q n c)) (hx : xs[i]? = some x) : ∃ b o a, q = some ⟨b, o, none⟩ ∧ P b ∧ K.rd P w x a ∧ ∀ j u, a[j]? = some u → w.cell? ⟨b, o + i * K.size + j, none⟩ = some u := by
 obtain ⟨q', c', e, _, h3⟩ := h
 simp only [Value.slice.injEq] at e
 obtain ⟨rfl, _, rfl⟩ := e
 have hl : i < xs.length := (List.getElem?_eq_some_iff.1 hx).1
 obtain ⟨b, o, rfl, hb, cs, h4, h5⟩ := h3 (by omega)
 obtain ⟨a, h6, h7⟩ := h4.at hx
 exact ⟨b, o, a, rfl, hb, h6, fun j u hj => by rw [Nat.add_assoc]; exact h5 _ _ (h7 j u hj)⟩
end Go.Proofs.YteieimchleioaaaGreatDoor
/-
  One of the types in a value.
-/
namespace Go.Proofs.YteieimchleioaaaGreatDoor
open Go.ChangeShapes Go.WideShapes Go.ChangeAt Go.RowKit
set_option linter.unusedVariables false

theorem als_at : ∀ (l : List AlB) (i : Nat), i < l.length → (als l)[i * 2]? = some (.string (bstr (l.getD i ([], [])).1)) ∧ (als l)[i * 2 + 1]? = some (.string (bstr (l.getD i ([], [])).2))
 | [], i, h => by simp at h
 | a :: r, 0, _ => ⟨rfl, rfl⟩
 | a :: r, i + 1, h => by
  have ih := als_at r i (by simpa using h)
  have e : als (a :: r) = alv a ++ als r := rfl
  rw [e, List.getElem?_append_right (by simp [alv]; omega), List.getElem?_append_right (by simp [alv]; omega)]
  simp only [alv, List.length_cons, List.length_nil, List.getD_cons_succ]
  rw [show (i + 1) * 2 - (0 + 1 + 1) = i * 2 by omega, show (i + 1) * 2 + 1 - (0 + 1 + 1) = i * 2 + 1 by omega]
  exact ih
theorem RdA.at {P : Nat → Prop} {w : World} {l : List AlB} {q : Option Addr} {n c : Nat} (h : RdA P w l (.slice q n c)) {i : Nat} (hi : i < l.length) : ∃ b o, q = some ⟨b, o, none⟩ ∧ P b ∧ w.cell? ⟨b, o + i * 2, none⟩ = some (.string (bstr (l.getD i ([], [])).1)) ∧ w.cell? ⟨b, o + i * 2 + 1, none⟩ = some (.string (bstr (l.getD i ([], [])).2)) := by
 obtain ⟨q', c', e, _, h3⟩ := h
 simp only [Value.slice.injEq] at e
 obtain ⟨rfl, _, rfl⟩ := e
 obtain ⟨b, o, rfl, hb, hx⟩ := h3 (by omega)
 have ha := als_at l i hi
 exact ⟨b, o, rfl, hb, hx _ _ ha.1, hx _ _ ha.2⟩
end Go.Proofs.YteieimchleioaaaGreatDoor
/-
  The order of expressions: one order, in which only the same ones are equal.
-/
namespace Go.Proofs.YteieimchleioaaaGreatDoor
open Go.ChangeShapes Go.WideShapes Go.ChangeAt Go.RowKit
set_option linter.unusedVariables false

def T3 (x : Int) : Prop := x = -1 ∨ x = 0 ∨ x = 1
theorem ci_three (a b : Int) : T3 (Lib.compareInt a b) := by
 unfold T3 Lib.compareInt
 by_cases h : a < b
 ·simp [h]
 ·by_cases h2 : b < a
  ·simp [h, h2]
  ·have : a = b := by omega
   simp [this]
theorem ci_flip (a b : Int) : Lib.compareInt b a = - Lib.compareInt a b := by
 unfold Lib.compareInt
 by_cases h : a < b
 ·have h2 : ¬ b < a := by omega
  simp [h, h2]
 ·by_cases h2 : b < a
  ·simp [h, h2]
  ·have : a = b := by omega
   simp [this]
theorem orL_three : ∀ (l : List Int), (∀ x ∈ l, T3 x) → T3 (orL l)
 | [], _ => .inr (.inl rfl)
 | x :: r, h => by
  have hr := orL_three r fun y hy => h y (List.mem_cons_of_mem _ hy)
  have hx := h x (List.mem_cons_self)
  unfold orL
  split <;> assumption
theorem orL_flip : ∀ (l : List Int), orL (l.map fun x => -x) = - orL l
 | [] => rfl
 | x :: r => by
  have hr := orL_flip r
  simp only [List.map_cons]
  unfold orL
  by_cases h : x = 0
  ·simp [h, hr]
  ·have h2 : ¬ -x = 0 := by omega
   simp [h]
mutual
theorem cmpE_three : ∀ a b : Ex, T3 (cmpE a b)
 | .mk k v n ks, .mk k2 v2 n2 ls => by
  have := cmpL_three ks ls
  unfold cmpE
  refine orL_three _ fun x hx => ?_
  simp only [List.mem_cons, List.not_mem_nil, or_false] at hx
  rcases hx with rfl | rfl | rfl | rfl
  ·exact ci_three _ _
  ·exact cb_three _ _
  ·exact cb_three _ _
  ·exact this
theorem cmpL_three : ∀ a b : List Ex, T3 (cmpL a b)
 | [], [] => .inr (.inl (by unfold cmpL; rfl))
 | [], _ :: _ => .inl (by unfold cmpL; rfl)
 | _ :: _, [] => .inr (.inr (by unfold cmpL; rfl))
 | a :: r, b :: s => by
  have h1 := cmpE_three a b
  have h2 := cmpL_three r s
  unfold cmpL
  refine orL_three _ fun x hx => ?_
  simp only [List.mem_cons, List.not_mem_nil, or_false] at hx
  rcases hx with rfl | rfl
  ·exact h1
  ·exact h2
end
mutual
theorem cmpE_flip : ∀ a b : Ex, cmpE b a = - cmpE a b
 | .mk k v n ks, .mk k2 v2 n2 ls => by
  have h := cmpL_flip ks ls
  unfold cmpE
  simp only [Ex.kind, Ex.via, Ex.nm, Ex.kids]
  rw [ci_flip k k2, cb_flip v v2, cb_flip n n2, h, ← orL_flip]; rfl
theorem cmpL_flip : ∀ a b : List Ex, cmpL b a = - cmpL a b
 | [], [] => by unfold cmpL; rfl
 | [], _ :: _ => by unfold cmpL; rfl
 | _ :: _, [] => by unfold cmpL; rfl
 | a :: r, b :: s => by
  have h1 := cmpE_flip a b
  have h2 := cmpL_flip r s
  unfold cmpL
  rw [h1, h2, ← orL_flip]; rfl
end
mutual
theorem cmpE_self : ∀ a : Ex, cmpE a a = 0
 | .mk k v n ks => by
  rw [cmpE_kids (cb_self v) (cb_self n)]
  exact cmpL_self ks
theorem cmpL_self : ∀ a : List Ex, cmpL a a = 0
 | [] => by unfold cmpL; rfl
 | a :: r => by
  have h1 := cmpE_self a
  have h2 := cmpL_self r
  unfold cmpL
  rw [h1, h2]; rfl
end
theorem cmp_cases (k k2 : Int) (v n v2 n2 : List UInt8) (ks ls : List Ex) :
  (k < k2 ∧ cmpE (.mk k v n ks) (.mk k2 v2 n2 ls) = -1) ∨ (k2 < k ∧ cmpE (.mk k v n ks) (.mk k2 v2 n2 ls) = 1) ∨
  (k = k2 ∧ Lib.compareBytes v v2 ≠ 0 ∧ cmpE (.mk k v n ks) (.mk k2 v2 n2 ls) = Lib.compareBytes v v2) ∨
  (k = k2 ∧ v = v2 ∧ Lib.compareBytes n n2 ≠ 0 ∧ cmpE (.mk k v n ks) (.mk k2 v2 n2 ls) = Lib.compareBytes n n2) ∨
  (k = k2 ∧ v = v2 ∧ n = n2 ∧ cmpE (.mk k v n ks) (.mk k2 v2 n2 ls) = cmpL ks ls) := by
 by_cases h1 : k < k2
 ·exact .inl ⟨h1, cmpE_lt h1⟩
 by_cases h2 : k2 < k
 ·exact .inr (.inl ⟨h2, cmpE_gt h2⟩)
 obtain rfl : k = k2 := by omega
 by_cases h3 : Lib.compareBytes v v2 = 0
 ·by_cases h4 : Lib.compareBytes n n2 = 0
  ·exact .inr (.inr (.inr (.inr ⟨rfl, cb_eq _ _ h3, cb_eq _ _ h4, cmpE_kids h3 h4⟩)))
  ·exact .inr (.inr (.inr (.inl ⟨rfl, cb_eq _ _ h3, h4, cmpE_nm h3 h4⟩)))
 ·exact .inr (.inr (.inl ⟨rfl, h3, cmpE_via h3⟩))
mutual
theorem cmpE_eq : ∀ {a b : Ex}, cmpE a b = 0 → a = b
 | .mk k v n ks, .mk k2 v2 n2 ls, h => by
  have hl := @cmpL_eq ks ls
  rcases cmp_cases k k2 v n v2 n2 ks ls with ⟨_, e⟩ | ⟨_, e⟩ | ⟨_, g, e⟩ | ⟨_, _, g, e⟩ | ⟨rfl, rfl, rfl, e⟩
  ·rw [e] at h; cases h
  ·rw [e] at h; cases h
  ·rw [e] at h; exact absurd h g
  ·rw [e] at h; exact absurd h g
  ·rw [e] at h; rw [hl h]
theorem cmpL_eq : ∀ {a b : List Ex}, cmpL a b = 0 → a = b
 | [], [], _ => rfl
 | [], _ :: _, h => by unfold cmpL at h; cases h
 | _ :: _, [], h => by unfold cmpL at h; cases h
 | a :: r, b :: s, h => by
  have h1 := @cmpE_eq a b
  have h2 := @cmpL_eq r s
  unfold cmpL at h
  rw [orL2] at h
  by_cases hz : cmpE a b = 0
  ·rw [if_pos hz] at h; rw [h1 hz, h2 h]
  ·rw [if_neg hz] at h; exact absurd h hz
end
mutual
theorem cmpE_up : ∀ {a b c : Ex}, cmpE a b < 0 → cmpE b c < 0 → cmpE a c < 0
 | .mk k v n ks, .mk k2 v2 n2 ls, .mk k3 v3 n3 ms, h1, h2 => by
  have hl := @cmpL_up ks ls ms
  rcases cmp_cases k k2 v n v2 n2 ks ls with ⟨g, e⟩ | ⟨_, e⟩ | ⟨rfl, g, e⟩ | ⟨rfl, rfl, g, e⟩ | ⟨rfl, rfl, rfl, e⟩
  ·rcases cmp_cases k2 k3 v2 n2 v3 n3 ls ms with ⟨g2, e2⟩ | ⟨_, e2⟩ | ⟨rfl, g2, e2⟩ | ⟨rfl, rfl, g2, e2⟩ | ⟨rfl, rfl, rfl, e2⟩
   ·rw [cmpE_lt (by omega)]; omega
   ·rw [e2] at h2; omega
   ·rw [cmpE_lt g]; omega
   ·rw [cmpE_lt g]; omega
   ·rw [cmpE_lt g]; omega
  ·rw [e] at h1; omega
  ·rw [e] at h1
   rcases cmp_cases k k3 v2 n2 v3 n3 ls ms with ⟨g2, e2⟩ | ⟨_, e2⟩ | ⟨rfl, g2, e2⟩ | ⟨rfl, rfl, g2, e2⟩ | ⟨rfl, rfl, rfl, e2⟩
   ·rw [cmpE_lt g2]; omega
   ·rw [e2] at h2; omega
   ·rw [e2] at h2
    have h3 := cb_up _ _ _ h1 h2
    rw [cmpE_via (by omega)]; exact h3
   ·rw [cmpE_via g]; exact h1
   ·rw [cmpE_via g]; exact h1
  ·rw [e] at h1
   rcases cmp_cases k k3 v n2 v3 n3 ls ms with ⟨g2, e2⟩ | ⟨_, e2⟩ | ⟨rfl, g2, e2⟩ | ⟨rfl, rfl, g2, e2⟩ | ⟨rfl, rfl, rfl, e2⟩
   ·rw [cmpE_lt g2]; omega
   ·rw [e2] at h2; omega
   ·rw [e2] at h2
    rw [cmpE_via g2]; exact h2
   ·rw [e2] at h2
    have h3 := cb_up _ _ _ h1 h2
    rw [cmpE_nm (cb_self _) (by omega)]; exact h3
   ·rw [cmpE_nm (cb_self _) g]; exact h1
  ·rw [e] at h1
   rcases cmp_cases k k3 v n v3 n3 ls ms with ⟨g2, e2⟩ | ⟨_, e2⟩ | ⟨rfl, g2, e2⟩ | ⟨rfl, rfl, g2, e2⟩ | ⟨rfl, rfl, rfl, e2⟩
   ·rw [cmpE_lt g2]; omega
   ·rw [e2] at h2; omega
   ·rw [e2] at h2
    rw [cmpE_via g2]; exact h2
   ·rw [e2] at h2
    rw [cmpE_nm (cb_self _) g2]; exact h2
   ·rw [e2] at h2
    rw [cmpE_kids (cb_self _) (cb_self _)]; exact hl h1 h2
theorem cmpL_up : ∀ {a b c : List Ex}, cmpL a b < 0 → cmpL b c < 0 → cmpL a c < 0
 | [], [], _, h1, _ => by unfold cmpL at h1; omega
 | [], _ :: _, [], _, h2 => by unfold cmpL at h2; omega
 | [], _ :: _, _ :: _, _, _ => by unfold cmpL; omega
 | _ :: _, [], _, h1, _ => by unfold cmpL at h1; omega
 | _ :: _, _ :: _, [], _, h2 => by unfold cmpL at h2; omega
 | a :: r, b :: s, c :: u, h1, h2 => by
  have he := @cmpE_up a b c
  have hr := @cmpL_up r s u
  have q1 := @cmpE_eq a b
  have q2 := @cmpE_eq b c
  unfold cmpL at h1 h2 ⊢
  rw [orL2] at h1 h2 ⊢
  by_cases z1 : cmpE a b = 0
  ·obtain rfl := q1 z1
   rw [if_pos z1] at h1
   by_cases z2 : cmpE a c = 0
   ·rw [if_pos z2] at h2 ⊢; exact hr h1 h2
   ·rw [if_neg z2] at h2 ⊢; exact h2
  ·rw [if_neg z1] at h1
   by_cases z2 : cmpE b c = 0
   ·obtain rfl := q2 z2
    rw [if_neg z1]; exact h1
   ·rw [if_neg z2] at h2
    have := he h1 h2
    rw [if_neg (by omega)]; exact this
end
theorem cmpE_le {a b c : Ex} (h1 : ¬ 0 < cmpE a b) (h2 : ¬ 0 < cmpE b c) : cmpE a c ≤ 0 := by
 by_cases z1 : cmpE a b = 0
 ·rw [cmpE_eq z1]; omega
 ·by_cases z2 : cmpE b c = 0
  ·rw [← cmpE_eq z2]; omega
  ·have := cmpE_up (a := a) (b := b) (c := c) (by omega) (by omega); omega
end Go.Proofs.YteieimchleioaaaGreatDoor
/-
  A step of a region that draws its order, which may be guarded: a call by its contract.
-/
namespace Go.Proofs.YteieimchleioaaaGreatDoor
open Go.ChangeShapes Go.WideShapes Go.ChangeAt Go.RowKit
set_option linter.unusedVariables false
theorem stepw_call {P : Program} {ops : Array Oper} {o : Oper} {a : Act} {w : World} {K : Act → World → Prop} {Q : Exit → Act → World → Prop} {E : Prop} {f : FuncId} {args : Array Value} {R : Value → World → Prop}
  (hw : Region.wanted o (yielded ops a.tmps) = true) (hrun : (execOp a.eval o).run P w = .ok (.enter f args) w) (hc : Calls P f args w fun e w' => ∃ v, e = .returned v ∧ R v w')
  (hK : ∀ v w', R v w' → K (a.put o.dst v) w') : if Region.wanted o (yielded ops a.tmps) = true then Oper.wp P o a w K Q else E := by
 rw [if_pos hw]
 unfold Oper.wp
 rw [hrun]
 simp only [Oper.upon]
 refine hc.mono fun e w' ⟨v, he, hr⟩ => ?_
 subst he
 exact hK v w' hr
end Go.Proofs.YteieimchleioaaaGreatDoor
/-
  SameMember, SameDef, Same: a schema and itself, wherever it lies.
-/
namespace Go.Proofs.YteieimchleioaaaGreatDoor
open Go.ChangeShapes Go.WideShapes Go.ChangeAt Go.RowKit
set_option linter.unusedVariables false

/-- cells in a row, in memory -/
def AtC (w : World) (b o : Nat) (cs : List Value) : Prop := b < w.heap.size ∧ ∀ j u, cs[j]? = some u → w.cell? ⟨b, o + j, none⟩ = some u
theorem AtC.later {w w' : World} {b o : Nat} {cs : List Value} (h : AtC w b o cs) (hb : Below w.heap.size w w') : AtC w' b o cs := ⟨Nat.lt_of_lt_of_le h.1 hb.size, fun j u hj => (hb.cell (p := ⟨b, o + j, none⟩) h.1).trans (h.2 j u hj)⟩
theorem rdMem_form {P : Nat → Prop} {w : World} {n : List UInt8} {k : Int} {ls : List AlB} {mk : Int} {mv mn : List UInt8} {ms : List Ex} {cs : List Value} (h : rdMem P w (n, k, ls, .mk mk mv mn ms) cs) :
  ∃ qa ca q4 c4, cs = [.string (bstr n), .int .i64 k, .slice qa ls.length ca, .int .i64 mk, .string (bstr mv), .string (bstr mn), .slice q4 ms.length c4] ∧ RdA P w ls (.slice qa ls.length ca) ∧ RdE P w (.mk mk mv mn ms) (.agg #[.int .i64 mk, .string (bstr mv), .string (bstr mn), .slice q4 ms.length c4]) := by
 obtain ⟨vt, v3, v4, v5, v6, e, h1, h2⟩ := h
 obtain ⟨qa, ca, e1, hz1⟩ := id h1
 obtain ⟨q4, c4, e2, _, _⟩ := RdE.form h2
 unfold exv at e2
 dsimp only [Ex.kind, Ex.via, Ex.nm, Ex.kids] at e2
 simp only [Value.agg.injEq, Array.mk.injEq, List.cons.injEq, and_true] at e2
 obtain ⟨rfl, rfl, rfl, rfl⟩ := e2
 subst e1
 exact ⟨qa, ca, q4, c4, e, h1, h2⟩
def OkM (m : MemB) : Prop := okE 100000 m.2.2.2 ∧ sizeE m.2.2.2 ≤ 900000 ∧ m.2.2.1.length ≤ 100000
def OkD (d : DefB) : Prop := d.2.length ≤ 100000 ∧ ∀ m ∈ d.2, OkM m
def OkS (l : List DefB) : Prop := l.length ≤ 100000 ∧ ∀ d ∈ l, OkD d
theorem GoodM.ok {m : MemB} (h : GoodM m) : OkM m := by
 rcases h.2 with ⟨_, _, h1, _, h2⟩ | ⟨_, h1, h2, h3, h4⟩
 ·exact ⟨by rw [h2]; simp [ex0, okE, okL], by rw [h2]; decide, by omega⟩
 ·exact ⟨okE_le (by decide) _ h3, by omega, by rw [h1]; decide⟩
theorem GoodD.ok {d : DefB} (h : GoodD d) : OkD d := ⟨by have := h.2.1; omega, fun m hm => (h.2.2 m hm).ok⟩
theorem GoodS.ok {l : List DefB} (h : GoodS l) : OkS l := ⟨by have := h.1; omega, fun m hm => (h.2 m hm).ok⟩
set_option maxRecDepth 100000 in
set_option maxHeartbeats 4000000 in
theorem sameM_any (x : MemB) (cs ds : List Value) (P Q : Nat → Prop) (w : World) (h1 : rdMem P w x cs) (h2 : rdMem Q w x ds) (hP : ∀ b, P b → b < w.heap.size) (hQ : ∀ b, Q b → b < w.heap.size) (hg : OkM x) :
  Calls Tryz.prog 42 #[.agg cs.toArray, .agg ds.toArray] w fun e w' => e = .returned (.bool true) ∧ Below w.heap.size w w' := by
 obtain ⟨n, k, ls, mk, mv, mn, ms⟩ := x
 obtain ⟨qa, ca, q4, c4, rfl, h3, h4⟩ := rdMem_form h1
 obtain ⟨qb, cb, q5, c5, rfl, h5, h6⟩ := rdMem_form h2
 obtain ⟨g1, g2, g3⟩ := hg
 have H1 := Lib.hid h3
 have H2 := Lib.hid h5
 have HP := Lib.hid hP
 have HQ := Lib.hid hQ
 have hz : (ls.length : Int) ≤ 100000 := by have : ls.length ≤ 100000 := g3; omega
 have hb0 : Below w.heap.size w ((w.alloc (.cells #[.string (bstr n), .int .i64 k, .slice qa ls.length ca, .int .i64 mk, .string (bstr mv), .string (bstr mn), .slice q4 ms.length c4] 72)).alloc (.cells #[.string (bstr n), .int .i64 k, .slice qb ls.length cb, .int .i64 mk, .string (bstr mv), .string (bstr mn), .slice q5 ms.length c5] 72)) := ((Below.refl _ _).alloc (Nat.le_refl _) _).alloc (by simp) _
 have HB := Lib.hid hb0
 have HA : Hid (Arr ((w.alloc (.cells #[.string (bstr n), .int .i64 k, .slice qa ls.length ca, .int .i64 mk, .string (bstr mv), .string (bstr mn), .slice q4 ms.length c4] 72)).alloc (.cells #[.string (bstr n), .int .i64 k, .slice qb ls.length cb, .int .i64 mk, .string (bstr mv), .string (bstr mn), .slice q5 ms.length c5] 72)) 72 w.heap.size [.string (bstr n), .int .i64 k, .slice qa ls.length ca, .int .i64 mk, .string (bstr mv), .string (bstr mn), .slice q4 ms.length c4]) := (Arr.new' _ _ _ _ rfl).alloc _
 have HBb : Hid (Arr ((w.alloc (.cells #[.string (bstr n), .int .i64 k, .slice qa ls.length ca, .int .i64 mk, .string (bstr mv), .string (bstr mn), .slice q4 ms.length c4] 72)).alloc (.cells #[.string (bstr n), .int .i64 k, .slice qb ls.length cb, .int .i64 mk, .string (bstr mv), .string (bstr mn), .slice q5 ms.length c5] 72)) 72 (w.heap.size + 1) [.string (bstr n), .int .i64 k, .slice qb ls.length cb, .int .i64 mk, .string (bstr mv), .string (bstr mn), .slice q5 ms.length c5]) := Arr.new2 _ _ _ _ _ rfl
 have HCM := Lib.hid (rcompare_any _ (.mk mk mv mn ms) (.mk mk mv mn ms) _ _ P Q ((w.alloc (.cells #[.string (bstr n), .int .i64 k, .slice qa ls.length ca, .int .i64 mk, .string (bstr mv), .string (bstr mn), .slice q4 ms.length c4] 72)).alloc (.cells #[.string (bstr n), .int .i64 k, .slice qb ls.length cb, .int .i64 mk, .string (bstr mv), .string (bstr mn), .slice q5 ms.length c5] 72)) (Nat.le_refl _) g2 g2 g1 g1 (h4.keep fun b hb n => hb0.cell (p := ⟨b, n, none⟩) (hP b hb)) (h6.keep fun b hb n => hb0.cell (p := ⟨b, n, none⟩) (hQ b hb)) (fun b hb => Nat.lt_of_lt_of_le (hP b hb) hb0.size) (fun b hb => Nat.lt_of_lt_of_le (hQ b hb) hb0.size))
 rw [cmpE_self] at HCM
 clear h1 h2 h3 h4 h5 h6 g1 g2 g3 hP hQ hb0
 go_enter Tryz.func42, Tryz.ntmps42
 go_upto_region 1 with (fail)
 generalize ((w.alloc (.cells #[.string (bstr n), .int .i64 k, .slice qa ls.length ca, .int .i64 mk, .string (bstr mv), .string (bstr mn), .slice q4 ms.length c4] 72)).alloc (.cells #[.string (bstr n), .int .i64 k, .slice qb ls.length cb, .int .i64 mk, .string (bstr mv), .string (bstr mn), .slice q5 ms.length c5] 72)) = w1 at HA HBb HB HCM ⊢
 obtain ⟨tn, htn⟩ : ∃ t, t = bstr n := ⟨_, rfl⟩
 rw [← htn] at HA HBb
 clear htn
 obtain ⟨ea0, eb0, ea1, eb1, ea2, eb2, ea3, eb3, ea4, eb4, ea5, eb5, ea6, eb6⟩ := HA.out.all7
 obtain ⟨na0, nz0, na1, nz1, na2, nz2, na3, nz3, na4, nz4, na5, nz5, na6, nz6⟩ := HBb.out.all7
 go_wp2_with fail
 refine HCM.out.mono ?_
 rintro r w2 ⟨rfl, b1⟩
 clear ea0 eb0 ea1 eb1 ea2 eb2 ea3 eb3 ea4 eb4 ea5 eb5 ea6 eb6
 clear na0 nz0 na1 nz1 na2 nz2 na3 nz3 na4 nz4 na5 nz5 na6 nz6
 have HA := Lib.hid (HA.out.later b1)
 have HBb := Lib.hid (HBb.out.later b1)
 have HB := Lib.hid (HB.out.trans (b1.mono HB.out.size))
 clear b1 HCM
 go_wp2_with fail
 go_loopw [5] (fun iv wr => ∃ i : Nat, i ≤ ls.length ∧ iv = .int .i64 i ∧ Hid (Arr wr 72 w.heap.size [.string tn, .int .i64 k, .slice qa ls.length ca, .int .i64 mk, .string (bstr mv), .string (bstr mn), .slice q4 ms.length c4]) ∧ Hid (Arr wr 72 (w.heap.size + 1) [.string tn, .int .i64 k, .slice qb ls.length cb, .int .i64 mk, .string (bstr mv), .string (bstr mn), .slice q5 ms.length c5]) ∧ Hid (Below w.heap.size w wr)) (fun iv _ => ls.length - (intOf iv).toNat)
 case atStart => exact ⟨0, Nat.zero_le _, rfl, HA.out, HBb.out, HB.out⟩
 case round =>
  obtain ⟨i, hi, rfl, HA, HBb, HB⟩ := hrel
  have hi0 : (0 : Int) ≤ i := by omega
  by_cases hlt : i < ls.length
  ·have hi1 : (i : Int) < ls.length := by omega
   obtain ⟨b, o, rfl, hb, x0, x1⟩ := H1.out.at hlt
   obtain ⟨b2, o2, rfl, hb2, y0, y1⟩ := H2.out.at hlt
   obtain ⟨t0, ht0⟩ : ∃ t, t = bstr (ls.getD i ([], [])).1 := ⟨_, rfl⟩
   obtain ⟨t1, ht1⟩ : ∃ t, t = bstr (ls.getD i ([], [])).2 := ⟨_, rfl⟩
   rw [← ht0] at x0 y0
   rw [← ht1] at x1 y1
   have HCL : Hid (wr.drew.cell? ⟨b, o + i * 2, none⟩ = some (.string t0) ∧ wr.drew.cell? ⟨b, o + i * 2 + 1, none⟩ = some (.string t1) ∧ wr.drew.cell? ⟨b2, o2 + i * 2, none⟩ = some (.string t0) ∧ wr.drew.cell? ⟨b2, o2 + i * 2 + 1, none⟩ = some (.string t1)) :=
    ⟨(HB.out.cell (p := ⟨b, _, none⟩) (HP.out b hb)).trans x0, (HB.out.cell (p := ⟨b, _, none⟩) (HP.out b hb)).trans x1, (HB.out.cell (p := ⟨b2, _, none⟩) (HQ.out b2 hb2)).trans y0, (HB.out.cell (p := ⟨b2, _, none⟩) (HQ.out b2 hb2)).trans y1⟩
   clear x0 x1 y0 y1 hb hb2 ht0 ht1 hlt
   have ea2 := HA.out.cell 2
   have eb2 := HA.out.free 2
   simp only [List.getElem?_cons_zero, List.getElem?_cons_succ] at ea2
   go_upto_region 6 with (fail)
   clear ea2 eb2
   have HA := Lib.hid (HA.out.later (Below.refl wr.heap.size wr).drew)
   have HBb := Lib.hid (HBb.out.later (Below.refl wr.heap.size wr).drew)
   refine wp_region_held_drew (S := fun W' => Arr W' 72 w.heap.size [.string tn, .int .i64 k, .slice (some ⟨b, o, none⟩) ls.length ca, .int .i64 mk, .string (bstr mv), .string (bstr mn), .slice q4 ms.length c4] ∧ Arr W' 72 (w.heap.size + 1) [.string tn, .int .i64 k, .slice (some ⟨b2, o2, none⟩) ls.length cb, .int .i64 mk, .string (bstr mv), .string (bstr mn), .slice q5 ms.length c5] ∧ W'.cell? ⟨b, o + i * 2, none⟩ = some (.string t0) ∧ W'.cell? ⟨b, o + i * 2 + 1, none⟩ = some (.string t1) ∧ W'.cell? ⟨b2, o2 + i * 2, none⟩ = some (.string t0) ∧ W'.cell? ⟨b2, o2 + i * 2 + 1, none⟩ = some (.string t1)) (by kernel_rfl) ⟨HA.out, HBb.out, HCL.out⟩ (fun hHeld => ?_)
   try simp only [Act.put]
   have HB := Lib.hid (HB.out.trans ((Below.refl wr.heap.size wr).drew.mono HB.out.size))
   generalize wr.drew = w3 at hHeld HA HBb HB ⊢
   refine wpAnyH_take (i := 0) (oi := ⟨some 42, _, _, _, _, _⟩) (v := .pointer (some ⟨w.heap.size, 2, none⟩)) rfl (by kernel_rfl) (by kernel_rfl) (by kernel_rfl) (fun _ _ _ h => h) (.inl ⟨by rfl, fun w' hSw => ?_⟩) hHeld ?_
   focus (skip; clear hHeld; go_simp)
   try simp only [Act.put, List.setIfInBounds_toArray, List.set_cons_zero, List.set_cons_succ]
   refine wpAnyH_take (i := 1) (oi := ⟨some 43, _, _, _, _, _⟩) (v := .slice (some ⟨b, o, none⟩) ls.length ca) rfl (by kernel_rfl) (by kernel_rfl) (by kernel_rfl) (fun _ _ _ h => h) (.inl ⟨by rfl, fun w' hSw => ?_⟩) hHeld ?_
   focus (obtain ⟨hA, hB, q0, q1, q2, q3⟩ := hSw; have z := hA.cell 2; have z2 := hB.cell 2; simp only [List.getElem?_cons_zero, List.getElem?_cons_succ] at z z2; clear hHeld; go_simp)
   try simp only [Act.put, List.setIfInBounds_toArray, List.set_cons_zero, List.set_cons_succ]
   refine wpAnyH_take (i := 2) (oi := ⟨some 44, _, _, _, _, _⟩) (v := .int .i64 (i : Nat)) rfl (by kernel_rfl) (by kernel_rfl) (by kernel_rfl) (fun _ _ _ h => h) (.inl ⟨by rfl, fun w' hSw => ?_⟩) hHeld ?_
   focus (skip; clear hHeld; go_simp)
   try simp only [Act.put, List.setIfInBounds_toArray, List.set_cons_zero, List.set_cons_succ]
   refine wpAnyH_take (i := 3) (oi := ⟨some 45, _, _, _, _, _⟩) (v := .pointer (some ⟨b, o + i * 2, none⟩)) rfl (by kernel_rfl) (by kernel_rfl) (by kernel_rfl) (fun _ _ _ h => h) (.inl ⟨by rfl, fun w' hSw => ?_⟩) hHeld ?_
   focus (skip; clear hHeld; go_simp)
   try simp only [Act.put, List.setIfInBounds_toArray, List.set_cons_zero, List.set_cons_succ]
   refine wpAnyH_take (i := 4) (oi := ⟨some 46, _, _, _, _, _⟩) (v := .agg #[.string t0, .string t1]) rfl (by kernel_rfl) (by kernel_rfl) (by kernel_rfl) (fun _ _ _ h => h) (.inl ⟨by rfl, fun w' hSw => ?_⟩) hHeld ?_
   focus (obtain ⟨hA, hB, q0, q1, q2, q3⟩ := hSw; have z := hA.cell 2; have z2 := hB.cell 2; simp only [List.getElem?_cons_zero, List.getElem?_cons_succ] at z z2; clear hHeld; go_simp)
   try simp only [Act.put, List.setIfInBounds_toArray, List.set_cons_zero, List.set_cons_succ]
   refine wpAnyH_take (i := 5) (oi := ⟨some 47, _, _, _, _, _⟩) (v := .pointer (some ⟨w.heap.size + 1, 2, none⟩)) rfl (by kernel_rfl) (by kernel_rfl) (by kernel_rfl) (fun _ _ _ h => h) (.inl ⟨by rfl, fun w' hSw => ?_⟩) hHeld ?_
   focus (skip; clear hHeld; go_simp)
   try simp only [Act.put, List.setIfInBounds_toArray, List.set_cons_zero, List.set_cons_succ]
   refine wpAnyH_take (i := 6) (oi := ⟨some 48, _, _, _, _, _⟩) (v := .slice (some ⟨b2, o2, none⟩) ls.length cb) rfl (by kernel_rfl) (by kernel_rfl) (by kernel_rfl) (fun _ _ _ h => h) (.inl ⟨by rfl, fun w' hSw => ?_⟩) hHeld ?_
   focus (obtain ⟨hA, hB, q0, q1, q2, q3⟩ := hSw; have z := hA.cell 2; have z2 := hB.cell 2; simp only [List.getElem?_cons_zero, List.getElem?_cons_succ] at z z2; clear hHeld; go_simp)
   try simp only [Act.put, List.setIfInBounds_toArray, List.set_cons_zero, List.set_cons_succ]
   refine wpAnyH_take (i := 7) (oi := ⟨some 49, _, _, _, _, _⟩) (v := .int .i64 (i : Nat)) rfl (by kernel_rfl) (by kernel_rfl) (by kernel_rfl) (fun _ _ _ h => h) (.inl ⟨by rfl, fun w' hSw => ?_⟩) hHeld ?_
   focus (skip; clear hHeld; go_simp)
   try simp only [Act.put, List.setIfInBounds_toArray, List.set_cons_zero, List.set_cons_succ]
   refine wpAnyH_take (i := 8) (oi := ⟨some 50, _, _, _, _, _⟩) (v := .pointer (some ⟨b2, o2 + i * 2, none⟩)) rfl (by kernel_rfl) (by kernel_rfl) (by kernel_rfl) (fun _ _ _ h => h) (.inl ⟨by rfl, fun w' hSw => ?_⟩) hHeld ?_
   focus (skip; clear hHeld; go_simp)
   try simp only [Act.put, List.setIfInBounds_toArray, List.set_cons_zero, List.set_cons_succ]
   refine wpAnyH_take (i := 9) (oi := ⟨some 51, _, _, _, _, _⟩) (v := .agg #[.string t0, .string t1]) rfl (by kernel_rfl) (by kernel_rfl) (by kernel_rfl) (fun _ _ _ h => h) (.inl ⟨by rfl, fun w' hSw => ?_⟩) hHeld ?_
   focus (obtain ⟨hA, hB, q0, q1, q2, q3⟩ := hSw; have z := hA.cell 2; have z2 := hB.cell 2; simp only [List.getElem?_cons_zero, List.getElem?_cons_succ] at z z2; clear hHeld; go_simp)
   try simp only [Act.put, List.setIfInBounds_toArray, List.set_cons_zero, List.set_cons_succ]
   refine wpAnyH_take (i := 10) (oi := ⟨some 52, _, _, _, _, _⟩) (v := .bool false) rfl (by kernel_rfl) (by kernel_rfl) (by kernel_rfl) (fun _ _ _ h => h) (.inl ⟨by rfl, fun w' hSw => ?_⟩) hHeld ?_
   focus (skip; clear hHeld; go_simp)
   try simp only [Act.put, List.setIfInBounds_toArray, List.set_cons_zero, List.set_cons_succ]
   refine wpAnyH_done (by kernel_rfl) ?_ _
   go_wp2_with fail
   go_roundw
   case rel => exact ⟨i + 1, by omega, by go_num, HA.out, HBb.out, HB.out⟩
   case measure => simp [intOf]; omega
  ·have hi1 : ¬ (i : Int) < ls.length := by omega
   have ea2 := HA.out.cell 2
   have eb2 := HA.out.free 2
   simp only [List.getElem?_cons_zero, List.getElem?_cons_succ] at ea2
   go_wp2_with fail
   go_ret
   exact ⟨rfl, HB.out⟩
set_option maxRecDepth 100000 in
set_option maxHeartbeats 4000000 in
theorem sameD_any (n : List UInt8) (l : List MemB) (qa qb : Option Addr) (ca cb : Nat) (P Q : Nat → Prop) (w : World) (h1 : RdK kdMem P w l (.slice qa l.length ca)) (h2 : RdK kdMem Q w l (.slice qb l.length cb)) (hP : ∀ b, P b → b < w.heap.size) (hQ : ∀ b, Q b → b < w.heap.size) (hl : l.length ≤ 100000) (hg : ∀ m ∈ l, OkM m) :
  Calls Tryz.prog 20 #[.agg #[.string (bstr n), .slice qa l.length ca], .agg #[.string (bstr n), .slice qb l.length cb]] w fun e w' => e = .returned (.bool true) ∧ Below w.heap.size w w' := by
 have H1 := Lib.hid h1
 have H2 := Lib.hid h2
 have HP := Lib.hid hP
 have HQ := Lib.hid hQ
 have HG := Lib.hid hg
 have hz : (l.length : Int) ≤ 100000 := by omega
 have hb0 : Below w.heap.size w ((w.alloc (.cells #[.string (bstr n), .slice qa l.length ca] 44)).alloc (.cells #[.string (bstr n), .slice qb l.length cb] 44)) := ((Below.refl _ _).alloc (Nat.le_refl _) _).alloc (by simp) _
 have HB := Lib.hid hb0
 have HA : Hid (Arr ((w.alloc (.cells #[.string (bstr n), .slice qa l.length ca] 44)).alloc (.cells #[.string (bstr n), .slice qb l.length cb] 44)) 44 w.heap.size [.string (bstr n), .slice qa l.length ca]) := (Arr.new' _ _ _ _ rfl).alloc _
 have HBb : Hid (Arr ((w.alloc (.cells #[.string (bstr n), .slice qa l.length ca] 44)).alloc (.cells #[.string (bstr n), .slice qb l.length cb] 44)) 44 (w.heap.size + 1) [.string (bstr n), .slice qb l.length cb]) := Arr.new2 _ _ _ _ _ rfl
 clear h1 h2 hP hQ hb0 hg hl
 go_enter Tryz.func20, Tryz.ntmps20
 go_upto_region 1 with (fail)
 generalize ((w.alloc (.cells #[.string (bstr n), .slice qa l.length ca] 44)).alloc (.cells #[.string (bstr n), .slice qb l.length cb] 44)) = w1 at HA HBb HB ⊢
 obtain ⟨tn, htn⟩ : ∃ t, t = bstr n := ⟨_, rfl⟩
 rw [← htn] at HA HBb
 clear htn
 obtain ⟨ea0, eb0, ea1, eb1⟩ := HA.out.all2
 obtain ⟨na0, nz0, na1, nz1⟩ := HBb.out.all2
 go_wp2_with fail
 clear ea0 eb0 ea1 eb1
 clear na0 nz0 na1 nz1
 go_loopw [5] (fun iv wr => ∃ i : Nat, i ≤ l.length ∧ iv = .int .i64 i ∧ Hid (Arr wr 44 w.heap.size [.string tn, .slice qa l.length ca]) ∧ Hid (Arr wr 44 (w.heap.size + 1) [.string tn, .slice qb l.length cb]) ∧ Hid (Below w.heap.size w wr)) (fun iv _ => l.length - (intOf iv).toNat)
 case atStart => exact ⟨0, Nat.zero_le _, rfl, HA.out, HBb.out, HB.out⟩
 case round =>
  obtain ⟨i, hi, rfl, HA, HBb, HB⟩ := hrel
  have hi0 : (0 : Int) ≤ i := by omega
  by_cases hlt : i < l.length
  ·have hi1 : (i : Int) < l.length := by omega
   obtain ⟨x, hx⟩ : ∃ x, l[i]? = some x := ⟨_, List.getElem?_eq_getElem hlt⟩
   have hxg := HG.out x (List.mem_of_getElem? hx)
   obtain ⟨b, o, a1, rfl, hb, r1, x1⟩ := H1.out.at hx
   obtain ⟨b2, o2, a2, rfl, hb2, r2, y1⟩ := H2.out.at hx
   rw [show kdMem.size = 7 from rfl] at x1 y1
   obtain ⟨xn, xk, xl, mk, mv, mn, ms⟩ := x
   have HM1 := Lib.hid r1
   have HM2 := Lib.hid r2
   obtain ⟨xa, xc, q4, c4, rfl, _, _⟩ := rdMem_form r1
   obtain ⟨ya, yc, q5, c5, rfl, _, _⟩ := rdMem_form r2
   have HC1 : Hid (AtC wr b (o + i * 7) [.string (bstr xn), .int .i64 xk, .slice xa xl.length xc, .int .i64 mk, .string (bstr mv), .string (bstr mn), .slice q4 ms.length c4]) := ⟨Nat.lt_of_lt_of_le (HP.out b hb) HB.out.size, fun j u hj => (HB.out.cell (p := ⟨b, _, none⟩) (HP.out b hb)).trans (x1 j u hj)⟩
   have HC2 : Hid (AtC wr b2 (o2 + i * 7) [.string (bstr xn), .int .i64 xk, .slice ya xl.length yc, .int .i64 mk, .string (bstr mv), .string (bstr mn), .slice q5 ms.length c5]) := ⟨Nat.lt_of_lt_of_le (HQ.out b2 hb2) HB.out.size, fun j u hj => (HB.out.cell (p := ⟨b2, _, none⟩) (HQ.out b2 hb2)).trans (y1 j u hj)⟩
   have HX1 := Lib.hid hxg
   clear x1 y1 hb hb2 hlt hx hxg r1 r2
   have ea1 := HA.out.cell 1
   have eb1 := HA.out.free 1
   simp only [List.getElem?_cons_zero, List.getElem?_cons_succ] at ea1
   go_upto_region 6 with (fail)
   clear ea1 eb1
   have HA := Lib.hid (HA.out.later (Below.refl wr.heap.size wr).drew)
   have HBb := Lib.hid (HBb.out.later (Below.refl wr.heap.size wr).drew)
   refine wp_region_held_drew (S := fun W' => Arr W' 44 w.heap.size [.string tn, .slice (some ⟨b, o, none⟩) l.length ca] ∧ Arr W' 44 (w.heap.size + 1) [.string tn, .slice (some ⟨b2, o2, none⟩) l.length cb] ∧ AtC W' b (o + i * 7) [.string (bstr xn), .int .i64 xk, .slice xa xl.length xc, .int .i64 mk, .string (bstr mv), .string (bstr mn), .slice q4 ms.length c4] ∧ AtC W' b2 (o2 + i * 7) [.string (bstr xn), .int .i64 xk, .slice ya xl.length yc, .int .i64 mk, .string (bstr mv), .string (bstr mn), .slice q5 ms.length c5]) (by kernel_rfl) ⟨HA.out, HBb.out, HC1.out.later (Below.refl wr.heap.size wr).drew, HC2.out.later (Below.refl wr.heap.size wr).drew⟩ (fun hHeld => ?_)
   try simp only [Act.put]
   have HB := Lib.hid (HB.out.trans ((Below.refl wr.heap.size wr).drew.mono HB.out.size))
   generalize wr.drew = w3 at hHeld HA HBb HB ⊢
   refine wpAnyH_take (i := 0) (oi := ⟨some 27, _, _, _, _, _⟩) (v := .pointer (some ⟨w.heap.size, 1, none⟩)) rfl (by kernel_rfl) (by kernel_rfl) (by kernel_rfl) (fun _ _ _ h => h) (.inl ⟨by rfl, fun w' hSw => ?_⟩) hHeld ?_
   focus (skip; clear hHeld; go_simp)
   try simp only [Act.put, List.setIfInBounds_toArray, List.set_cons_zero, List.set_cons_succ]
   refine wpAnyH_take (i := 1) (oi := ⟨some 28, _, _, _, _, _⟩) (v := .slice (some ⟨b, o, none⟩) l.length ca) rfl (by kernel_rfl) (by kernel_rfl) (by kernel_rfl) (fun _ _ _ h => h) (.inl ⟨by rfl, fun w' hSw => ?_⟩) hHeld ?_
   focus (obtain ⟨hA, hB, hC, hD⟩ := hSw; have z := hA.cell 1; have z2 := hB.cell 1; simp only [List.getElem?_cons_zero, List.getElem?_cons_succ] at z z2; have q0 := hC.2 0 _ rfl; have q1 := hC.2 1 _ rfl; have q2 := hC.2 2 _ rfl; have q3 := hC.2 3 _ rfl; have q4 := hC.2 4 _ rfl; have q5 := hC.2 5 _ rfl; have q6 := hC.2 6 _ rfl; have p0 := hD.2 0 _ rfl; have p1 := hD.2 1 _ rfl; have p2 := hD.2 2 _ rfl; have p3 := hD.2 3 _ rfl; have p4 := hD.2 4 _ rfl; have p5 := hD.2 5 _ rfl; have p6 := hD.2 6 _ rfl; simp only [Nat.add_zero] at q0 p0; clear hHeld; go_simp)
   try simp only [Act.put, List.setIfInBounds_toArray, List.set_cons_zero, List.set_cons_succ]
   refine wpAnyH_take (i := 2) (oi := ⟨some 29, _, _, _, _, _⟩) (v := .int .i64 (i : Nat)) rfl (by kernel_rfl) (by kernel_rfl) (by kernel_rfl) (fun _ _ _ h => h) (.inl ⟨by rfl, fun w' hSw => ?_⟩) hHeld ?_
   focus (skip; clear hHeld; go_simp)
   try simp only [Act.put, List.setIfInBounds_toArray, List.set_cons_zero, List.set_cons_succ]
   refine wpAnyH_take (i := 3) (oi := ⟨some 30, _, _, _, _, _⟩) (v := .pointer (some ⟨b, o + i * 7, none⟩)) rfl (by kernel_rfl) (by kernel_rfl) (by kernel_rfl) (fun _ _ _ h => h) (.inl ⟨by rfl, fun w' hSw => ?_⟩) hHeld ?_
   focus (skip; clear hHeld; go_simp)
   try simp only [Act.put, List.setIfInBounds_toArray, List.set_cons_zero, List.set_cons_succ]
   refine wpAnyH_take (i := 4) (oi := ⟨some 31, _, _, _, _, _⟩) (v := .agg #[.string (bstr xn), .int .i64 xk, .slice xa xl.length xc, .int .i64 mk, .string (bstr mv), .string (bstr mn), .slice q4 ms.length c4]) rfl (by kernel_rfl) (by kernel_rfl) (by kernel_rfl) (fun _ _ _ h => h) (.inl ⟨by rfl, fun w' hSw => ?_⟩) hHeld ?_
   focus (obtain ⟨hA, hB, hC, hD⟩ := hSw; have z := hA.cell 1; have z2 := hB.cell 1; simp only [List.getElem?_cons_zero, List.getElem?_cons_succ] at z z2; have q0 := hC.2 0 _ rfl; have q1 := hC.2 1 _ rfl; have q2 := hC.2 2 _ rfl; have q3 := hC.2 3 _ rfl; have q4 := hC.2 4 _ rfl; have q5 := hC.2 5 _ rfl; have q6 := hC.2 6 _ rfl; have p0 := hD.2 0 _ rfl; have p1 := hD.2 1 _ rfl; have p2 := hD.2 2 _ rfl; have p3 := hD.2 3 _ rfl; have p4 := hD.2 4 _ rfl; have p5 := hD.2 5 _ rfl; have p6 := hD.2 6 _ rfl; simp only [Nat.add_zero] at q0 p0; clear hHeld; go_simp)
   try simp only [Act.put, List.setIfInBounds_toArray, List.set_cons_zero, List.set_cons_succ]
   refine wpAnyH_take (i := 5) (oi := ⟨some 32, _, _, _, _, _⟩) (v := .pointer (some ⟨w.heap.size + 1, 1, none⟩)) rfl (by kernel_rfl) (by kernel_rfl) (by kernel_rfl) (fun _ _ _ h => h) (.inl ⟨by rfl, fun w' hSw => ?_⟩) hHeld ?_
   focus (skip; clear hHeld; go_simp)
   try simp only [Act.put, List.setIfInBounds_toArray, List.set_cons_zero, List.set_cons_succ]
   refine wpAnyH_take (i := 6) (oi := ⟨some 33, _, _, _, _, _⟩) (v := .slice (some ⟨b2, o2, none⟩) l.length cb) rfl (by kernel_rfl) (by kernel_rfl) (by kernel_rfl) (fun _ _ _ h => h) (.inl ⟨by rfl, fun w' hSw => ?_⟩) hHeld ?_
   focus (obtain ⟨hA, hB, hC, hD⟩ := hSw; have z := hA.cell 1; have z2 := hB.cell 1; simp only [List.getElem?_cons_zero, List.getElem?_cons_succ] at z z2; have q0 := hC.2 0 _ rfl; have q1 := hC.2 1 _ rfl; have q2 := hC.2 2 _ rfl; have q3 := hC.2 3 _ rfl; have q4 := hC.2 4 _ rfl; have q5 := hC.2 5 _ rfl; have q6 := hC.2 6 _ rfl; have p0 := hD.2 0 _ rfl; have p1 := hD.2 1 _ rfl; have p2 := hD.2 2 _ rfl; have p3 := hD.2 3 _ rfl; have p4 := hD.2 4 _ rfl; have p5 := hD.2 5 _ rfl; have p6 := hD.2 6 _ rfl; simp only [Nat.add_zero] at q0 p0; clear hHeld; go_simp)
   try simp only [Act.put, List.setIfInBounds_toArray, List.set_cons_zero, List.set_cons_succ]
   refine wpAnyH_take (i := 7) (oi := ⟨some 34, _, _, _, _, _⟩) (v := .int .i64 (i : Nat)) rfl (by kernel_rfl) (by kernel_rfl) (by kernel_rfl) (fun _ _ _ h => h) (.inl ⟨by rfl, fun w' hSw => ?_⟩) hHeld ?_
   focus (skip; clear hHeld; go_simp)
   try simp only [Act.put, List.setIfInBounds_toArray, List.set_cons_zero, List.set_cons_succ]
   refine wpAnyH_take (i := 8) (oi := ⟨some 35, _, _, _, _, _⟩) (v := .pointer (some ⟨b2, o2 + i * 7, none⟩)) rfl (by kernel_rfl) (by kernel_rfl) (by kernel_rfl) (fun _ _ _ h => h) (.inl ⟨by rfl, fun w' hSw => ?_⟩) hHeld ?_
   focus (skip; clear hHeld; go_simp)
   try simp only [Act.put, List.setIfInBounds_toArray, List.set_cons_zero, List.set_cons_succ]
   refine wpAnyH_take (i := 9) (oi := ⟨some 36, _, _, _, _, _⟩) (v := .agg #[.string (bstr xn), .int .i64 xk, .slice ya xl.length yc, .int .i64 mk, .string (bstr mv), .string (bstr mn), .slice q5 ms.length c5]) rfl (by kernel_rfl) (by kernel_rfl) (by kernel_rfl) (fun _ _ _ h => h) (.inl ⟨by rfl, fun w' hSw => ?_⟩) hHeld ?_
   focus (obtain ⟨hA, hB, hC, hD⟩ := hSw; have z := hA.cell 1; have z2 := hB.cell 1; simp only [List.getElem?_cons_zero, List.getElem?_cons_succ] at z z2; have q0 := hC.2 0 _ rfl; have q1 := hC.2 1 _ rfl; have q2 := hC.2 2 _ rfl; have q3 := hC.2 3 _ rfl; have q4 := hC.2 4 _ rfl; have q5 := hC.2 5 _ rfl; have q6 := hC.2 6 _ rfl; have p0 := hD.2 0 _ rfl; have p1 := hD.2 1 _ rfl; have p2 := hD.2 2 _ rfl; have p3 := hD.2 3 _ rfl; have p4 := hD.2 4 _ rfl; have p5 := hD.2 5 _ rfl; have p6 := hD.2 6 _ rfl; simp only [Nat.add_zero] at q0 p0; clear hHeld; go_simp)
   try simp only [Act.put, List.setIfInBounds_toArray, List.set_cons_zero, List.set_cons_succ]
   refine wpAnyH_ready (rs := [10]) (by kernel_rfl) (by simp) ?_
   refine AllReadyH.cons (o := ⟨some 37, _, _, _, _, _⟩) rfl (fun K' hK' => ?_) AllReadyH.nil
   refine stepw_call (R := fun v w' => v = .bool true ∧ Below w3.heap.size w3 w') (by rfl) ?_ ((sameM_any (xn, xk, xl, .mk mk mv mn ms) _ _ P Q w3 (HM1.out.keep fun b hb n => HB.out.cell (p := ⟨b, n, none⟩) (HP.out b hb)) (HM2.out.keep fun b hb n => HB.out.cell (p := ⟨b, n, none⟩) (HQ.out b hb)) (fun b hb => Nat.lt_of_lt_of_le (HP.out b hb) HB.out.size) (fun b hb => Nat.lt_of_lt_of_le (HQ.out b hb) HB.out.size) HX1.out).mono fun r w' ⟨h1, h2⟩ => ⟨_, h1, rfl, h2⟩) ?_
   focus go_simp
   rintro v wn ⟨rfl, bn⟩
   have hkn := And.intro (hHeld.1.later bn) (And.intro (hHeld.2.1.later bn) (And.intro (hHeld.2.2.1.later bn) (hHeld.2.2.2.later bn)))
   clear hHeld
   have HA := Lib.hid (HA.out.later bn)
   have HBb := Lib.hid (HBb.out.later bn)
   have HB := Lib.hid (HB.out.trans (bn.mono HB.out.size))
   clear bn
   refine hK'.out _ _ hkn (fun hHeld => ?_)
   clear hK' K' hkn
   try simp only [Act.put, List.setIfInBounds_toArray, List.set_cons_zero, List.set_cons_succ]
   refine wpAnyH_take (i := 11) (oi := ⟨some 38, _, _, _, _, _⟩) (v := .bool false) rfl (by kernel_rfl) (by kernel_rfl) (by kernel_rfl) (fun _ _ _ h => h) (.inl ⟨by rfl, fun w' hSw => ?_⟩) hHeld ?_
   focus (skip; clear hHeld; go_simp)
   try simp only [Act.put, List.setIfInBounds_toArray, List.set_cons_zero, List.set_cons_succ]
   refine wpAnyH_done (by kernel_rfl) ?_ _
   clear hHeld
   go_wp2_with fail
   go_roundw
   case rel => exact ⟨i + 1, by omega, by go_num, HA.out, HBb.out, HB.out⟩
   case measure => simp [intOf]; omega
  ·have hi1 : ¬ (i : Int) < l.length := by omega
   have ea1 := HA.out.cell 1
   have eb1 := HA.out.free 1
   simp only [List.getElem?_cons_zero, List.getElem?_cons_succ] at ea1
   go_wp2_with fail
   go_ret
   exact ⟨rfl, HB.out⟩
set_option maxRecDepth 100000 in
set_option maxHeartbeats 4000000 in
theorem sameS_any (l : List DefB) (qa qb : Option Addr) (ca cb : Nat) (P Q : Nat → Prop) (w : World) (h1 : RdK kdDef P w l (.slice qa l.length ca)) (h2 : RdK kdDef Q w l (.slice qb l.length cb)) (hP : ∀ b, P b → b < w.heap.size) (hQ : ∀ b, Q b → b < w.heap.size) (hl : l.length ≤ 100000) (hg : ∀ d ∈ l, OkD d) :
  Calls Tryz.prog 7 #[.agg #[.slice qa l.length ca], .agg #[.slice qb l.length cb]] w fun e w' => e = .returned (.bool true) ∧ Below w.heap.size w w' := by
 have H1 := Lib.hid h1
 have H2 := Lib.hid h2
 have HP := Lib.hid hP
 have HQ := Lib.hid hQ
 have HG := Lib.hid hg
 have hz : (l.length : Int) ≤ 100000 := by omega
 have hb0 : Below w.heap.size w ((w.alloc (.cells #[.slice qa l.length ca] 25)).alloc (.cells #[.slice qb l.length cb] 25)) := ((Below.refl _ _).alloc (Nat.le_refl _) _).alloc (by simp) _
 have HB := Lib.hid hb0
 have HA : Hid (Arr ((w.alloc (.cells #[.slice qa l.length ca] 25)).alloc (.cells #[.slice qb l.length cb] 25)) 25 w.heap.size [.slice qa l.length ca]) := (Arr.new' _ _ _ _ rfl).alloc _
 have HBb : Hid (Arr ((w.alloc (.cells #[.slice qa l.length ca] 25)).alloc (.cells #[.slice qb l.length cb] 25)) 25 (w.heap.size + 1) [.slice qb l.length cb]) := Arr.new2 _ _ _ _ _ rfl
 clear h1 h2 hP hQ hb0 hg hl
 go_enter Tryz.func7, Tryz.ntmps7
 go_upto_region 1 with (fail)
 generalize ((w.alloc (.cells #[.slice qa l.length ca] 25)).alloc (.cells #[.slice qb l.length cb] 25)) = w1 at HA HBb HB ⊢
 obtain ⟨ea0, eb0⟩ := HA.out.all1
 obtain ⟨na0, nz0⟩ := HBb.out.all1
 go_wp2_with fail
 clear ea0 eb0
 clear na0 nz0
 go_loopw [5] (fun iv wr => ∃ i : Nat, i ≤ l.length ∧ iv = .int .i64 i ∧ Hid (Arr wr 25 w.heap.size [.slice qa l.length ca]) ∧ Hid (Arr wr 25 (w.heap.size + 1) [.slice qb l.length cb]) ∧ Hid (Below w.heap.size w wr)) (fun iv _ => l.length - (intOf iv).toNat)
 case atStart => exact ⟨0, Nat.zero_le _, rfl, HA.out, HBb.out, HB.out⟩
 case round =>
  obtain ⟨i, hi, rfl, HA, HBb, HB⟩ := hrel
  have hi0 : (0 : Int) ≤ i := by omega
  by_cases hlt : i < l.length
  ·have hi1 : (i : Int) < l.length := by omega
   obtain ⟨x, hx⟩ : ∃ x, l[i]? = some x := ⟨_, List.getElem?_eq_getElem hlt⟩
   have hxg := HG.out x (List.mem_of_getElem? hx)
   obtain ⟨b, o, a1, rfl, hb, r1, x1⟩ := H1.out.at hx
   obtain ⟨b2, o2, a2, rfl, hb2, r2, y1⟩ := H2.out.at hx
   rw [show kdDef.size = 2 from rfl] at x1 y1
   obtain ⟨xn, xl⟩ := x
   obtain ⟨u1, rfl, r3⟩ := r1
   obtain ⟨u2, rfl, r4⟩ := r2
   have HM1 := Lib.hid r3
   have HM2 := Lib.hid r4
   obtain ⟨xa, xc, rfl, _⟩ := r3
   obtain ⟨ya, yc, rfl, _⟩ := r4
   have HC1 : Hid (AtC wr b (o + i * 2) [.string (bstr xn), .slice xa xl.length xc]) := ⟨Nat.lt_of_lt_of_le (HP.out b hb) HB.out.size, fun j u hj => (HB.out.cell (p := ⟨b, _, none⟩) (HP.out b hb)).trans (x1 j u hj)⟩
   have HC2 : Hid (AtC wr b2 (o2 + i * 2) [.string (bstr xn), .slice ya xl.length yc]) := ⟨Nat.lt_of_lt_of_le (HQ.out b2 hb2) HB.out.size, fun j u hj => (HB.out.cell (p := ⟨b2, _, none⟩) (HQ.out b2 hb2)).trans (y1 j u hj)⟩
   have HX1 := Lib.hid hxg
   clear x1 y1 hb hb2 hlt hx hxg
   obtain ⟨ea0, eb0⟩ := HA.out.all1
   go_upto_region 6 with (fail)
   clear ea0 eb0
   have HA := Lib.hid (HA.out.later (Below.refl wr.heap.size wr).drew)
   have HBb := Lib.hid (HBb.out.later (Below.refl wr.heap.size wr).drew)
   refine wp_region_held_drew (S := fun W' => Arr W' 25 w.heap.size [.slice (some ⟨b, o, none⟩) l.length ca] ∧ Arr W' 25 (w.heap.size + 1) [.slice (some ⟨b2, o2, none⟩) l.length cb] ∧ AtC W' b (o + i * 2) [.string (bstr xn), .slice xa xl.length xc] ∧ AtC W' b2 (o2 + i * 2) [.string (bstr xn), .slice ya xl.length yc]) (by kernel_rfl) ⟨HA.out, HBb.out, HC1.out.later (Below.refl wr.heap.size wr).drew, HC2.out.later (Below.refl wr.heap.size wr).drew⟩ (fun hHeld => ?_)
   try simp only [Act.put]
   have HB := Lib.hid (HB.out.trans ((Below.refl wr.heap.size wr).drew.mono HB.out.size))
   generalize wr.drew = w3 at hHeld HA HBb HB ⊢
   refine wpAnyH_take (i := 0) (oi := ⟨some 20, _, _, _, _, _⟩) (v := .pointer (some ⟨w.heap.size, 0, none⟩)) rfl (by kernel_rfl) (by kernel_rfl) (by kernel_rfl) (fun _ _ _ h => h) (.inl ⟨by rfl, fun w' hSw => ?_⟩) hHeld ?_
   focus (skip; clear hHeld; go_simp)
   try simp only [Act.put, List.setIfInBounds_toArray, List.set_cons_zero, List.set_cons_succ]
   refine wpAnyH_take (i := 1) (oi := ⟨some 21, _, _, _, _, _⟩) (v := .slice (some ⟨b, o, none⟩) l.length ca) rfl (by kernel_rfl) (by kernel_rfl) (by kernel_rfl) (fun _ _ _ h => h) (.inl ⟨by rfl, fun w' hSw => ?_⟩) hHeld ?_
   focus (obtain ⟨hA, hB, hC, hD⟩ := hSw; have z := hA.cell 0; have z2 := hB.cell 0; simp only [List.getElem?_cons_zero] at z z2; have q0 := hC.2 0 _ rfl; have q1 := hC.2 1 _ rfl; have p0 := hD.2 0 _ rfl; have p1 := hD.2 1 _ rfl; simp only [Nat.add_zero] at q0 p0; clear hHeld; go_simp)
   try simp only [Act.put, List.setIfInBounds_toArray, List.set_cons_zero, List.set_cons_succ]
   refine wpAnyH_take (i := 2) (oi := ⟨some 22, _, _, _, _, _⟩) (v := .int .i64 (i : Nat)) rfl (by kernel_rfl) (by kernel_rfl) (by kernel_rfl) (fun _ _ _ h => h) (.inl ⟨by rfl, fun w' hSw => ?_⟩) hHeld ?_
   focus (skip; clear hHeld; go_simp)
   try simp only [Act.put, List.setIfInBounds_toArray, List.set_cons_zero, List.set_cons_succ]
   refine wpAnyH_take (i := 3) (oi := ⟨some 23, _, _, _, _, _⟩) (v := .pointer (some ⟨b, o + i * 2, none⟩)) rfl (by kernel_rfl) (by kernel_rfl) (by kernel_rfl) (fun _ _ _ h => h) (.inl ⟨by rfl, fun w' hSw => ?_⟩) hHeld ?_
   focus (skip; clear hHeld; go_simp)
   try simp only [Act.put, List.setIfInBounds_toArray, List.set_cons_zero, List.set_cons_succ]
   refine wpAnyH_take (i := 4) (oi := ⟨some 24, _, _, _, _, _⟩) (v := .agg #[.string (bstr xn), .slice xa xl.length xc]) rfl (by kernel_rfl) (by kernel_rfl) (by kernel_rfl) (fun _ _ _ h => h) (.inl ⟨by rfl, fun w' hSw => ?_⟩) hHeld ?_
   focus (obtain ⟨hA, hB, hC, hD⟩ := hSw; have z := hA.cell 0; have z2 := hB.cell 0; simp only [List.getElem?_cons_zero] at z z2; have q0 := hC.2 0 _ rfl; have q1 := hC.2 1 _ rfl; have p0 := hD.2 0 _ rfl; have p1 := hD.2 1 _ rfl; simp only [Nat.add_zero] at q0 p0; clear hHeld; go_simp)
   try simp only [Act.put, List.setIfInBounds_toArray, List.set_cons_zero, List.set_cons_succ]
   refine wpAnyH_take (i := 5) (oi := ⟨some 25, _, _, _, _, _⟩) (v := .pointer (some ⟨w.heap.size + 1, 0, none⟩)) rfl (by kernel_rfl) (by kernel_rfl) (by kernel_rfl) (fun _ _ _ h => h) (.inl ⟨by rfl, fun w' hSw => ?_⟩) hHeld ?_
   focus (skip; clear hHeld; go_simp)
   try simp only [Act.put, List.setIfInBounds_toArray, List.set_cons_zero, List.set_cons_succ]
   refine wpAnyH_take (i := 6) (oi := ⟨some 26, _, _, _, _, _⟩) (v := .slice (some ⟨b2, o2, none⟩) l.length cb) rfl (by kernel_rfl) (by kernel_rfl) (by kernel_rfl) (fun _ _ _ h => h) (.inl ⟨by rfl, fun w' hSw => ?_⟩) hHeld ?_
   focus (obtain ⟨hA, hB, hC, hD⟩ := hSw; have z := hA.cell 0; have z2 := hB.cell 0; simp only [List.getElem?_cons_zero] at z z2; have q0 := hC.2 0 _ rfl; have q1 := hC.2 1 _ rfl; have p0 := hD.2 0 _ rfl; have p1 := hD.2 1 _ rfl; simp only [Nat.add_zero] at q0 p0; clear hHeld; go_simp)
   try simp only [Act.put, List.setIfInBounds_toArray, List.set_cons_zero, List.set_cons_succ]
   refine wpAnyH_take (i := 7) (oi := ⟨some 27, _, _, _, _, _⟩) (v := .int .i64 (i : Nat)) rfl (by kernel_rfl) (by kernel_rfl) (by kernel_rfl) (fun _ _ _ h => h) (.inl ⟨by rfl, fun w' hSw => ?_⟩) hHeld ?_
   focus (skip; clear hHeld; go_simp)
   try simp only [Act.put, List.setIfInBounds_toArray, List.set_cons_zero, List.set_cons_succ]
   refine wpAnyH_take (i := 8) (oi := ⟨some 28, _, _, _, _, _⟩) (v := .pointer (some ⟨b2, o2 + i * 2, none⟩)) rfl (by kernel_rfl) (by kernel_rfl) (by kernel_rfl) (fun _ _ _ h => h) (.inl ⟨by rfl, fun w' hSw => ?_⟩) hHeld ?_
   focus (skip; clear hHeld; go_simp)
   try simp only [Act.put, List.setIfInBounds_toArray, List.set_cons_zero, List.set_cons_succ]
   refine wpAnyH_take (i := 9) (oi := ⟨some 29, _, _, _, _, _⟩) (v := .agg #[.string (bstr xn), .slice ya xl.length yc]) rfl (by kernel_rfl) (by kernel_rfl) (by kernel_rfl) (fun _ _ _ h => h) (.inl ⟨by rfl, fun w' hSw => ?_⟩) hHeld ?_
   focus (obtain ⟨hA, hB, hC, hD⟩ := hSw; have z := hA.cell 0; have z2 := hB.cell 0; simp only [List.getElem?_cons_zero] at z z2; have q0 := hC.2 0 _ rfl; have q1 := hC.2 1 _ rfl; have p0 := hD.2 0 _ rfl; have p1 := hD.2 1 _ rfl; simp only [Nat.add_zero] at q0 p0; clear hHeld; go_simp)
   try simp only [Act.put, List.setIfInBounds_toArray, List.set_cons_zero, List.set_cons_succ]
   refine wpAnyH_ready (rs := [10]) (by kernel_rfl) (by simp) ?_
   refine AllReadyH.cons (o := ⟨some 30, _, _, _, _, _⟩) rfl (fun K' hK' => ?_) AllReadyH.nil
   refine stepw_call (R := fun v w' => v = .bool true ∧ Below w3.heap.size w3 w') (by rfl) ?_ ((sameD_any xn xl _ _ _ _ P Q w3 (HM1.out.keep fun b hb n => HB.out.cell (p := ⟨b, n, none⟩) (HP.out b hb)) (HM2.out.keep fun b hb n => HB.out.cell (p := ⟨b, n, none⟩) (HQ.out b hb)) (fun b hb => Nat.lt_of_lt_of_le (HP.out b hb) HB.out.size) (fun b hb => Nat.lt_of_lt_of_le (HQ.out b hb) HB.out.size) HX1.out.1 HX1.out.2).mono fun r w' ⟨h1, h2⟩ => ⟨_, h1, rfl, h2⟩) ?_
   focus go_simp
   rintro v wn ⟨rfl, bn⟩
   have hkn := And.intro (hHeld.1.later bn) (And.intro (hHeld.2.1.later bn) (And.intro (hHeld.2.2.1.later bn) (hHeld.2.2.2.later bn)))
   clear hHeld
   have HA := Lib.hid (HA.out.later bn)
   have HBb := Lib.hid (HBb.out.later bn)
   have HB := Lib.hid (HB.out.trans (bn.mono HB.out.size))
   clear bn
   refine hK'.out _ _ hkn (fun hHeld => ?_)
   clear hK' K' hkn
   try simp only [Act.put, List.setIfInBounds_toArray, List.set_cons_zero, List.set_cons_succ]
   refine wpAnyH_take (i := 11) (oi := ⟨some 31, _, _, _, _, _⟩) (v := .bool false) rfl (by kernel_rfl) (by kernel_rfl) (by kernel_rfl) (fun _ _ _ h => h) (.inl ⟨by rfl, fun w' hSw => ?_⟩) hHeld ?_
   focus (skip; clear hHeld; go_simp)
   try simp only [Act.put, List.setIfInBounds_toArray, List.set_cons_zero, List.set_cons_succ]
   refine wpAnyH_done (by kernel_rfl) ?_ _
   clear hHeld
   go_wp2_with fail
   go_roundw
   case rel => exact ⟨i + 1, by omega, by go_num, HA.out, HBb.out, HB.out⟩
   case measure => simp [intOf]; omega
  ·have hi1 : ¬ (i : Int) < l.length := by omega
   obtain ⟨ea0, eb0⟩ := HA.out.all1
   go_wp2_with fail
   go_ret
   exact ⟨rfl, HB.out⟩
end Go.Proofs.YteieimchleioaaaGreatDoor
