/-
  A sealed string of which bits are inverted in place.
-/
import Derived.Test.YtikokimnhanloaaDoorCrcOpen
import Derived.Test.YtikokimnhanloaaDoorStr
import Derived.Test.YtikokimnhanloaaDoorCrcBits
import Derived.Lib.SmallJoins
import Derived.Laws.OwnMore
import Derived.Deep.Cut
namespace Go.Proofs.YtikokimnhanloaaDoor
open Go.ChangeShapes Go.WideShapes Go.ChangeAt Go.RowKit

theorem own_set {w : World} {base g n cap : Nat} {l : List UInt8} (h : w.ownsRow base 5 1 (.slice (some ⟨g, 0, none⟩) n cap) n (bvs l)) (q : Nat) (y : UInt8) {u : Value} (hu : u = bv y) :
    (w.setCell ⟨g, q, none⟩ u).ownsRow base 5 1 (.slice (some ⟨g, 0, none⟩) n cap) n (bvs (l.set q y)) := by
  subst hu
  have := (World.ownsRow.stored h q (bv y)).1
  unfold bvs
  rw [List.map_set]
  exact this
theorem own_at {w : World} {base g n cap : Nat} {l : List UInt8} (h : w.ownsRow base 5 1 (.slice (some ⟨g, 0, none⟩) n cap) n (bvs l)) {q : Nat} (hq : q < n) : w.cell? ⟨g, q, none⟩ = some (.int .u8 (l.getD q 0).toNat) := by
  have hl : l.length = n := by have := h.1; rw [bvs_length] at this; omega
  rw [World.ownsRow.cellAt h q (by omega), bvs_getElem _ _ (by omega)]; rfl
theorem tail4 (l : List UInt8) (h : 4 ≤ l.length) : ∃ a x0 x1 x2 x3, l = a ++ [x0, x1, x2, x3] := by
  have e := List.take_append_drop (l.length - 4) l
  have hd : (l.drop (l.length - 4)).length = 4 := by rw [List.length_drop]; omega
  generalize l.drop (l.length - 4) = d at *
  match d, hd with
  | [x0, x1, x2, x3], _ => exact ⟨_, x0, x1, x2, x3, e.symm⟩
theorem le_le4 (c : Nat) (hc : c < lim32) : le4n (UInt8.ofNat c) (UInt8.ofNat (c / 256)) (UInt8.ofNat (c / 65536)) (UInt8.ofNat (c / 16777216)) = c := by
  unfold le4n lim32 at *
  simp only [UInt8.toNat_ofNat']
  omega
theorem sealed_ok (l : List UInt8) : reg ones (sealed l) = tn 32 ones := (sealed_reg l _ _ _ _).1 (le_le4 (crc l) (crc_lt l))
theorem u8_bit (y : UInt8) (s : Nat) (hs : s < 8) : ∃ z : UInt8, Value.int .u8 (bits .xor .u8 (y.toNat : Int) (2 ^ s % 256)) = bv z ∧ z.toNat = y.toNat ^^^ 2 ^ s := by
  have hp : 2 ^ s < 2 ^ 8 := Nat.pow_lt_pow_right (by decide) hs
  have hx : y.toNat ^^^ 2 ^ s < 2 ^ 8 := Nat.xor_lt_two_pow y.toNat_lt hp
  have e : (2 : Int) ^ s % 256 = ((2 ^ s : Nat) : Int) := by
    have h1 : (((2 ^ s : Nat) : Int)) % 256 = ((2 ^ s : Nat) : Int) := by
      generalize 2 ^ s = z at *
      omega
    rw [← h1]; simp
  refine ⟨UInt8.ofNat (y.toNat ^^^ 2 ^ s), ?_, ?_⟩
  · rw [e, u8_xor_nat y.toNat (2 ^ s) y.toNat_lt hp, bvo]
    congr 1; omega
  · rw [UInt8.toNat_ofNat']; omega
theorem idx (t L : Nat) (ht : t < lim32) : (wrap64 (t : Int)).tmod (8 * (L : Int)) = ((t % (8 * L) : Nat) : Int) := by
  have e : wrap64 (t : Int) = (t : Int) := by unfold wrap64; unfold lim32 at ht; omega
  rw [e, Int.tmod_eq_emod_of_nonneg (by omega)]
  simp
end Go.Proofs.YtikokimnhanloaaDoor
