/-
  vestryref08.Order and Compare, cmp.Or, name.Compare.
-/
import Derived.Test.YtihjmjhajjgjoaaDoorNameS
import Derived.Test.YtihjmjhajjgjoaaDoorShelf
import Derived.Test.YtihjmjhajjgjoaaDoorNameC
namespace Go.Proofs.YtihjmjhajjgjoaaDoor
open Go.ChangeShapes Go.WideShapes Go.ChangeAt Go.RowKit
set_option linter.unusedVariables false

def Same (a b : ByteArray) (k : Nat) : Prop := ∀ j, (h1 : j < a.size) → (h2 : j < b.size) → j < k → a[j] = b[j]
def ends (a b : ByteArray) : Int := if a.size < b.size then -1 else if b.size < a.size then 1 else 0

set_option maxRecDepth 100000 in
set_option maxHeartbeats 1000000 in
theorem order_any (a b : ByteArray) (ha : a.size ≤ 1000000) (hb : b.size ≤ 1000000) (w : World) : Calls Tryd.prog 39 #[.string a, .string b] w fun e w' => e = .returned (.int .i64 (ord a b)) ∧ Below w.heap.size w w' := by
  have ha' : (a.size : Int) ≤ 1000000 := by omega
  have hb' : (b.size : Int) ≤ 1000000 := by omega
  go_enter Tryd.func39, Tryd.ntmps39
  go_wp2_with fail
  go_loopw [5] (fun iv wr => ∃ k : Nat, k ≤ a.size ∧ k ≤ b.size ∧ iv = .int .i64 k ∧ Hid (Same a b k) ∧ Hid (Below w.heap.size w wr)) (fun iv _ => a.size - (intOf iv).toNat)
  case atStart => exact ⟨0, Nat.zero_le _, Nat.zero_le _, rfl, fun j _ _ hj => by omega, Below.refl _ _⟩
  case round =>
    obtain ⟨k, hk, hkb, rfl, HP, HB⟩ := hrel
    have HEND := Lib.hid (fun h => ord_end HP.out hk hkb h)
    have HLT := Lib.hid (fun h1 h2 h3 => ord_lt HP.out (k := k) h1 h2 h3)
    have HGT := Lib.hid (fun h1 h2 h3 => ord_gt HP.out (k := k) h1 h2 h3)
    have hk0 : (0 : Int) ≤ k := by omega
    by_cases hl1 : k < a.size
    · by_cases hl2 : k < b.size
      · have g1 : (k : Int) < a.size := by omega
        have g2 : (k : Int) < b.size := by omega
        have NX : Hid (a[k] = b[k] → Same a b (k + 1)) := fun h j x y hlt => by
          by_cases e : j = k
          · subst e; exact h
          · exact HP.out j x y (by omega)
        clear HEND
        by_cases c1 : a[k].toNat < b[k].toNat
        · have HR : Hid (ord a b = -1) := HLT.out hl1 hl2 (by rw [UInt8.lt_iff_toNat_lt]; exact c1)
          have d1 : (a[k].toNat : Int) < b[k].toNat := by omega
          clear HLT HGT NX HP
          go_wp2_with fail
          go_region
          go_wp2_with fail
          go_ret
          exact ⟨by rw [HR.out]; rfl, below_dr HB.out _⟩
        · by_cases c2 : b[k].toNat < a[k].toNat
          · have HR : Hid (ord a b = 1) := HGT.out hl1 hl2 (by rw [UInt8.lt_iff_toNat_lt]; exact c2)
            have d1 : ¬ (a[k].toNat : Int) < b[k].toNat := by omega
            have d2 : (b[k].toNat : Int) < a[k].toNat := by omega
            clear HLT HGT NX HP
            go_wp2_with fail
            go_region
            go_wp2_with fail
            go_region
            go_wp2_with fail
            go_ret
            exact ⟨by rw [HR.out]; rfl, below_dr (below_dr HB.out 1) 1⟩
          · have HX := Lib.hid (NX.out (UInt8.toNat_inj.1 (by omega)))
            have d1 : ¬ (a[k].toNat : Int) < b[k].toNat := by omega
            have d2 : ¬ (b[k].toNat : Int) < a[k].toNat := by omega
            clear HLT HGT NX HP
            go_wp2_with fail
            go_region
            go_wp2_with fail
            go_region
            go_wp2_with fail
            go_roundw
            case rel => exact ⟨k + 1, by omega, by omega, by go_num, HX.out, below_dr (below_dr HB.out 1) 1⟩
            case measure => simp [intOf]; omega
      · obtain rfl : k = b.size := by omega
        have HR : Hid (ord a b = 1) := by
          show _ = _
          rw [HEND.out (by omega), if_neg (by omega), if_pos (by omega)]
        have g1 : (b.size : Int) < a.size := by omega
        have g2 : ¬ (a.size : Int) < b.size := by omega
        clear HLT HGT HP HEND
        go_wp2_with fail
        go_ret
        exact ⟨by rw [HR.out]; rfl, HB.out⟩
    · obtain rfl : k = a.size := by omega
      by_cases hl2 : a.size < b.size
      · have HR : Hid (ord a b = -1) := by
          show _ = _
          rw [HEND.out (by omega), if_pos (by omega)]
        have g1 : (a.size : Int) < b.size := by omega
        clear HLT HGT HP HEND
        go_wp2_with fail
        go_ret
        exact ⟨by rw [HR.out]; rfl, HB.out⟩
      · have HR : Hid (ord a b = 0) := by
          show _ = _
          rw [HEND.out (by omega), if_neg (by omega), if_neg (by omega)]
        have g1 : ¬ (a.size : Int) < b.size := by omega
        have g2 : ¬ (b.size : Int) < a.size := by omega
        clear HLT HGT HP HEND
        go_wp2_with fail
        go_ret
        exact ⟨by rw [HR.out]; rfl, HB.out⟩
end Go.Proofs.YtihjmjhajjgjoaaDoor
