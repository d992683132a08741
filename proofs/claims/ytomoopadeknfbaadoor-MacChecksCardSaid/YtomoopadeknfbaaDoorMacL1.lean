/-
  vestrylaw07.MacEqual, MacKeys: the walks, given awake's.
-/
import Derived.Test.YtomoopadeknfbaaDoorMacC
import Derived.Test.YtomoopadeknfbaaDoorMacD
import Derived.Stop.BytesEq
namespace Go.Proofs.YtomoopadeknfbaaDoor
open Go.ChangeShapes Go.WideShapes Go.ChangeAt Go.RowKit
set_option linter.unusedVariables false

theorem eqB_beq (k l : List UInt8) : eqB k l = (k == l) := rfl
set_option maxRecDepth 100000 in
set_option maxHeartbeats 2000000 in
theorem macequal_walk {w : World} {v u : Value} {k l : List UInt8} (AW : ∀ w, Env w → Calls Tryd.prog 8 #[] w fun e w' => e = .returned (.bool true) ∧ Below w.heap.size w w') (hv : Rd w.heap.size w v k) (hr : Rd w.heap.size w u l) (he : Env w) :
    Calls Tryd.prog 6 #[v, u] w fun e w' => e = .returned (.bool true) ∧ Below w.heap.size w w' := by
  have HAW := Lib.hid AW
  have HE := Lib.hid he
  have HV := Lib.hid hv
  have HR := Lib.hid hr
  obtain ⟨q, c, rfl, _, _⟩ := hv.form
  obtain ⟨q2, c2, rfl, _, _⟩ := hr.form
  clear AW hv hr he
  by_cases hk : 500 < k.length
  · have h1 : (500 : Int) < k.length := by omega
    go_enter Tryd.func6, Tryd.ntmps6
    go_wp2_with fail
    refine (HAW.out _ HE.out).mono ?_
    rintro e w1 ⟨rfl, b1⟩
    have HB1 := Lib.hid b1
    have HE1 := Lib.hid (HE.out.below b1)
    clear b1
    go_wp2_with fail
    refine (HAW.out _ HE1.out).mono ?_
    rintro e w2 ⟨rfl, b2⟩
    have HB2 := Lib.hid (HB1.out.trans (b2.mono HB1.out.size))
    clear b2
    go_wp2_with fail
    go_ret
    exact ⟨rfl, HB2.out⟩
  · by_cases hl : 500 < l.length
    · have h1 : ¬ (500 : Int) < k.length := by omega
      have h2 : (500 : Int) < l.length := by omega
      go_enter Tryd.func6, Tryd.ntmps6
      go_wp2_with fail
      refine (HAW.out _ HE.out).mono ?_
      rintro e w1 ⟨rfl, b1⟩
      have HB1 := Lib.hid b1
      have HE1 := Lib.hid (HE.out.below b1)
      clear b1
      go_wp2_with fail
      refine (HAW.out _ HE1.out).mono ?_
      rintro e w2 ⟨rfl, b2⟩
      have HB2 := Lib.hid (HB1.out.trans (b2.mono HB1.out.size))
      clear b2
      go_wp2_with fail
      go_ret
      exact ⟨rfl, HB2.out⟩
    · have h1 : ¬ (500 : Int) < k.length := by omega
      have h2 : ¬ (500 : Int) < l.length := by omega
      go_enter Tryd.func6, Tryd.ntmps6
      go_wp2_with fail
      refine (HAW.out _ HE.out).mono ?_
      rintro e w1 ⟨rfl, b1⟩
      have HB1 := Lib.hid b1
      have HV1 := Lib.hid ((HV.out.below b1 (Nat.le_refl _)).mono b1.size)
      have HR1 := Lib.hid ((HR.out.below b1 (Nat.le_refl _)).mono b1.size)
      clear b1 HV HR
      go_wp2_with fail
      refine (mequal_any HV1.out HR1.out (Nat.le_refl _) (Nat.le_refl _)).mono ?_
      rintro e w2 ⟨rfl, b2⟩
      have HB2 := Lib.hid (HB1.out.trans (b2.mono HB1.out.size))
      have HV2 := Lib.hid ((HV1.out.below b2 (Nat.le_refl _)).mono b2.size)
      have HR2 := Lib.hid ((HR1.out.below b2 (Nat.le_refl _)).mono b2.size)
      have HSA := Lib.hid (same_any HV2.out HR2.out)
      rw [eqB_beq] at HSA
      obtain ⟨E, hE⟩ : ∃ E, E = (k == l) := ⟨_, rfl⟩
      rw [← hE] at HSA ⊢
      clear b2 HV1 HR1 HB1 hE
      go_wp2_with fail
      refine HSA.out.mono ?_
      rintro e w3 ⟨rfl, d3, rfl⟩
      have HB3 := Lib.hid (HB2.out.trans (Joins.below_draws w.heap.size w2 d3))
      have HV3 := Lib.hid (HV2.out.below (Joins.below_draws w2.heap.size w2 d3) (Nat.le_refl _))
      clear HB2 HV2 HR2 HSA
      go_wp2_with fail
      refine (mequal_any HV3.out HV3.out (by simp) (by simp)).mono ?_
      rintro e w4 ⟨rfl, b4⟩
      have HB4 := Lib.hid (HB3.out.trans (b4.mono HB3.out.size))
      rw [beq_self_eq_true]
      go_wp2_with fail
      go_ret
      exact ⟨rfl, HB4.out⟩

end Go.Proofs.YtomoopadeknfbaaDoor
