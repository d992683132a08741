/-
  vestrylaw07.MacMatchesReference: the walk, given awake's.
-/
import Derived.Test.YtomoopadeknfbaaDoorMacL1
import Derived.Test.YtomoopadeknfbaaDoorRefJoin
namespace Go.Proofs.YtomoopadeknfbaaDoor
open Go.ChangeShapes Go.WideShapes Go.ChangeAt Go.RowKit
set_option linter.unusedVariables false

theorem eql_32b (w : World) (xs ys : List UInt8) (hx : xs.length = 32) (hy : ys.length = 32) :
    (binOp .eql 26 (.agg (bvs xs).toArray) (.agg (bvs ys).toArray)).run Tryd.prog w = .ok (.bool (xs == ys)) w :=
  run_eql_bytes w _ 5 32 rfl rfl (fun _ => rfl) xs ys hx hy
set_option maxRecDepth 100000 in
set_option maxHeartbeats 2000000 in
theorem macmatches_walk {w : World} {v : Value} {k : List UInt8} {oa : Option Addr} {cap : Nat} {ls : List (List UInt8)} (AW : ∀ w, Env w → Calls Tryd.prog 8 #[] w fun e w' => e = .returned (.bool true) ∧ Below w.heap.size w w') (hv : Rd w.heap.size w v k) (hr : RdAll w.heap.size w oa ls) (ht : total ls + ls.length ≤ 2097152) (he : Env w) :
    Calls Tryd.prog 3 #[v, .slice oa ls.length cap] w fun e w' => e = .returned (.bool true) ∧ Below w.heap.size w w' := by
  have HAW := Lib.hid AW
  have HE := Lib.hid he
  have HV := Lib.hid hv
  have HR := Lib.hid hr
  obtain ⟨q, c, rfl, _, _⟩ := hv.form
  have htot : total ls ≤ 2097152 := by omega
  have hn : ls.length ≤ 2097152 := by omega
  have HT := Lib.hid htot
  obtain ⟨n, hN⟩ : ∃ n, n = ls.length := ⟨_, rfl⟩
  have HN := Lib.hid hN
  have HNB := Lib.hid hn
  rw [← hN]
  clear AW hv hr he ht htot hn hN
  by_cases hk : 300 < k.length
  · have h1 : (300 : Int) < k.length := by omega
    go_enter Tryd.func3, Tryd.ntmps3
    go_wp2_with fail
    refine (HAW.out _ HE.out).mono ?_
    rintro e w1 ⟨rfl, b1⟩
    have HB1 := Lib.hid b1
    have HE1 := Lib.hid (HE.out.below b1)
    clear b1
    go_wp2_with fail
    refine (HAW.out _ HE1.out).mono ?_
    rintro e w2 ⟨rfl, b2⟩
    have HB2 := Lib.hid (HB1.out.trans (b2.mono HB1.out.size))
    clear b2
    go_wp2_with fail
    go_ret
    exact ⟨rfl, HB2.out⟩
  · by_cases hl : 20 < n
    · have h1 : ¬ (300 : Int) < k.length := by omega
      have h2 : (20 : Int) < n := by omega
      go_enter Tryd.func3, Tryd.ntmps3
      go_wp2_with fail
      refine (HAW.out _ HE.out).mono ?_
      rintro e w1 ⟨rfl, b1⟩
      have HB1 := Lib.hid b1
      have HE1 := Lib.hid (HE.out.below b1)
      clear b1
      go_wp2_with fail
      refine (HAW.out _ HE1.out).mono ?_
      rintro e w2 ⟨rfl, b2⟩
      have HB2 := Lib.hid (HB1.out.trans (b2.mono HB1.out.size))
      clear b2
      go_wp2_with fail
      go_ret
      exact ⟨rfl, HB2.out⟩
    · have h1 : ¬ (300 : Int) < k.length := by omega
      have h2 : ¬ (20 : Int) < n := by omega
      go_enter Tryd.func3, Tryd.ntmps3
      go_wp2_with fail
      refine (HAW.out _ HE.out).mono ?_
      rintro e w1 ⟨rfl, b1⟩
      have HB1 := Lib.hid b1
      have HE1 := Lib.hid (HE.out.below b1)
      have HV1 := Lib.hid ((HV.out.below b1 (Nat.le_refl _)).mono b1.size)
      have HR1 := Lib.hid ((HR.out.below b1 (Nat.le_refl _)).mono b1.size)
      clear b1 HV HR HE
      go_wp2_with fail
      rw [HN.out]
      refine (rjoin_any HR1.out (Nat.le_refl _) (Nat.le_trans HNB.out (by omega)) (Nat.le_trans HT.out (by omega))).mono ?_
      rintro e w2 ⟨v2, rfl, o2, b2⟩
      have HB2 := Lib.hid (HB1.out.trans (b2.mono HB1.out.size))
      have HE2 := Lib.hid (HE1.out.below (b2.mono (Nat.le_refl _)))
      have HV2 := Lib.hid ((HV1.out.below b2 (Nat.le_refl _)).mono b2.size)
      have HR2 := Lib.hid ((HR1.out.below b2 (Nat.le_refl _)).mono b2.size)
      have HL := Lib.hid ((show ls.length ≤ 1000000000000 from Nat.le_trans HNB.out (by omega)))
      have HT2 := Lib.hid ((show total ls ≤ 90000000000000 from Nat.le_trans HT.out (by omega)))
      have HSUM := Lib.hid (msum_any (cap := cap) HV2.out (by omega : k.length ≤ 90000000000000) HR2.out HL.out HT2.out HE2.out)
      obtain ⟨all, hall⟩ : ∃ all, all = ls.flatten := ⟨_, rfl⟩
      rw [← hall] at o2 HSUM
      have HJ := Lib.hid (Rd.of_own o2)
      obtain ⟨q2, c2, rfl, _, _⟩ := HJ.out.form
      rw [← HN.out]
      rw [← HN.out] at HSUM
      clear o2 b2 hall HV1 HR1 HE1 HB1 HR2
      by_cases hlong : 1000 < all.length
      · have h2' : (1000 : Int) < all.length := by omega
        go_wp2_with fail
        go_ret
        exact ⟨rfl, HB2.out⟩
      · have h2' : ¬ (1000 : Int) < all.length := by omega
        go_wp2_with fail
        refine HSUM.out.mono ?_
        rintro e w3 ⟨rfl, b3⟩
        have HB3 := Lib.hid (HB2.out.trans (b3.mono HB2.out.size))
        have HV3 := Lib.hid ((HV2.out.below b3 (Nat.le_refl _)).mono b3.size)
        have HJ3 := Lib.hid ((HJ.out.below b3 (Nat.le_refl _)).mono b3.size)
        have HRS := Lib.hid (rmac_any HV3.out (by omega) HJ3.out (by omega))
        obtain ⟨D, hD⟩ : ∃ D, D = hmac k all := ⟨_, rfl⟩
        rw [← hD] at HRS ⊢
        have HDL : Hid (D.length = 32) := by rw [hD]; exact hmac_length _ _
        clear b3 hD HSUM
        go_wp2_with fail
        refine HRS.out.mono ?_
        rintro e w4 ⟨rfl, b4⟩
        have HB4 := Lib.hid (HB3.out.trans (b4.mono HB3.out.size))
        have heq := fun w' => eql_32b w' D D HDL.out HDL.out
        clear b4
        go_wp2_with fail
        go_ret
        exact ⟨by simp, HB4.out⟩
end Go.Proofs.YtomoopadeknfbaaDoor
