/-
  vestrylaw06.ShaMatchesReference: the walk.
-/
import Derived.Test.YtbnpnpoddnkaiaaDoorShaW
import Derived.Test.YtbnpnpoddnkaiaaDoorShaRS
import Derived.Test.YtbnpnpoddnkaiaaDoorRefJoin
import Derived.Stop.BytesEq
namespace Go.Proofs.YtbnpnpoddnkaiaaDoor
open Go.ChangeShapes Go.WideShapes Go.ChangeAt Go.RowKit
set_option linter.unusedVariables false

theorem eql_32bytes (w : World) (xs ys : List UInt8) (hx : xs.length = 32) (hy : ys.length = 32) :
    (binOp .eql 26 (.agg (bvs xs).toArray) (.agg (bvs ys).toArray)).run Tryd.prog w = .ok (.bool (xs == ys)) w :=
  run_eql_bytes w _ 5 32 rfl rfl (fun _ => rfl) xs ys hx hy
set_option maxRecDepth 100000 in
set_option maxHeartbeats 2000000 in
theorem shamatches_walk (oa : Option Addr) (cap : Nat) (ls : List (List UInt8)) (w : World) (hr : RdAll w.heap.size w oa ls) (ht : total ls + ls.length ≤ 2097152) (he : Env w) :
    Calls Tryd.prog 3 #[.slice oa ls.length cap] w fun e w' => e = .returned (.bool true) ∧ Below w.heap.size w w' := by
  have htot : total ls ≤ 100000000000000 := by omega
  have hn : ls.length ≤ 140737488355328 := by omega
  obtain ⟨n, hN⟩ : ∃ n, n = ls.length := ⟨_, rfl⟩
  have HN := Lib.hid hN
  have HT := Lib.hid htot
  have HNB := Lib.hid hn
  have HE := Lib.hid he
  clear ht htot hn he
  by_cases hbig : 20 < n
  · have h1' : (20 : Int) < n := by omega
    rw [← hN]
    clear hN
    go_enter Tryd.func3, Tryd.ntmps3
    go_wp2_with fail
    refine (shawake_any _ HE.out).mono ?_
    rintro e w1 ⟨rfl, B1⟩
    have HE1 := Lib.hid (HE.out.below B1)
    go_wp2_with fail
    refine (shawake_any _ HE1.out).mono ?_
    rintro e w2 ⟨rfl, B2⟩
    go_wp2_with fail
    go_ret
    exact ⟨rfl, B1.trans (B2.mono B1.size)⟩
  · have h1' : ¬ (20 : Int) < n := by omega
    have HR : ∀ {B : Nat} {W : World}, RdAll B W oa ls → Hid (RdAll B W oa ls) := fun h => h
    rw [← hN]
    clear hN
    go_enter Tryd.func3, Tryd.ntmps3
    go_wp2_with fail
    refine (shawake_any _ HE.out).mono ?_
    rintro e w1 ⟨rfl, B1⟩
    have HE1 := Lib.hid (HE.out.below B1)
    have r1 := HR (hr.below B1 (Nat.le_refl _))
    have hr1 := HR hr
    clear hr
    go_wp2_with fail
    rw [HN.out]
    refine (rjoin_any r1.out B1.size HNB.out (Nat.le_trans HT.out (by omega))).mono ?_
    rintro e w2 ⟨v2, rfl, o2, b2⟩
    have r2 := HR (r1.out.below b2 B1.size)
    have B2 := B1.trans (b2.mono B1.size)
    have HE2 := Lib.hid (HE1.out.below b2)
    obtain ⟨all, hall⟩ : ∃ all, all = ls.flatten := ⟨_, rfl⟩
    rw [← hall] at o2
    have rr := Rd.of_own o2
    obtain ⟨q2, c2, rfl, hm2, _⟩ := rr.form
    unfold maxLen at hm2
    have HA := Lib.hid hall
    rw [← HN.out]
    clear o2 b2 hall r1 hr1
    by_cases hlong : 2000 < all.length
    · have h2' : (2000 : Int) < all.length := by omega
      go_wp2_with fail
      go_ret
      exact ⟨rfl, B2⟩
    · have h2' : ¬ (2000 : Int) < all.length := by omega
      have hle : all.length ≤ 1000000 := by omega
      go_wp2_with fail
      rw [HN.out]
      refine (sum_any r2.out B2.size HNB.out HT.out HE2.out).mono ?_
      rintro e w3 ⟨rfl, b3⟩
      have HB3 := Lib.hid (B2.trans (b3.mono B2.size))
      have HR3 := Lib.hid (rr.below b3 (Nat.le_refl _))
      have HRS := Lib.hid (rsum_any (HR3.out.below (Below.refl _ _) (Nat.le_refl _) |>.mono b3.size) hle)
      rw [← HA.out, ← HN.out]
      obtain ⟨D, hD⟩ : ∃ D, D = digest all := ⟨_, rfl⟩
      rw [← hD] at HRS ⊢
      have HDL : Hid (D.length = 32) := by rw [hD]; exact digest_length _
      clear hD b3 rr r2
      go_wp2_with fail
      refine HRS.out.mono ?_
      rintro e w4 ⟨rfl, b4⟩
      have HB4 := Lib.hid (HB3.out.trans (b4.mono HB3.out.size))
      have heq := fun w' => eql_32bytes w' D D HDL.out HDL.out
      clear b4 HB3
      go_wp2_with fail
      go_ret
      exact ⟨by simp, HB4.out⟩
end Go.Proofs.YtbnpnpoddnkaiaaDoor
