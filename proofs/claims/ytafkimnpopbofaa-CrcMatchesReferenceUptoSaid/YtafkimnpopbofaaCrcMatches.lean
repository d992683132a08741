/-
  The statement CrcMatchesReferenceUptoSaid: for all parts that hold together at most 1048576 values the law CrcMatchesReference returns true and changes nothing.
-/
import Derived.Test.YtafkimnpopbofaaCrcLong
import Derived.Test.YtafkimnpopbofaaCrcSpec
import Derived.Test.YtafkimnpopbofaaRefJoin
import Derived.Test.YtafkimnpopbofaaUpto
import Derived.ShutString
import Derived.ChangeOld
namespace Go.Proofs.Ytafkimnpopbofaa.crcMatchesReference
open Go.ChangeShapes Go.WideShapes Go.ChangeAt Go.RowKit
set_option linter.unusedVariables false

set_option maxRecDepth 100000 in
set_option maxHeartbeats 2000000 in
theorem walk (oa : Option Addr) (cap : Nat) (ls : List (List UInt8)) (w : World) (hr : RdAll w.heap.size w oa ls) (ht : total ls + ls.length ≤ 2097152) :
    Calls Try.prog 3 #[.slice oa ls.length cap] w fun e w' => e = .returned (.bool true) ∧ Below w.heap.size w w' := by
  have htot : total ls ≤ 140737488355328 := by omega
  have hn : ls.length ≤ 140737488355328 := by omega
  obtain ⟨n, hN⟩ : ∃ n, n = ls.length := ⟨_, rfl⟩
  have HN := Lib.hid hN
  have HT := Lib.hid htot
  have HNB := Lib.hid hn
  clear ht htot hn
  by_cases hbig : 20 < n
  · have h1' : (20 : Int) < n := by omega
    rw [← hN]
    clear hN
    go_enter Try.func3, Try.ntmps3
    go_wp2_with fail
    refine (cawake_any _).mono ?_
    rintro e w1 ⟨rfl, B1⟩
    go_wp2_with fail
    refine (cawake_any _).mono ?_
    rintro e w2 ⟨rfl, B2⟩
    go_wp2_with fail
    go_ret
    exact ⟨rfl, B1.trans (B2.mono B1.size)⟩
  · have h1' : ¬ (20 : Int) < n := by omega
    have HR : ∀ {B : Nat} {W : World}, RdAll B W oa ls → Hid (RdAll B W oa ls) := fun h => h
    rw [← hN]
    clear hN
    go_enter Try.func3, Try.ntmps3
    go_wp2_with fail
    refine (cawake_any _).mono ?_
    rintro e w1 ⟨rfl, B1⟩
    have r1 := HR (hr.below B1 (Nat.le_refl _))
    have hr1 := HR hr
    clear hr
    go_wp2_with fail
    rw [HN.out]
    refine (rjoin_any r1.out B1.size HNB.out HT.out).mono ?_
    rintro e w2 ⟨v2, rfl, o2, b2⟩
    have r2 := HR (r1.out.below b2 B1.size)
    have B2 := B1.trans (b2.mono B1.size)
    obtain ⟨all, hall⟩ : ∃ all, all = ls.flatten := ⟨_, rfl⟩
    rw [← hall] at o2
    have rr := Rd.of_own o2
    obtain ⟨q2, c2, rfl, hm2, _⟩ := rr.form
    unfold maxLen at hm2
    have HA := Lib.hid hall
    rw [← HN.out]
    clear o2 b2 hall r1 hr1
    by_cases hlong : 200 < all.length
    · have h2' : (200 : Int) < all.length := by omega
      go_wp2_with fail
      go_ret
      exact ⟨rfl, B2⟩
    · have h2' : ¬ (200 : Int) < all.length := by omega
      have hle : all.length ≤ 200 := by omega
      go_wp2_with fail
      refine (rsum_any rr (Nat.le_refl _) hle).mono ?_
      rintro e w3 ⟨rfl, b3⟩
      have r3 := HR (r2.out.below b3 B2.size)
      have rr := rr.below b3 (Nat.le_refl _)
      have B3 := B2.trans (b3.mono B2.size)
      clear b3 r2
      go_wp2_with fail
      rw [HN.out]
      refine (csum_any r3.out HNB.out).mono ?_
      rintro e w4 ⟨rfl, rfl⟩
      rw [← HA.out, ← HN.out]
      obtain ⟨c, hc⟩ : ∃ c, c = crc all := ⟨_, rfl⟩
      have HC := Lib.hid hc
      rw [← hc]
      clear hc
      go_wp2_with fail
      refine (fast_any rr).mono ?_
      rintro e w5 ⟨rfl, rfl⟩
      rw [← HC.out]
      go_wp2_with fail
      go_ret
      exact ⟨by simp, B3⟩


theorem own : ownKnob Try.prog.godebug = none := by kernel_rfl
theorem laidOut : laidOutB Try.prog = true := by kernel_rfl

set_option maxRecDepth 100000 in
theorem contract (H : Type) (enc : TypeId × Value → H) (W : World) (base : Nat) (args : Array Value) (ds gs : List (DataW H)) (before : List MemPlace)
    (hval : ∀ (j : Nat) t v, Try.f3.params[j]? = some t → args[j]? = some v → Value.okWide Try.prog W .any base t v)
    (hW : DataW.Whole enc Try.prog Try.f3.params.toList Rows.crcMatchesReferenceSpec.vars false W args.toList ds gs before) (hk : Rows.uptoSmall H (ds ++ gs) = true) :
    Calls Try.prog 3 args W fun e W' => ∃ v, e = .returned v ∧ Rows.crcMatchesReferenceSpec.post enc Try.prog Try.f3 false true false false W args v W' := by
  have hW' := hW
  obtain ⟨p, q, hA0, hV, rfl, hfz, hnd⟩ := hW
  have hA : DataW.TrodAll enc Try.prog W 0 (fun _ => true) true Try.f3.params.toList args.toList ds p := hA0
  rw [Try.params3] at hA hval
  obtain ⟨v0, vs0, d0, ds0, p0, q0, hargs, rfl, rfl, h0, r0⟩ := trodAll_cons hA
  obtain ⟨rfl, rfl, rfl⟩ := trodAll_nil r0
  obtain rfl : args = #[v0] := by cases args; simp_all
  obtain ⟨rfl, rfl⟩ := trodVars_none hV
  obtain ⟨a0, len0, cap0, rfl⟩ := okWide_slice Try.underlying22 (hval 0 22 v0 rfl rfl)
  have k0 := h0
  have lt0 : ∀ x ∈ p0, x.block < W.heap.size := by obtain ⟨m, hm⟩ := k0; exact DataW.trod_lt m _ _ _ hm
  obtain ⟨ls0, rfl, r0', t0⟩ : ∃ ls, ls.length = len0 ∧ RdAll W.heap.size W a0 ls ∧ total ls + ls.length ≤ 2097152 := by
    obtain ⟨fuel, hf⟩ := h0
    obtain ⟨ls, h1, h2, h3⟩ := rdall_open hf
    have hp := Nat.le_trans (bulk_part (d := d0) (by simp)) (bulk_bound hk)
    exact ⟨ls, h1, h2, by omega⟩
  clear hA0
  refine (walk a0 cap0 ls0 W r0' t0).mono fun e W' ⟨he, bel⟩ => ?_
  subst he
  exact ⟨_, rfl, _, _, _, [], _, [], hW', trodAll_mk1 (shut_bool Try.underlying4 _), (trodAll_cons_mk (Below.trod laidOut (by kernel_rfl) (of_decide_eq_true (by kernel_rfl)) k0 bel lt0) trodAll_mk0), rfl, bel.frame _, fun h => by cases h⟩

set_option maxRecDepth 100000 in
theorem lifted (os : Os) (started : os.Started) (H : Type) (enc : TypeId × Value → H) (F : Stop.Interp) :
    ReturnsInHanded {} Try.checked os 3 .any ((Rows.OpenSpec.upto Rows.crcMatchesReferenceSpec).pre6 enc Try.prog Try.f3 Rows.crcMatchesReferenceUptoRow.domain false) (((Rows.OpenSpec.upto Rows.crcMatchesReferenceSpec).at F).post enc Try.prog Try.f3 false true false false) := by
  refine returnsInHanded_of_cond (C := Try.checked) (s := Rows.OpenSpec.upto Rows.crcMatchesReferenceSpec) (k := Rows.uptoSmall) rfl own started (by kernel_rfl) Try.func3
    (OpenSpec.witness (enc := enc) (C := Try.checked) (s := Rows.OpenSpec.upto Rows.crcMatchesReferenceSpec) (k := Rows.uptoSmall) rfl false ⟨#[], #[.slice none 0 0], []⟩ 8 (by kernel_rfl) (by kernel_rfl) (by kernel_rfl)
      (x := ([.nil], [], [])) (by kernel_rfl) rfl (by kernel_rfl)) ?_
  intro W base args ds gs before hval hW _ hk _
  exact contract H enc W base args ds gs before hval hW hk

theorem over : Rows.crcMatchesReferenceUptoRow.holds Try.pinned (Rows.OpenSpec.upto Rows.crcMatchesReferenceSpec) :=
  OpenClaim.holds_of_cond 3 Try.f3 rfl rfl rfl rfl rfl rfl rfl ⟨rfl, rfl, rfl, rfl, rfl⟩ rfl rfl rfl rfl rfl (by kernel_rfl) Try.func3 (by kernel_rfl)
    (of_decide_eq_true (by kernel_rfl)) (by unfold Func.isWrapper; first | (rw [if_pos (by decide +kernel)]; kernel_rfl) | (rw [if_neg (by decide +kernel)]; exact ⟨rfl, rfl⟩))
    (fun os started H enc _ F => lifted os started H enc F)

/-- THE STATEMENT -/
theorem proved : Rows.CrcMatchesReferenceUptoSaid := over
end Go.Proofs.Ytafkimnpopbofaa.crcMatchesReference
