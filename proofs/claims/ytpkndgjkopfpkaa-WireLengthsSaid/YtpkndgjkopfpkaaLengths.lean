/-
  The statement WireLengthsSaid: whatever two numbers are given, the law WireLengths returns true and changes nothing; for every input, no further condition.
-/
import Derived.Test.YtpkndgjkopfpkaaAwake
import Derived.OpenShut
import Derived.ShutString
import Derived.ChangeOld
namespace Go.Proofs.Ytpkndgjkopfpkaa.wireLengths
open Go.ChangeShapes Go.WideShapes Go.ChangeAt Go.RowKit
open Go.ChangeMaps (open_string shut_string)
set_option linter.unusedVariables false

set_option maxRecDepth 100000 in
set_option maxHeartbeats 1000000 in
theorem walkN (x y : Nat) (hx : x < lim64) (hy : y < lim64) (w : World) :
    Calls Try.prog 5 #[.int .u64 x, .int .u64 y] w fun e w' => e = .returned (.bool true) ∧ Below w.heap.size w w' := by
  obtain ⟨p, hp⟩ : ∃ p, p = (put x).length := ⟨_, rfl⟩
  have hp10 : p ≤ 10 := by rw [hp]; exact put_len10 hx
  have HX := Lib.hid hx
  have HY := Lib.hid hy
  have HPX := Lib.hid hp
  clear hx hy hp
  go_enter Try.func5, Try.ntmps5
  go_wp2_with fail
  refine (awake_any _).mono ?_
  rintro e w1 ⟨rfl, hB1⟩
  go_wp2_with fail
  go_loop [5, 6] (fun nv zv => ∃ k m : Nat, nv = .int .i64 k ∧ zv = .int .u64 m ∧ Hid (m < lim64) ∧ Hid (k + (put m).length = p + 1) ∧ k ≤ p) (fun _ zv => (intOf zv).toNat)
  case atStart => exact ⟨1, x, rfl, rfl, HX, by show 1 + (put x).length = p + 1; rw [← HPX.out]; omega, by rw [HPX.out]; exact put_pos x⟩
  case round =>
    obtain ⟨k, m, rfl, rfl, HM, HK, hk⟩ := hrel
    by_cases hlt : m < 128
    · have hlt' : ¬ (128 : Int) ≤ m := by omega
      have hkp : k = p := by have := HK.out; rw [put_lt hlt] at this; simp at this; omega
      subst hkp
      have hk0 : ((k : Int) == k) = true := by simp
      have hk1 : (k : Int) ≤ 10 := by omega
      clear hlt
      by_cases hxy : y < x
      · have hxy' : (y : Int) < x := by omega
        go_wp2_with (go_at_call 12; refine (wput _ HX.out _).mono ?_; rintro e w2 ⟨v, rfl, hown, hb⟩; obtain ⟨ov, cv, rfl, _, _⟩ := (Rd.of_own hown).form; rw [← HPX.out]; clear hown)
        go_ret
        exact ⟨by simp, hB1.trans (hb.mono hB1.size)⟩
      · have hxy' : ¬ (y : Int) < x := by omega
        obtain ⟨q, hq⟩ : ∃ q, q = (put y).length := ⟨_, rfl⟩
        have hkq : k ≤ q := by rw [hq, HPX.out]; exact put_mono x y (by omega)
        have hkq' : (k : Int) ≤ q := by omega
        have HQ := Lib.hid hq
        clear hq hxy
        go_wp2_with fail
        refine (wput _ HX.out _).mono ?_
        rintro e w2 ⟨v, rfl, hown, hb⟩
        obtain ⟨ov, cv, rfl, _, _⟩ := (Rd.of_own hown).form
        rw [← HPX.out]
        have hB2 := hB1.trans (hb.mono hB1.size)
        clear hown hb
        go_wp2_with fail
        refine (wput _ HY.out _).mono ?_
        rintro e w3 ⟨v3, rfl, hown, hb⟩
        obtain ⟨ov3, cv3, rfl, _, _⟩ := (Rd.of_own hown).form
        rw [← HQ.out]
        have hB3 := hB2.trans (hb.mono hB2.size)
        clear hown hb
        go_wp2_with fail
        go_ret
        exact ⟨rfl, hB3⟩
    · have hge : (128 : Int) ≤ m := by omega
      have hwd := wrap_div128 HM.out
      have hk1 : k + 1 ≤ p := by
        have h1 := HK.out
        rw [put_ge hlt, List.length_cons] at h1
        have := put_pos (m / 128); omega
      go_wp2
      go_round
      case rel =>
        refine ⟨k + 1, m / 128, by go_num, by rfl, Nat.lt_of_le_of_lt (Nat.div_le_self _ _) HM.out, ?_, by omega⟩
        have h1 := HK.out
        rw [put_ge hlt, List.length_cons] at h1
        show k + 1 + (put (m / 128)).length = p + 1
        omega
      case measure => simp [intOf]; omega

theorem walk (a0 a1 : Int) (w : World) (w0 : (Lit.int .u64 a0).wf = true) (w1 : (Lit.int .u64 a1).wf = true) :
    Calls Try.prog 5 #[.int .u64 a0, .int .u64 a1] w fun e w' => e = .returned (.bool true) ∧ Below w.heap.size w w' := by
  obtain ⟨x, rfl, hx⟩ := u64_nat w0
  obtain ⟨y, rfl, hy⟩ := u64_nat w1
  exact walkN x y hx hy w

theorem own : ownKnob Try.prog.godebug = none := by kernel_rfl
theorem laidOut : laidOutB Try.prog = true := by kernel_rfl

set_option maxRecDepth 100000 in
theorem lifted (os : Os) (started : os.Started) (H : Type) (enc : TypeId × Value → H) :
    ReturnsInHanded {} Try.checked os 5 .any (Rows.wireLengthsSpec.pre6 enc Try.prog Try.f5 Rows.wireLengthsRow.domain false) (Rows.wireLengthsSpec.post enc Try.prog Try.f5 false true false false) := by
  refine returnsInHanded_of_change (C := Try.checked) own started (by kernel_rfl) Try.func5
    (ChangeSpec.witness6 (enc := enc) (C := Try.checked) false ⟨#[], #[.int .u64 0, .int .u64 0], []⟩ 8 (by kernel_rfl) (by kernel_rfl) (by kernel_rfl) (by kernel_rfl)) ?_
  intro W base args ds gs before hval0 hW hcnd _
  have hval : ∀ (j : Nat) t v, Try.f5.params[j]? = some t → args[j]? = some v → Value.okWide Try.prog W .any base t v := hval0
  have hW' := hW
  obtain ⟨p, q, hA0, hV, rfl, hfz, hnd⟩ := hW
  have hA : DataW.TrodAll enc Try.prog W 0 (fun _ => true) true Try.f5.params.toList args.toList ds p := hA0
  rw [Try.params5] at hA hval
  obtain ⟨v0, vs0, d0, ds0, p0, q0, hargs, rfl, rfl, h0, r0⟩ := trodAll_cons hA
  obtain ⟨v1, vs1, d1, ds1, p1, q1, rfl, rfl, rfl, h1, r1⟩ := trodAll_cons r0
  obtain ⟨rfl, rfl, rfl⟩ := trodAll_nil r1
  obtain rfl : args = #[v0, v1] := by cases args; simp_all
  obtain ⟨rfl, rfl⟩ := trodVars_none hV
  obtain ⟨a0, rfl, rfl, rfl, w0⟩ := open_int Try.underlying22 (hval 0 22 v0 rfl rfl) h0
  obtain ⟨a1, rfl, rfl, rfl, w1⟩ := open_int Try.underlying22 (hval 1 22 v1 rfl rfl) h1
  clear hA0 hval0
  refine (walk a0 a1 W w0 w1).mono fun e W' ⟨he, bel⟩ => ?_
  subst he
  exact ⟨_, rfl, _, _, _, [], _, [], hW', trodAll_mk1 (shut_bool Try.underlying4 _), (trodAll_cons_mk (shut_int Try.underlying22 w0) (trodAll_cons_mk (shut_int Try.underlying22 w1) trodAll_mk0)), rfl, bel.frame _, fun h => by cases h⟩

theorem over : Rows.wireLengthsRow.holds Try.pinned (OpenSpec.ofChange Rows.wireLengthsSpec) :=
  OpenClaim.holds_of_wide 5 Try.f5 rfl rfl rfl rfl rfl rfl rfl ⟨rfl, rfl, rfl, rfl, rfl⟩ rfl rfl rfl rfl rfl (by kernel_rfl) Try.func5 (by kernel_rfl)
    (of_decide_eq_true (by kernel_rfl)) (by unfold Func.isWrapper; first | (rw [if_pos (by decide +kernel)]; kernel_rfl) | (rw [if_neg (by decide +kernel)]; exact ⟨rfl, rfl⟩))
    (fun os started H enc _ => lifted os started H enc)

/-- THE STATEMENT -/
theorem proved : Rows.WireLengthsSaid := over
end Go.Proofs.Ytpkndgjkopfpkaa.wireLengths
