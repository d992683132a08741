/-
  The statement BaseSignsSaid: whatever number and sign are given, the law BaseSigns returns true and changes nothing; for every input, no further condition.
-/
import Derived.Test.YtpkndgjkopfpkaaBaseAwake
import Derived.Test.YtpkndgjkopfpkaaBaseMath
import Derived.ShutString
import Derived.ChangeOld
namespace Go.Proofs.Ytpkndgjkopfpkaa.baseSigns
open Go.ChangeShapes Go.WideShapes Go.ChangeAt Go.RowKit
open Go.ChangeMaps (open_string shut_string)
set_option linter.unusedVariables false

theorem valI_sgn (k : Nat) (h : k < 64) : valI (sgn k) = k := by
  have hh : ∀ n : Fin 64, valI (sgn n.val) = n.val := by decide +kernel
  exact hh ⟨k, h⟩

set_option maxRecDepth 100000 in
theorem alpha_any (w : World) : Calls Try.prog 42 #[] w fun e w' => e = .returned (.string alpha) ∧ w = w' := by
  go_enter Try.func42, Try.ntmps42
  go_wp2
  go_ret
  exact ⟨rfl, rfl⟩

set_option maxRecDepth 100000 in
set_option maxHeartbeats 400000 in
theorem rvalue_any (c : UInt8) (w : World) : Calls Try.prog 32 #[.int .u8 c.toNat] w fun e w' => e = .returned (.int .i64 (valI c)) ∧ w = w' := by
  obtain ⟨x, hx⟩ : ∃ x, x = valI c := ⟨_, rfl⟩
  rw [← hx]
  have HX := Lib.hid hx
  clear hx
  have hz : alpha.size ≤ 64 := Nat.le_refl 64
  go_enter Try.func32, Try.ntmps32
  go_wp2_with fail
  refine (alpha_any _).mono ?_
  rintro e w1 ⟨rfl, rfl⟩
  go_wp2_with fail
  go_loop [4] (fun iv => ∃ k : Nat, k ≤ alpha.size ∧ iv = .int .i64 k ∧ Hid (∀ j, j < k → sgn j ≠ c)) (fun iv => alpha.size - (intOf iv).toNat)
  case atStart => exact ⟨0, Nat.zero_le _, rfl, fun j hj => absurd hj (by omega)⟩
  case round =>
    obtain ⟨k, hk, rfl, HP⟩ := hrel
    by_cases hlt : k < alpha.size
    · have hi1 : (k : Int) < alpha.size := by omega
      have hi0 : (0 : Int) ≤ k := by omega
      by_cases he : sgn k = c
      · have t1 : (((alpha[k]'hlt).toNat : Int) == (c.toNat : Int)) = true := by rw [sgn_at hlt, he]; simp
        have hv : x = k := by rw [HX.out, ← he]; exact valI_sgn k (by omega)
        have HV := Lib.hid hv
        clear hv he
        go_wp2
        go_ret
        exact ⟨by rw [HV.out]; rfl, rfl⟩
      · have t1 : (((alpha[k]'hlt).toNat : Int) == (c.toNat : Int)) = false := by
          rw [sgn_at hlt, beq_eq_false_iff_ne]
          intro e
          exact he (UInt8.toNat_inj.1 (by omega))
        have HE := Lib.hid he
        clear he
        go_wp2
        go_round
        case rel =>
          refine ⟨k + 1, by omega, by go_num, fun j hj => ?_⟩
          by_cases e : j = k
          · subst e; exact HE.out
          · exact HP.out j (by omega)
        case measure => simp [intOf]; omega
    · have hv : x = -1 := by
        have hb := valI_bd c
        rw [HX.out]
        by_cases h0 : 0 ≤ valI c
        · have h1 := sgn_valI c h0
          exact absurd h1 (HP.out (valI c).toNat (by have : alpha.size = 64 := rfl; omega))
        · omega
      have HV := Lib.hid hv
      clear hv
      go_wp2
      go_ret
      exact ⟨by rw [HV.out]; rfl, rfl⟩

set_option maxRecDepth 100000 in
theorem sign_yes (k : Nat) (h : k < 64) (w : World) : Calls Try.prog 30 #[.int .i64 k] w fun e w' => e = .returned (.tuple #[.int .u8 (sgn k).toNat, .bool true]) ∧ w = w' := by
  have h0 : (0 : Int) ≤ k := by omega
  have h1 : (k : Int) < 64 := by omega
  have hgs : k < alpha.size := h
  go_enter Try.func30, Try.ntmps30
  go_wp2
  go_ret2
  exact ⟨congrArg (fun n : Nat => Ending.returned (Value.tuple #[Value.int .u8 (n : Int), Value.bool true])) (sgn_at hgs), rfl⟩

set_option maxRecDepth 100000 in
theorem sign_no (v : Int) (h : v < 0 ∨ 64 ≤ v) (w : World) : Calls Try.prog 30 #[.int .i64 v] w fun e w' => e = .returned (.tuple #[.int .u8 0, .bool false]) ∧ w = w' := by
  rcases h with h | h
  · go_enter Try.func30, Try.ntmps30
    go_wp2
    go_ret2
    exact ⟨rfl, rfl⟩
  · have h0 : ¬ v < 0 := by omega
    go_enter Try.func30, Try.ntmps30
    go_wp2
    go_ret2
    exact ⟨rfl, rfl⟩

set_option maxRecDepth 100000 in
set_option maxHeartbeats 1000000 in
theorem walkC (v : Int) (c : UInt8) (w : World) :
    Calls Try.prog 8 #[.int .i64 v, .int .u8 c.toNat] w fun e w' => e = .returned (.bool true) ∧ Below w.heap.size w w' := by
  have hbd := valI_bd c
  by_cases hr : 0 ≤ v ∧ v < 64
  · obtain ⟨k, rfl⟩ := Int.eq_ofNat_of_zero_le hr.1
    have hk : k < 64 := by omega
    have hk0 : (0 : Int) ≤ k := by omega
    have hk1 : (k : Int) < 64 := by omega
    have hkk : ((k : Int) == k) = true := by simp
    have HV := Lib.hid (valI_sgn k hk)
    clear hr
    by_cases hc : 0 ≤ valI c
    · obtain ⟨x, hx⟩ : ∃ x : Nat, valI c = x := Int.eq_ofNat_of_zero_le hc
      have hx0 : (0 : Int) ≤ x := by omega
      have hxx : ((x : Int) == x) = true := by simp
      have HX := Lib.hid hx
      clear hx hc hbd
      go_enter Try.func8, Try.ntmps8
      go_wp2_with fail
      refine (bawake_any _).mono ?_
      rintro e w1 ⟨rfl, B1⟩
      go_wp2_with fail
      refine (sign_yes k hk _).mono ?_
      rintro e w2 ⟨rfl, rfl⟩
      go_wp2_with fail
      refine (value_yes c x HX.out _).mono ?_
      rintro e w2 ⟨rfl, rfl⟩
      go_wp2_with fail
      refine (rvalue_any c _).mono ?_
      rintro e w2 ⟨rfl, rfl⟩
      rw [HX.out]
      go_wp2_with fail
      refine (rvalue_any (sgn k) _).mono ?_
      rintro e w2 ⟨rfl, rfl⟩
      rw [HV.out]
      go_wp2_with fail
      refine (rvalue_any c _).mono ?_
      rintro e w2 ⟨rfl, rfl⟩
      rw [HX.out]
      go_wp2_with fail
      go_ret
      exact ⟨by simp, B1⟩
    · have hx : valI c = -1 := by omega
      have HX := Lib.hid hx
      clear hx hc hbd
      go_enter Try.func8, Try.ntmps8
      go_wp2_with fail
      refine (bawake_any _).mono ?_
      rintro e w1 ⟨rfl, B1⟩
      go_wp2_with fail
      refine (sign_yes k hk _).mono ?_
      rintro e w2 ⟨rfl, rfl⟩
      go_wp2_with fail
      refine (value_no c HX.out _).mono ?_
      rintro e w2 ⟨rfl, rfl⟩
      go_wp2_with fail
      refine (rvalue_any c _).mono ?_
      rintro e w2 ⟨rfl, rfl⟩
      rw [HX.out]
      go_wp2_with fail
      refine (rvalue_any (sgn k) _).mono ?_
      rintro e w2 ⟨rfl, rfl⟩
      rw [HV.out]
      go_wp2_with fail
      go_ret
      exact ⟨by simp, B1⟩
  · have hr' : v < 0 ∨ 64 ≤ v := by omega
    have HR := Lib.hid hr'
    clear hr hr'
    by_cases hc : 0 ≤ valI c
    · obtain ⟨x, hx⟩ : ∃ x : Nat, valI c = x := Int.eq_ofNat_of_zero_le hc
      have hx0 : (0 : Int) ≤ x := by omega
      have hxx : ((x : Int) == x) = true := by simp
      have HX := Lib.hid hx
      clear hx hc hbd
      rcases HR.out with h | h
      all_goals
        go_enter Try.func8, Try.ntmps8
        go_wp2_with fail
        refine (bawake_any _).mono ?_
        rintro e w1 ⟨rfl, B1⟩
        go_wp2_with fail
        refine (sign_no v HR.out _).mono ?_
        rintro e w2 ⟨rfl, rfl⟩
        go_wp2_with fail
        refine (value_yes c x HX.out _).mono ?_
        rintro e w2 ⟨rfl, rfl⟩
        go_wp2_with fail
        refine (rvalue_any c _).mono ?_
        rintro e w2 ⟨rfl, rfl⟩
        rw [HX.out]
        go_wp2_with fail
        refine (rvalue_any c _).mono ?_
        rintro e w2 ⟨rfl, rfl⟩
        rw [HX.out]
        go_wp2_with fail
        go_ret
        exact ⟨by simp, B1⟩
    · have hx : valI c = -1 := by omega
      have HX := Lib.hid hx
      clear hx hc hbd
      rcases HR.out with h | h
      all_goals
        go_enter Try.func8, Try.ntmps8
        go_wp2_with fail
        refine (bawake_any _).mono ?_
        rintro e w1 ⟨rfl, B1⟩
        go_wp2_with fail
        refine (sign_no v HR.out _).mono ?_
        rintro e w2 ⟨rfl, rfl⟩
        go_wp2_with fail
        refine (value_no c HX.out _).mono ?_
        rintro e w2 ⟨rfl, rfl⟩
        go_wp2_with fail
        refine (rvalue_any c _).mono ?_
        rintro e w2 ⟨rfl, rfl⟩
        rw [HX.out]
        go_wp2_with fail
        go_ret
        exact ⟨by simp, B1⟩

theorem walk (a0 a1 : Int) (w : World) (w0 : (Lit.int .i64 a0).wf = true) (w1 : (Lit.int .u8 a1).wf = true) :
    Calls Try.prog 8 #[.int .i64 a0, .int .u8 a1] w fun e w' => e = .returned (.bool true) ∧ Below w.heap.size w w' := by
  have hb : 0 ≤ a1 ∧ a1 ≤ 255 := by simpa [Lit.wf, IntKind.min, IntKind.max, IntKind.signed, IntKind.bits] using w1
  obtain ⟨c, rfl⟩ := Int.eq_ofNat_of_zero_le hb.1
  have hc : c < 256 := by omega
  have := walkC a0 (byt c) w
  rw [byt_nat hc] at this
  exact this

theorem own : ownKnob Try.prog.godebug = none := by kernel_rfl
theorem laidOut : laidOutB Try.prog = true := by kernel_rfl

set_option maxRecDepth 100000 in
theorem lifted (os : Os) (started : os.Started) (H : Type) (enc : TypeId × Value → H) :
    ReturnsInHanded {} Try.checked os 8 .any (Rows.baseSignsSpec.pre6 enc Try.prog Try.f8 Rows.baseSignsRow.domain false) (Rows.baseSignsSpec.post enc Try.prog Try.f8 false true false false) := by
  refine returnsInHanded_of_change (C := Try.checked) own started (by kernel_rfl) Try.func8
    (ChangeSpec.witness6 (enc := enc) (C := Try.checked) false ⟨#[], #[.int .i64 0, .int .u8 0], []⟩ 8 (by kernel_rfl) (by kernel_rfl) (by kernel_rfl) (by kernel_rfl)) ?_
  intro W base args ds gs before hval0 hW hcnd _
  have hval : ∀ (j : Nat) t v, Try.f8.params[j]? = some t → args[j]? = some v → Value.okWide Try.prog W .any base t v := hval0
  have hW' := hW
  obtain ⟨p, q, hA0, hV, rfl, hfz, hnd⟩ := hW
  have hA : DataW.TrodAll enc Try.prog W 0 (fun _ => true) true Try.f8.params.toList args.toList ds p := hA0
  rw [Try.params8] at hA hval
  obtain ⟨v0, vs0, d0, ds0, p0, q0, hargs, rfl, rfl, h0, r0⟩ := trodAll_cons hA
  obtain ⟨v1, vs1, d1, ds1, p1, q1, rfl, rfl, rfl, h1, r1⟩ := trodAll_cons r0
  obtain ⟨rfl, rfl, rfl⟩ := trodAll_nil r1
  obtain rfl : args = #[v0, v1] := by cases args; simp_all
  obtain ⟨rfl, rfl⟩ := trodVars_none hV
  obtain ⟨a0, rfl, rfl, rfl, w0⟩ := open_int Try.underlying3 (hval 0 3 v0 rfl rfl) h0
  obtain ⟨a1, rfl, rfl, rfl, w1⟩ := open_int Try.underlying5 (hval 1 5 v1 rfl rfl) h1
  clear hA0 hval0
  refine (walk a0 a1 W w0 w1).mono fun e W' ⟨he, bel⟩ => ?_
  subst he
  exact ⟨_, rfl, _, _, _, [], _, [], hW', trodAll_mk1 (shut_bool Try.underlying4 _), (trodAll_cons_mk (shut_int Try.underlying3 w0) (trodAll_cons_mk (shut_int Try.underlying5 w1) trodAll_mk0)), rfl, bel.frame _, fun h => by cases h⟩

theorem over : Rows.baseSignsRow.holds Try.pinned (OpenSpec.ofChange Rows.baseSignsSpec) :=
  OpenClaim.holds_of_wide 8 Try.f8 rfl rfl rfl rfl rfl rfl rfl ⟨rfl, rfl, rfl, rfl, rfl⟩ rfl rfl rfl rfl rfl (by kernel_rfl) Try.func8 (by kernel_rfl)
    (of_decide_eq_true (by kernel_rfl)) (by unfold Func.isWrapper; first | (rw [if_pos (by decide +kernel)]; kernel_rfl) | (rw [if_neg (by decide +kernel)]; exact ⟨rfl, rfl⟩))
    (fun os started H enc _ => lifted os started H enc)

/-- THE STATEMENT -/
theorem proved : Rows.BaseSignsSaid := over
end Go.Proofs.Ytpkndgjkopfpkaa.baseSigns
