/-
  The statement BaseMatchesReferenceSaid: for every row of bytes the law BaseMatchesReference returns true and changes nothing.
-/
import Derived.Test.YtpkndgjkopfpkaaBaseAwake
import Derived.Test.YtpkndgjkopfpkaaBitsBack
import Derived.Test.YtpkndgjkopfpkaaRefEncode
import Derived.ShutString
import Derived.ChangeOld
namespace Go.Proofs.Ytpkndgjkopfpkaa.baseMatchesReference
open Go.ChangeShapes Go.WideShapes Go.ChangeAt Go.RowKit
open Go.ChangeMaps (open_string shut_string)
set_option linter.unusedVariables false

set_option maxRecDepth 100000 in
set_option maxHeartbeats 2000000 in
theorem walk (v : Value) (l : List UInt8) (w : World) (hr : Rd w.heap.size w v l) :
    Calls Try.prog 6 #[v] w fun e w' => e = .returned (.bool true) ∧ Below w.heap.size w w' := by
  obtain ⟨o, c, rfl, hmx, _⟩ := hr.form
  unfold maxLen at hmx
  by_cases hbig : 500 < l.length
  · have h1' : (500 : Int) < l.length := by omega
    go_enter Try.func6, Try.ntmps6
    go_wp2_with fail
    refine (bawake_any _).mono ?_
    rintro e w1 ⟨rfl, B1⟩
    go_wp2_with fail
    refine (bawake_any _).mono ?_
    rintro e w2 ⟨rfl, B2⟩
    go_wp2_with fail
    go_ret
    exact ⟨rfl, B1.trans (B2.mono B1.size)⟩
  · have h1' : ¬ (500 : Int) < l.length := by omega
    have hlen := enc_len l
    have hstr : (str (enc l)).data.toList = enc l := rfl
    obtain ⟨S, hS⟩ : ∃ S, S = str (enc l) := ⟨_, rfl⟩
    rw [← hS] at hstr
    have hsz : S.size = (8 * l.length + 5) / 6 := by rw [← hlen, ← hstr, Array.length_toList]; rfl
    have HD : Hid (dec S.data.toList = (l, -1)) := by rw [hstr]; exact dec_enc_back l
    have HS := Lib.hid hS
    have hl5 : l.length ≤ 500 := by omega
    obtain ⟨z, hz⟩ : ∃ z, z = (8 * l.length + 5) / 6 := ⟨_, rfl⟩
    rw [← hz] at hsz
    have hz3 : z ≤ 1000 := by omega
    have hz3' : (z : Int) ≤ 1000 := by omega
    have hz0 : (0 : Int) ≤ z := by omega
    have HZ := Lib.hid hz
    have HSZ := Lib.hid hsz
    have HE : Hid (eqB l l = true) := by show eqB l l = true; unfold eqB; simp
    clear hlen hstr hS hsz hz
    go_enter Try.func6, Try.ntmps6
    go_wp2_with fail
    refine (bawake_any _).mono ?_
    rintro e w1 ⟨rfl, B1⟩
    have r1 := hr.below B1 (Nat.le_refl _)
    have z1 := B1.size
    go_wp2_with fail
    refine (encode_any r1 z1 (by omega)).mono ?_
    rintro e w2 ⟨rfl, b2⟩
    have B2 := B1.trans (b2.mono B1.size)
    have r2 := r1.below b2 z1
    have z2 := B2.size
    rw [← HS.out]
    clear b2 B1 r1
    go_wp2_with fail
    refine (decode_at S (by have := HSZ.out; omega) _ HD.out).mono ?_
    rintro e w3 ⟨v3, rfl, r3, b3⟩
    have B3 := B2.trans (b3.mono B2.size)
    have q3 := r2.below b3 z2
    have z3 := B3.size
    obtain ⟨o3, c3, rfl, _, _⟩ := r3.form
    clear b3 B2 r2
    go_wp2_with fail
    refine (rencode_any q3 z3 (by omega)).mono ?_
    rintro e w4 ⟨rfl, b4⟩
    have B4 := B3.trans (b4.mono B3.size)
    have q4 := q3.below b4 z3
    have z4 := B4.size
    have r4 := r3.below b4 (Nat.le_refl _)
    rw [← HS.out]
    clear b4 B3 r3 q3
    go_wp2_with fail
    refine (size_any l.length (by omega) _).mono ?_
    rintro e w5 ⟨rfl, rfl⟩
    rw [← HZ.out]
    have hszi : (S.size : Int) = z := by rw [HSZ.out]
    go_wp2_with fail
    refine (same_any r4 q4).mono ?_
    rintro e w6 ⟨rfl, n6, rfl⟩
    rw [HE.out]
    have B6 := below_drewN B4 n6
    go_wp2_with fail
    go_ret
    exact ⟨by simp, B6⟩


theorem own : ownKnob Try.prog.godebug = none := by kernel_rfl
theorem laidOut : laidOutB Try.prog = true := by kernel_rfl

set_option maxRecDepth 100000 in
theorem lifted (os : Os) (started : os.Started) (H : Type) (enc : TypeId × Value → H) :
    ReturnsInHanded {} Try.checked os 6 .any (Rows.baseMatchesReferenceSpec.pre6 enc Try.prog Try.f6 Rows.baseMatchesReferenceRow.domain false) (Rows.baseMatchesReferenceSpec.post enc Try.prog Try.f6 false true false false) := by
  refine returnsInHanded_of_change (C := Try.checked) own started (by kernel_rfl) Try.func6
    (ChangeSpec.witness6 (enc := enc) (C := Try.checked) false ⟨#[], #[.slice none 0 0], []⟩ 8 (by kernel_rfl) (by kernel_rfl) (by kernel_rfl) (by kernel_rfl)) ?_
  intro W base args ds gs before hval0 hW hcnd _
  have hval : ∀ (j : Nat) t v, Try.f6.params[j]? = some t → args[j]? = some v → Value.okWide Try.prog W .any base t v := hval0
  have hW' := hW
  obtain ⟨p, q, hA0, hV, rfl, hfz, hnd⟩ := hW
  have hA : DataW.TrodAll enc Try.prog W 0 (fun _ => true) true Try.f6.params.toList args.toList ds p := hA0
  rw [Try.params6] at hA hval
  obtain ⟨v0, vs0, d0, ds0, p0, q0, hargs, rfl, rfl, h0, r0⟩ := trodAll_cons hA
  obtain ⟨rfl, rfl, rfl⟩ := trodAll_nil r0
  obtain rfl : args = #[v0] := by cases args; simp_all
  obtain ⟨rfl, rfl⟩ := trodVars_none hV
  obtain ⟨a0, len0, cap0, rfl⟩ := okWide_slice Try.underlying23 (hval 0 23 v0 rfl rfl)
  have k0 := h0
  have lt0 : ∀ x ∈ p0, x.block < W.heap.size := by obtain ⟨m, hm⟩ := k0; exact DataW.trod_lt m _ _ _ hm
  obtain ⟨l0, r0'⟩ : ∃ l, Rd W.heap.size W (.slice a0 len0 cap0) l := by
    obtain ⟨fuel, hf⟩ := h0
    obtain ⟨l, _, r⟩ := rd_open hf
    exact ⟨l, r⟩
  clear hA0 hval0
  refine (walk (.slice a0 len0 cap0) l0 W r0').mono fun e W' ⟨he, bel⟩ => ?_
  subst he
  exact ⟨_, rfl, _, _, _, [], _, [], hW', trodAll_mk1 (shut_bool Try.underlying4 _), (trodAll_cons_mk (Below.trod laidOut (by kernel_rfl) (of_decide_eq_true (by kernel_rfl)) k0 bel lt0) trodAll_mk0), rfl, bel.frame _, fun h => by cases h⟩

theorem over : Rows.baseMatchesReferenceRow.holds Try.pinned (OpenSpec.ofChange Rows.baseMatchesReferenceSpec) :=
  OpenClaim.holds_of_wide 6 Try.f6 rfl rfl rfl rfl rfl rfl rfl ⟨rfl, rfl, rfl, rfl, rfl⟩ rfl rfl rfl rfl rfl (by kernel_rfl) Try.func6 (by kernel_rfl)
    (of_decide_eq_true (by kernel_rfl)) (by unfold Func.isWrapper; first | (rw [if_pos (by decide +kernel)]; kernel_rfl) | (rw [if_neg (by decide +kernel)]; exact ⟨rfl, rfl⟩))
    (fun os started H enc _ => lifted os started H enc)

/-- THE STATEMENT -/
theorem proved : Rows.BaseMatchesReferenceSaid := over
end Go.Proofs.Ytpkndgjkopfpkaa.baseMatchesReference
