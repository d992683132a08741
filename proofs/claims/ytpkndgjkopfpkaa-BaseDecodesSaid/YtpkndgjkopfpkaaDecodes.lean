/-
  The statement BaseDecodesSaid: for every text the law BaseDecodes returns true and changes nothing.
-/
import Derived.Test.YtpkndgjkopfpkaaBaseAwake
import Derived.Test.YtpkndgjkopfpkaaRefDecode
import Derived.ShutString
import Derived.ChangeOld
namespace Go.Proofs.Ytpkndgjkopfpkaa.baseDecodes
open Go.ChangeShapes Go.WideShapes Go.ChangeAt Go.RowKit
open Go.ChangeMaps (open_string shut_string)
set_option linter.unusedVariables false

theorem dec_le : ∀ (r : List UInt8) (i : Nat) (acc : List UInt8) (b s : Nat), (decGo r i acc b s).1.length ≤ acc.length + r.length ∧ -1 ≤ (decGo r i acc b s).2 ∧ (decGo r i acc b s).2 ≤ i + r.length
  | [], i, acc, b, s => by
    rw [decGo]
    split <;> simp <;> omega
  | c :: r, i, acc, b, s => by
    rw [decGo]
    split
    · simp <;> omega
    · have h := dec_le r (i + 1) (acc ++ (stB b s (valI c).toNat).1) (stB b s (valI c).toNat).2.1 (stB b s (valI c).toNat).2.2
      have h2 := stB_len b s (valI c).toNat
      rw [List.length_append] at h
      simp only [List.length_cons]
      omega

set_option maxRecDepth 100000 in
set_option maxHeartbeats 2000000 in
theorem walk (s : ByteArray) (w : World) (ws : s.size ≤ maxLen) :
    Calls Try.prog 7 #[.string s] w fun e w' => e = .returned (.bool true) ∧ Below w.heap.size w w' := by
  unfold maxLen at ws
  by_cases hbig : 500 < s.size
  · have h1' : (500 : Int) < s.size := by omega
    go_enter Try.func7, Try.ntmps7
    go_wp2_with fail
    refine (bawake_any _).mono ?_
    rintro e w1 ⟨rfl, B1⟩
    go_wp2_with fail
    refine (bawake_any _).mono ?_
    rintro e w2 ⟨rfl, B2⟩
    go_wp2_with fail
    go_ret
    exact ⟨rfl, B1.trans (B2.mono B1.size)⟩
  · have h1' : ¬ (500 : Int) < s.size := by omega
    have hs5 : s.size ≤ 500 := by omega
    have hsl : s.data.toList.length = s.size := by rw [Array.length_toList]; rfl
    have hle := dec_le s.data.toList 0 [] 0 0
    obtain ⟨a, p, HDS⟩ : ∃ a p, Hid (dec s.data.toList = (a, p)) := ⟨_, _, rfl⟩
    have hds : decGo s.data.toList 0 [] 0 0 = (a, p) := HDS.out
    rw [hds, hsl] at hle
    have ha : a.length ≤ 500 := by have := hle.1; simp at this; omega
    have hp0 : -1 ≤ p := hle.2.1
    have hp1 : p ≤ 1000 := by have := hle.2.2; simp at this; omega
    have hback : p < 0 → s = str (enc a) := by
      intro h
      have e := dec_enc s.data.toList (by rw [HDS.out]; exact h)
      rw [HDS.out] at e
      simp only at e
      rw [e]
      cases s; simp [str]
    have HBK := Lib.hid hback
    have HE : Hid (eqB a a = true) := by show eqB a a = true; unfold eqB; simp
    clear hle hds hback hsl
    go_enter Try.func7, Try.ntmps7
    go_wp2_with fail
    refine (bawake_any _).mono ?_
    rintro e w1 ⟨rfl, B1⟩
    go_wp2_with fail
    refine (decode_at s (by omega) _ HDS.out).mono ?_
    rintro e w2 ⟨v2, rfl, r2, b2⟩
    have B2 := B1.trans (b2.mono B1.size)
    have z2 := B2.size
    obtain ⟨o2, c2, rfl, _, _⟩ := r2.form
    clear b2 B1
    go_wp2_with fail
    have hrd := rdecode_any s (by omega) w2
    rw [HDS.out] at hrd
    refine hrd.mono ?_
    rintro e w3 ⟨v3, rfl, r3, b3⟩
    have B3 := B2.trans (b3.mono B2.size)
    have r23 := r2.below b3 (Nat.le_refl _)
    have z3 := B3.size
    have z23 := b3.size
    obtain ⟨o3, c3, rfl, _, _⟩ := r3.form
    clear b3 B2 r2 hrd
    go_wp2_with fail
    refine (same_any r23 r3).mono ?_
    rintro e w4 ⟨rfl, n4, rfl⟩
    rw [HE.out]
    have B4 := below_drewN B3 n4
    have r24 : Rd w2.heap.size (w3.drewN n4) (.slice o2 a.length c2) a := r23
    have hge : ((p : Int) == p) = true := by simp
    by_cases hp : p < 0
    · have hp' : ¬ 0 ≤ p := by omega
      have hss := HBK.out hp
      have HSS := Lib.hid hss
      clear hss
      go_wp2_with fail
      refine (encode_any r24 (by show w2.heap.size ≤ w3.heap.size; exact z23) (by omega)).mono ?_
      rintro e w5 ⟨rfl, b5⟩
      have B5 := B4.trans (b5.mono B4.size)
      rw [← HSS.out]
      go_wp2_with fail
      go_ret
      exact ⟨by simp, B5⟩
    · have hp' : 0 ≤ p := by omega
      go_wp2_with fail
      go_ret
      exact ⟨by simp, B4⟩


theorem own : ownKnob Try.prog.godebug = none := by kernel_rfl
theorem laidOut : laidOutB Try.prog = true := by kernel_rfl

set_option maxRecDepth 100000 in
theorem lifted (os : Os) (started : os.Started) (H : Type) (enc : TypeId × Value → H) :
    ReturnsInHanded {} Try.checked os 7 .any (Rows.baseDecodesSpec.pre6 enc Try.prog Try.f7 Rows.baseDecodesRow.domain false) (Rows.baseDecodesSpec.post enc Try.prog Try.f7 false true false false) := by
  refine returnsInHanded_of_change (C := Try.checked) own started (by kernel_rfl) Try.func7
    (ChangeSpec.witness6 (enc := enc) (C := Try.checked) false ⟨#[], #[.string ByteArray.empty], []⟩ 8 (by kernel_rfl) (by kernel_rfl) (by kernel_rfl) (by kernel_rfl)) ?_
  intro W base args ds gs before hval0 hW hcnd _
  have hval : ∀ (j : Nat) t v, Try.f7.params[j]? = some t → args[j]? = some v → Value.okWide Try.prog W .any base t v := hval0
  have hW' := hW
  obtain ⟨p, q, hA0, hV, rfl, hfz, hnd⟩ := hW
  have hA : DataW.TrodAll enc Try.prog W 0 (fun _ => true) true Try.f7.params.toList args.toList ds p := hA0
  rw [Try.params7] at hA hval
  obtain ⟨v0, vs0, d0, ds0, p0, q0, hargs, rfl, rfl, h0, r0⟩ := trodAll_cons hA
  obtain ⟨rfl, rfl, rfl⟩ := trodAll_nil r0
  obtain rfl : args = #[v0] := by cases args; simp_all
  obtain ⟨rfl, rfl⟩ := trodVars_none hV
  obtain ⟨a0, rfl, rfl, rfl, w0⟩ := open_string Try.underlying9 (hval 0 9 v0 rfl rfl) h0
  clear hA0 hval0
  refine (walk a0 W w0).mono fun e W' ⟨he, bel⟩ => ?_
  subst he
  exact ⟨_, rfl, _, _, _, [], _, [], hW', trodAll_mk1 (shut_bool Try.underlying4 _), (trodAll_cons_mk (shut_string Try.underlying9 w0) trodAll_mk0), rfl, bel.frame _, fun h => by cases h⟩

theorem over : Rows.baseDecodesRow.holds Try.pinned (OpenSpec.ofChange Rows.baseDecodesSpec) :=
  OpenClaim.holds_of_wide 7 Try.f7 rfl rfl rfl rfl rfl rfl rfl ⟨rfl, rfl, rfl, rfl, rfl⟩ rfl rfl rfl rfl rfl (by kernel_rfl) Try.func7 (by kernel_rfl)
    (of_decide_eq_true (by kernel_rfl)) (by unfold Func.isWrapper; first | (rw [if_pos (by decide +kernel)]; kernel_rfl) | (rw [if_neg (by decide +kernel)]; exact ⟨rfl, rfl⟩))
    (fun os started H enc _ => lifted os started H enc)

/-- THE STATEMENT -/
theorem proved : Rows.BaseDecodesSaid := over
end Go.Proofs.Ytpkndgjkopfpkaa.baseDecodes
