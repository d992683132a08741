/-
  The statement NameMatchesReferenceCardSaid: for every string the law NameMatchesReference returns true and changes nothing; the listed package-level variables hold what the program's text lays.
-/
import Derived.Test.YtihjmjhajjgjoaaDoorNameLaid
import Derived.Test.YtihjmjhajjgjoaaDoorNameR
import Derived.Test.YtihjmjhajjgjoaaDoorTie
import Derived.Test.YtihjmjhajjgjoaaDoorCards
import Derived.SevenTiedAt
import Derived.ShutString
import Derived.ChangeOld
import Derived.Lib.SmallJoins
namespace Go.Proofs.YtihjmjhajjgjoaaDoor.nameMatchesReference
open Go.ChangeShapes Go.WideShapes Go.ChangeAt Go.RowKit
open Go.ChangeMaps (open_string shut_string)
set_option linter.unusedVariables false

theorem isName_isId {s : ByteArray} (h : isName s = true) : isId s = true := by
  unfold isName at h
  simp only [Bool.and_eq_true] at h
  have h1 := of_decide_eq_true h.1.1
  refine decide_eq_true ⟨h1.1, by omega, fun c hc => ?_⟩
  have h2 := h1.2.2 c hc
  rw [hasN] at h2
  rw [hasI]
  simp only [Bool.or_eq_true, decide_eq_true_eq] at h2 ⊢
  rcases h2 with (h2 | h2) | h2
  · exact .inl (.inl h2)
  · exact .inl (.inr h2)
  · exact .inr (by omega)

set_option maxRecDepth 100000 in
set_option maxHeartbeats 2000000 in
theorem walk (s : ByteArray) (w : World) (hs : s.size ≤ maxLen) (h : Env w) : Calls Tryd.prog 3 #[.string s] w fun e w' => e = .returned (.bool true) ∧ Below w.heap.size w w' := by
  unfold maxLen at hs
  have HE := Lib.hid h
  clear h
  by_cases hbig : 500 < s.size
  · have g : (500 : Int) < s.size := by omega
    go_enter Tryd.func3, Tryd.ntmps3
    go_wp2_with fail
    refine (nawake_any _ HE.out).mono ?_
    rintro e w1 ⟨rfl, b1⟩
    have HE1 := Lib.hid (HE.out.below b1)
    go_wp2_with fail
    refine (nawake_any _ HE1.out).mono ?_
    rintro e w2 ⟨rfl, b2⟩
    go_wp2_with fail
    go_ret
    exact ⟨rfl, b1.trans (b2.mono b1.size)⟩
  · have g : ¬ (500 : Int) < s.size := by omega
    have hle : s.size ≤ 1000000 := by omega
    go_enter Tryd.func3, Tryd.ntmps3
    go_wp2_with fail
    refine (nawake_any _ HE.out).mono ?_
    rintro e w1 ⟨rfl, b1⟩
    have HE1 := Lib.hid (HE.out.below b1)
    have HB1 := Lib.hid b1
    clear b1 HE
    obtain ⟨nm, hnm⟩ : ∃ nm, nm = isName s := ⟨_, rfl⟩
    obtain ⟨idb, hid⟩ : ∃ idb, idb = isId s := ⟨_, rfl⟩
    obtain ⟨rs, hrs⟩ : ∃ rs, rs = resB s := ⟨_, rfl⟩
    have HN := Lib.hid hnm
    have HI := Lib.hid hid
    have HS := Lib.hid hrs
    clear hnm hid hrs
    go_wp2_with fail
    refine (isName_any s _ HE1.out.1).mono ?_
    rintro e w2 ⟨rfl, b2⟩
    rw [← HN.out]
    have HE2 := Lib.hid (HE1.out.below b2)
    have HB2 := Lib.hid (HB1.out.trans (b2.mono HB1.out.size))
    clear b2 HE1 HB1
    go_wp2_with fail
    refine (risName_any s hle _).mono ?_
    rintro e w3 ⟨rfl, rfl⟩
    rw [← HN.out]
    have t1 : (nm == nm) = true := by simp
    go_wp2_with fail
    refine (isId_any s _).mono ?_
    rintro e w3 ⟨rfl, b3⟩
    rw [← HI.out]
    have HE3 := Lib.hid (HE2.out.below b3)
    have HB3 := Lib.hid (HB2.out.trans (b3.mono HB2.out.size))
    clear b3 HE2 HB2
    go_wp2_with fail
    refine (risId_any s hle _).mono ?_
    rintro e w4 ⟨rfl, rfl⟩
    rw [← HI.out]
    have t2 : (idb == idb) = true := by simp
    go_wp2_with fail
    refine (res_any s _ HE3.out.1).mono ?_
    rintro e w4 ⟨rfl, rfl⟩
    rw [← HS.out]
    go_wp2_with fail
    refine (rres_any s _).mono ?_
    rintro e w4 ⟨rfl, rfl⟩
    rw [← HS.out]
    have t3 : (rs == rs) = true := by simp
    go_wp2_with fail
    refine (isName_any s _ HE3.out.1).mono ?_
    rintro e w5 ⟨rfl, b5⟩
    rw [← HN.out]
    have HB5 := Lib.hid (HB3.out.trans (b5.mono HB3.out.size))
    clear b5 HE3 HB3
    cases nm with
    | false =>
      go_wp2_with fail
      go_ret
      exact ⟨rfl, HB5.out⟩
    | true =>
      have hi : idb = true := by rw [HI.out]; exact isName_isId HN.out.symm
      subst hi
      go_wp2_with fail
      refine (isId_any s _).mono ?_
      rintro e w6 ⟨rfl, b6⟩
      rw [← HI.out]
      have HB6 := Lib.hid (HB5.out.trans (b6.mono HB5.out.size))
      clear b6 HB5
      go_wp2_with fail
      go_ret
      exact ⟨rfl, HB6.out⟩

set_option maxRecDepth 100000 in
theorem lifted (os : Os) (started : os.Started) (H : Type) (enc : TypeId × Value → H) :
    ReturnsInHanded {} Tryd.checked os 3 .any (fun w args => (Rows.nameMatchesReferenceSpec.pre enc Tryd.prog Tryd.f3 Rows.nameMatchesReferenceRow.domain false w args ∧ laidMetH Tryd.prog laidL w) ∧ sizedMet enc Tryd.prog Tryd.f3 (OpenSpec.ofChange Rows.nameMatchesReferenceSpec) false w args)
      (Rows.nameMatchesReferenceSpec.post enc Tryd.prog Tryd.f3 false true false false) := by
  refine wrap_and (C := Tryd.checked) (X := fun w _ => laidMetH Tryd.prog laidL w) (fun _ _ _ hh h => h.of_heap hh) own started (by kernel_rfl) Tryd.func3
    (ChangeSpec.witness_shaped (enc := enc) (C := Tryd.checked) (os := os) (X := fun w _ => laidMetH Tryd.prog laidL w) false (World.doorLaid Tryd.prog 400 os) #[.string ByteArray.empty] 8 rfl (World.shaped_of_RefB (by kernel_rfl) (by kernel_rfl)) (by kernel_rfl) (by kernel_rfl) (by kernel_rfl) (door_met os _)) ?_
  intro W base args ds gs before hval0 hW hsh hL
  have hE := env_of_laid hL hsh
  have hval : ∀ (j : Nat) t v, Tryd.f3.params[j]? = some t → args[j]? = some v → Value.okWide Tryd.prog W .any base t v := hval0
  have hW' := hW
  obtain ⟨p, q, hA0, hV, rfl, hfz, hnd⟩ := hW
  have hA : DataW.TrodAll enc Tryd.prog W 0 (fun _ => true) true Tryd.f3.params.toList args.toList ds p := hA0
  rw [Tryd.params3] at hA hval
  obtain ⟨v0, vs0, d0, ds0, p0, q0, hargs, rfl, rfl, h0, r0⟩ := trodAll_cons hA
  obtain ⟨rfl, rfl, rfl⟩ := trodAll_nil r0
  obtain rfl : args = #[v0] := by cases args; simp_all
  obtain ⟨rfl, rfl⟩ := trodVars_none hV
  obtain ⟨a0, rfl, rfl, rfl, w0⟩ := open_string Tryd.underlying9 (hval 0 9 v0 rfl rfl) h0
  clear hA0 hval0
  refine (walk a0 W w0 hE).mono fun e W' ⟨he, bel⟩ => ?_
  subst he
  exact ⟨_, rfl, _, _, _, [], _, [], hW', trodAll_mk1 (shut_bool Tryd.underlying4 _), (trodAll_cons_mk (shut_string Tryd.underlying9 w0) trodAll_mk0), rfl, bel.frame _, fun h => by cases h⟩

theorem over : Rows.NameMatchesReferenceSaid :=
  OpenClaim.holds_of_wide 3 Tryd.f3 rfl rfl rfl rfl rfl rfl rfl ⟨rfl, rfl, rfl, rfl, rfl⟩ rfl rfl rfl rfl rfl (by kernel_rfl) Tryd.func3 (by kernel_rfl)
    (of_decide_eq_true (by kernel_rfl)) (by unfold Func.isWrapper; first | (rw [if_pos (by decide +kernel)]; kernel_rfl) | (rw [if_neg (by decide +kernel)]; exact ⟨rfl, rfl⟩))
    (fun os started H enc _ => lifted os started H enc)

/-- THE STATEMENT: the tied card. -/
theorem proved : Rows.NameMatchesReferenceCardSaid :=
  Claim7.holds_tied_plain_at .later [] Rows.nameMatchesReferenceCard.laidKinds true Rows.nameMatchesReferenceCard.stood.harness Rows.nameMatchesReferenceCard.stood.looks
    over (fun _ h => by cases h) (by kernel_rfl) (fun _ h => by cases h) nameMatchesReference_row_tie rfl ⟨rfl, rfl⟩ (by kernel_rfl) rfl
    (fun f fn hf hfn => by
      obtain rfl : f = 3 := Option.some.inj ((show Tryd.prog.funcNamed "vestry/vestrylaw08.NameMatchesReference" = some 3 by kernel_rfl).symm.trans hf) |>.symm
      obtain rfl : fn = Tryd.f3 := (Option.some.inj (Tryd.func3.symm.trans hfn)).symm
      exact ⟨by kernel_rfl, fun j t ht => by
        rw [Tryd.params3] at ht
        have hm : t ∈ [9] := by have := Array.mem_of_getElem? ht; simpa using this
        have hall : ([9].all fun u => !Tryd.prog.wantsStandIn u) = true := by kernel_rfl
        exact (show Tryd.prog.wantsStandIn t = false by simpa using List.all_eq_true.1 hall t hm)⟩)
    (by kernel_rfl)
end Go.Proofs.YtihjmjhajjgjoaaDoor.nameMatchesReference
