/-
  The statement BaseApartSaid: whatever two texts and sign are given, the law BaseApart returns true and changes nothing; for every input, no further condition.
-/
import Derived.Test.YtpkndgjkopfpkaaBaseAwake
import Derived.Test.YtpkndgjkopfpkaaBaseMath
import Derived.ShutString
import Derived.ChangeOld
namespace Go.Proofs.Ytpkndgjkopfpkaa.baseApart
open Go.ChangeShapes Go.WideShapes Go.ChangeAt Go.RowKit
open Go.ChangeMaps (open_string shut_string)
set_option linter.unusedVariables false

theorem toList_inj {a b : ByteArray} (h : a.toList = b.toList) : a = b := by
  rw [ByteArray.toList_eq, ByteArray.toList_eq] at h
  exact bytes_inj h

set_option maxRecDepth 100000 in
set_option maxHeartbeats 2000000 in
theorem walk (s t : ByteArray) (a2 : Int) (w : World) (ws : s.size ≤ maxLen) (wt : t.size ≤ maxLen) (wc : (Lit.int .u8 a2).wf = true) :
    Calls Try.prog 10 #[.string s, .string t, .int .u8 a2] w fun e w' => e = .returned (.bool true) ∧ Below w.heap.size w w' := by
  have hb : 0 ≤ a2 ∧ a2 ≤ 255 := by simpa [Lit.wf, IntKind.min, IntKind.max, IntKind.signed, IntKind.bits] using wc
  obtain ⟨c, rfl⟩ := Int.eq_ofNat_of_zero_le hb.1
  unfold maxLen at ws wt
  by_cases hbig : 300 < s.size ∨ 300 < t.size
  · by_cases h1 : 300 < s.size
    · have h1' : (300 : Int) < s.size := by omega
      go_enter Try.func10, Try.ntmps10
      go_wp2_with fail
      refine (bawake_any _).mono ?_
      rintro e w1 ⟨rfl, B1⟩
      go_wp2_with fail
      refine (bawake_any _).mono ?_
      rintro e w2 ⟨rfl, B2⟩
      go_wp2_with fail
      go_ret
      exact ⟨rfl, B1.trans (B2.mono B1.size)⟩
    · have h1' : ¬ (300 : Int) < s.size := by omega
      have h2' : (300 : Int) < t.size := by omega
      go_enter Try.func10, Try.ntmps10
      go_wp2_with fail
      refine (bawake_any _).mono ?_
      rintro e w1 ⟨rfl, B1⟩
      go_wp2_with fail
      refine (bawake_any _).mono ?_
      rintro e w2 ⟨rfl, B2⟩
      go_wp2_with fail
      go_ret
      exact ⟨rfl, B1.trans (B2.mono B1.size)⟩
  · have h1' : ¬ (300 : Int) < s.size := by omega
    have h2' : ¬ (300 : Int) < t.size := by omega
    have hcc : c < 256 := by omega
    have hs3 : s.size ≤ 300 := by omega
    have ht3 : t.size ≤ 300 := by omega
    obtain ⟨S1, hS1⟩ : ∃ S1, S1 = str [byt c] := ⟨_, rfl⟩
    have hS1b : S1.size ≤ 1 := by rw [hS1]; exact Nat.le_refl 1
    have hcat : (s ++ S1).data.toList = s.data.toList ++ [byt c] := by rw [hS1]; simp [str]
    have hcats : (s ++ S1).size ≤ 301 := by rw [ByteArray.size_append]; omega
    obtain ⟨a, p, HDS⟩ : ∃ a p, Hid (dec s.data.toList = (a, p)) := ⟨_, _, rfl⟩
    obtain ⟨b, q, HDT⟩ : ∃ b q, Hid (dec t.data.toList = (b, q)) := ⟨_, _, rfl⟩
    obtain ⟨m, o, HDM⟩ : ∃ m o, Hid (dec (s ++ S1).data.toList = (m, o)) := ⟨_, _, rfl⟩
    have hmore : p < 0 → o < 0 → eqB a m = false := by
      intro hp ho
      have e1 := dec_enc s.data.toList (by rw [HDS.out]; exact hp)
      have e2 := dec_enc (s ++ S1).data.toList (by rw [HDM.out]; exact ho)
      rw [HDS.out] at e1
      rw [HDM.out, hcat] at e2
      unfold eqB
      simp only [beq_eq_false_iff_ne, ne_eq]
      intro e
      simp only at e1 e2
      rw [e, e2] at e1
      have := congrArg List.length e1
      simp at this
    have heq : p < 0 → q < 0 → (eqB a b = true ∧ s = t) ∨ (eqB a b = false ∧ s ≠ t) := by
      intro hp hq
      have e1 := dec_enc s.data.toList (by rw [HDS.out]; exact hp)
      have e2 := dec_enc t.data.toList (by rw [HDT.out]; exact hq)
      rw [HDS.out] at e1
      rw [HDT.out] at e2
      simp only at e1 e2
      by_cases hst : s = t
      · left
        subst hst
        have h3 := HDS.out.symm.trans HDT.out
        simp only [Prod.mk.injEq] at h3
        refine ⟨?_, rfl⟩
        unfold eqB; rw [h3.1]; simp
      · right
        refine ⟨?_, hst⟩
        unfold eqB
        simp only [beq_eq_false_iff_ne, ne_eq]
        intro e
        apply hst
        rw [e, e2] at e1
        have h4 : s.data = t.data := Array.toList_inj.1 e1.symm
        cases s; cases t; simp_all
    have HS1 := Lib.hid hS1
    have HMORE := Lib.hid hmore
    have HEQ := Lib.hid heq
    have HCATS := Lib.hid hcats
    clear hS1 hmore heq hcat hcats wc hbig hb
    go_enter Try.func10, Try.ntmps10
    go_wp2_with fail
    refine (bawake_any _).mono ?_
    rintro e w1 ⟨rfl, B1⟩
    go_wp2_with fail
    refine (decode_at s (by omega) _ HDS.out).mono ?_
    rintro e w2 ⟨v2, rfl, r2, b2⟩
    have B2 := B1.trans (b2.mono B1.size)
    obtain ⟨o2, c2, rfl, _, _⟩ := r2.form
    clear b2 B1
    go_wp2_with fail
    refine (decode_at t (by omega) _ HDT.out).mono ?_
    rintro e w3 ⟨v3, rfl, r3, b3⟩
    have B3 := B2.trans (b3.mono B2.size)
    have r23 := r2.below b3 (Nat.le_refl _)
    have z23 := b3.size
    obtain ⟨o3, c3, rfl, _, _⟩ := r3.form
    clear b3 B2 r2
    have hconv : (convert 23 9 (.slice (some ⟨w3.heap.size, 0, none⟩) 1 1)).run Try.prog (w3.alloc (.cells #[.int .u8 c] 5)) = .ok (.string S1) (w3.alloc (.cells #[.int .u8 c] 5)) := by
      rw [HS1.out]
      exact conv_bytes (rd_lit w3 [byt c] #[.int .u8 c] (by simp only [bvs, List.map_cons, List.map_nil, byt_val hcc]) 1 rfl (by show 1 ≤ maxLen; decide))
    have hx : Below w3.heap.size w3 (w3.alloc (.cells #[.int .u8 c] 5)) := (Below.refl _ _).alloc (Nat.le_refl _) _
    have B4 := B3.trans (hx.mono B3.size)
    have r24 := r23.below hx z23
    have r34 := r3.below hx (Nat.le_refl _)
    have HB4 := Lib.hid B4
    have Hr24 := Lib.hid r24
    have Hr34 := Lib.hid r34
    clear r23 r3 B3 hx B4 r24 r34
    go_wp2_with fail
    refine (decode_at (s ++ S1) (by have := HCATS.out; omega) _ HDM.out).mono ?_
    rintro e w5 ⟨v5, rfl, r5, b5⟩
    have B5 := HB4.out.trans (b5.mono HB4.out.size)
    have r25 := Hr24.out.below b5 (by simp <;> omega)
    have r35 := Hr34.out.below b5 (by simp)
    obtain ⟨o5, c5, rfl, _, _⟩ := r5.form
    clear b5 hconv HB4 Hr24 Hr34
    by_cases hp : p < 0
    · by_cases ho : o < 0
      · go_wp2_with fail
        refine (same_any r25 r5).mono ?_
        rintro e w6 ⟨rfl, n6, rfl⟩
        rw [HMORE.out hp ho]
        have B6 := below_drewN B5 n6
        by_cases hq : q < 0
        · have r26 : Rd w2.heap.size (w5.drewN n6) (.slice o2 a.length c2) a := r25
          have r36 : Rd w3.heap.size (w5.drewN n6) (.slice o3 b.length c3) b := r35
          go_wp2_with fail
          refine (same_any r26 r36).mono ?_
          rintro e w7 ⟨rfl, n7, rfl⟩
          have B7 := below_drewN B6 n7
          rcases HEQ.out hp hq with ⟨he, hst⟩ | ⟨he, hst⟩
          · rw [he]
            have hb2 : (s.toList == t.toList) = true := by rw [hst]; simp
            clear hst he
            go_wp2_with fail
            go_ret
            exact ⟨by simp, below_drewN B5 _⟩
          · rw [he]
            have hb2 : (s.toList == t.toList) = false := by
              rw [beq_eq_false_iff_ne]; intro e; exact hst (toList_inj e)
            clear hst he
            go_wp2_with fail
            go_ret
            exact ⟨by simp, below_drewN B5 _⟩
        · go_wp2_with fail
          go_ret
          exact ⟨rfl, B6⟩
      · by_cases hq : q < 0
        · go_wp2_with fail
          refine (same_any r25 r35).mono ?_
          rintro e w7 ⟨rfl, n7, rfl⟩
          have B7 := below_drewN B5 n7
          rcases HEQ.out hp hq with ⟨he, hst⟩ | ⟨he, hst⟩
          · rw [he]
            have hb2 : (s.toList == t.toList) = true := by rw [hst]; simp
            clear hst he
            go_wp2_with fail
            go_ret
            exact ⟨by simp, below_drewN B5 _⟩
          · rw [he]
            have hb2 : (s.toList == t.toList) = false := by
              rw [beq_eq_false_iff_ne]; intro e; exact hst (toList_inj e)
            clear hst he
            go_wp2_with fail
            go_ret
            exact ⟨by simp, below_drewN B5 _⟩
        · go_wp2_with fail
          go_ret
          exact ⟨rfl, B5⟩
    · go_wp2_with fail
      go_ret
      exact ⟨rfl, B5⟩

theorem own : ownKnob Try.prog.godebug = none := by kernel_rfl
theorem laidOut : laidOutB Try.prog = true := by kernel_rfl

set_option maxRecDepth 100000 in
theorem lifted (os : Os) (started : os.Started) (H : Type) (enc : TypeId × Value → H) :
    ReturnsInHanded {} Try.checked os 10 .any (Rows.baseApartSpec.pre6 enc Try.prog Try.f10 Rows.baseApartRow.domain false) (Rows.baseApartSpec.post enc Try.prog Try.f10 false true false false) := by
  refine returnsInHanded_of_change (C := Try.checked) own started (by kernel_rfl) Try.func10
    (ChangeSpec.witness6 (enc := enc) (C := Try.checked) false ⟨#[], #[.string ByteArray.empty, .string ByteArray.empty, .int .u8 0], []⟩ 8 (by kernel_rfl) (by kernel_rfl) (by kernel_rfl) (by kernel_rfl)) ?_
  intro W base args ds gs before hval0 hW hcnd _
  have hval : ∀ (j : Nat) t v, Try.f10.params[j]? = some t → args[j]? = some v → Value.okWide Try.prog W .any base t v := hval0
  have hW' := hW
  obtain ⟨p, q, hA0, hV, rfl, hfz, hnd⟩ := hW
  have hA : DataW.TrodAll enc Try.prog W 0 (fun _ => true) true Try.f10.params.toList args.toList ds p := hA0
  rw [Try.params10] at hA hval
  obtain ⟨v0, vs0, d0, ds0, p0, q0, hargs, rfl, rfl, h0, r0⟩ := trodAll_cons hA
  obtain ⟨v1, vs1, d1, ds1, p1, q1, rfl, rfl, rfl, h1, r1⟩ := trodAll_cons r0
  obtain ⟨v2, vs2, d2, ds2, p2, q2, rfl, rfl, rfl, h2, r2⟩ := trodAll_cons r1
  obtain ⟨rfl, rfl, rfl⟩ := trodAll_nil r2
  obtain rfl : args = #[v0, v1, v2] := by cases args; simp_all
  obtain ⟨rfl, rfl⟩ := trodVars_none hV
  obtain ⟨a0, rfl, rfl, rfl, w0⟩ := open_string Try.underlying9 (hval 0 9 v0 rfl rfl) h0
  obtain ⟨a1, rfl, rfl, rfl, w1⟩ := open_string Try.underlying9 (hval 1 9 v1 rfl rfl) h1
  obtain ⟨a2, rfl, rfl, rfl, w2⟩ := open_int Try.underlying5 (hval 2 5 v2 rfl rfl) h2
  clear hA0 hval0
  refine (walk a0 a1 a2 W w0 w1 w2).mono fun e W' ⟨he, bel⟩ => ?_
  subst he
  exact ⟨_, rfl, _, _, _, [], _, [], hW', trodAll_mk1 (shut_bool Try.underlying4 _), (trodAll_cons_mk (shut_string Try.underlying9 w0) (trodAll_cons_mk (shut_string Try.underlying9 w1) (trodAll_cons_mk (shut_int Try.underlying5 w2) trodAll_mk0))), rfl, bel.frame _, fun h => by cases h⟩

theorem over : Rows.baseApartRow.holds Try.pinned (OpenSpec.ofChange Rows.baseApartSpec) :=
  OpenClaim.holds_of_wide 10 Try.f10 rfl rfl rfl rfl rfl rfl rfl ⟨rfl, rfl, rfl, rfl, rfl⟩ rfl rfl rfl rfl rfl (by kernel_rfl) Try.func10 (by kernel_rfl)
    (of_decide_eq_true (by kernel_rfl)) (by unfold Func.isWrapper; first | (rw [if_pos (by decide +kernel)]; kernel_rfl) | (rw [if_neg (by decide +kernel)]; exact ⟨rfl, rfl⟩))
    (fun os started H enc _ => lifted os started H enc)

/-- THE STATEMENT -/
theorem proved : Rows.BaseApartSaid := over
end Go.Proofs.Ytpkndgjkopfpkaa.baseApart
