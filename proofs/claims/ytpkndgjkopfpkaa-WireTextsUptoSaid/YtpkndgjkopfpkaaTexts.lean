/-
  The statement WireTextsUptoSaid: whatever text, number and parts are given, where they hold together at most 1048576 values and letters, the law WireTexts returns true and changes nothing.
-/
import Derived.Test.YtpkndgjkopfpkaaReadText
import Derived.Test.YtpkndgjkopfpkaaUpto
import Derived.OpenShut
import Derived.ShutString
import Derived.ChangeOld
import Derived.JoinedCond
namespace Go.Proofs.Ytpkndgjkopfpkaa.wireTexts
open Go.ChangeShapes Go.WideShapes Go.ChangeAt Go.RowKit
open Go.ChangeMaps (open_string shut_string)
set_option linter.unusedVariables false

theorem rdall_below {B C : Nat} {w w' : World} {oa : Option Addr} {ls : List (List UInt8)} (h : RdAll B w oa ls) (hb : Below C w w') (hC : B ≤ C) : RdAll B w' oa ls := by
  intro hp
  obtain ⟨b, off, h1, h2, h3⟩ := h hp
  refine ⟨b, off, h1, h2, fun i hi => ?_⟩
  obtain ⟨u, h4, h5⟩ := h3 i hi
  exact ⟨u, (hb.cell (by show b < C; omega)).trans h4, h5.below hb hC⟩

set_option maxRecDepth 100000 in
set_option maxHeartbeats 1000000 in
theorem walk (s : ByteArray) (most : Int) (oa : Option Addr) (cap : Nat) (ls : List (List UInt8)) (w : World) (hs : s.size ≤ maxLen) (wm : (Lit.int .i64 most).wf = true) (hr : RdAll w.heap.size w oa ls) (ht : total ls + ls.length ≤ 2097152) :
    Calls Try.prog 4 #[.string s, .int .i64 most, .slice oa ls.length cap] w fun e w' => e = .returned (.bool true) ∧ Below w.heap.size w w' := by
  have hm : -9223372036854775808 ≤ most ∧ most ≤ 9223372036854775807 := by simpa [Lit.wf, IntKind.min, IntKind.max, IntKind.signed, IntKind.bits] using wm
  unfold maxLen at hs
  by_cases hA : 500 < s.size ∨ 50 < ls.length
  · by_cases hA1 : 500 < s.size
    · have h1 : (500 : Int) < s.size := by omega
      go_enter Try.func4, Try.ntmps4
      go_wp2_with fail
      refine (awake_any _).mono ?_
      rintro e w1 ⟨rfl, hB1⟩
      go_wp2_with fail
      refine (awake_any _).mono ?_
      rintro e w2 ⟨rfl, hB2⟩
      go_wp2_with fail
      go_ret
      exact ⟨rfl, hB1.trans (hB2.mono hB1.size)⟩
    · have h1 : ¬ (500 : Int) < s.size := by omega
      have h2 : (50 : Int) < ls.length := by omega
      go_enter Try.func4, Try.ntmps4
      go_wp2_with fail
      refine (awake_any _).mono ?_
      rintro e w1 ⟨rfl, hB1⟩
      go_wp2_with fail
      refine (awake_any _).mono ?_
      rintro e w2 ⟨rfl, hB2⟩
      go_wp2_with fail
      go_ret
      exact ⟨rfl, hB1.trans (hB2.mono hB1.size)⟩
  · have h1 : ¬ (500 : Int) < s.size := by omega
    have h2 : ¬ (50 : Int) < ls.length := by omega
    have hs5 : s.size ≤ 500 := by omega
    have hl5 : ls.length ≤ 50 := by omega
    obtain ⟨tl, htl⟩ : ∃ tl, tl = ls.flatten.length := ⟨_, rfl⟩
    have HT := Lib.hid htl
    have HTT := Lib.hid ht
    clear hA hs htl ht
    go_enter Try.func4, Try.ntmps4
    go_wp2_with fail
    refine (awake_any _).mono ?_
    rintro e w1 ⟨rfl, hB1⟩
    have hr1 := rdall_below hr hB1 (Nat.le_refl _)
    go_wp2_with fail
    refine (rjoin_any hr1 hB1.size (by omega) (by have := HTT.out; omega)).mono ?_
    rintro e w2 ⟨v2, rfl, hown2, hb2⟩
    have hB2 := hB1.trans (hb2.mono hB1.size)
    obtain ⟨o2, c2, rfl, _, _⟩ := (Rd.of_own hown2).form
    rw [← HT.out]
    have htm : tl ≤ 2097152 := by have h1 := HTT.out; have h2 := HT.out; unfold total at h1; omega
    clear hown2 hb2
    by_cases h5 : 5000 < tl
    · have h5' : (5000 : Int) < tl := by omega
      go_wp2_with fail
      refine (awake_any _).mono ?_
      rintro e w3 ⟨rfl, hB3⟩
      go_wp2_with fail
      go_ret
      exact ⟨rfl, hB2.trans (hB3.mono hB2.size)⟩
    · have h5' : ¬ (5000 : Int) < tl := by omega
      go_wp2_with fail
      refine (text_any s (by omega) _).mono ?_
      rintro e w3 ⟨v3, rfl, hown3, hb3⟩
      have hB3 := hB2.trans (hb3.mono hB2.size)
      have hr3 := Rd.of_own hown3
      have HS5 := Lib.hid hs5
      have hsz : s.data.toList.length = s.size := by rw [Array.length_toList]; rfl
      have HSZ := Lib.hid hsz
      have HM := Lib.hid hm
      have hlim : s.size < lim64 := by unfold lim64; omega
      have HLIM := Lib.hid hlim
      obtain ⟨l, hl⟩ : ∃ l, l = put s.size ++ s.data.toList := ⟨_, rfl⟩
      rw [← hl] at hr3
      have hll : l.length ≤ 1000 := by rw [hl, List.length_append, hsz]; have := put_len10 hlim; omega
      obtain ⟨k, hk⟩ : ∃ k, k = (put s.size).length := ⟨_, rfl⟩
      have hnum : num l = (s.size, k, 0) := by rw [hl, hk]; exact num_put hlim _
      have hkn : k + s.size = l.length := by rw [hl, hk, List.length_append, hsz]
      have hk0 : 0 < k := by rw [hk]; exact put_pos _
      have hdrop : l.drop k = s.data.toList := by rw [hl, hk]; exact List.drop_left
      have HNUM := Lib.hid hnum
      have HKN := Lib.hid hkn
      have HK0 := Lib.hid hk0
      have HD := Lib.hid hdrop
      have HLL := Lib.hid hll
      have HL := Lib.hid hl
      clear hown3 hb3 hsz hm hlim hl hll hk hnum hkn hk0 hdrop wm h5 hB1 hB2 hr1
      obtain ⟨o3, c3, rfl, _, _⟩ := hr3.form
      obtain ⟨good, hgood⟩ : ∃ good, good = decide (¬ (most < 0 ∨ most < s.size)) := ⟨_, rfl⟩
      have HG := Lib.hid hgood
      clear hgood
      go_wp2_with fail
      refine (new_any hr3 (Nat.le_refl _) (by have := HLL.out; omega)).mono ?_
      rintro e w4 ⟨c, rfl, hc, hcur, hb4⟩
      have hB4 := hB3.trans (hb4.mono hB3.size)
      have hc' : w3.heap.size ≤ c := hc
      go_wp2_with fail
      refine (ctext_any hcur HLL.out HNUM.out HKN.out HK0.out most HM.out good HG.out).mono ?_
      rintro e w5 ⟨rfl, hg5⟩
      have hb5 := below_ofGrown (B := w3.heap.size) hg5 hb4.size hc'
      have hb35 := hb4.trans hb5
      have hB5 := hB3.trans (hb35.mono hB3.size)
      have hr5 := hr3.below hb35 (Nat.le_refl _)
      clear hB4 hb4 hcur hg5 hb5 hr3 hc
      rw [HD.out]
      obtain ⟨S, hS⟩ : ∃ S, S = str (partOf good s.data.toList) := ⟨_, rfl⟩
      rw [← hS]
      have HS := Lib.hid hS
      clear hS
      go_wp2_with fail
      refine (rtext_any s (by have := HS5.out; omega) _).mono ?_
      rintro e w6 ⟨v6, rfl, hown6, hb6⟩
      have hB6 := hB5.trans (hb6.mono hB5.size)
      have hr6 := Rd.of_own hown6
      have hr56 := hr5.below hb6 hb35.size
      have hsz56 : w3.heap.size ≤ w6.heap.size := Nat.le_trans hb35.size hb6.size
      rw [← HL.out] at hr6
      clear hown6 hb6 hr5 hB5
      go_wp2_with fail
      refine (rread_any hr6 HLL.out HNUM.out HKN.out HK0.out most HM.out good HG.out).mono ?_
      rintro e w7 ⟨rfl, rfl⟩
      rw [HD.out, ← HS.out]
      go_wp2_with fail
      refine (rtext_any s (by have := HS5.out; omega) _).mono ?_
      rintro e w8 ⟨v8, rfl, hown8, hb8⟩
      have hB8 := hB6.trans (hb8.mono hB6.size)
      have hr8 := Rd.of_own hown8
      have hr58 := hr56.below hb8 hsz56
      rw [← HL.out] at hr8
      go_wp2_with fail
      refine (same_any hr58 hr8).mono ?_
      rintro e w9 ⟨rfl, n9, rfl⟩
      rw [show eqB l l = true from by unfold eqB; simp]
      have hB9 := below_drewN hB8 n9
      clear hB8 hr58 hr8 hb8 hown8 hr56 hr6 hb35 hB6
      go_wp2_with fail
      refine (coded_any (codeOf good) _).mono ?_
      rintro e w10 ⟨rfl, rfl⟩
      obtain ⟨W, hW⟩ : ∃ W, W = w8.drewN n9 := ⟨_, rfl⟩
      rw [← hW] at hB9 ⊢
      clear hW
      have hrW := rdall_below hr hB9 (Nat.le_refl _)
      go_wp2_with fail
      refine (join_any hrW hB9.size (by omega) (by have := HTT.out; omega)).mono ?_
      rintro e w11 ⟨v11, rfl, hown11, hb11⟩
      have hB11 := hB9.trans (hb11.mono hB9.size)
      have hr11 := Rd.of_own hown11
      have hrW2 := rdall_below hr hB11 (Nat.le_refl _)
      clear hown11
      go_wp2_with fail
      refine (rjoin_any hrW2 hB11.size (by omega) (by have := HTT.out; omega)).mono ?_
      rintro e w12 ⟨v12, rfl, hown12, hb12⟩
      have hB12 := hB11.trans (hb12.mono hB11.size)
      have hr12 := Rd.of_own hown12
      have hr112 := hr11.below hb12 (Nat.le_refl _)
      clear hown12
      go_wp2_with fail
      refine (same_any hr112 hr12).mono ?_
      rintro e w13 ⟨rfl, n13, rfl⟩
      rw [show eqB ls.flatten ls.flatten = true from by unfold eqB; simp]
      have hB13 := below_drewN hB12 n13
      go_wp2_with fail
      go_ret
      exact ⟨rfl, hB13⟩

theorem own : ownKnob Try.prog.godebug = none := by kernel_rfl
theorem laidOut : laidOutB Try.prog = true := by kernel_rfl

set_option maxRecDepth 100000 in
theorem contract (H : Type) (enc : TypeId × Value → H) (W : World) (base : Nat) (args : Array Value) (ds gs : List (DataW H)) (before : List MemPlace)
    (hval : ∀ (j : Nat) t v, Try.f4.params[j]? = some t → args[j]? = some v → Value.okWide Try.prog W .any base t v)
    (hW : DataW.Whole enc Try.prog Try.f4.params.toList Rows.wireTextsSpec.vars false W args.toList ds gs before) (hk : Rows.uptoSmall H (ds ++ gs) = true) :
    Calls Try.prog 4 args W fun e W' => ∃ v, e = .returned v ∧ Rows.wireTextsSpec.post enc Try.prog Try.f4 false true false false W args v W' := by
  have hW' := hW
  obtain ⟨p, q, hA0, hV, rfl, hfz, hnd⟩ := hW
  have hA : DataW.TrodAll enc Try.prog W 0 (fun _ => true) true Try.f4.params.toList args.toList ds p := hA0
  rw [Try.params4] at hA hval
  obtain ⟨v0, vs0, d0, ds0, p0, q0, hargs, rfl, rfl, h0, r0⟩ := trodAll_cons hA
  obtain ⟨v1, vs1, d1, ds1, p1, q1, rfl, rfl, rfl, h1, r1⟩ := trodAll_cons r0
  obtain ⟨v2, vs2, d2, ds2, p2, q2, rfl, rfl, rfl, h2, r2⟩ := trodAll_cons r1
  obtain ⟨rfl, rfl, rfl⟩ := trodAll_nil r2
  obtain rfl : args = #[v0, v1, v2] := by cases args; simp_all
  obtain ⟨rfl, rfl⟩ := trodVars_none hV
  obtain ⟨a0, rfl, rfl, rfl, w0⟩ := open_string Try.underlying9 (hval 0 9 v0 rfl rfl) h0
  obtain ⟨a1, rfl, rfl, rfl, w1⟩ := open_int Try.underlying3 (hval 1 3 v1 rfl rfl) h1
  obtain ⟨a2, len2, cap2, rfl⟩ := okWide_slice Try.underlying35 (hval 2 35 v2 rfl rfl)
  have k2 := h2
  have lt2 : ∀ x ∈ p2, x.block < W.heap.size := by obtain ⟨m, hm⟩ := k2; exact DataW.trod_lt m _ _ _ hm
  obtain ⟨ls2, rfl, r2', t2⟩ : ∃ ls, ls.length = len2 ∧ RdAll W.heap.size W a2 ls ∧ total ls + ls.length ≤ 2097152 := by
    obtain ⟨fuel, hf⟩ := h2
    obtain ⟨ls, h1, h2, h3⟩ := rdall_open hf
    have hp := Nat.le_trans (bulk_part (d := d2) (by simp)) (bulk_bound hk)
    exact ⟨ls, h1, h2, by omega⟩
  clear hA0
  refine (walk a0 a1 a2 cap2 ls2 W w0 w1 r2' t2).mono fun e W' ⟨he, bel⟩ => ?_
  subst he
  exact ⟨_, rfl, _, _, _, [], _, [], hW', trodAll_mk1 (shut_bool Try.underlying4 _), (trodAll_cons_mk (shut_string Try.underlying9 w0) (trodAll_cons_mk (shut_int Try.underlying3 w1) (trodAll_cons_mk (Below.trod laidOut (by kernel_rfl) (of_decide_eq_true (by kernel_rfl)) k2 bel lt2) trodAll_mk0))), rfl, bel.frame _, fun h => by cases h⟩

set_option maxRecDepth 100000 in
theorem lifted (os : Os) (started : os.Started) (H : Type) (enc : TypeId × Value → H) (F : Stop.Interp) :
    ReturnsInHanded {} Try.checked os 4 .any ((Rows.OpenSpec.upto Rows.wireTextsSpec).pre6 enc Try.prog Try.f4 Rows.wireTextsUptoRow.domain false) (((Rows.OpenSpec.upto Rows.wireTextsSpec).at F).post enc Try.prog Try.f4 false true false false) := by
  refine returnsInHanded_of_cond (C := Try.checked) (s := Rows.OpenSpec.upto Rows.wireTextsSpec) (k := Rows.uptoSmall) rfl own started (by kernel_rfl) Try.func4
    (OpenSpec.witness (enc := enc) (C := Try.checked) (s := Rows.OpenSpec.upto Rows.wireTextsSpec) (k := Rows.uptoSmall) rfl false ⟨#[], #[.string ByteArray.empty, .int .i64 0, .slice none 0 0], []⟩ 8 (by kernel_rfl) (by kernel_rfl) (by kernel_rfl)
      (x := ([.lit (.string []), .lit (.int .i64 0), .nil], [], [])) (by kernel_rfl) rfl (by kernel_rfl)) ?_
  intro W base args ds gs before hval hW _ hk _
  exact contract H enc W base args ds gs before hval hW hk

theorem over : Rows.wireTextsUptoRow.holds Try.pinned (Rows.OpenSpec.upto Rows.wireTextsSpec) :=
  OpenClaim.holds_of_cond 4 Try.f4 rfl rfl rfl rfl rfl rfl rfl ⟨rfl, rfl, rfl, rfl, rfl⟩ rfl rfl rfl rfl rfl (by kernel_rfl) Try.func4 (by kernel_rfl)
    (of_decide_eq_true (by kernel_rfl)) (by unfold Func.isWrapper; first | (rw [if_pos (by decide +kernel)]; kernel_rfl) | (rw [if_neg (by decide +kernel)]; exact ⟨rfl, rfl⟩))
    (fun os started H enc _ F => lifted os started H enc F)

/-- THE STATEMENT -/
theorem proved : Rows.WireTextsUptoSaid := over
end Go.Proofs.Ytpkndgjkopfpkaa.wireTexts
