/-
  The statement WireNumbersSaid: whatever number and bytes are given, the law WireNumbers returns true and changes nothing; for every input, no further condition.
-/
import Derived.Test.YtpkndgjkopfpkaaAwake
import Derived.Test.YtpkndgjkopfpkaaRefPut
import Derived.OpenShut
import Derived.ShutString
import Derived.ChangeOld
namespace Go.Proofs.Ytpkndgjkopfpkaa.wireNumbers
open Go.ChangeShapes Go.WideShapes Go.ChangeAt Go.RowKit
open Go.ChangeMaps (open_string shut_string)
set_option linter.unusedVariables false

set_option maxRecDepth 100000 in
set_option maxHeartbeats 1000000 in
theorem walkN (x : Nat) (hx : x < lim64) (vm : Value) (lm : List UInt8) (w : World) (hm : Rd w.heap.size w vm lm) :
    Calls Try.prog 3 #[.int .u64 x, vm] w fun e w' => e = .returned (.bool true) ∧ Below w.heap.size w w' := by
  obtain ⟨om, cm, rfl, hml, _⟩ := hm.form
  unfold maxLen at hml
  have HX := Lib.hid hx
  clear hx
  by_cases hbig : 300 < lm.length
  · have hb' : (300 : Int) < lm.length := by omega
    go_enter Try.func3, Try.ntmps3
    go_wp2_with fail
    refine (awake_any _).mono ?_
    rintro e w1 ⟨rfl, hB1⟩
    go_wp2_with fail
    refine (awake_any _).mono ?_
    rintro e w2 ⟨rfl, hB2⟩
    go_wp2_with fail
    go_ret
    exact ⟨rfl, hB1.trans (hB2.mono hB1.size)⟩
  · have hb' : ¬ (300 : Int) < lm.length := by omega
    go_enter Try.func3, Try.ntmps3
    go_wp2_with fail
    refine (awake_any _).mono ?_
    rintro e w1 ⟨rfl, hB1⟩
    go_wp2_with fail
    refine (wput x HX.out _).mono ?_
    rintro e w2 ⟨vb, rfl, hown2, hb2⟩
    have hB2 := hB1.trans (hb2.mono hB1.size)
    have hr2 := Rd.of_own hown2
    clear hown2
    go_wp2_with fail
    refine (rput x HX.out _).mono ?_
    rintro e w3 ⟨vr, rfl, hown3, hb3⟩
    have hB3 := hB2.trans (hb3.mono hB2.size)
    have hr3 := Rd.of_own hown3
    have hr3b := hr2.below hb3 (Nat.le_refl _)
    have hsz3 := hb3.size
    clear hown3
    go_wp2_with fail
    refine (same_any hr3b hr3).mono ?_
    rintro e w4 ⟨rfl, n4, rfl⟩
    rw [show eqB (put x) (put x) = true from by unfold eqB; simp]
    have hB4 := below_drewN hB3 n4
    obtain ⟨p, hp⟩ : ∃ p, p = put x := ⟨_, rfl⟩
    have hp10 : p.length ≤ 10 := by rw [hp]; exact put_len10 HX.out
    have hp1 : 1 ≤ p.length := by rw [hp]; exact put_pos x
    rw [← hp] at hr3b
    have HPX := Lib.hid hp
    clear hp hr2 hr3 hb2 hb3 hB1 hB2 hB3
    obtain ⟨W4, hW4⟩ : ∃ W4, W4 = w3.drewN n4 := ⟨_, rfl⟩
    have hr4 : Rd w2.heap.size W4 vb p := by rw [hW4]; exact hr3b.below (below_drewN (Below.refl w2.heap.size w3) n4) (Nat.le_refl _)
    have hsz4 : w2.heap.size ≤ W4.heap.size := by rw [hW4]; exact hsz3
    rw [← hW4] at hB4 ⊢
    clear hr3b hW4 hsz3
    obtain ⟨ob, cb, rfl, _, _⟩ := hr4.form
    have hown0 : (W4.alloc (.cells #[] 5)).ownsRow W4.heap.size 5 1 (.slice (some ⟨W4.heap.size, 0, none⟩) 0 0) ([] : List UInt8).length (bvs []) := World.ownsRow_made W4 #[] 0 (Nat.le_refl _) (by decide) rfl
    have hbx : Below W4.heap.size W4 (W4.alloc (.cells #[] 5)) := (Below.refl _ _).alloc (Nat.le_refl _) _
    have hrx := hr4.below hbx hsz4
    have hm4 := hm.below hB4 (Nat.le_refl _)
    go_wp2_with (at_builtin; refine app_bytes rfl (.tmp 26) (.tmp 27) rfl rfl hown0 rfl hrx ?c1 ?c2 ?_)
    case c1 => simp; omega
    case c2 => simp
    intro v5 w5 hown5 hg5
    have hb5 : Below W4.heap.size W4 w5 := below_grown hbx hbx.size (Nat.le_refl _) hown0 hg5
    have hm5 := hm4.below hb5 hB4.size
    clear hown0 hbx hrx hg5
    go_wp2_with (at_builtin; refine app_bytes rfl (.tmp 28) (.tmp 29) rfl rfl hown5 rfl hm5 ?c1 ?c2 ?_)
    case c1 => omega
    case c2 => exact hb5.size
    intro v6 w6 hown6 hg6
    have hb6 : Below W4.heap.size W4 w6 := below_grown hb5 hb5.size (Nat.le_refl _) hown5 hg6
    have hr6 := Rd.of_own hown6
    clear hown5 hg6 hb5 hown6 hm5
    go_wp2_with fail
    refine (new_any hr6 (Nat.le_refl _) (by simp; omega)).mono ?_
    rintro e w7 ⟨c, rfl, hc, hcur, hb7⟩
    have hb7' : Below W4.heap.size W4 w7 := hb6.trans (hb7.mono hb6.size)
    have hc' : W4.heap.size ≤ c := Nat.le_trans hb6.size hc
    clear hb7 hb6 hr6 hc
    go_wp2_with fail
    refine (Number_at hcur (x := x) (s := p.length) (k := 0) (v := .nilIface) (by show num (p ++ lm) = _; rw [HPX.out]; exact num_put HX.out lm) rfl).mono ?_
    rintro e w8 ⟨rfl, hcur8, hg8⟩
    have hb8 := hb7'.trans (below_ofGrown hg8 hb7'.size hc')
    have hr8 := hr4.below hb8 hsz4
    have hB8 := hB4.trans (hb8.mono hB4.size)
    clear hg8 hb7' hcur hcur8 hc'
    go_wp2_with fail
    have hr9 := hr8.take (k := p.length - 1) (by omega)
    refine (new_any hr9 (Nat.le_trans hsz4 hb8.size) (by rw [List.length_take]; omega)).mono ?_
    rintro e w9 ⟨c2, rfl, hc2, hcur2, hb9⟩
    have hB9 := hB8.trans (hb9.mono hB8.size)
    have hc2' : w.heap.size ≤ c2 := Nat.le_trans hB8.size hc2
    clear hb9 hr9 hr8 hb8 hr4
    go_wp2_with fail
    refine (Number_at hcur2 (x := 0) (s := 0) (k := 1) (v := .iface 33 (.int .i64 1)) (by show num (p.take (p.length - 1)) = _; rw [HPX.out]; exact num_short HX.out (by rw [← HPX.out]; omega)) rfl).mono ?_
    rintro e w10 ⟨rfl, hcur10, hg10⟩
    have hB10 := hB9.trans (below_ofGrown hg10 hB9.size hc2')
    have heq := eq_code
    have hxx : ((x : Int) == x) = true := by simp
    clear hcur2 hcur10 hg10
    go_wp2_with fail
    go_ret
    exact ⟨rfl, hB10⟩

theorem walk (a0 : Int) (v1 : Value) (l1 : List UInt8) (w : World) (w0 : (Lit.int .u64 a0).wf = true) (r1 : Rd w.heap.size w v1 l1) :
    Calls Try.prog 3 #[.int .u64 a0, v1] w fun e w' => e = .returned (.bool true) ∧ Below w.heap.size w w' := by
  obtain ⟨x, rfl, hx⟩ := u64_nat w0
  exact walkN x hx v1 l1 w r1

theorem own : ownKnob Try.prog.godebug = none := by kernel_rfl
theorem laidOut : laidOutB Try.prog = true := by kernel_rfl

set_option maxRecDepth 100000 in
theorem lifted (os : Os) (started : os.Started) (H : Type) (enc : TypeId × Value → H) :
    ReturnsInHanded {} Try.checked os 3 .any (Rows.wireNumbersSpec.pre6 enc Try.prog Try.f3 Rows.wireNumbersRow.domain false) (Rows.wireNumbersSpec.post enc Try.prog Try.f3 false true false false) := by
  refine returnsInHanded_of_change (C := Try.checked) own started (by kernel_rfl) Try.func3
    (ChangeSpec.witness6 (enc := enc) (C := Try.checked) false ⟨#[], #[.int .u64 0, .slice none 0 0], []⟩ 8 (by kernel_rfl) (by kernel_rfl) (by kernel_rfl) (by kernel_rfl)) ?_
  intro W base args ds gs before hval0 hW hcnd _
  have hval : ∀ (j : Nat) t v, Try.f3.params[j]? = some t → args[j]? = some v → Value.okWide Try.prog W .any base t v := hval0
  have hW' := hW
  obtain ⟨p, q, hA0, hV, rfl, hfz, hnd⟩ := hW
  have hA : DataW.TrodAll enc Try.prog W 0 (fun _ => true) true Try.f3.params.toList args.toList ds p := hA0
  rw [Try.params3] at hA hval
  obtain ⟨v0, vs0, d0, ds0, p0, q0, hargs, rfl, rfl, h0, r0⟩ := trodAll_cons hA
  obtain ⟨v1, vs1, d1, ds1, p1, q1, rfl, rfl, rfl, h1, r1⟩ := trodAll_cons r0
  obtain ⟨rfl, rfl, rfl⟩ := trodAll_nil r1
  obtain rfl : args = #[v0, v1] := by cases args; simp_all
  obtain ⟨rfl, rfl⟩ := trodVars_none hV
  obtain ⟨a0, rfl, rfl, rfl, w0⟩ := open_int Try.underlying22 (hval 0 22 v0 rfl rfl) h0
  obtain ⟨a1, len1, cap1, rfl⟩ := okWide_slice Try.underlying23 (hval 1 23 v1 rfl rfl)
  have k1 := h1
  have lt1 : ∀ x ∈ p1, x.block < W.heap.size := by obtain ⟨m, hm⟩ := k1; exact DataW.trod_lt m _ _ _ hm
  obtain ⟨l1, r1'⟩ : ∃ l, Rd W.heap.size W (.slice a1 len1 cap1) l := by
    obtain ⟨fuel, hf⟩ := h1
    obtain ⟨l, _, r⟩ := rd_open hf
    exact ⟨l, r⟩
  clear hA0 hval0
  refine (walk a0 (.slice a1 len1 cap1) l1 W w0 r1').mono fun e W' ⟨he, bel⟩ => ?_
  subst he
  exact ⟨_, rfl, _, _, _, [], _, [], hW', trodAll_mk1 (shut_bool Try.underlying4 _), (trodAll_cons_mk (shut_int Try.underlying22 w0) (trodAll_cons_mk (Below.trod laidOut (by kernel_rfl) (of_decide_eq_true (by kernel_rfl)) k1 bel lt1) trodAll_mk0)), rfl, bel.frame _, fun h => by cases h⟩

theorem over : Rows.wireNumbersRow.holds Try.pinned (OpenSpec.ofChange Rows.wireNumbersSpec) :=
  OpenClaim.holds_of_wide 3 Try.f3 rfl rfl rfl rfl rfl rfl rfl ⟨rfl, rfl, rfl, rfl, rfl⟩ rfl rfl rfl rfl rfl (by kernel_rfl) Try.func3 (by kernel_rfl)
    (of_decide_eq_true (by kernel_rfl)) (by unfold Func.isWrapper; first | (rw [if_pos (by decide +kernel)]; kernel_rfl) | (rw [if_neg (by decide +kernel)]; exact ⟨rfl, rfl⟩))
    (fun os started H enc _ => lifted os started H enc)

/-- THE STATEMENT -/
theorem proved : Rows.WireNumbersSaid := over
end Go.Proofs.Ytpkndgjkopfpkaa.wireNumbers
