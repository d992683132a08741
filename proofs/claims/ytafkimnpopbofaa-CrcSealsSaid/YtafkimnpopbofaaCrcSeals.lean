/-
  The statement CrcSealsSaid: for all bytes the law CrcSeals returns true and changes nothing.
-/
import Derived.Test.YtafkimnpopbofaaCrcSpec
import Derived.ShutString
import Derived.ChangeOld
namespace Go.Proofs.Ytafkimnpopbofaa.crcSeals
open Go.ChangeShapes Go.WideShapes Go.ChangeAt Go.RowKit
set_option linter.unusedVariables false

set_option maxRecDepth 100000 in
set_option maxHeartbeats 2000000 in
theorem walk (v0 : Value) (lb : List UInt8) (v1 : Value) (ls : List UInt8) (w : World) (h0 : Rd w.heap.size w v0 lb) (h1 : Rd w.heap.size w v1 ls) :
    Calls Try.prog 4 #[v0, v1] w fun e w' => e = .returned (.bool true) ∧ Below w.heap.size w w' := by
  obtain ⟨o0, c0, rfl, m0, _⟩ := h0.form
  obtain ⟨o1, c1, rfl, m1, f1⟩ := h1.form
  unfold maxLen at m0 m1
  by_cases hbig : 2000 < lb.length ∨ 2000 < ls.length
  · rcases hbig with hb | hb
    · have h1' : (2000 : Int) < lb.length := by omega
      go_enter Try.func4, Try.ntmps4
      go_wp2_with fail
      refine (cawake_any _).mono ?_
      rintro e w1 ⟨rfl, B1⟩
      go_wp2_with fail
      refine (cawake_any _).mono ?_
      rintro e w2 ⟨rfl, B2⟩
      go_wp2_with fail
      go_ret
      exact ⟨rfl, B1.trans (B2.mono B1.size)⟩
    · by_cases hb0 : 2000 < lb.length
      · have h1' : (2000 : Int) < lb.length := by omega
        go_enter Try.func4, Try.ntmps4
        go_wp2_with fail
        refine (cawake_any _).mono ?_
        rintro e w1 ⟨rfl, B1⟩
        go_wp2_with fail
        refine (cawake_any _).mono ?_
        rintro e w2 ⟨rfl, B2⟩
        go_wp2_with fail
        go_ret
        exact ⟨rfl, B1.trans (B2.mono B1.size)⟩
      · have h1' : (2000 : Int) < ls.length := by omega
        have h0' : ¬ (2000 : Int) < lb.length := by omega
        go_enter Try.func4, Try.ntmps4
        go_wp2_with fail
        refine (cawake_any _).mono ?_
        rintro e w1 ⟨rfl, B1⟩
        go_wp2_with fail
        refine (cawake_any _).mono ?_
        rintro e w2 ⟨rfl, B2⟩
        go_wp2_with fail
        go_ret
        exact ⟨rfl, B1.trans (B2.mono B1.size)⟩
  · have h0' : ¬ (2000 : Int) < lb.length := by omega
    have h1' : ¬ (2000 : Int) < ls.length := by omega
    have l0 : lb.length ≤ 2000 := by omega
    have l1 : ls.length ≤ 2000 := by omega
    clear hbig
    go_enter Try.func4, Try.ntmps4
    go_wp2_with fail
    refine (cawake_any _).mono ?_
    rintro e w1 ⟨rfl, B1⟩
    have p0 := h0.below B1 (Nat.le_refl _)
    have p1 := h1.below B1 (Nat.le_refl _)
    go_wp2_with fail
    refine (cseal_any p0 B1.size (by omega)).mono ?_
    rintro e w2 ⟨vx, rfl, ox, b2⟩
    have B2 := B1.trans (b2.mono B1.size)
    have q0 := p0.below b2 B1.size
    have q1 := p1.below b2 B1.size
    have rx := Rd.of_own ox
    have HSL : Hid ((sealed lb).length = lb.length + 4) := by show (sealed lb).length = _; simp [sealed, le4]
    obtain ⟨ax, cx, rfl, _, _⟩ := rx.form
    clear ox b2 p0 p1 B1
    go_wp2_with fail
    refine (open_spec rx (Nat.le_refl _) (by rw [HSL.out]; omega)).mono ?_
    rintro e w3 ⟨vp, rfl, op, b3⟩
    rw [isSealed_sealed]
    rw [inside_sealed] at op
    have B3 := B2.trans (b3.mono B2.size)
    have q0 := q0.below b3 B2.size
    have q1 := q1.below b3 B2.size
    have rx := rx.below b3 (Nat.le_refl _)
    have z23 := b3.size
    obtain ⟨ap, cp, rfl, _, _⟩ := (Rd.of_own op).form
    clear b3 
    go_wp2_with fail
    obtain ⟨sb, hsb⟩ : ∃ sb, sb = isSealed ls := ⟨_, rfl⟩
    obtain ⟨iq, hiq⟩ : ∃ iq, iq = inside ls := ⟨_, rfl⟩
    refine (open_spec q1 B3.size (by omega)).mono ?_
    rintro e w4 ⟨vq, rfl, oq, b4⟩
    rw [← hsb]
    rw [← hiq] at oq
    have B4 := B3.trans (b4.mono B3.size)
    have q0 := q0.below b4 B3.size
    have q1 := q1.below b4 B3.size
    have rx := rx.below b4 z23
    have z24 : w2.heap.size ≤ w4.heap.size := Nat.le_trans z23 b4.size
    have op := own_below op b4
    have rq := Rd.of_own oq
    obtain ⟨aq, cq, rfl, _, _⟩ := rq.form
    have HSB := Lib.hid hsb
    have HIQ := Lib.hid hiq
    clear b4 oq hsb hiq z23 B3
    go_wp2_with fail
    refine (rseal_any q0 B4.size (by omega)).mono ?_
    rintro e w5 ⟨vr, rfl, or, b5⟩
    have B5 := B4.trans (b5.mono B4.size)
    have q0 := q0.below b5 B4.size
    have q1 := q1.below b5 B4.size
    have rx := rx.below b5 z24
    have rq := rq.below b5 (Nat.le_refl _)
    have z25 : w2.heap.size ≤ w5.heap.size := Nat.le_trans z24 b5.size
    have op := own_below op b5
    have rr := Rd.of_own or
    clear b5 or B4 z24
    go_wp2_with fail
    refine (same_t rx rr).mono ?_
    rintro e w6 ⟨rfl, n6, rfl⟩
    have op : (w5.drewN n6).ownsRow w2.heap.size 5 1 (.slice ap lb.length cp) lb.length (bvs lb) := op
    have B5 := below_drewN B5 n6
    have q0 := q0.below (below_drewN (Below.refl w5.heap.size w5) n6) B5.size
    have q1 := q1.below (below_drewN (Below.refl w5.heap.size w5) n6) B5.size
    have rx := rx.below (below_drewN (Below.refl w5.heap.size w5) n6) z25
    have rq : Rd w4.heap.size (w5.drewN n6) _ _ := rq
    clear rr
    obtain ⟨w6, hw6⟩ : ∃ w6, w6 = w5.drewN n6 := ⟨_, rfl⟩
    have z6 : w5.heap.size = w6.heap.size := by rw [hw6]; rfl
    rw [z6] at z25
    rw [← hw6] at B5 q0 q1 rx rq op ⊢
    clear hw6 z6
    go_wp2_with fail
    refine (same_t (Rd.of_own op) q0).mono ?_
    rintro e w7 ⟨rfl, n7, rfl⟩
    have op : (w6.drewN n7).ownsRow w2.heap.size 5 1 (.slice ap lb.length cp) lb.length (bvs lb) := op
    have B5 := below_drewN B5 n7
    have q0 : Rd w.heap.size (w6.drewN n7) _ _ := q0
    have q1 : Rd w.heap.size (w6.drewN n7) _ _ := q1
    have rx : Rd w2.heap.size (w6.drewN n7) _ _ := rx
    have rq : Rd w4.heap.size (w6.drewN n7) _ _ := rq
    obtain ⟨w7, hw7⟩ : ∃ w7, w7 = w6.drewN n7 := ⟨_, rfl⟩
    have z7 : w6.heap.size = w7.heap.size := by rw [hw7]; rfl
    rw [z7] at z25
    rw [← hw7] at B5 q0 q1 rx rq op ⊢
    clear hw7 z7
    go_wp2_with fail
    refine (rsealed_spec q1 (by omega)).mono ?_
    rintro e w8 ⟨rfl, rfl⟩
    rw [← HSB.out]
    cases sb
    · have hin : iq = [] := by rw [HIQ.out]; unfold inside; rw [← HSB.out]; rfl
      subst hin
      have HX := Lib.hid (show Rd w2.heap.size w7 _ _ ∧ Rd w.heap.size w7 _ _ ∧ Below w.heap.size w w7 from ⟨rx, q0, B5⟩)
      have HOP := Lib.hid op
      clear rx q0 B5 op q1 rq
      go_wp2_with fail
      go_loopw [10] (fun iv wr => ∃ (k : Nat) (m : List UInt8), k ≤ lb.length ∧ iv = .int .i64 k ∧ Hid (m.length = lb.length ∧ wr.ownsRow w2.heap.size 5 1 (.slice ap lb.length cp) lb.length (bvs m) ∧ Below w2.heap.size w7 wr)) (fun iv _ => lb.length - (intOf iv).toNat)
      case atStart => exact ⟨0, lb, by omega, rfl, rfl, HOP.out, Below.refl _ _⟩
      case round =>
        obtain ⟨k, m, hk, rfl, HM⟩ := hrel
        by_cases hlt : k < lb.length
        · obtain ⟨g, cap, hgc⟩ := Joins.ownsRow_form HM.out.2.1 (by omega)
          simp only [Value.slice.injEq, true_and] at hgc
          obtain ⟨rfl, rfl⟩ := hgc
          have hi0 : (0 : Int) ≤ k := by omega
          have hi1 : (k : Int) < lb.length := by omega
          obtain ⟨y, hy⟩ : ∃ y : UInt8, wr.cell? ⟨g, k, none⟩ = some (.int .u8 y.toNat) := ⟨_, own_at HM.out.2.1 hlt⟩
          have hz := World.ownsRow.frozenAt HM.out.2.1 k
          have HG : Hid (w2.heap.size ≤ g) := (World.ownsRow.lt HM.out.2.1 g rfl).1
          obtain ⟨z, hz8⟩ := low8 ((y.toNat : Int) + 1)
          have HZ := Lib.hid hz8
          clear hz8
          go_wp2_with fail
          go_roundw
          case rel => exact ⟨k + 1, m.set k z, by omega, by go_num, by rw [List.length_set]; exact HM.out.1, own_set HM.out.2.1 k z (by first | exact HZ.out | (rw [← HZ.out])), HM.out.2.2.setCell HG.out _⟩
          case measure => simp [intOf]; omega
        · obtain rfl : k = lb.length := by omega
          have b9 := HM.out.2.2
          obtain ⟨rx, q0, B5⟩ := HX.out
          have zB := B5.size
          have rx := rx.below b9 (Nat.le_refl _)
          have z2 : w.heap.size ≤ w2.heap.size := B2.size
          have q0 := q0.below b9 z2
          have B9 := B5.trans (b9.mono z2)
          have z29 := Nat.le_trans z25 b9.size
          clear HM HX HOP b9 B5
          go_wp2_with fail
          refine (rseal_any q0 B9.size (by omega)).mono ?_
          rintro e w9 ⟨vr, rfl, or, b10⟩
          have B10 := B9.trans (b10.mono B9.size)
          have rx := rx.below b10 z29
          have rr := Rd.of_own or
          clear or b10 q0
          go_wp2_with fail
          refine (same_t rx rr).mono ?_
          rintro e w10 ⟨rfl, n10, rfl⟩
          have B11 := below_drewN B10 n10
          go_wp2_with fail
          go_ret
          exact ⟨rfl, B11⟩
    · have h4 : 4 ≤ ls.length := (of_decide_eq_true HSB.out.symm).1
      have h4' : (4 : Int) ≤ ls.length := by omega
      obtain ⟨bs, fs, rfl, hc1, hc2, _, _⟩ := f1 (by omega)
      have hcc : (ls.length : Int) ≤ c1 := by omega
      have hin : iq = ls.take (ls.length - 4) := by rw [HIQ.out]; unfold inside; rw [if_pos HSB.out.symm]
      have qs := q1.take (k := ls.length - 4) (by omega)
      rw [← hin] at qs
      have hql : iq.length = ls.length - 4 := by rw [hin, List.length_take]; omega
      have hql' : (iq.length : Int) = ls.length - 4 := by omega
      have HQL := Lib.hid hql
      clear hin hql hql'
      go_wp2_with fail
      refine (same_t rq qs).mono ?_
      rintro e w8 ⟨rfl, n8, rfl⟩
      have op : (w7.drewN n8).ownsRow w2.heap.size 5 1 (.slice ap lb.length cp) lb.length (bvs lb) := op
      have B5 := below_drewN B5 n8
      have q0 : Rd w.heap.size (w7.drewN n8) _ _ := q0
      have rx : Rd w2.heap.size (w7.drewN n8) _ _ := rx
      have z25 : w2.heap.size ≤ (w7.drewN n8).heap.size := z25
      clear qs
      obtain ⟨w8, hw8⟩ : ∃ w8, w8 = w7.drewN n8 := ⟨_, rfl⟩
      rw [← hw8] at B5 q0 rx op z25 ⊢
      clear hw8
      have HX := Lib.hid (show Rd w2.heap.size w8 _ _ ∧ Rd w.heap.size w8 _ _ ∧ Below w.heap.size w w8 from ⟨rx, q0, B5⟩)
      have HOP := Lib.hid op
      clear rx q0 B5 op q1 rq
      go_wp2_with fail
      go_loopw [10] (fun iv wr => ∃ (k : Nat) (m : List UInt8), k ≤ lb.length ∧ iv = .int .i64 k ∧ Hid (m.length = lb.length ∧ wr.ownsRow w2.heap.size 5 1 (.slice ap lb.length cp) lb.length (bvs m) ∧ Below w2.heap.size w8 wr)) (fun iv _ => lb.length - (intOf iv).toNat)
      case atStart => exact ⟨0, lb, by omega, rfl, rfl, HOP.out, Below.refl _ _⟩
      case round =>
        obtain ⟨k, m, hk, rfl, HM⟩ := hrel
        by_cases hlt : k < lb.length
        · obtain ⟨g, cap, hgc⟩ := Joins.ownsRow_form HM.out.2.1 (by omega)
          simp only [Value.slice.injEq, true_and] at hgc
          obtain ⟨rfl, rfl⟩ := hgc
          have hi0 : (0 : Int) ≤ k := by omega
          have hi1 : (k : Int) < lb.length := by omega
          obtain ⟨y, hy⟩ : ∃ y : UInt8, wr.cell? ⟨g, k, none⟩ = some (.int .u8 y.toNat) := ⟨_, own_at HM.out.2.1 hlt⟩
          have hz := World.ownsRow.frozenAt HM.out.2.1 k
          have HG : Hid (w2.heap.size ≤ g) := (World.ownsRow.lt HM.out.2.1 g rfl).1
          obtain ⟨z, hz8⟩ := low8 ((y.toNat : Int) + 1)
          have HZ := Lib.hid hz8
          clear hz8
          go_wp2_with fail
          go_roundw
          case rel => exact ⟨k + 1, m.set k z, by omega, by go_num, by rw [List.length_set]; exact HM.out.1, own_set HM.out.2.1 k z (by first | exact HZ.out | (rw [← HZ.out])), HM.out.2.2.setCell HG.out _⟩
          case measure => simp [intOf]; omega
        · obtain rfl : k = lb.length := by omega
          have b9 := HM.out.2.2
          obtain ⟨rx, q0, B5⟩ := HX.out
          have zB := B5.size
          have rx := rx.below b9 (Nat.le_refl _)
          have z2 : w.heap.size ≤ w2.heap.size := B2.size
          have q0 := q0.below b9 z2
          have B9 := B5.trans (b9.mono z2)
          have z29 := Nat.le_trans z25 b9.size
          clear HM HX HOP b9 B5
          go_wp2_with fail
          refine (rseal_any q0 B9.size (by omega)).mono ?_
          rintro e w9 ⟨vr, rfl, or, b10⟩
          have B10 := B9.trans (b10.mono B9.size)
          have rx := rx.below b10 z29
          have rr := Rd.of_own or
          clear or b10 q0
          go_wp2_with fail
          refine (same_t rx rr).mono ?_
          rintro e w10 ⟨rfl, n10, rfl⟩
          have B11 := below_drewN B10 n10
          go_wp2_with fail
          go_ret
          exact ⟨rfl, B11⟩

theorem own : ownKnob Try.prog.godebug = none := by kernel_rfl
theorem laidOut : laidOutB Try.prog = true := by kernel_rfl

set_option maxRecDepth 100000 in
theorem lifted (os : Os) (started : os.Started) (H : Type) (enc : TypeId × Value → H) :
    ReturnsInHanded {} Try.checked os 4 .any (Rows.crcSealsSpec.pre6 enc Try.prog Try.f4 Rows.crcSealsRow.domain false) (Rows.crcSealsSpec.post enc Try.prog Try.f4 false true false false) := by
  refine returnsInHanded_of_change (C := Try.checked) own started (by kernel_rfl) Try.func4
    (ChangeSpec.witness6 (enc := enc) (C := Try.checked) false ⟨#[], #[.slice none 0 0, .slice none 0 0], []⟩ 8 (by kernel_rfl) (by kernel_rfl) (by kernel_rfl) (by kernel_rfl)) ?_
  intro W base args ds gs before hval0 hW hcnd _
  have hval : ∀ (j : Nat) t v, Try.f4.params[j]? = some t → args[j]? = some v → Value.okWide Try.prog W .any base t v := hval0
  have hW' := hW
  obtain ⟨p, q, hA0, hV, rfl, hfz, hnd⟩ := hW
  have hA : DataW.TrodAll enc Try.prog W 0 (fun _ => true) true Try.f4.params.toList args.toList ds p := hA0
  rw [Try.params4] at hA hval
  obtain ⟨v0, vs0, d0, ds0, p0, q0, hargs, rfl, rfl, h0, r0⟩ := trodAll_cons hA
  obtain ⟨v1, vs1, d1, ds1, p1, q1, rfl, rfl, rfl, h1, r1⟩ := trodAll_cons r0
  obtain ⟨rfl, rfl, rfl⟩ := trodAll_nil r1
  obtain rfl : args = #[v0, v1] := by cases args; simp_all
  obtain ⟨rfl, rfl⟩ := trodVars_none hV
  obtain ⟨a0, len0, cap0, rfl⟩ := okWide_slice Try.underlying24 (hval 0 24 v0 rfl rfl)
  have k0 := h0
  have lt0 : ∀ x ∈ p0, x.block < W.heap.size := by obtain ⟨m, hm⟩ := k0; exact DataW.trod_lt m _ _ _ hm
  obtain ⟨l0, r0'⟩ : ∃ l, Rd W.heap.size W (.slice a0 len0 cap0) l := by
    obtain ⟨fuel, hf⟩ := h0
    obtain ⟨l, _, r⟩ := rd_open hf
    exact ⟨l, r⟩
  obtain ⟨a1, len1, cap1, rfl⟩ := okWide_slice Try.underlying24 (hval 1 24 v1 rfl rfl)
  have k1 := h1
  have lt1 : ∀ x ∈ p1, x.block < W.heap.size := by obtain ⟨m, hm⟩ := k1; exact DataW.trod_lt m _ _ _ hm
  obtain ⟨l1, r1'⟩ : ∃ l, Rd W.heap.size W (.slice a1 len1 cap1) l := by
    obtain ⟨fuel, hf⟩ := h1
    obtain ⟨l, _, r⟩ := rd_open hf
    exact ⟨l, r⟩
  clear hA0 hval0
  refine (walk (.slice a0 len0 cap0) l0 (.slice a1 len1 cap1) l1 W r0' r1').mono fun e W' ⟨he, bel⟩ => ?_
  subst he
  exact ⟨_, rfl, _, _, _, [], _, [], hW', trodAll_mk1 (shut_bool Try.underlying4 _), (trodAll_cons_mk (Below.trod laidOut (by kernel_rfl) (of_decide_eq_true (by kernel_rfl)) k0 bel lt0) (trodAll_cons_mk (Below.trod laidOut (by kernel_rfl) (of_decide_eq_true (by kernel_rfl)) k1 bel lt1) trodAll_mk0)), rfl, bel.frame _, fun h => by cases h⟩

theorem over : Rows.crcSealsRow.holds Try.pinned (OpenSpec.ofChange Rows.crcSealsSpec) :=
  OpenClaim.holds_of_wide 4 Try.f4 rfl rfl rfl rfl rfl rfl rfl ⟨rfl, rfl, rfl, rfl, rfl⟩ rfl rfl rfl rfl rfl (by kernel_rfl) Try.func4 (by kernel_rfl)
    (of_decide_eq_true (by kernel_rfl)) (by unfold Func.isWrapper; first | (rw [if_pos (by decide +kernel)]; kernel_rfl) | (rw [if_neg (by decide +kernel)]; exact ⟨rfl, rfl⟩))
    (fun os started H enc _ => lifted os started H enc)

/-- THE STATEMENT -/
theorem proved : Rows.CrcSealsSaid := over
end Go.Proofs.Ytafkimnpopbofaa.crcSeals
