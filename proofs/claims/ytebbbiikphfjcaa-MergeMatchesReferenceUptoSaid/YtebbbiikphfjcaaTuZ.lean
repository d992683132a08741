/-
  The reference's Few and Same at slices of tuples.
-/
import Derived.Test.YtebbbiikphfjcaaTuT
import Derived.Test.YtebbbiikphfjcaaTuL
import Derived.Test.YtebbbiikphfjcaaTuOs
import Derived.RegionTactic
import Derived.BigRegion
namespace Go.Proofs.Ytebbbiikphfjcaa
open Go.ChangeShapes Go.WideShapes Go.ChangeAt Go.RowKit
set_option linter.unusedVariables false

theorem TuSl.below {w w' : World} {sv : Value} {l : List Tu} (h : TuSl w sv l) (hb : Below w.heap.size w w') : TuSl w' sv l := by
  rcases h with ⟨h1, h2⟩ | ⟨b, off, c, h1, h2, h3, h4⟩
  · exact .inl ⟨h1, h2⟩
  · refine .inr ⟨b, off, c, h1, h2, Nat.lt_of_lt_of_le h3 hb.size, fun j v hv => ?_⟩
    have := h4 j v hv
    unfold World.cell? at this ⊢
    rw [hb.block b h3]
    exact this
theorem TuSl.form {w : World} {sv : Value} {l : List Tu} (h : TuSl w sv l) : ∃ p c, sv = .slice p l.length c ∧ ∀ i, (hi : i < l.length) → ∃ b off, p = some ⟨b, off, none⟩ ∧ b < w.heap.size ∧ w.rangeAt b (off + i * 6) (tc l[i]) := by
  rcases h with ⟨h1, h2⟩ | ⟨b, off, c, h1, h2, h3, h4⟩
  · subst h1 h2
    exact ⟨none, 0, rfl, fun i hi => absurd hi (by simp)⟩
  · exact ⟨_, _, h1, fun i hi => ⟨b, off, rfl, h3, flat_row h4 hi⟩⟩
def fewT (l : List Tu) : Bool := l.all shortT && decide (l.length ≤ 60)
theorem TuSl.rd {w : World} {sv : Value} {l : List Tu} (h : TuSl w sv l) : TuRd w sv l := by
  rcases h with h | ⟨b, off, c, h1, h2, h3, h4⟩
  · exact .inl h
  · exact .inr ⟨⟨b, off, none⟩, c, h1, h2, fun _ => ⟨b, off, rfl, h3, h4⟩⟩
set_option maxRecDepth 100000 in
set_option maxHeartbeats 2000000 in
theorem few_any {w : World} {sv : Value} {l : List Tu} (h : TuRd w sv l) (hz : ∀ t ∈ l, sizesT t 140737488355328) (hl : l.length ≤ 140737488355328) :
    Calls Try.prog 9 #[sv] w fun e w' => e = .returned (.bool (fewT l)) ∧ Below w.heap.size w w' := by
  have HS := Lib.hid h
  have HZ := Lib.hid hz
  obtain ⟨p, c, rfl, _⟩ := h.form tc_length (by decide)
  clear h hz
  go_enter Try.func9, Try.ntmps9
  go_wp2_with fail
  go_loopg [3] l.length (fun g s3 wr => ∃ k : Nat, k ≤ l.length ∧ l.length - k ≤ g ∧ s3 = .int .i64 k ∧ Below w.heap.size w wr ∧ ∀ j, (hj : j < l.length) → j < k → shortT l[j] = true)
  case atStart => exact ⟨0, by omega, by omega, rfl, Below.refl _ _, fun j _ hj => absurd hj (by omega)⟩
  case round =>
    obtain ⟨k, hk, hg, rfl, hb, hall⟩ := hrel
    have HB := Lib.hid hb
    have HA := Lib.hid hall
    clear hb hall
    by_cases hlt : k < l.length
    · obtain ⟨p', c', he, hrow⟩ := (HS.out.below HB.out).form tc_length (by decide)
      obtain ⟨b, off, hp, _, hr⟩ := hrow k hlt
      obtain rfl : p = some ⟨b, off, none⟩ := by simp only [Value.slice.injEq] at he; rw [he.1, hp]
      have HR := Lib.hid hr
      have HQ := Lib.hid (short_any l[k] (HZ.out _ (List.getElem_mem hlt)) wr)
      clear he hrow hp hr
      obtain ⟨t, ht⟩ : ∃ t, t = l[k] := ⟨_, rfl⟩
      rw [← ht] at HR HQ
      have HT := Lib.hid ht
      clear ht
      go_wp2_with ((with_reducible refine loadM (x := .tmp 12) (o := ⟨some 13, _, _, _, _, _⟩) HR.out ?_ ?_); exact ⟨rfl, rfl, by go_simp⟩)
      refine HQ.out.mono ?_
      rintro e w2 ⟨rfl, b2⟩
      have HB2 := Lib.hid (HB.out.trans (b2.mono HB.out.size))
      clear b2 HQ HR HB
      rcases hs : shortT t with _ | _
      · go_wp2_with fail
        go_ret
        refine ⟨?_, HB2.out⟩
        have : fewT l = false := by
          unfold fewT
          rw [Bool.and_eq_false_iff]
          left
          rw [List.all_eq_false]
          exact ⟨l[k], List.getElem_mem hlt, by rw [← HT.out, hs]; simp⟩
        rw [this]; rfl
      · go_wp2_with fail
        go_roundg (l.length - (k + 1))
        case measure => omega
        case rel =>
          refine ⟨k + 1, by omega, Nat.le_refl _, by go_num, HB2.out, fun j hj hjk => ?_⟩
          by_cases e : j = k
          · subst e; rw [← HT.out]; exact hs
          · exact HA.out j hj (by omega)
    · have : k = l.length := by omega
      subst this
      have hall : l.all shortT = true := by
        rw [List.all_eq_true]
        intro x hx
        obtain ⟨j, hj, rfl⟩ := List.getElem_of_mem hx
        exact HA.out j hj hj
      have hf : fewT l = decide (l.length ≤ 60) := by unfold fewT; rw [hall]; rfl
      have HF : Hid (fewT l = decide ((l.length : Int) ≤ 60)) := by
        show _ = _
        rw [hf]
        exact decide_eq_decide.2 (by omega)
      clear hall hf
      go_wp2_with fail
      go_ret
      exact ⟨by rw [HF.out]; rfl, HB.out⟩
def sameT (a b : List Tu) : Bool := decide (a = b)
set_option maxRecDepth 100000 in
set_option maxHeartbeats 2000000 in
theorem samel_any {w : World} {va vb : Value} {la lb : List Tu} (ha : TuRd w va la) (hb : TuRd w vb lb) (hl : la.length ≤ 140737488355328) (hm : lb.length ≤ 140737488355328) :
    Calls Try.prog 11 #[va, vb] w fun e w' => e = .returned (.bool (sameT la lb)) ∧ Below w.heap.size w w' := by
  obtain ⟨pa, ca, rfl, ra⟩ := ha.form tc_length (by decide)
  obtain ⟨pb, cb, rfl, rb⟩ := hb.form tc_length (by decide)
  have RA := Lib.hid ra
  have RB := Lib.hid rb
  clear ha hb ra rb
  by_cases hn : la.length = lb.length
  · obtain ⟨n, hna⟩ : ∃ n, n = la.length := ⟨_, rfl⟩
    have hnb : n = lb.length := hna.trans hn
    rw [← hna, ← hnb]
    have HNA := Lib.hid hna
    have HNB := Lib.hid hnb
    have HN := Lib.hid hn
    rw [← hna] at hl
    clear hn hna hnb hm
    go_enter Try.func11, Try.ntmps11
    go_wp2_with fail
    go_loopg [5] n (fun g s5 wr => ∃ k q : Nat, k ≤ n ∧ n - k ≤ g ∧ s5 = .int .i64 k ∧ wr = w.drewN q ∧ ∀ j, (h1 : j < la.length) → (h2 : j < lb.length) → j < k → la[j] = lb[j])
    case atStart => exact ⟨0, 0, by omega, by omega, rfl, rfl, fun j _ _ hj => absurd hj (by omega)⟩
    case round =>
      obtain ⟨k, q, hk, hg, rfl, rfl, hall⟩ := hrel
      have HA := Lib.hid hall
      clear hall
      by_cases hlt : k < n
      · have k1 : k < la.length := by have := HNA.out; omega
        have k2 : k < lb.length := by have := HNB.out; omega
        obtain ⟨b1, o1, rfl, _, r1⟩ := RA.out k k1
        obtain ⟨b2, o2, rfl, _, r2⟩ := RB.out k k2
        have R1 : Hid ((w.drewN q).drew.rangeAt b1 (o1 + k * 6) (tc la[k])) := r1
        have R2 : Hid ((w.drewN q).drew.rangeAt b2 (o2 + k * 6) (tc lb[k])) := r2
        clear r1 r2
        obtain ⟨x, hx⟩ : ∃ x, x = la[k] := ⟨_, rfl⟩
        obtain ⟨y, hy⟩ : ∃ y, y = lb[k] := ⟨_, rfl⟩
        rw [← hx] at R1
        rw [← hy] at R2
        have HX : Hid (la[k]? = some x) := by show _ = _; rw [hx, List.getElem?_eq_getElem k1]
        have HY : Hid (lb[k]? = some y) := by show _ = _; rw [hy, List.getElem?_eq_getElem k2]
        clear hx hy k1 k2
        go_wp2_with fail
        refine region_tail 8 (by kernel_rfl) (by kernel_rfl) ?_
        simp only [List.take_succ_cons, List.take_zero, List.drop_succ_cons, List.drop_zero]
        repeat first
          | still_step
          | ((with_reducible refine stillM (x := .tmp 19) (o := ⟨some 20, _, _, _, _, _⟩) R1.out ?_ ?_); exact ⟨rfl, rfl, by go_simp⟩)
          | ((with_reducible refine stillM (x := .tmp 23) (o := ⟨some 24, _, _, _, _, _⟩) R2.out ?_ ?_); exact ⟨rfl, rfl, by go_simp⟩)
        refine wpStill_nil ?_
        refine neM (u := x) (v := y) (o := ⟨some 25, _, _, _, _, _⟩) ⟨rfl, rfl, rfl, rfl⟩ ?_
        clear R1 R2
        generalize hw2 : (w.drewN q).drew = w2
        have W0 := Lib.hid hw2
        clear hw2
        rcases he : eqT x y with _ | _
        · go_wp2_with fail
          go_ret
          refine ⟨?_, by rw [← W0.out]; exact below_drewN (Below.refl _ _) (q + 1)⟩
          have : sameT la lb = false := decide_eq_false fun h => by
            subst h
            have e := HX.out.symm.trans HY.out
            rw [Option.some.inj e, eqT_refl] at he
            cases he
          rw [this]; rfl
        · go_wp2_with fail
          go_roundg (n - (k + 1))
          case measure => omega
          case rel =>
            refine ⟨k + 1, q + 1, by omega, Nat.le_refl _, by go_num, W0.out.symm, fun j h1 h2 hjk => ?_⟩
            by_cases e : j = k
            · subst e
              have e1 := HX.out
              have e2 := HY.out
              rw [List.getElem?_eq_getElem h1] at e1
              rw [List.getElem?_eq_getElem h2] at e2
              rw [Option.some.inj e1, Option.some.inj e2]; exact (eqT_iff _ _).1 he
            · exact HA.out j h1 h2 (by omega)
      · have : k = n := by omega
        subst this
        have HE : Hid (sameT la lb = true) := decide_eq_true (List.ext_getElem HN.out fun j h1 h2 => HA.out j h1 h2 (by have := HNA.out; omega))
        go_wp2_with fail
        go_ret
        exact ⟨by rw [HE.out]; rfl, below_drewN (Below.refl _ _) q⟩
  · have h0 : ((la.length : Int) != lb.length) = true := by rw [bne_iff_ne]; omega
    have HE : Hid (sameT la lb = false) := decide_eq_false fun h => hn (by rw [h])
    go_enter Try.func11, Try.ntmps11
    go_wp2_with fail
    go_ret
    exact ⟨by rw [HE.out]; rfl, Below.refl _ _⟩
end Go.Proofs.Ytebbbiikphfjcaa
