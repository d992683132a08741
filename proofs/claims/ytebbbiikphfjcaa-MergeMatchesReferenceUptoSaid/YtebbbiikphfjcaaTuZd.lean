/-
  The reference's Put1: the walk.
-/
import Derived.Test.YtebbbiikphfjcaaTuZc
import Derived.Test.YtebbbiikphfjcaaTuU
import Derived.RegionTactic
import Derived.BigRegion
namespace Go.Proofs.Ytebbbiikphfjcaa
open Go.ChangeShapes Go.WideShapes Go.ChangeAt Go.RowKit
set_option linter.unusedVariables false

theorem SrcT.fin {{b off c c' k : Nat}} {{w : World}} {{l : List Tu}} (h : SrcT (some ⟨b, off, none⟩) c w l) (hk : k = l.length) : SrcT (some ⟨b, off, none⟩) c' w (l.drop k) := by
  rcases h with ⟨_, h2, _⟩ | ⟨b', off', h1, h2, _⟩
  · cases h2
  · simp only [Option.some.injEq, Addr.mk.injEq, and_true] at h1
    obtain ⟨rfl, rfl⟩ := h1
    refine .inr ⟨b, off, rfl, h2, fun j v hv => ?_⟩
    rw [hk, List.drop_length] at hv
    simp at hv
theorem own_alloc {w : World} {base n : Nat} {v : Value} {xs : List Value} (h : w.ownsRow base 34 6 v n xs) (o : Obj) : (w.alloc o).ownsRow base 34 6 v n xs := by
  refine h.kept (row := none) (grown_of ((Below.refl _ _).alloc (Nat.le_refl _) o) none) ?_
  by_cases e : v.ownBlock = none
  · exact .inl e
  · exact .inr e
/-- v's block is at b or behind it. -/
def FreshB (b : Nat) (v : Value) : Prop := ∀ k, v.ownBlock = some k → b ≤ k
/-- v's block is at b or behind it, or it is sv's. -/
def FreshO (b : Nat) (sv v : Value) : Prop := ∀ k, v.ownBlock = some k → b ≤ k ∨ sv.ownBlock = some k
theorem FreshB.of {b : Nat} {sv v : Value} (h : FreshO b sv v) {c : Nat} (hc : c ≤ b) (hs : FreshB c sv) : FreshB c v := fun k hk => (h k hk).elim (fun e => Nat.le_trans hc e) fun e => hs k e
set_option maxRecDepth 100000 in
set_option maxHeartbeats 4000000 in
theorem rput1_fresh {w : World} {sv : Value} {l : List Tu} (t : Tu) (h : TuSl w sv l) (hz : ∀ x ∈ l, sizesT x 1000000) (ht : sizesT t 1000000) (hl : l.length ≤ 1000) :
    Calls Try.prog 27 #[sv, tuV t] w fun e w' => ∃ v', e = .returned v' ∧ FreshO w.heap.size sv v' ∧ Below w.heap.size w w' ∧ TuSl w' v' (put1 t l) := by
  have b0 : Below w.heap.size w (w.alloc (.cells (tc t).toArray 34)) := (Below.refl _ _).alloc (Nat.le_refl _) _
  have HP0 : Hid (PS w w.heap.size t (w.alloc (.cells (tc t).toArray 34))) := ⟨b0, tu_new w t⟩
  obtain ⟨p, c, rfl, hc, hs⟩ := h.src
  have HS0 := Lib.hid (hs.below b0)
  have HZ := Lib.hid hz
  have HT := Lib.hid ht
  have HLN := Lib.hid hl
  clear h hz ht hs b0
  go_enter Try.func27, Try.ntmps27
  go_wp2_with fail
  generalize w.alloc (.cells (tc t).toArray 34) = w0 at HP0 HS0 ⊢
  go_loopg [5] (l.length + 1) (fun gg s5 wr => ∃ k : Nat, k ≤ l.length ∧ l.length + 1 - k ≤ gg ∧ s5 = .int .i64 k ∧ PS w w.heap.size t wr ∧ SrcT p c wr l ∧ ∀ j, (hj : j < l.length) → j < k → ordT l[j] t < 0)
  case atStart => exact ⟨0, by omega, by omega, rfl, HP0.out, HS0.out, fun j _ hj => absurd hj (by omega)⟩
  case round =>
    obtain ⟨k, hk, hg, rfl, hp, hs, hall⟩ := hrel
    have HP := Lib.hid hp
    have HSR := Lib.hid hs
    have HA := Lib.hid hall
    clear hp hs hall HP0 HS0
    by_cases hlt : k < l.length
    · obtain ⟨b, off, rfl, _, hr⟩ := HSR.out.row hlt
      obtain ⟨x, hx⟩ : ∃ x, x = l[k] := ⟨_, rfl⟩
      have HX : Hid (l[k]? = some x) := by show _ = _; rw [hx, List.getElem?_eq_getElem hlt]
      have HSX : Hid (sizesT x 1000000) := by rw [hx]; exact HZ.out _ (List.getElem_mem hlt)
      rw [← hx] at hr
      have HR : Hid ((wr.drew).rangeAt b (off + k * 6) (tc x)) := hr
      have HAT : Hid ((wr.drew).rangeAt w.heap.size 0 (tc t)) := HP.out.2.range
      have HCM := Lib.hid (rcompare_any x t HSX.out HT.out wr.drew)
      clear hx hr
      go_wp2_with fail
      refine region_tail 10 (by kernel_rfl) (by kernel_rfl) ?_
      simp only [List.take_succ_cons, List.take_zero, List.drop_succ_cons, List.drop_zero]
      repeat first
        | still_step
        | ((with_reducible refine stillG (x := .tmp 14) (o := ⟨some 15, _, _, _, _, _⟩) HR.out ?_ ?_); exact ⟨rfl, rfl, by go_simp⟩)
        | ((with_reducible refine stillG (x := .tmp 3) (o := ⟨some 16, _, _, _, _, _⟩) HAT.out ?_ ?_); exact ⟨rfl, rfl, by go_simp⟩)
      refine wpStill_nil ?_
      clear HR HAT
      go_wp2_with fail
      refine HCM.out.mono ?_
      rintro e w2 ⟨rfl, b2⟩
      have bb : Below wr.heap.size wr w2 := (Below.refl wr.heap.size wr).drew.trans b2
      have HP2 := Lib.hid (HP.out.later bb)
      have HS2 := Lib.hid (HSR.out.below bb)
      clear b2 bb HCM HP HSR
      obtain ⟨q, hq⟩ : ∃ q, q = ordT x t := ⟨_, rfl⟩
      have HQ := Lib.hid hq
      rw [← hq]
      clear hq
      by_cases hneg : q < 0
      · go_wp2_with fail
        go_roundg (l.length + 1 - (k + 1))
        case measure => omega
        case rel =>
          refine ⟨k + 1, by omega, Nat.le_refl _, by go_num, HP2.out, HS2.out, fun j hj hjk => ?_⟩
          by_cases e : j = k
          · subst e
            have := HX.out
            rw [List.getElem?_eq_getElem hj] at this
            rw [Option.some.inj this, ← HQ.out]; exact hneg
          · exact HA.out j hj (by omega)
      · have HR2 : Hid ((w2.drew).rangeAt b (off + k * 6) (tc x)) := by
          obtain ⟨b', off', he, _, hr⟩ := HS2.out.row hlt
          simp only [Option.some.injEq, Addr.mk.injEq, and_true] at he
          obtain ⟨rfl, rfl⟩ := he
          have := HX.out
          rw [List.getElem?_eq_getElem hlt] at this
          rw [Option.some.inj this] at hr
          exact hr
        have HAT2 : Hid ((w2.drew).rangeAt w.heap.size 0 (tc t)) := HP2.out.2.range
        go_wp2_with fail
        refine region_tail 10 (by kernel_rfl) (by kernel_rfl) ?_
        simp only [List.take_succ_cons, List.take_zero, List.drop_succ_cons, List.drop_zero]
        repeat first
          | still_step
          | ((with_reducible refine stillG (x := .tmp 29) (o := ⟨some 30, _, _, _, _, _⟩) HR2.out ?_ ?_); exact ⟨rfl, rfl, by go_simp⟩)
          | ((with_reducible refine stillG (x := .tmp 3) (o := ⟨some 31, _, _, _, _, _⟩) HAT2.out ?_ ?_); exact ⟨rfl, rfl, by go_simp⟩)
        refine wpStill_nil ?_
        clear HR2 HAT2
        have HPZ := Lib.hid (HP2.out.later (Below.refl w2.heap.size w2).drew)
        have HSZ := Lib.hid (HS2.out.below (Below.refl w2.heap.size w2).drew)
        generalize w2.drew = wz at HPZ HSZ ⊢
        rcases he : eqT x t with _ | _
        · have HF : Hid (put1 t l = l.take k ++ t :: l.drop k) := put1_end hk HA.out fun h => by
            have := HX.out
            rw [List.getElem?_eq_getElem h] at this
            rw [Option.some.inj this]
            exact ⟨by rw [← HQ.out]; omega, fun e => by rw [e, eqT_refl] at he; cases he⟩
          have HE := Lib.hid he
          have HP := HPZ
          have HSR := HSZ
          clear he HPZ HSZ HP2 HS2
          have HTK : Hid ((l.take k).length = k) := by show _ = _; rw [List.length_take]; omega
          have HDK : Hid ((l.drop k).length = l.length - k) := by show _ = _; rw [List.length_drop]
          have ba : Below wz.heap.size wz (wz.alloc (.cells #[] 34)) := (Below.refl _ _).alloc (Nat.le_refl _) _
          have HBA := Lib.hid ba
          have HS1 := Lib.hid ((HSR.out.below ba).take k)
          have HW1 : Hid (World.ownsRow (wz.alloc (.cells #[] 34)) wz.heap.size 34 6 (.slice (some ⟨wz.heap.size, 0, none⟩) 0 0) 0 (([] : List Tu).flatMap tc)) := World.ownsRow_made wz #[] 0 (Nat.le_refl _) (Nat.zero_le _) (by simp)
          clear ba
          go_upto_region 7 with (first | ((with_reducible refine eqW HE.out (t := 34) (x := .tmp 30) (y := .tmp 31) (o := ⟨some 32, _, _, _, _, _⟩) ?_ ?_); exact ⟨rfl, rfl, rfl, rfl⟩) | (at_builtin; refine appT rfl _ _ rfl (base := wz.heap.size) (xs := []) (news := l.take k) rfl HW1.out rfl HTK.out HS1.out (by have := HLN.out; omega) HBA.out.size ?_; intro v3 w3 h3 b3))
          have HB3 := Lib.hid (HBA.out.trans b3)
          have HP3 := Lib.hid (HP.out.later HB3.out)
          have HS3 := Lib.hid (HSR.out.below HB3.out)
          have HA3 : Hid (Arr w3 34 w.heap.size (tc t)) := HP3.out.2
          have ba : Below w3.heap.size w3 (w3.alloc (.cells #[.string t.ot, .string t.oi, .string t.re, .string t.st, .string t.si, .string t.us] 34)) := (Below.refl _ _).alloc (Nat.le_refl _) _
          have HO3 := Lib.hid (own_alloc h3 (.cells #[.string t.ot, .string t.oi, .string t.re, .string t.st, .string t.si, .string t.us] 34))
          have HB4 := Lib.hid (HB3.out.trans (ba.mono HB3.out.size))
          have HN4 : Hid (SrcT (some ⟨w3.heap.size, 0, none⟩) 1 (w3.alloc (.cells #[.string t.ot, .string t.oi, .string t.re, .string t.st, .string t.si, .string t.us] 34)) [t]) := .inr ⟨w3.heap.size, 0, rfl, by simp, Arr.range (Arr.new' w3 34 _ _ rfl)⟩
          clear ba b3 h3 HBA HW1 HS1
          go_upto_region 8 with (first | ((with_reducible refine loadX (x := .tmp 3) (t := t) (o := ⟨some 41, _, _, _, _, _⟩) HA3.out ?_ ?_); exact ⟨rfl, rfl, rfl⟩) | (at_builtin; refine appT rfl _ _ rfl (base := wz.heap.size) (xs := [] ++ l.take k) (news := [t]) rfl HO3.out rfl rfl HN4.out (by have := HLN.out; omega) HB4.out.size ?_; intro v4 w4 h4 b4))
          have HB5 := Lib.hid (HB4.out.trans b4)
          have HO5 := Lib.hid h4
          have HS4 := Lib.hid (HSR.out.below HB5.out)
          clear b4 h4 HO3 HN4 HP3 HS3 HA3
          go_wp2_with (at_builtin; refine appT rfl _ _ rfl (base := wz.heap.size) (xs := [] ++ l.take k ++ [t]) (news := l.drop k) rfl HO5.out rfl HDK.out (HS4.out.drop (k := k) (by omega)) (by have := HLN.out; omega) HB5.out.size ?_; intro v5 w5 h5 b5)
          have HB6 := Lib.hid (HB5.out.trans b5)
          have HO6 := Lib.hid h5
          clear b5 h5 HO5
          go_wp2_with fail
          go_ret
          refine ⟨v5, rfl, fun k hk => .inl (Nat.le_trans HP.out.1.size (HO6.out.lt k hk).1), HP.out.1.trans (HB6.out.mono HP.out.1.size), ownsRow_sl (base := wz.heap.size) ?_⟩
          have e1 : 0 + k + 1 + (l.length - k) = (put1 t l).length := by rw [HF.out, List.length_append, HTK.out, List.length_cons, HDK.out]; omega
          have e2 : [] ++ l.take k ++ [t] ++ l.drop k = put1 t l := by rw [HF.out]; simp
          have h6 := HO6.out
          rw [e1, e2] at h6
          exact h6
        · have HF : Hid (put1 t l = l) := put1_there hlt HA.out (by
            have := HX.out
            rw [List.getElem?_eq_getElem hlt] at this
            rw [Option.some.inj this]; exact (eqT_iff _ _).1 he)
          have HE := Lib.hid he
          clear he
          go_wp2_with ((with_reducible refine eqW HE.out (t := 34) (x := .tmp 30) (y := .tmp 31) (o := ⟨some 32, _, _, _, _, _⟩) ?_ ?_); exact ⟨rfl, rfl, rfl, rfl⟩)
          go_ret
          refine ⟨_, rfl, fun k hk => .inr hk, HPZ.out.1, ?_⟩
          rw [HF.out]
          rcases HSZ.out with ⟨h1, _⟩ | ⟨b', off', h1, h2, h3⟩
          · subst h1; exact absurd hlt (by simp)
          · simp only [Option.some.injEq, Addr.mk.injEq, and_true] at h1
            obtain ⟨rfl, rfl⟩ := h1
            exact .inr ⟨_, _, _, rfl, hc, h2, h3⟩
    · have hke : k = l.length := by omega
      have HF : Hid (put1 t l = l.take k ++ t :: l.drop k) := put1_end hk HA.out (fun h => absurd h hlt)
      have HKE := Lib.hid hke
      clear hke
      have hlt' : ¬ (k : Int) < l.length := by omega
      go_wp2_with fail
      refine region_tail 10 (by kernel_rfl) (by kernel_rfl) ?_
      simp only [List.take_succ_cons, List.take_zero, List.drop_succ_cons, List.drop_zero]
      repeat still_step
      refine wpStill_nil ?_
      go_wp2_with fail
      refine region_tail 10 (by kernel_rfl) (by kernel_rfl) ?_
      simp only [List.take_succ_cons, List.take_zero, List.drop_succ_cons, List.drop_zero]
      repeat still_step
      refine wpStill_nil ?_
      have HPZ := Lib.hid ((HP.out.later (Below.refl wr.heap.size wr).drew).later (Below.refl wr.drew.heap.size wr.drew).drew)
      have HSZ := Lib.hid ((HSR.out.below (Below.refl wr.heap.size wr).drew).below (Below.refl wr.drew.heap.size wr.drew).drew)
      generalize wr.drew.drew = wz at HPZ HSZ ⊢
      have HP := HPZ
      have HSR := HSZ
      clear HPZ HSZ
      rcases p with _ | ⟨b, off, x⟩
      · have HL : Hid (l = [] ∧ c = 0) := by
          rcases HSR.out with ⟨h1, _, h3⟩ | ⟨b, off, h1, _⟩
          · exact ⟨h1, h3⟩
          · cases h1
        have HTK : Hid ((l.take k).length = k) := by show _ = _; rw [List.length_take]; omega
        have HDK : Hid ((l.drop k).length = l.length - k) := by show _ = _; rw [List.length_drop]
        have ba : Below wz.heap.size wz (wz.alloc (.cells #[] 34)) := (Below.refl _ _).alloc (Nat.le_refl _) _
        have HBA := Lib.hid ba
        have HS1 := Lib.hid ((HSR.out.below ba).take k)
        have HW1 : Hid (World.ownsRow (wz.alloc (.cells #[] 34)) wz.heap.size 34 6 (.slice (some ⟨wz.heap.size, 0, none⟩) 0 0) 0 (([] : List Tu).flatMap tc)) := World.ownsRow_made wz #[] 0 (Nat.le_refl _) (Nat.zero_le _) (by simp)
        clear ba
        go_upto_region 7 with (at_builtin; refine appT rfl _ _ rfl (base := wz.heap.size) (xs := []) (news := l.take k) rfl HW1.out rfl HTK.out HS1.out (by have := HLN.out; omega) HBA.out.size ?_; intro v3 w3 h3 b3)
        have HB3 := Lib.hid (HBA.out.trans b3)
        have HP3 := Lib.hid (HP.out.later HB3.out)
        have HS3 := Lib.hid (HSR.out.below HB3.out)
        have HA3 : Hid (Arr w3 34 w.heap.size (tc t)) := HP3.out.2
        have ba : Below w3.heap.size w3 (w3.alloc (.cells #[.string t.ot, .string t.oi, .string t.re, .string t.st, .string t.si, .string t.us] 34)) := (Below.refl _ _).alloc (Nat.le_refl _) _
        have HO3 := Lib.hid (own_alloc h3 (.cells #[.string t.ot, .string t.oi, .string t.re, .string t.st, .string t.si, .string t.us] 34))
        have HB4 := Lib.hid (HB3.out.trans (ba.mono HB3.out.size))
        have HN4 : Hid (SrcT (some ⟨w3.heap.size, 0, none⟩) 1 (w3.alloc (.cells #[.string t.ot, .string t.oi, .string t.re, .string t.st, .string t.si, .string t.us] 34)) [t]) := .inr ⟨w3.heap.size, 0, rfl, by simp, Arr.range (Arr.new' w3 34 _ _ rfl)⟩
        clear ba b3 h3 HBA HW1 HS1
        go_upto_region 8 with (first | ((with_reducible refine loadX (x := .tmp 3) (t := t) (o := ⟨some 41, _, _, _, _, _⟩) HA3.out ?_ ?_); exact ⟨rfl, rfl, rfl⟩) | (at_builtin; refine appT rfl _ _ rfl (base := wz.heap.size) (xs := [] ++ l.take k) (news := [t]) rfl HO3.out rfl rfl HN4.out (by have := HLN.out; omega) HB4.out.size ?_; intro v4 w4 h4 b4))
        have HB5 := Lib.hid (HB4.out.trans b4)
        have HO5 := Lib.hid h4
        have HS4 := Lib.hid (HSR.out.below HB5.out)
        clear b4 h4 HO3 HN4 HP3 HS3 HA3
        go_wp2_with (at_builtin; refine appT rfl _ _ rfl (base := wz.heap.size) (xs := [] ++ l.take k ++ [t]) (news := l.drop k) rfl HO5.out rfl HDK.out (.inl ⟨by simp [HL.out.1], rfl, by have := HL.out.2; omega⟩) (by have := HLN.out; omega) HB5.out.size ?_; intro v5 w5 h5 b5)
        have HB6 := Lib.hid (HB5.out.trans b5)
        have HO6 := Lib.hid h5
        clear b5 h5 HO5
        go_wp2_with fail
        go_ret
        refine ⟨v5, rfl, fun k hk => .inl (Nat.le_trans HP.out.1.size (HO6.out.lt k hk).1), HP.out.1.trans (HB6.out.mono HP.out.1.size), ownsRow_sl (base := wz.heap.size) ?_⟩
        have e1 : 0 + k + 1 + (l.length - k) = (put1 t l).length := by rw [HF.out, List.length_append, HTK.out, List.length_cons, HDK.out]; omega
        have e2 : [] ++ l.take k ++ [t] ++ l.drop k = put1 t l := by rw [HF.out]; simp
        have h6 := HO6.out
        rw [e1, e2] at h6
        exact h6
      · have hx : x = none := by
          rcases HSR.out with ⟨_, h1, _⟩ | ⟨b', off', h1, _⟩
          · cases h1
          · simp only [Option.some.injEq, Addr.mk.injEq] at h1; exact h1.2.2
        subst hx
        have HTK : Hid ((l.take k).length = k) := by show _ = _; rw [List.length_take]; omega
        have HDK : Hid ((l.drop k).length = l.length - k) := by show _ = _; rw [List.length_drop]
        have ba : Below wz.heap.size wz (wz.alloc (.cells #[] 34)) := (Below.refl _ _).alloc (Nat.le_refl _) _
        have HBA := Lib.hid ba
        have HS1 := Lib.hid ((HSR.out.below ba).take k)
        have HW1 : Hid (World.ownsRow (wz.alloc (.cells #[] 34)) wz.heap.size 34 6 (.slice (some ⟨wz.heap.size, 0, none⟩) 0 0) 0 (([] : List Tu).flatMap tc)) := World.ownsRow_made wz #[] 0 (Nat.le_refl _) (Nat.zero_le _) (by simp)
        clear ba
        go_upto_region 7 with (at_builtin; refine appT rfl _ _ rfl (base := wz.heap.size) (xs := []) (news := l.take k) rfl HW1.out rfl HTK.out HS1.out (by have := HLN.out; omega) HBA.out.size ?_; intro v3 w3 h3 b3)
        have HB3 := Lib.hid (HBA.out.trans b3)
        have HP3 := Lib.hid (HP.out.later HB3.out)
        have HS3 := Lib.hid (HSR.out.below HB3.out)
        have HA3 : Hid (Arr w3 34 w.heap.size (tc t)) := HP3.out.2
        have ba : Below w3.heap.size w3 (w3.alloc (.cells #[.string t.ot, .string t.oi, .string t.re, .string t.st, .string t.si, .string t.us] 34)) := (Below.refl _ _).alloc (Nat.le_refl _) _
        have HO3 := Lib.hid (own_alloc h3 (.cells #[.string t.ot, .string t.oi, .string t.re, .string t.st, .string t.si, .string t.us] 34))
        have HB4 := Lib.hid (HB3.out.trans (ba.mono HB3.out.size))
        have HN4 : Hid (SrcT (some ⟨w3.heap.size, 0, none⟩) 1 (w3.alloc (.cells #[.string t.ot, .string t.oi, .string t.re, .string t.st, .string t.si, .string t.us] 34)) [t]) := .inr ⟨w3.heap.size, 0, rfl, by simp, Arr.range (Arr.new' w3 34 _ _ rfl)⟩
        clear ba b3 h3 HBA HW1 HS1
        go_upto_region 8 with (first | ((with_reducible refine loadX (x := .tmp 3) (t := t) (o := ⟨some 41, _, _, _, _, _⟩) HA3.out ?_ ?_); exact ⟨rfl, rfl, rfl⟩) | (at_builtin; refine appT rfl _ _ rfl (base := wz.heap.size) (xs := [] ++ l.take k) (news := [t]) rfl HO3.out rfl rfl HN4.out (by have := HLN.out; omega) HB4.out.size ?_; intro v4 w4 h4 b4))
        have HB5 := Lib.hid (HB4.out.trans b4)
        have HO5 := Lib.hid h4
        have HS4 := Lib.hid (HSR.out.below HB5.out)
        clear b4 h4 HO3 HN4 HP3 HS3 HA3
        by_cases hck : c = k
        · go_wp2_with (at_builtin; refine appT rfl _ _ rfl (base := wz.heap.size) (xs := [] ++ l.take k ++ [t]) (news := l.drop k) rfl HO5.out rfl HDK.out (HS4.out.fin HKE.out) (by have := HLN.out; omega) HB5.out.size ?_; intro v5 w5 h5 b5)
          have HB6 := Lib.hid (HB5.out.trans b5)
          have HO6 := Lib.hid h5
          clear b5 h5 HO5
          go_wp2_with fail
          go_ret
          refine ⟨v5, rfl, fun k hk => .inl (Nat.le_trans HP.out.1.size (HO6.out.lt k hk).1), HP.out.1.trans (HB6.out.mono HP.out.1.size), ownsRow_sl (base := wz.heap.size) ?_⟩
          have e1 : 0 + k + 1 + (l.length - k) = (put1 t l).length := by rw [HF.out, List.length_append, HTK.out, List.length_cons, HDK.out]; omega
          have e2 : [] ++ l.take k ++ [t] ++ l.drop k = put1 t l := by rw [HF.out]; simp
          have h6 := HO6.out
          rw [e1, e2] at h6
          exact h6
        · have hck2 : k < c := by omega
          go_wp2_with (at_builtin; refine appT rfl _ _ rfl (base := wz.heap.size) (xs := [] ++ l.take k ++ [t]) (news := l.drop k) rfl HO5.out rfl HDK.out (HS4.out.drop (k := k) (by omega)) (by have := HLN.out; omega) HB5.out.size ?_; intro v5 w5 h5 b5)
          have HB6 := Lib.hid (HB5.out.trans b5)
          have HO6 := Lib.hid h5
          clear b5 h5 HO5
          go_wp2_with fail
          go_ret
          refine ⟨v5, rfl, fun k hk => .inl (Nat.le_trans HP.out.1.size (HO6.out.lt k hk).1), HP.out.1.trans (HB6.out.mono HP.out.1.size), ownsRow_sl (base := wz.heap.size) ?_⟩
          have e1 : 0 + k + 1 + (l.length - k) = (put1 t l).length := by rw [HF.out, List.length_append, HTK.out, List.length_cons, HDK.out]; omega
          have e2 : [] ++ l.take k ++ [t] ++ l.drop k = put1 t l := by rw [HF.out]; simp
          have h6 := HO6.out
          rw [e1, e2] at h6
          exact h6
theorem rput1_any {w : World} {sv : Value} {l : List Tu} (t : Tu) (h : TuSl w sv l) (hz : ∀ x ∈ l, sizesT x 1000000) (ht : sizesT t 1000000) (hl : l.length ≤ 1000) :
    Calls Try.prog 27 #[sv, tuV t] w fun e w' => ∃ v', e = .returned v' ∧ Below w.heap.size w w' ∧ TuSl w' v' (put1 t l) :=
  (rput1_fresh t h hz ht hl).mono fun e w' ⟨v', h1, _, h2, h3⟩ => ⟨v', h1, h2, h3⟩
end Go.Proofs.Ytebbbiikphfjcaa
