/-
  mac.pad.
-/
import Derived.Test.YtomoopadeknfbaaDoorShaW
import Derived.Laws.CopyOwn
import Derived.Laws.CopyRow
import Derived.Laws.IdiomCopy
namespace Go.Proofs.YtomoopadeknfbaaDoor
open Go.ChangeShapes Go.WideShapes Go.ChangeAt Go.RowKit
set_option linter.unusedVariables false

/-- A key of 64 bytes: the key, or its digest if it is longer, and zero bytes. -/
def keyOf (k : List UInt8) : List UInt8 := if 64 < k.length then digest k else k
def padK (k : List UInt8) : List UInt8 := keyOf k ++ List.replicate (64 - (keyOf k).length) 0
theorem keyOf_length (k : List UInt8) : (keyOf k).length ≤ 64 := by
  unfold keyOf; split
  · rw [digest_length]; omega
  · omega
theorem padK_length (k : List UInt8) : (padK k).length = 64 := by
  have := keyOf_length k
  simp [padK]; omega
section
variable {ops : Array Oper} {rest : List Oper} {o : Oper} {a : Act} {Q : Exit → Act → World → Prop} {w : World}
/-- copy into a whole block of bytes. -/
theorem copy_arr (d s : Operand) {t : TypeId} {g C n c : Nat} {z m : List UInt8} {vx : Value} (hA : Arr w t g (bvs z)) (hzl : z.length = n) (hr : Rd C w vx m) (hm : m.length ≤ n)
    (hs : o.guard = none ∧ o.op = .call { callee := .builtin .copy, args := #[d, s], argTypes := #[22, 22] } ∧ a.eval d = .slice (some ⟨g, 0, none⟩) n c ∧ a.eval s = vx)
    (hk : ∀ w', Arr w' t g (bvs (m ++ z.drop m.length)) → (∀ B, B ≤ g → Below B w w') → (∀ t' k cs, k ≠ g → Arr w t' k cs → Arr w' t' k cs) → wpList Tryd.prog ops Q rest (a.put o.dst (goInt m.length)) w') : wpList Tryd.prog ops Q (o :: rest) a w := by
  obtain ⟨hgd, ho, hd, hx⟩ := hs
  replace hk : ∀ w', w' = w.setRow g (bvs (m ++ z.drop m.length)).toArray → wpList Tryd.prog ops Q rest (a.put o.dst (goInt m.length)) w' := fun w' e => by
    subst e
    exact hk _ (hA.row _) (fun B hB => below_row (Below.refl _ _) hB _) (fun t' k cs hk h => h.row_other hk _)
  have hsz : (Tryd.prog.info? 5).map (·.size) = some 1 := by kernel_rfl
  have hnone : ∀ (oa : Option Addr) (k : Nat), vx = .slice oa 0 k → m = [] → wpList Tryd.prog ops Q (o :: rest) a w := by
    intro oa k e em
    refine wpList_plain hgd fun K hK => ?_
    have hrun := run_copy_none (P := Tryd.prog) w 22 22 o.type 5 (some ⟨g, 0, none⟩) oa n c 0 k Tryd.underlying22 hsz (by simp)
    unfold Oper.wp
    rw [e] at hx
    simp [execOp, ho, resolve, invoke, builtin, hd, hx, hrun, Result.andThen]
    refine hK _ _ ?_
    have := hk w (by rw [em, List.nil_append, List.length_nil, List.drop_zero, setRow_self w g _ t (0, 0) hA])
    rw [em] at this
    exact this
  rcases hr with ⟨oa, rfl, rfl⟩ | ⟨b, off, cap, rfl, h1, h2, h3, hc⟩
  · exact hnone oa 0 rfl rfl
  · refine wpList_copy_own hgd d s 22 22 ho 5 Tryd.underlying22 hsz g 0 n c ⟨b, off, none⟩ m.length cap hd hx (bvs z).toArray t hA (bvs m) (by rw [bvs_length]; show m.length = min m.length n; omega) ?_ (by simp only [List.size_toArray, bvs_length]; omega) (bvs_one m) ?_
    · intro j u hu
      have hj : j < m.length := by
        have := (List.getElem?_eq_some_iff.1 hu).1; simpa [bvs] using this
      rw [bvs_getElem m j hj] at hu
      simp only [Option.some.injEq] at hu
      subst hu
      rw [Addr.add_mid]; exact hc j hj
    · rw [bvs_length]
      refine hk _ ?_
      congr 2
      simp [bvs, List.map_drop]
theorem store64b {t : TypeId} {g : Nat} {x y : Operand} {l : List UInt8} {old : List Value} (hA : Arr w t g old) (ho : old.length = 64) (hl : l.length = 64) (hs : o.guard = none ∧ o.op = .store 40 x y ∧ a.eval x = .pointer (some ⟨g, 0, none⟩) ∧ a.eval y = .agg (bvs l).toArray)
    (hk : ∀ w', w' = w.setRow g (bvs l).toArray → wpList Tryd.prog ops Q rest (a.put o.dst undef) w') : wpList Tryd.prog ops Q (o :: rest) a w :=
  store_arr hs.1 _ _ _ hs.2.1 hA hs.2.2.1 hs.2.2.2 (by rw [bvs_length, hl]; kernel_rfl) (by rw [ho, bvs_length, hl]) (bvs_oneCell l) (hk _ rfl)
end
theorem res64b {fn : Func} {p : Tmp} {tmps : Array Value} {w : World} {g : Nat} {t : TypeId} {l : List UInt8} (h : fn.results = #[.cell p 40]) (hA : Arr w t g (bvs l)) (hl : l.length = 64) (hp : tmps.getD p undef = .pointer (some ⟨g, 0, none⟩)) :
    (results fn tmps).run Tryd.prog w = .ok (.agg (bvs l).toArray) w :=
  results_cell_row h tmps w g t (bvs l).toArray (0, 0) _ hp hA Tryd.underlying40 rfl (by rw [List.size_toArray, bvs_length, hl]; kernel_rfl)
/-- A block of bytes, sliced whole. -/
theorem arr_rd {w : World} {t : TypeId} {g : Nat} {l : List UInt8} (h : Arr w t g (bvs l)) (hm : l.length ≤ maxLen) : Rd w.heap.size w (.slice (some ⟨g, 0, none⟩) l.length l.length) l :=
  .inr ⟨g, 0, _, rfl, Nat.le_refl _, hm, h.lt, fun i hi => by rw [Nat.zero_add, h.cell i]; exact bvs_getElem l i hi⟩
set_option maxRecDepth 100000 in
set_option maxHeartbeats 1000000 in
theorem pad_key {w : World} {v : Value} {l : List UInt8} (hr : Rd w.heap.size w v l) (hl : l.length ≤ 64) :
    Calls Tryd.prog 19 #[v] w fun e w' => e = .returned (.agg (bvs (padK l)).toArray) ∧ Below w.heap.size w w' := by
  have HR := Lib.hid hr
  obtain ⟨q, c, rfl, hc1, hc2⟩ := hr.form
  have h1 : ¬ (64 : Int) < l.length := by omega
  clear hr
  go_enter Tryd.func19, Tryd.ntmps19
  obtain ⟨Z, hZ⟩ : ∃ Z : List UInt8, Z = List.replicate 64 0 := ⟨_, rfl⟩
  have HZ := Lib.hid hZ
  have HZ2 : Hid (∀ cs : Array Value, cs.toList = bvs (List.replicate 64 0) → cs.toList = bvs Z) := fun cs h => by rw [hZ]; exact h
  have HZL : Hid (Z.length = 64) := by rw [hZ]; rfl
  have hz : Hid (∀ cs : Array Value, cs.toList = bvs Z → Arr (w.alloc (.cells cs 40)) 40 w.heap.size (bvs Z)) := fun cs h => Arr.new' w _ cs _ h
  clear hZ
  have hz2 : Hid (∀ cs : Array Value, Rd w.heap.size (w.alloc (.cells cs 40)) (.slice q l.length c) l) := fun cs => HR.out.below ((Below.refl _ _).alloc (Nat.le_refl _) _) (Nat.le_refl _)
  go_wp2_with ((with_reducible refine copy_arr (.tmp 11) (.tmp 12) (m := l) (z := Z) (g := w.heap.size) (n := 64) (c := 64) (t := 40) (vx := .slice q l.length c) (C := w.heap.size) (o := ⟨some 13, .call _, _, _, _, _⟩) ?_ ?_ ?_ hl ?_ ?_); exact hz.out _ (HZ2.out _ rfl); exact HZL.out; exact hz2.out _; exact ⟨rfl, rfl, rfl, rfl⟩)
  intro w1 hA1 hB1 _
  rw [show l ++ Z.drop l.length = padK l by
      rw [HZ.out]
      have hk : keyOf l = l := by unfold keyOf; rw [if_neg (by omega)]
      rw [padK, hk, List.drop_replicate]] at hA1
  have HB1 : Hid (Below w.heap.size w w1) := ((Below.refl _ _).alloc (Nat.le_refl _) _).trans (hB1 _ (Nat.le_refl _))
  obtain ⟨K, hK⟩ : ∃ K, K = padK l := ⟨_, rfl⟩
  rw [← hK] at hA1
  have HKL : Hid (K.length = 64) := by rw [hK]; exact padK_length l
  have HKE := Lib.hid hK
  have HO : Hid ((bvs K).length = 64) := by show _ = _; rw [bvs_length, HKL.out]
  clear hB1 hK hz hz2 HZ HZ2 HZL
  go_wp2_with (first
    | ((with_reducible refine load64b (x := .tmp 2) (o := ⟨some 14, _, _, _, _, _⟩) hA1 HKL.out ?_ ?_); exact ⟨rfl, rfl, rfl⟩)
    | ((with_reducible refine store64b (x := .tmp 2) (y := .tmp 14) (l := K) (o := ⟨none, .store _ _ _, _, _, _, _⟩) hA1 HO.out HKL.out ?_ ?_); exact ⟨rfl, rfl, rfl, rfl⟩))
  exact bodyPost_ret (res64b rfl (hA1.row _) HKL.out rfl) rfl ⟨by rw [HKE.out], below_row HB1.out (Nat.le_refl _) _⟩
set_option maxRecDepth 100000 in
set_option maxHeartbeats 1000000 in
theorem pad_long {w : World} {v : Value} {l : List UInt8} (hr : Rd w.heap.size w v l) (hl : 64 < l.length) (hm : l.length ≤ 100000000000000) (he : Env w) :
    Calls Tryd.prog 19 #[v] w fun e w' => e = .returned (.agg (bvs (padK l)).toArray) ∧ Below w.heap.size w w' := by
  have HR := Lib.hid hr
  have HE := Lib.hid he
  obtain ⟨q, c, rfl, hc1, hc2⟩ := hr.form
  have h1 : (64 : Int) < l.length := by omega
  clear hr he
  obtain ⟨Z, hZ⟩ : ∃ Z : List UInt8, Z = List.replicate 64 0 := ⟨_, rfl⟩
  have HZ := Lib.hid hZ
  have HZ2 : Hid (∀ cs : Array Value, cs.toList = bvs (List.replicate 64 0) → cs.toList = bvs Z) := fun cs h => by rw [hZ]; exact h
  have HZL : Hid (Z.length = 64) := by rw [hZ]; rfl
  have hz : Hid (∀ cs : Array Value, cs.toList = bvs Z → Arr (w.alloc (.cells cs 40)) 40 w.heap.size (bvs Z)) := fun cs h => Arr.new' w _ cs _ h
  clear hZ
  have HP : Hid (∀ cs : Array Value, cs.toList = bvs Z → RdAll (((w.alloc (.cells cs 40)).alloc (.cells #[.slice q l.length c] 22)).heap.size) ((w.alloc (.cells cs 40)).alloc (.cells #[.slice q l.length c] 22)) (some ⟨w.heap.size + 1, 0, none⟩) [l] ∧ Below w.heap.size w ((w.alloc (.cells cs 40)).alloc (.cells #[.slice q l.length c] 22)) ∧ Arr ((w.alloc (.cells cs 40)).alloc (.cells #[.slice q l.length c] 22)) 40 w.heap.size (bvs Z)) := by
    intro cs h
    have hb1 : Below w.heap.size w (w.alloc (.cells cs 40)) := (Below.refl _ _).alloc (Nat.le_refl _) _
    have hs1 : (w.alloc (.cells cs 40)).heap.size = w.heap.size + 1 := by simp
    have hr1 := rd_one (t := 22) (HR.out.below hb1 (Nat.le_refl _)) (by simp)
    rw [hs1] at hr1
    refine ⟨?_, hb1.alloc (by simp) _, (hz.out cs h).alloc _⟩
    have e : ((w.alloc (.cells cs 40)).alloc (.cells #[.slice q l.length c] 22)).heap.size = w.heap.size + 1 + 1 := by simp
    rw [e]; exact hr1
  go_enter Tryd.func19, Tryd.ntmps19
  go_wp2_with fail
  refine (sum_any (cap := 1) (HP.out _ (HZ2.out _ rfl)).1 (Nat.le_refl _) (by simp) (by simpa [total] using hm) (HE.out.below (HP.out _ (HZ2.out _ rfl)).2.1)).mono ?_
  rintro e w3 ⟨rfl, b3⟩
  have HB3 : Hid (Below w.heap.size w w3) := (HP.out _ (HZ2.out _ rfl)).2.1.trans (b3.mono (HP.out _ (HZ2.out _ rfl)).2.1.size)
  have HA3 : Hid (Arr w3 40 w.heap.size (bvs Z)) := (HP.out _ (HZ2.out _ rfl)).2.2.later b3
  rw [show [l].flatten = l from by simp]
  obtain ⟨D, hD⟩ : ∃ D, D = digest l := ⟨_, rfl⟩
  rw [← hD]
  have HDL : Hid (D.length = 32) := by rw [hD]; exact digest_length _
  have HDK : Hid (D ++ Z.drop D.length = padK l) := by
    show _ = _
    have hk : keyOf l = D := by unfold keyOf; rw [if_pos (by omega), hD]
    rw [padK, hk, HZ.out, List.drop_replicate]
  have HSZ : Hid (w.heap.size < w3.heap.size) := HA3.out.lt
  clear b3 HP hz HZ2 hD HZ
  have hb4 : Below w3.heap.size w3 (w3.alloc (.cells (bvs D).toArray 26)) := (Below.refl _ _).alloc (Nat.le_refl _) _
  have HB4 := Lib.hid (HB3.out.trans (hb4.mono HB3.out.size))
  have HA4 := Lib.hid (HA3.out.later hb4)
  have HD4 : Hid (Rd (w3.alloc (.cells (bvs D).toArray 26)).heap.size (w3.alloc (.cells (bvs D).toArray 26)) (.slice (some ⟨w3.heap.size, 0, none⟩) 32 32) D) := by
    have := arr_rd (Arr.new' w3 26 (bvs D).toArray (bvs D) (by simp)) (by rw [HDL.out]; unfold maxLen; omega)
    rw [HDL.out] at this
    exact this
  clear hb4 HB3 HA3
  go_wp2_with (first
    | ((with_reducible refine at32b w3.heap.size (x := .tmp 3) (y := .tmp 9) (l := D) (o := ⟨none, .store _ _ _, _, _, _, _⟩) HDL.out ?_ ?_); exact ⟨rfl, rfl, rfl, rfl, rfl, rfl⟩)
    | ((with_reducible refine copy_arr (.tmp 11) (.tmp 12) (m := D) (z := Z) (g := w.heap.size) (n := 64) (c := 64) (t := 40) (vx := .slice (some ⟨w3.heap.size, 0, none⟩) 32 32) (C := (w3.alloc (.cells (bvs D).toArray 26)).heap.size) (o := ⟨some 13, .call _, _, _, _, _⟩) ?_ ?_ ?_ ?_ ?_ ?_); exact HA4.out; exact HZL.out; exact HD4.out; (rw [HDL.out]; omega); exact ⟨rfl, rfl, rfl, rfl⟩))
  intro w5 hA1 hB1 _
  rw [HDK.out] at hA1
  have HB1 : Hid (Below w.heap.size w w5) := HB4.out.trans (hB1 _ (Nat.le_refl _))
  obtain ⟨K, hK⟩ : ∃ K, K = padK l := ⟨_, rfl⟩
  rw [← hK] at hA1
  have HKL : Hid (K.length = 64) := by rw [hK]; exact padK_length l
  have HKE := Lib.hid hK
  have HO : Hid ((bvs K).length = 64) := by show _ = _; rw [bvs_length, HKL.out]
  clear hB1 hK HZL HB4 HA4 HD4 HDK
  go_wp2_with (first
    | ((with_reducible refine load64b (x := .tmp 2) (o := ⟨some 14, _, _, _, _, _⟩) hA1 HKL.out ?_ ?_); exact ⟨rfl, rfl, rfl⟩)
    | ((with_reducible refine store64b (x := .tmp 2) (y := .tmp 14) (l := K) (o := ⟨none, .store _ _ _, _, _, _, _⟩) hA1 HO.out HKL.out ?_ ?_); exact ⟨rfl, rfl, rfl, rfl⟩))
  exact bodyPost_ret (res64b rfl (hA1.row _) HKL.out rfl) rfl ⟨by rw [HKE.out], below_row HB1.out (Nat.le_refl _) _⟩
theorem mpad_any {w : World} {v : Value} {l : List UInt8} (hr : Rd w.heap.size w v l) (hm : l.length ≤ 100000000000000) (he : Env w) :
    Calls Tryd.prog 19 #[v] w fun e w' => e = .returned (.agg (bvs (padK l)).toArray) ∧ Below w.heap.size w w' := by
  by_cases h : l.length ≤ 64
  · exact pad_key hr h
  · exact pad_long hr (by omega) hm he
end Go.Proofs.YtomoopadeknfbaaDoor
