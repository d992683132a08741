/-
  mac.pad.
-/
import Derived.Test.YtaikdbbakdicgaaDoorMg2
import Derived.Laws.CopyOwn
import Derived.Laws.CopyRow
import Derived.Laws.IdiomCopy
import Derived.Test.YtaikdbbakdicgaaDoorMg0
import Derived.Test.YtaikdbbakdicgaaDoorMg1
import Derived.Test.YtaikdbbakdicgaaDoorProg
import Derived.WalkKit
import Derived.LaidEql
import Derived.Stop.Asserts
import Derived.RowKitTokens
import Derived.Below
import Derived.Lib.Hide
import Derived.Laws.AppendOwn
import Derived.OwnWalk
import Derived.Deep.Draws
import Derived.Tactics
import Derived.Tactics2
import Derived.Defers
import Derived.Recover
import Derived.Laws.Pointers
import Derived.Laws.Rows
import Derived.ProofKit
import Derived.OpenShut
namespace Go.Proofs.YtaikdbbakdicgaaDoor
open Go.ChangeShapes Go.WideShapes Go.ChangeAt Go.RowKit
set_option linter.unusedVariables false

/-- A key of 64 bytes: the key, or its digest if it is longer, and zero bytes. -/
def keyOf (k : List UInt8) : List UInt8 := if 64 < k.length then digest k else k
def padK (k : List UInt8) : List UInt8 := keyOf k ++ List.replicate (64 - (keyOf k).length) 0
theorem keyOf_length (k : List UInt8) : (keyOf k).length ≤ 64 := by
  unfold keyOf; split
  · rw [digest_length]; omega
  · omega
theorem padK_length (k : List UInt8) : (padK k).length = 64 := by
  have := keyOf_length k
  simp [padK]; omega
section
variable {ops : Array Oper} {rest : List Oper} {o : Oper} {a : Act} {Q : Exit → Act → World → Prop} {w : World}
set_option maxRecDepth 100000 in
/-- copy into a whole block of bytes. -/
theorem copy_arr (d s : Operand) {t : TypeId} {g C n c : Nat} {z m : List UInt8} {vx : Value} (hA : Arr w t g (bvs z)) (hzl : z.length = n) (hr : Rd C w vx m) (hm : m.length ≤ n)
    (hs : o.guard = none ∧ o.op = .call { callee := .builtin .copy, args := #[d, s], argTypes := #[22, 22] } ∧ a.eval d = .slice (some ⟨g, 0, none⟩) n c ∧ a.eval s = vx)
    (hk : ∀ w', Arr w' t g (bvs (m ++ z.drop m.length)) → (∀ B, B ≤ g → Below B w w') → (∀ t' k cs, k ≠ g → Arr w t' k cs → Arr w' t' k cs) → wpList Tryd.prog ops Q rest (a.put o.dst (goInt m.length)) w') : wpList Tryd.prog ops Q (o :: rest) a w := by
  obtain ⟨hgd, ho, hd, hx⟩ := hs
  replace hk : ∀ w', w' = w.setRow g (bvs (m ++ z.drop m.length)).toArray → wpList Tryd.prog ops Q rest (a.put o.dst (goInt m.length)) w' := fun w' e => by
    subst e
    exact hk _ (hA.row _) (fun B hB => below_row (Below.refl _ _) hB _) (fun t' k cs hk h => h.row_other hk _)
  have hsz : (Tryd.prog.info? 5).map (·.size) = some 1 := by kernel_rfl
  have hnone : ∀ (oa : Option Addr) (k : Nat), vx = .slice oa 0 k → m = [] → wpList Tryd.prog ops Q (o :: rest) a w := by
    intro oa k e em
    refine wpList_plain hgd fun K hK => ?_
    have hrun := run_copy_none (P := Tryd.prog) w 22 22 o.type 5 (some ⟨g, 0, none⟩) oa n c 0 k Tryd.underlying22 hsz (by simp)
    unfold Oper.wp
    rw [e] at hx
    simp [execOp, ho, resolve, invoke, builtin, hd, hx, hrun, Result.andThen]
    refine hK _ _ ?_
    have := hk w (by rw [em, List.nil_append, List.length_nil, List.drop_zero, setRow_self w g _ t (0, 0) hA])
    rw [em] at this
    exact this
  rcases hr with ⟨oa, rfl, rfl⟩ | ⟨b, off, cap, rfl, h1, h2, h3, hc⟩
  · exact hnone oa 0 rfl rfl
  · refine wpList_copy_own hgd d s 22 22 ho 5 Tryd.underlying22 hsz g 0 n c ⟨b, off, none⟩ m.length cap hd hx (bvs z).toArray t hA (bvs m) (by rw [bvs_length]; show m.length = min m.length n; omega) ?_ (by simp only [List.size_toArray, bvs_length]; omega) (bvs_one m) ?_
    · intro j u hu
      have hj : j < m.length := by
        have := (List.getElem?_eq_some_iff.1 hu).1; simpa [bvs] using this
      rw [bvs_getElem m j hj] at hu
      simp only [Option.some.injEq] at hu
      subst hu
      rw [Addr.add_mid]; exact hc j hj
    · rw [bvs_length]
      refine hk _ ?_
      congr 2
      simp [bvs, List.map_drop]
theorem store64b {t : TypeId} {g : Nat} {x y : Operand} {l : List UInt8} {old : List Value} (hA : Arr w t g old) (ho : old.length = 64) (hl : l.length = 64) (hs : o.guard = none ∧ o.op = .store 79 x y ∧ a.eval x = .pointer (some ⟨g, 0, none⟩) ∧ a.eval y = .agg (bvs l).toArray)
    (hk : ∀ w', w' = w.setRow g (bvs l).toArray → wpList Tryd.prog ops Q rest (a.put o.dst undef) w') : wpList Tryd.prog ops Q (o :: rest) a w :=
  store_arr hs.1 _ _ _ hs.2.1 hA hs.2.2.1 hs.2.2.2 (by rw [bvs_length, hl]; kernel_rfl) (by rw [ho, bvs_length, hl]) (bvs_oneCell l) (hk _ rfl)
end
theorem res64b {fn : Func} {p : Tmp} {tmps : Array Value} {w : World} {g : Nat} {t : TypeId} {l : List UInt8} (h : fn.results = #[.cell p 79]) (hA : Arr w t g (bvs l)) (hl : l.length = 64) (hp : tmps.getD p undef = .pointer (some ⟨g, 0, none⟩)) :
    (results fn tmps).run Tryd.prog w = .ok (.agg (bvs l).toArray) w :=
  results_cell_row h tmps w g t (bvs l).toArray (0, 0) _ hp hA Tryd.underlying79 rfl (by rw [List.size_toArray, bvs_length, hl]; kernel_rfl)
/-- A block of bytes, sliced whole. -/
theorem arr_rd {w : World} {t : TypeId} {g : Nat} {l : List UInt8} (h : Arr w t g (bvs l)) (hm : l.length ≤ maxLen) : Rd w.heap.size w (.slice (some ⟨g, 0, none⟩) l.length l.length) l :=
  .inr ⟨g, 0, _, rfl, Nat.le_refl _, hm, h.lt, fun i hi => by rw [Nat.zero_add, h.cell i]; exact bvs_getElem l i hi⟩
set_option maxRecDepth 100000 in
set_option maxHeartbeats 1000000 in
theorem pad_key {w : World} {v : Value} {l : List UInt8} (hr : Rd w.heap.size w v l) (hl : l.length ≤ 64) :
    Calls Tryd.prog 43 #[v] w fun e w' => e = .returned (.agg (bvs (padK l)).toArray) ∧ Below w.heap.size w w' := by
  have HR := Lib.hid hr
  obtain ⟨q, c, rfl, hc1, hc2⟩ := hr.form
  have h1 : ¬ (64 : Int) < l.length := by omega
  clear hr
  go_enter Tryd.func43, Tryd.ntmps43
  obtain ⟨Z, hZ⟩ : ∃ Z : List UInt8, Z = List.replicate 64 0 := ⟨_, rfl⟩
  have HZ := Lib.hid hZ
  have HZ2 : Hid (∀ cs : Array Value, cs.toList = bvs (List.replicate 64 0) → cs.toList = bvs Z) := fun cs h => by rw [hZ]; exact h
  have HZL : Hid (Z.length = 64) := by rw [hZ]; rfl
  have hz : Hid (∀ cs : Array Value, cs.toList = bvs Z → Arr (w.alloc (.cells cs 79)) 79 w.heap.size (bvs Z)) := fun cs h => Arr.new' w _ cs _ h
  clear hZ
  have hz2 : Hid (∀ cs : Array Value, Rd w.heap.size (w.alloc (.cells cs 79)) (.slice q l.length c) l) := fun cs => HR.out.below ((Below.refl _ _).alloc (Nat.le_refl _) _) (Nat.le_refl _)
  go_wp2_with ((with_reducible refine copy_arr (.tmp 11) (.tmp 12) (m := l) (z := Z) (g := w.heap.size) (n := 64) (c := 64) (t := 79) (vx := .slice q l.length c) (C := w.heap.size) (o := ⟨some 13, .call _, _, _, _, _⟩) ?_ ?_ ?_ hl ?_ ?_); exact hz.out _ (HZ2.out _ rfl); exact HZL.out; exact hz2.out _; exact ⟨rfl, rfl, rfl, rfl⟩)
  intro w1 hA1 hB1 _
  rw [show l ++ Z.drop l.length = padK l by
      rw [HZ.out]
      have hk : keyOf l = l := by unfold keyOf; rw [if_neg (by omega)]
      rw [padK, hk, List.drop_replicate]] at hA1
  have HB1 : Hid (Below w.heap.size w w1) := ((Below.refl _ _).alloc (Nat.le_refl _) _).trans (hB1 _ (Nat.le_refl _))
  obtain ⟨K, hK⟩ : ∃ K, K = padK l := ⟨_, rfl⟩
  rw [← hK] at hA1
  have HKL : Hid (K.length = 64) := by rw [hK]; exact padK_length l
  have HKE := Lib.hid hK
  have HO : Hid ((bvs K).length = 64) := by show _ = _; rw [bvs_length, HKL.out]
  clear hB1 hK hz hz2 HZ HZ2 HZL
  go_wp2_with (first
    | ((with_reducible refine load64b (x := .tmp 2) (o := ⟨some 14, _, _, _, _, _⟩) hA1 HKL.out ?_ ?_); exact ⟨rfl, rfl, rfl⟩)
    | ((with_reducible refine store64b (x := .tmp 2) (y := .tmp 14) (l := K) (o := ⟨none, .store _ _ _, _, _, _, _⟩) hA1 HO.out HKL.out ?_ ?_); exact ⟨rfl, rfl, rfl, rfl⟩))
  exact bodyPost_ret (res64b rfl (hA1.row _) HKL.out rfl) rfl ⟨by rw [HKE.out], below_row HB1.out (Nat.le_refl _) _⟩
set_option maxRecDepth 100000 in
set_option maxHeartbeats 1000000 in
theorem pad_long {w : World} {v : Value} {l : List UInt8} (hr : Rd w.heap.size w v l) (hl : 64 < l.length) (hm : l.length ≤ 100000000000000) (he : Env w) :
    Calls Tryd.prog 43 #[v] w fun e w' => e = .returned (.agg (bvs (padK l)).toArray) ∧ Below w.heap.size w w' := by
  have HR := Lib.hid hr
  have HE := Lib.hid he
  obtain ⟨q, c, rfl, hc1, hc2⟩ := hr.form
  have h1 : (64 : Int) < l.length := by omega
  clear hr he
  obtain ⟨Z, hZ⟩ : ∃ Z : List UInt8, Z = List.replicate 64 0 := ⟨_, rfl⟩
  have HZ := Lib.hid hZ
  have HZ2 : Hid (∀ cs : Array Value, cs.toList = bvs (List.replicate 64 0) → cs.toList = bvs Z) := fun cs h => by rw [hZ]; exact h
  have HZL : Hid (Z.length = 64) := by rw [hZ]; rfl
  have hz : Hid (∀ cs : Array Value, cs.toList = bvs Z → Arr (w.alloc (.cells cs 79)) 79 w.heap.size (bvs Z)) := fun cs h => Arr.new' w _ cs _ h
  clear hZ
  have HP : Hid (∀ cs : Array Value, cs.toList = bvs Z → RdAll (((w.alloc (.cells cs 79)).alloc (.cells #[.slice q l.length c] 22)).heap.size) ((w.alloc (.cells cs 79)).alloc (.cells #[.slice q l.length c] 22)) (some ⟨w.heap.size + 1, 0, none⟩) [l] ∧ Below w.heap.size w ((w.alloc (.cells cs 79)).alloc (.cells #[.slice q l.length c] 22)) ∧ Arr ((w.alloc (.cells cs 79)).alloc (.cells #[.slice q l.length c] 22)) 79 w.heap.size (bvs Z)) := by
    intro cs h
    have hb1 : Below w.heap.size w (w.alloc (.cells cs 79)) := (Below.refl _ _).alloc (Nat.le_refl _) _
    have hs1 : (w.alloc (.cells cs 79)).heap.size = w.heap.size + 1 := by simp
    have hr1 := rd_one (t := 22) (HR.out.below hb1 (Nat.le_refl _)) (by simp)
    rw [hs1] at hr1
    refine ⟨?_, hb1.alloc (by simp) _, (hz.out cs h).alloc _⟩
    have e : ((w.alloc (.cells cs 79)).alloc (.cells #[.slice q l.length c] 22)).heap.size = w.heap.size + 1 + 1 := by simp
    rw [e]; exact hr1
  go_enter Tryd.func43, Tryd.ntmps43
  go_wp2_with fail
  refine (sum_any (cap := 1) (HP.out _ (HZ2.out _ rfl)).1 (Nat.le_refl _) (by simp) (by simpa [total] using hm) (HE.out.below (HP.out _ (HZ2.out _ rfl)).2.1)).mono ?_
  rintro e w3 ⟨rfl, b3⟩
  have HB3 : Hid (Below w.heap.size w w3) := (HP.out _ (HZ2.out _ rfl)).2.1.trans (b3.mono (HP.out _ (HZ2.out _ rfl)).2.1.size)
  have HA3 : Hid (Arr w3 79 w.heap.size (bvs Z)) := (HP.out _ (HZ2.out _ rfl)).2.2.later b3
  rw [show [l].flatten = l from by simp]
  obtain ⟨D, hD⟩ : ∃ D, D = digest l := ⟨_, rfl⟩
  rw [← hD]
  have HDL : Hid (D.length = 32) := by rw [hD]; exact digest_length _
  have HDK : Hid (D ++ Z.drop D.length = padK l) := by
    show _ = _
    have hk : keyOf l = D := by unfold keyOf; rw [if_pos (by omega), hD]
    rw [padK, hk, HZ.out, List.drop_replicate]
  have HSZ : Hid (w.heap.size < w3.heap.size) := HA3.out.lt
  clear b3 HP hz HZ2 hD HZ
  have hb4 : Below w3.heap.size w3 (w3.alloc (.cells (bvs D).toArray 24)) := (Below.refl _ _).alloc (Nat.le_refl _) _
  have HB4 := Lib.hid (HB3.out.trans (hb4.mono HB3.out.size))
  have HA4 := Lib.hid (HA3.out.later hb4)
  have HD4 : Hid (Rd (w3.alloc (.cells (bvs D).toArray 24)).heap.size (w3.alloc (.cells (bvs D).toArray 24)) (.slice (some ⟨w3.heap.size, 0, none⟩) 32 32) D) := by
    have := arr_rd (Arr.new' w3 24 (bvs D).toArray (bvs D) (by simp)) (by rw [HDL.out]; unfold maxLen; omega)
    rw [HDL.out] at this
    exact this
  clear hb4 HB3 HA3
  go_wp2_with (first
    | ((with_reducible refine at32b w3.heap.size (x := .tmp 3) (y := .tmp 9) (l := D) (o := ⟨none, .store _ _ _, _, _, _, _⟩) HDL.out ?_ ?_); exact ⟨rfl, rfl, rfl, rfl, rfl, rfl⟩)
    | ((with_reducible refine copy_arr (.tmp 11) (.tmp 12) (m := D) (z := Z) (g := w.heap.size) (n := 64) (c := 64) (t := 79) (vx := .slice (some ⟨w3.heap.size, 0, none⟩) 32 32) (C := (w3.alloc (.cells (bvs D).toArray 24)).heap.size) (o := ⟨some 13, .call _, _, _, _, _⟩) ?_ ?_ ?_ ?_ ?_ ?_); exact HA4.out; exact HZL.out; exact HD4.out; (rw [HDL.out]; omega); exact ⟨rfl, rfl, rfl, rfl⟩))
  intro w5 hA1 hB1 _
  rw [HDK.out] at hA1
  have HB1 : Hid (Below w.heap.size w w5) := HB4.out.trans (hB1 _ (Nat.le_refl _))
  obtain ⟨K, hK⟩ : ∃ K, K = padK l := ⟨_, rfl⟩
  rw [← hK] at hA1
  have HKL : Hid (K.length = 64) := by rw [hK]; exact padK_length l
  have HKE := Lib.hid hK
  have HO : Hid ((bvs K).length = 64) := by show _ = _; rw [bvs_length, HKL.out]
  clear hB1 hK HZL HB4 HA4 HD4 HDK
  go_wp2_with (first
    | ((with_reducible refine load64b (x := .tmp 2) (o := ⟨some 14, _, _, _, _, _⟩) hA1 HKL.out ?_ ?_); exact ⟨rfl, rfl, rfl⟩)
    | ((with_reducible refine store64b (x := .tmp 2) (y := .tmp 14) (l := K) (o := ⟨none, .store _ _ _, _, _, _, _⟩) hA1 HO.out HKL.out ?_ ?_); exact ⟨rfl, rfl, rfl, rfl⟩))
  exact bodyPost_ret (res64b rfl (hA1.row _) HKL.out rfl) rfl ⟨by rw [HKE.out], below_row HB1.out (Nat.le_refl _) _⟩
theorem mpad_any {w : World} {v : Value} {l : List UInt8} (hr : Rd w.heap.size w v l) (hm : l.length ≤ 100000000000000) (he : Env w) :
    Calls Tryd.prog 43 #[v] w fun e w' => e = .returned (.agg (bvs (padK l)).toArray) ∧ Below w.heap.size w w' := by
  by_cases h : l.length ≤ 64
  · exact pad_key hr h
  · exact pad_long hr (by omega) hm he
end Go.Proofs.YtaikdbbakdicgaaDoor
/-
  append of slices of bytes to a slice of slices of bytes of the call's own.
-/
namespace Go.Proofs.YtaikdbbakdicgaaDoor
open Go.ChangeShapes Go.WideShapes Go.ChangeAt Go.RowKit
set_option linter.unusedVariables false

theorem Tryd.infoS : (Tryd.prog.info? 22).map (fun i => (i.zero, i.size, i.bytes)) = some (some (.slice none 0 0), 1, 24) := by kernel_rfl
/-- v's row is the call's own from base on and holds slices that read as ks. -/
def RowAll (base B : Nat) (w : World) (v : Value) (ks : List (List UInt8)) : Prop :=
  ∃ xs : List Value, w.ownsRow base 22 1 v ks.length xs ∧ ∀ i, i < ks.length → ∃ u, xs[i]? = some u ∧ Rd B w u (ks.getD i [])
theorem RowAll.rdall {base B : Nat} {w : World} {v : Value} {ks : List (List UInt8)} (h : RowAll base B w v ks) (hB : B ≤ w.heap.size) : ∃ oa cap, v = .slice oa ks.length cap ∧ RdAll w.heap.size w oa ks := by
  obtain ⟨xs, hown, hrd⟩ := h
  rcases hown.2 with ⟨hv, hn⟩ | ⟨g, cap, cur, hv, hb, hg, h1, h2, h3, h4⟩
  · exact ⟨none, 0, by rw [hn]; exact hv, fun h => by omega⟩
  · refine ⟨_, cap, hv, fun _ => ⟨g, 0, rfl, (Array.getElem?_eq_some_iff.1 hg).1, fun i hi => ?_⟩⟩
    obtain ⟨u, hu, hr⟩ := hrd i hi
    refine ⟨u, ?_, hr.mono hB⟩
    rw [Nat.zero_add, cell_of_row w g i cur _ (0, 0) hg, ← hu, ← h4, List.getElem?_take, if_pos (by omega), Array.getElem?_toList]
theorem RowAll.nil (base B : Nat) (w : World) : RowAll base B w (.slice none 0 0) [] := ⟨[], World.ownsRow_nil _ _ _ _, fun i hi => by simp at hi⟩
theorem RowAll.new {B : Nat} {w : World} {u : Value} {k : List UInt8} (hu : Rd B w u k) (hB : B ≤ w.heap.size) : RowAll w.heap.size B (w.alloc (.cells #[u] 22)) (.slice (some ⟨w.heap.size, 0, none⟩) 1 1) [k] := by
  refine ⟨[u], ⟨rfl, .inr ⟨w.heap.size, 1, #[u], rfl, Nat.le_refl _, heap_alloc_new w _, Nat.le_refl _, by decide, rfl, rfl⟩⟩, fun i hi => ?_⟩
  obtain rfl : i = 0 := by simpa using hi
  exact ⟨u, rfl, hu.below ((Below.refl _ _).alloc (Nat.le_refl _) _) hB⟩
theorem RowAll.later {base B : Nat} {w w' : World} {v : Value} {ks : List (List UInt8)} (h : RowAll base B w v ks) (hb : Below w.heap.size w w') (hB : B ≤ w.heap.size) : RowAll base B w' v ks := by
  obtain ⟨xs, hown, hrd⟩ := h
  refine ⟨xs, ⟨hown.1, ?_⟩, fun i hi => ?_⟩
  · rcases hown.2 with h | ⟨g, cap, cur, hv, h0, hg, h⟩
    · exact .inl h
    · exact .inr ⟨g, cap, cur, hv, h0, (hb.block g (Array.getElem?_eq_some_iff.1 hg).1).trans hg, h⟩
  · obtain ⟨u, hu, hr⟩ := hrd i hi
    exact ⟨u, hu, hr.below hb hB⟩

theorem run_parts {w : World} {base B : Nat} {v : Value} {ks ls : List (List UInt8)} {oa : Option Addr} {cap : Nat} (hown : RowAll base B w v ks) (hr : RdAll B w oa ls) (hlen : (ks.length + ls.length) * 24 ≤ 140737488355328) (hB : B ≤ base) (hbase : base ≤ w.heap.size) (ty : TypeId) :
    ∃ v' w', (Builtin.append_ #[77, 77] ty #[v, .slice oa ls.length cap]).run Tryd.prog w = .ok v' w' ∧ RowAll base B w' v' (ks ++ ls) ∧ Below base w w' := by
  obtain ⟨i0, hi, hz0, hz1, hz2⟩ := info_parts Tryd.infoS
  obtain ⟨xs, hx, hrd⟩ := hown
  have key : ∀ (ad : Addr) (news : List Value), news.length = ls.length → (∀ j u, news[j]? = some u → w.cell? (ad.add j) = some u) → (∀ i, i < ls.length → ∃ u, news[i]? = some u ∧ Rd B w u (ls.getD i [])) →
      ∃ v' w', (Builtin.append_ #[77, 77] ty #[v, .slice (some ad) ls.length cap]).run Tryd.prog w = .ok v' w' ∧ RowAll base B w' v' (ks ++ ls) ∧ Below base w w' := by
    intro ad news hn hc hu
    have hone : ∀ u ∈ news, u.oneCell' = true := by
      intro u hu'
      obtain ⟨i, hi', e⟩ := List.getElem_of_mem hu'
      obtain ⟨u2, h2, h3⟩ := hu i (by omega)
      rw [List.getElem?_eq_getElem hi', e] at h2
      obtain rfl := Option.some.inj h2
      obtain ⟨q, c, rfl, _, _⟩ := h3.form
      rfl
    obtain ⟨v', w', hrun, ho, hg, _⟩ := run_append_own (P := Tryd.prog) w base 77 ty 22 i0 (.slice none 0 0) 1 24 Tryd.underlying77 hi hz0 hz1 hz2 rfl (by decide) v ks.length xs hx ad ls.length cap news (by simp [hn]) hc hone (by unfold maxLen; omega) hlen hbase
    have hbel : Below base w w' := (Below.refl _ _).grown hg hbase (fun k hk => (hx.lt k hk).1)
    refine ⟨v', w', hrun, ⟨xs ++ news, by rw [List.length_append]; exact ho, fun i hi' => ?_⟩, hbel⟩
    have hxl : xs.length = ks.length := by simpa using hx.1
    rw [List.length_append] at hi'
    by_cases hik : i < ks.length
    · obtain ⟨u, h1, h2⟩ := hrd i hik
      refine ⟨u, by rw [List.getElem?_append_left (by omega)]; exact h1, ?_⟩
      rw [show (ks ++ ls).getD i [] = ks.getD i [] by simp [List.getD_eq_getElem?_getD, List.getElem?_append_left hik]]
      exact h2.below hbel hB
    · obtain ⟨u, h1, h2⟩ := hu (i - ks.length) (by omega)
      refine ⟨u, by rw [List.getElem?_append_right (by omega), hxl]; exact h1, ?_⟩
      rw [show (ks ++ ls).getD i [] = ls.getD (i - ks.length) [] by simp [List.getD_eq_getElem?_getD, List.getElem?_append_right (show ks.length ≤ i by omega)]]
      exact h2.below hbel hB
  by_cases h0 : 0 < ls.length
  · obtain ⟨b, off, rfl, hbB, hc⟩ := hr h0
    refine key ⟨b, off, none⟩ ((List.range ls.length).map fun i => (w.cell? ⟨b, off + i, none⟩).getD undef) (by simp) (fun j u hu => ?_) (fun i hi' => ?_)
    · have hj : j < ls.length := by have := (List.getElem?_eq_some_iff.1 hu).1; simpa using this
      obtain ⟨u2, h2, _⟩ := hc j hj
      rw [List.getElem?_map, List.getElem?_range hj, Option.map_some, h2] at hu
      rw [Addr.add_mid, h2]; simpa using hu
    · obtain ⟨u2, h2, h3⟩ := hc i hi'
      exact ⟨u2, by rw [List.getElem?_map, List.getElem?_range hi', Option.map_some, h2]; rfl, h3⟩
  · obtain rfl : ls = [] := by cases ls with | nil => rfl | cons _ _ => simp at h0
    cases oa with
    | some ad => exact key ad [] rfl (fun j u hu => by simp at hu) (fun i hi' => by simp at hi')
    | none =>
      rw [List.append_nil]
      rcases hx.2 with ⟨hv, hn⟩ | ⟨g, cp, cur, hv, hb, hg, h1, h2, h3, h4⟩
      · subst hv
        exact ⟨.slice none 0 0, w, by simp [Builtin.append_, run_underlying Tryd.underlying77, sizeOf, typeInfo, hi, Builtin.lenOf, Builtin.firstCells], ⟨xs, hx, hrd⟩, Below.refl _ _⟩
      · subst hv
        refine ⟨_, w, ?_, ⟨xs, hx, hrd⟩, Below.refl _ _⟩
        simp [Builtin.append_, run_underlying Tryd.underlying77, sizeOf, typeInfo, hi, Builtin.lenOf, Builtin.firstCells, h1, storeCells]
section
variable {ops : Array Oper} {rest : List Oper} {o : Oper} {a : Act} {Q : Exit → Act → World → Prop} {w : World}
theorem app_parts (hgd : o.guard = none) (s x : Operand) (ho : o.op = .call { callee := .builtin .append, args := #[s, x], argTypes := #[77, 77] })
    {base B cap : Nat} {v : Value} {oa : Option Addr} {ks ls : List (List UInt8)} (hs : a.eval s = v) (hown : RowAll base B w v ks) (hx : a.eval x = .slice oa ls.length cap) (hr : RdAll B w oa ls) (hlen : (ks.length + ls.length) * 24 ≤ 140737488355328) (hB : B ≤ base) (hbase : base ≤ w.heap.size)
    (h : ∀ v' w', RowAll base B w' v' (ks ++ ls) → Below base w w' → wpList Tryd.prog ops Q rest (a.put o.dst v') w') : wpList Tryd.prog ops Q (o :: rest) a w := by
  refine wpList_plain hgd fun K hK' => ?_
  obtain ⟨v', w', hrun, r1, r2⟩ := run_parts (cap := cap) hown hr hlen hB hbase o.type
  obtain ⟨vx, hvx⟩ : ∃ vx, vx = Value.slice oa ls.length cap := ⟨_, rfl⟩
  rw [← hvx] at hx hrun
  unfold Oper.wp
  simp [execOp, ho, resolve, invoke, builtin, hs, hx, hrun, Result.andThen]
  exact hK' _ _ (h v' w' r1 r2)
end
end Go.Proofs.YtaikdbbakdicgaaDoor
/-
  mac.Sum and its closure.
-/
namespace Go.Proofs.YtaikdbbakdicgaaDoor
open Go.ChangeShapes Go.WideShapes Go.ChangeAt Go.RowKit
set_option linter.unusedVariables false

theorem at64b {ops : Array Oper} {rest : List Oper} {o : Oper} {a : Act} {Q : Exit → Act → World → Prop} {w : World} {t : TypeId} {x y : Operand} (n : Nat) {l : List UInt8} {cs : Array Value} (hl : l.length = 64)
    (hs : o.guard = none ∧ o.op = .store 79 x y ∧ a.eval x = .pointer (some ⟨n, 0, none⟩) ∧ a.eval y = .agg (bvs l).toArray ∧ cs.toList.length = 64 ∧ n = w.heap.size)
    (hk : wpList Tryd.prog ops Q rest (a.put o.dst undef) (w.alloc (.cells (bvs l).toArray t))) : wpList Tryd.prog ops Q (o :: rest) a (w.alloc (.cells cs t)) := by
  obtain ⟨h1, h2, h3, h4, h5, rfl⟩ := hs
  exact store_arr h1 _ _ _ h2 (Arr.new w t cs) h3 h4 (by rw [bvs_length, hl]; kernel_rfl) (by rw [h5, bvs_length, hl]) (bvs_oneCell l) (by rw [World.setRow_alloc_new]; exact hk)
def xorL (m : UInt8) (l : List UInt8) : List UInt8 := l.map (· ^^^ m)
/-- The block when i bytes of it are masked. -/
def xpart (m : UInt8) (l : List UInt8) (i : Nat) : List UInt8 := xorL m (l.take i) ++ l.drop i
theorem xorL_length (m : UInt8) (l : List UInt8) : (xorL m l).length = l.length := by simp [xorL]
theorem xpart_length (m : UInt8) (l : List UInt8) (i : Nat) : (xpart m l i).length = l.length := by
  simp [xpart, xorL_length]; omega
theorem xpart_get (m : UInt8) (l : List UInt8) (i : Nat) (h : i < l.length) : (xpart m l i).getD i 0 = l.getD i 0 := by
  have e : (xorL m (l.take i)).length = i := by rw [xorL_length, List.length_take]; omega
  simp only [xpart, List.getD_eq_getElem?_getD]
  rw [List.getElem?_append_right (by omega), e]
  simp
theorem xpart_next (m : UInt8) (l : List UInt8) (i : Nat) (h : i < l.length) : (xpart m l i).set i (l.getD i 0 ^^^ m) = xpart m l (i + 1) := by
  have e : (xorL m (l.take i)).length = i := by rw [xorL_length, List.length_take]; omega
  rw [xpart, List.set_append_right _ _ (by omega), e, Nat.sub_self, List.drop_eq_getElem_cons h, List.set_cons_zero, xpart, List.take_succ_eq_append_getElem h]
  simp only [xorL, List.map_append, List.append_assoc, List.map_cons, List.map_nil, List.singleton_append, List.getD_eq_getElem?_getD, List.getElem?_eq_getElem h, Option.getD_some]
theorem xpart_done (m : UInt8) (l : List UInt8) : xpart m l l.length = xorL m l := by simp [xpart]
theorem u8x (x m : UInt8) : bits .xor .u8 (x.toNat : Int) (m.toNat : Int) = ((x ^^^ m).toNat : Int) := by
  rw [u8_xor_nat _ _ x.toNat_lt m.toNat_lt, UInt8.toNat_xor]
theorem xpart_zero (m : UInt8) (l : List UInt8) : xpart m l 0 = l := by simp [xpart, xorL]
theorem RdAll.mono {B C : Nat} {w : World} {oa : Option Addr} {ls : List (List UInt8)} (h : RdAll B w oa ls) (hB : B ≤ C) : RdAll C w oa ls := by
  intro h0
  obtain ⟨b, off, e, h1, hc⟩ := h h0
  refine ⟨b, off, e, by omega, fun i hi => ?_⟩
  obtain ⟨u, hu, hr⟩ := hc i hi
  exact ⟨u, hu, hr.mono hB⟩
set_option maxRecDepth 100000 in
set_option maxHeartbeats 1000000 in
theorem masked_any {w : World} {G : Nat} {K : List UInt8} {m : UInt8} {oa : Option Addr} {cap : Nat} {ls : List (List UInt8)} (hK : Arr w 79 G (bvs K)) (hl : K.length = 64) (hr : RdAll w.heap.size w oa ls) (hn : ls.length ≤ 1000000000000) (ht : total ls ≤ 90000000000000) (he : Env w) :
    Calls Tryd.prog 44 #[.int .u8 m.toNat, .slice oa ls.length cap, .pointer (some ⟨G, 0, none⟩)] w fun e w' => e = .returned (.agg (bvs (digest (xorL m K ++ ls.flatten))).toArray) ∧ Below w.heap.size w w' := by
  obtain ⟨Z, hZ⟩ : ∃ Z : List UInt8, Z = List.replicate 32 0 := ⟨_, rfl⟩
  have hA : ∀ o, Arr (w.alloc o) 79 G (bvs K) := fun o => hK.alloc o
  have HKL := Lib.hid hl
  clear hl
  go_enter Tryd.func44, Tryd.ntmps44
  go_wp2_with (first
    | ((with_reducible refine load64b (x := .tmp 2) (o := ⟨some 8, _, _, _, _, _⟩) (hA _) HKL.out ?_ ?_); exact ⟨rfl, rfl, rfl⟩)
    | ((with_reducible refine at64b (w.heap.size + 1) (x := .tmp 6) (y := .tmp 8) (l := K) (o := ⟨none, .store _ _ _, _, _, _, _⟩) HKL.out ?_ ?_); exact ⟨rfl, rfl, rfl, rfl, rfl, by simp⟩))
  have HST : Hid (∀ z : Array Value, z.toList = bvs Z → Arr ((w.alloc (.cells z 24)).alloc (.cells (bvs K).toArray 79)) 79 (w.heap.size + 1) (bvs (xpart m K 0)) ∧ Arr ((w.alloc (.cells z 24)).alloc (.cells (bvs K).toArray 79)) 24 w.heap.size (bvs Z) ∧ Below w.heap.size w ((w.alloc (.cells z 24)).alloc (.cells (bvs K).toArray 79))) := fun z hz => by
    rw [xpart_zero]
    exact ⟨Arr.new2 _ _ _ _ _ (by simp), (Arr.new' w _ z _ hz).alloc _, ((Below.refl _ _).alloc (Nat.le_refl _) _).alloc (by simp) _⟩
  have HZ := Lib.hid hZ
  clear hA hZ
  go_loopw [7, 9] (fun _ iv wr => ∃ i : Nat, i ≤ 64 ∧ iv = .int .i64 i ∧ Hid (Arr wr 79 (w.heap.size + 1) (bvs (xpart m K i)) ∧ Arr wr 24 w.heap.size (bvs Z) ∧ Below w.heap.size w wr)) (fun _ iv _ => 64 - (intOf iv).toNat)
  case atStart => exact ⟨0, by omega, rfl, HST.out _ (by rw [HZ.out]; rfl)⟩
  case round =>
    obtain ⟨i, hi, rfl, HM⟩ := hrel
    clear HST
    have hi0 : (0 : Int) ≤ i := by omega
    by_cases hlt : i < 64
    · have hlt1 : (i : Int) < 64 := by omega
      have hiK : i < K.length := by rw [HKL.out]; exact hlt
      have hf := HM.out.1.free i
      have hc := (HM.out.1.cell i).trans (bvs_getElem _ _ (by rw [xpart_length]; exact hiK))
      rw [xpart_get m K i hiK] at hc
      obtain ⟨x, hx⟩ : ∃ x, x = K.getD i 0 := ⟨_, rfl⟩
      rw [← hx] at hc
      have HX := Lib.hid hx
      clear hx
      unfold bv at hc
      go_wp2_with fail
      go_roundw
      case rel =>
        refine ⟨i + 1, by omega, by go_num, ?_⟩
        rw [u8x, HX.out, ← xpart_next m K i hiK, ← bvs_set]
        exact ⟨HM.out.1.set _ _, HM.out.2.1.setCell (by show w.heap.size ≠ w.heap.size + 1; omega) _, HM.out.2.2.setCell (by show w.heap.size ≤ w.heap.size + 1; omega) _⟩
      case measure => simp [intOf]; omega
    · rw [show (i : Int) = 64 by omega]
      obtain ⟨X, hX⟩ : ∃ X, X = xorL m K := ⟨_, rfl⟩
      have hXi : xpart m K i = X := by rw [hX, show i = K.length by rw [HKL.out]; omega, xpart_done]
      rw [hXi] at HM
      have HXL : Hid (X.length = 64) := by rw [hX, xorL_length]; exact HKL.out
      have HX := Lib.hid hX
      clear hX hXi hlt hi hi0
      obtain ⟨n, hn'⟩ : ∃ n, n = ls.length := ⟨_, rfl⟩
      have HN := Lib.hid hn'
      have HSZ : Hid (w.heap.size + 1 < wr.heap.size) := HM.out.1.lt
      have HX64 : Hid (Rd wr.heap.size wr (.slice (some ⟨w.heap.size + 1, 0, none⟩) 64 64) X) := by
        have := arr_rd HM.out.1 (by rw [HXL.out]; unfold maxLen; omega)
        rw [HXL.out] at this; exact this
      have hbn : Below wr.heap.size wr (wr.alloc (.cells #[.slice (some ⟨w.heap.size + 1, 0, none⟩) 64 64] 22)) := (Below.refl _ _).alloc (Nat.le_refl _) _
      have HRN := Lib.hid (RowAll.new HX64.out (Nat.le_refl _))
      have HRD : Hid (RdAll wr.heap.size (wr.alloc (.cells #[.slice (some ⟨w.heap.size + 1, 0, none⟩) 64 64] 22)) oa ls) := (((hr.below HM.out.2.2 (Nat.le_refl _))).mono HM.out.2.2.size).below hbn (Nat.le_refl _)
      have HLN : Hid (([X] : List (List UInt8)).length * 24 + ls.length * 24 ≤ 140737488355328) := by show _ ≤ _; simp only [List.length_singleton]; omega
      have HBS : Hid (wr.heap.size ≤ (wr.alloc (.cells #[.slice (some ⟨w.heap.size + 1, 0, none⟩) 64 64] 22)).heap.size) := by show _ ≤ _; simp
      have HM5 := Lib.hid (And.intro (HM.out.2.1.alloc (.cells #[.slice (some ⟨w.heap.size + 1, 0, none⟩) 64 64] 22)) (HM.out.2.2.trans (hbn.mono HM.out.2.2.size)))
      have HT := Lib.hid ht
      have HE := Lib.hid he
      have HNB := Lib.hid hn
      clear hbn hr ht he hn
      rw [← hn']
      rw [hn']
      go_wp2_with (at_builtin; refine app_parts rfl (.tmp 20) (.tmp 21) rfl rfl HRN.out rfl HRD.out (by rw [Nat.add_mul]; exact HLN.out) (Nat.le_refl _) HBS.out ?_; intro v5 w5 h5 b5)
      have hs5 : wr.heap.size ≤ w5.heap.size := Nat.le_trans HBS.out b5.size
      have HM6 := Lib.hid (And.intro (HM5.out.1.below b5 (show w.heap.size < wr.heap.size by have := HSZ.out; omega)) (HM5.out.2.trans (b5.mono (show w.heap.size ≤ wr.heap.size by have := HSZ.out; omega))))
      obtain ⟨oa5, cap5, rfl, hra5⟩ := h5.rdall hs5
      refine (sum_any hra5 (Nat.le_refl _) (by rw [List.length_append, List.length_singleton]; have := HNB.out; omega) (by have := HT.out; have := HXL.out; unfold total at *; rw [List.flatten_append, List.length_append, List.flatten_cons, List.flatten_nil, List.append_nil]; omega) (HE.out.below HM6.out.2)).mono ?_
      rintro e w6 ⟨rfl, b6⟩
      have HM7 := Lib.hid (And.intro (HM6.out.1.later b6) (HM6.out.2.trans (b6.mono HM6.out.2.size)))
      rw [show ([X] ++ ls).flatten = X ++ ls.flatten by simp]
      obtain ⟨D, hD⟩ : ∃ D, D = digest (X ++ ls.flatten) := ⟨_, rfl⟩
      rw [← hD]
      have HDL : Hid (D.length = 32) := by rw [hD]; exact digest_length _
      have HDE : Hid (D = digest (xorL m K ++ ls.flatten)) := by rw [hD, HX.out]; exact rfl
      have HZL : Hid ((bvs Z).length = 32) := by show _ = _; rw [bvs_length, HZ.out]; rfl
      have hM := HM7.out.1
      clear hra5 hD b6 b5 hs5 HM HRN HRD HM5 HM6
      go_wp2_with ((with_reducible refine store32b (x := .tmp 5) (y := .tmp 23) (l := D) (o := ⟨none, .store _ _ _, _, _, _, _⟩) hM HZL.out HDL.out ?_ ?_); exact ⟨rfl, rfl, rfl, rfl⟩)
      exact bodyPost_ret (res32b rfl (hM.row _) HDL.out rfl) rfl ⟨by rw [HDE.out], below_row HM7.out.2 (Nat.le_refl _) _⟩
/-- The code of a key and of bytes. -/
def hmac (k l : List UInt8) : List UInt8 := digest (xorL 92 (padK k) ++ digest (xorL 54 (padK k) ++ l))
theorem hmac_length (k l : List UInt8) : (hmac k l).length = 32 := digest_length _
set_option maxRecDepth 100000 in
set_option maxHeartbeats 1000000 in
theorem msum_any {w : World} {v : Value} {l : List UInt8} {oa : Option Addr} {cap : Nat} {ls : List (List UInt8)} (hv : Rd w.heap.size w v l) (hl : l.length ≤ 90000000000000) (hr : RdAll w.heap.size w oa ls) (hn : ls.length ≤ 1000000000000) (ht : total ls ≤ 90000000000000) (he : Env w) :
    Calls Tryd.prog 25 #[v, .slice oa ls.length cap] w fun e w' => e = .returned (.agg (bvs (hmac l ls.flatten)).toArray) ∧ Below w.heap.size w w' := by
  obtain ⟨Z, hZ⟩ : ∃ Z : List UInt8, Z = List.replicate 32 0 := ⟨_, rfl⟩
  obtain ⟨q, c, rfl, hc1, hc2⟩ := hv.form
  have HST : Hid (∀ z : Array Value, z.toList = bvs Z → Arr (w.alloc (.cells z 24)) 24 w.heap.size (bvs Z) ∧ Below w.heap.size w (w.alloc (.cells z 24)) ∧ Rd (w.alloc (.cells z 24)).heap.size (w.alloc (.cells z 24)) (.slice q l.length c) l ∧ RdAll (w.alloc (.cells z 24)).heap.size (w.alloc (.cells z 24)) oa ls ∧ Env (w.alloc (.cells z 24))) := fun z hz => by
    have hb : Below w.heap.size w (w.alloc (.cells z 24)) := (Below.refl _ _).alloc (Nat.le_refl _) _
    exact ⟨Arr.new' w _ z _ hz, hb, (hv.below hb (Nat.le_refl _)).mono hb.size, (hr.below hb (Nat.le_refl _)).mono hb.size, he.below hb⟩
  have HZ := Lib.hid hZ
  have HZ2 : Hid (∀ cs : Array Value, cs.toList = bvs (List.replicate 32 0) → cs.toList = bvs Z) := fun cs h => by rw [hZ]; exact h
  have HL := Lib.hid hl
  have HN := Lib.hid hn
  have HT := Lib.hid ht
  clear hZ hv hr he hl hn ht hc1 hc2
  go_enter Tryd.func25, Tryd.ntmps25
  go_wp2_with fail
  have H0 := Lib.hid (HST.out _ (HZ2.out _ rfl))
  refine (mpad_any H0.out.2.2.1 (Nat.le_trans HL.out (by omega)) H0.out.2.2.2.2).mono ?_
  rintro e w1 ⟨rfl, b1⟩
  have HB1 := Lib.hid (H0.out.2.1.trans (b1.mono H0.out.2.1.size))
  have HZ1 := Lib.hid (H0.out.1.later b1)
  have HR1 := Lib.hid ((H0.out.2.2.2.1.below b1 (Nat.le_refl _)).mono b1.size)
  have HE1 := Lib.hid (H0.out.2.2.2.2.below (b1.mono (Nat.le_refl _)))
  obtain ⟨K, hK⟩ : ∃ K, K = padK l := ⟨_, rfl⟩
  rw [← hK]
  have HKL : Hid (K.length = 64) := by rw [hK]; exact padK_length _
  have HKE := Lib.hid hK
  clear b1 H0 HST HZ2 hK
  have hb2 : Below w1.heap.size w1 (w1.alloc (.cells (bvs K).toArray 79)) := (Below.refl _ _).alloc (Nat.le_refl _) _
  have HB2 := Lib.hid (HB1.out.trans (hb2.mono HB1.out.size))
  have HZ2 := Lib.hid (HZ1.out.later hb2)
  have HR2 := Lib.hid ((HR1.out.below hb2 (Nat.le_refl _)).mono hb2.size)
  have HE2 := Lib.hid (HE1.out.below (hb2.mono (Nat.le_refl _)))
  have HK2 := Lib.hid (Arr.new' w1 79 (bvs K).toArray (bvs K) (by simp))
  clear hb2 HB1 HZ1 HR1 HE1
  go_wp2_with ((with_reducible refine at64b (w1.heap.size) (x := .tmp 5) (y := .tmp 9) (l := K) (o := ⟨none, .store _ _ _, _, _, _, _⟩) HKL.out ?_ ?_); exact ⟨rfl, rfl, rfl, rfl, rfl, rfl⟩)
  have h54 := masked_any (m := 54) (cap := cap) HK2.out HKL.out HR2.out HN.out HT.out HE2.out
  rw [show (((54 : UInt8).toNat : Nat) : Int) = 54 from rfl] at h54
  refine h54.mono ?_
  clear h54
  rintro e w3 ⟨rfl, b3⟩
  have HB3 := Lib.hid (HB2.out.trans (b3.mono HB2.out.size))
  have HZ3 := Lib.hid (HZ2.out.later b3)
  have HE3 := Lib.hid (HE2.out.below (b3.mono (Nat.le_refl _)))
  have HK3 := Lib.hid (HK2.out.later b3)
  obtain ⟨I, hI⟩ : ∃ I, I = digest (xorL 54 K ++ ls.flatten) := ⟨_, rfl⟩
  rw [← hI]
  have HIL : Hid (I.length = 32) := by rw [hI]; exact digest_length _
  have HIE := Lib.hid hI
  clear b3 HB2 HZ2 HR2 HE2 HK2 hI
  have hb4 : Below w3.heap.size w3 (w3.alloc (.cells (bvs I).toArray 24)) := (Below.refl _ _).alloc (Nat.le_refl _) _
  have HI4 : Hid (Rd (w3.alloc (.cells (bvs I).toArray 24)).heap.size (w3.alloc (.cells (bvs I).toArray 24)) (.slice (some ⟨w3.heap.size, 0, none⟩) 32 32) I) := by
    have := arr_rd (Arr.new' w3 24 (bvs I).toArray (bvs I) (by simp)) (by rw [HIL.out]; unfold maxLen; omega)
    rw [HIL.out] at this
    exact this
  have hb5 : Below (w3.alloc (.cells (bvs I).toArray 24)).heap.size (w3.alloc (.cells (bvs I).toArray 24)) ((w3.alloc (.cells (bvs I).toArray 24)).alloc (.cells #[.slice (some ⟨w3.heap.size, 0, none⟩) 32 32] 22)) := (Below.refl _ _).alloc (Nat.le_refl _) _
  have hb6 := hb4.trans (hb5.mono hb4.size)
  have HB6 := Lib.hid (HB3.out.trans (hb6.mono HB3.out.size))
  have HZ6 := Lib.hid (HZ3.out.later hb6)
  have HE6 := Lib.hid (HE3.out.below (hb6.mono (Nat.le_refl _)))
  have HK6 := Lib.hid (HK3.out.later hb6)
  have hs4 : (w3.alloc (.cells (bvs I).toArray 24)).heap.size = w3.heap.size + 1 := by simp
  have hr6 := (rd_one (t := 22) HI4.out (Nat.le_refl _))
  have hs6 : ((w3.alloc (.cells (bvs I).toArray 24)).alloc (.cells #[.slice (some ⟨w3.heap.size, 0, none⟩) 32 32] 22)).heap.size = (w3.alloc (.cells (bvs I).toArray 24)).heap.size + 1 := by simp
  rw [← hs6, hs4] at hr6
  have HR6 := Lib.hid hr6
  clear hb4 hb5 hb6 hs4 hs6 hr6 HI4 HB3 HZ3 HE3 HK3
  go_wp2_with ((with_reducible refine at32b w3.heap.size (x := .tmp 7) (y := .tmp 13) (l := I) (o := ⟨none, .store _ _ _, _, _, _, _⟩) HIL.out ?_ ?_); exact ⟨rfl, rfl, rfl, rfl, rfl, rfl⟩)
  have h92 := masked_any (m := 92) (cap := 1) (ls := [I]) HK6.out HKL.out HR6.out (by simp) (by have := HIL.out; simp only [total, List.flatten_cons, List.flatten_nil, List.append_nil]; omega) HE6.out
  rw [show (((92 : UInt8).toNat : Nat) : Int) = 92 from rfl] at h92
  refine h92.mono ?_
  clear h92
  rintro e w7 ⟨rfl, b7⟩
  have HB7 := Lib.hid (HB6.out.trans (b7.mono HB6.out.size))
  have hM := HZ6.out.later b7
  obtain ⟨D, hD⟩ : ∃ D, D = digest (xorL 92 K ++ [I].flatten) := ⟨_, rfl⟩
  rw [← hD]
  have HDL : Hid (D.length = 32) := by rw [hD]; exact digest_length _
  have HDE : Hid (D = hmac l ls.flatten) := by
    show _ = _
    rw [hD, HIE.out, HKE.out, List.flatten_cons, List.flatten_nil, List.append_nil]; rfl
  have HZL : Hid ((bvs Z).length = 32) := by show _ = _; rw [bvs_length, HZ.out]; rfl
  clear b7 hD HB6 HZ6 HE6 HK6 HR6
  go_wp2_with ((with_reducible refine store32b (x := .tmp 4) (y := .tmp 17) (l := D) (o := ⟨none, .store _ _ _, _, _, _, _⟩) hM HZL.out HDL.out ?_ ?_); exact ⟨rfl, rfl, rfl, rfl⟩)
  exact bodyPost_ret (res32b rfl (hM.row _) HDL.out rfl) rfl ⟨by rw [HDE.out], below_row HB7.out (Nat.le_refl _) _⟩
end Go.Proofs.YtaikdbbakdicgaaDoor
/-
  Zookies as bytes and texts; no program is spoken of.
-/
namespace Go.Proofs.YtaikdbbakdicgaaDoor
open Go.RowKit
set_option linter.unusedVariables false

def z32 : List UInt8 := List.replicate 32 0
def lim63 : Nat := 9223372036854775808
/-- Version, revision, digest, code of the error (0: none), offset. -/
def badZ (c n : Nat) : Nat × Nat × List UInt8 × Nat × Nat := (0, 0, z32, c, n)
def payZ (r : Nat) (d : List UInt8) : List UInt8 := 1 :: (put r ++ d)
def parseZ : List UInt8 → Nat × Nat × List UInt8 × Nat × Nat
  | [] => badZ 1 0
  | v :: b => if v.toNat ≠ 1 then badZ 13 0 else if (num b).2.2 ≠ 0 then badZ (num b).2.2 1 else if lim63 ≤ (num b).1 then badZ 15 1
      else if b.length < (num b).2.1 + 32 then badZ 1 (1 + (num b).2.1) else if (num b).2.1 + 32 < b.length then badZ 16 (33 + (num b).2.1) else (1, (num b).1, b.drop (num b).2.1, 0, 0)
theorem parseZ_ver {v : UInt8} {b : List UInt8} (h : v.toNat ≠ 1) : parseZ (v :: b) = badZ 13 0 := by simp only [parseZ]; rw [if_pos h]
theorem parseZ_num {v : UInt8} {b : List UInt8} (h : v.toNat = 1) (h2 : (num b).2.2 ≠ 0) : parseZ (v :: b) = badZ (num b).2.2 1 := by
  simp only [parseZ]; rw [if_neg (by omega), if_pos h2]
theorem parseZ_lim {v : UInt8} {b : List UInt8} (h : v.toNat = 1) (h2 : (num b).2.2 = 0) (h3 : lim63 ≤ (num b).1) : parseZ (v :: b) = badZ 15 1 := by
  simp only [parseZ]; rw [if_neg (by omega), if_neg (by omega), if_pos h3]
theorem parseZ_short {v : UInt8} {b : List UInt8} (h : v.toNat = 1) (h2 : (num b).2.2 = 0) (h3 : ¬ lim63 ≤ (num b).1) (h4 : b.length < (num b).2.1 + 32) : parseZ (v :: b) = badZ 1 (1 + (num b).2.1) := by
  simp only [parseZ]; rw [if_neg (by omega), if_neg (by omega), if_neg h3, if_pos h4]
theorem parseZ_long {v : UInt8} {b : List UInt8} (h : v.toNat = 1) (h2 : (num b).2.2 = 0) (h3 : ¬ lim63 ≤ (num b).1) (h4 : (num b).2.1 + 32 < b.length) : parseZ (v :: b) = badZ 16 (33 + (num b).2.1) := by
  simp only [parseZ]; rw [if_neg (by omega), if_neg (by omega), if_neg h3, if_neg (by omega), if_pos h4]
theorem parseZ_yes {v : UInt8} {b : List UInt8} (h : v.toNat = 1) (h2 : (num b).2.2 = 0) (h3 : ¬ lim63 ≤ (num b).1) (h4 : b.length = (num b).2.1 + 32) : parseZ (v :: b) = (1, (num b).1, b.drop (num b).2.1, 0, 0) := by
  simp only [parseZ]; rw [if_neg (by omega), if_neg (by omega), if_neg h3, if_neg (by omega), if_neg (by omega)]
theorem payZ_len {r : Nat} {d : List UInt8} (hr : r < lim63) (hd : d.length = 32) : (payZ r d).length ≤ 43 := by
  have := put_len10 (x := r) (by unfold lim63 at hr; unfold lim64; omega)
  unfold payZ
  rw [List.length_cons, List.length_append]
  omega
theorem parseZ_pay {r : Nat} {d : List UInt8} (hr : r < lim63) (hd : d.length = 32) : parseZ (payZ r d) = (1, r, d, 0, 0) := by
  have hn := num_put (x := r) (by unfold lim63 at hr; unfold lim64; omega) d
  have h := parseZ_yes (v := 1) (b := put r ++ d) rfl (by rw [hn]) (by rw [hn]; omega) (by rw [hn, List.length_append, hd])
  rw [hn] at h
  unfold payZ
  rw [h]
  simp
theorem parseZ_cases (b : List UInt8) : (∃ c n, c ≠ 0 ∧ parseZ b = badZ c n) ∨ ∃ r d, r < lim63 ∧ d.length = 32 ∧ b = payZ r d ∧ parseZ b = (1, r, d, 0, 0) := by
  cases b with
  | nil => exact .inl ⟨1, 0, by omega, rfl⟩
  | cons v b =>
    by_cases h : v.toNat = 1
    · by_cases h2 : (num b).2.2 = 0
      · by_cases h3 : lim63 ≤ (num b).1
        · exact .inl ⟨15, 1, by omega, parseZ_lim h h2 h3⟩
        · by_cases h4 : b.length < (num b).2.1 + 32
          · exact .inl ⟨1, _, by omega, parseZ_short h h2 h3 h4⟩
          · by_cases h5 : (num b).2.1 + 32 < b.length
            · exact .inl ⟨16, _, by omega, parseZ_long h h2 h3 h5⟩
            · refine .inr ⟨(num b).1, b.drop (num b).2.1, by omega, by rw [List.length_drop]; omega, ?_, parseZ_yes h h2 h3 (by omega)⟩
              obtain ⟨t1, t2⟩ := num_back h2
              unfold payZ
              rw [← t1, List.take_append_drop, UInt8.toNat_inj.1 (show v.toNat = (1 : UInt8).toNat from h)]
      · exact .inl ⟨_, _, h2, parseZ_num h h2⟩
    · exact .inl ⟨13, 0, by omega, parseZ_ver h⟩

def signZ (k b : List UInt8) : List UInt8 := enc (b ++ hmac k b)
def verZ (k s : List UInt8) : Nat × Nat × List UInt8 × Nat × Nat :=
  if 0 ≤ (dec s).2 then badZ 6 (dec s).2.toNat else if (dec s).1.length < 32 then badZ 1 (dec s).1.length
  else if hmac k ((dec s).1.take ((dec s).1.length - 32)) = (dec s).1.drop ((dec s).1.length - 32) then parseZ ((dec s).1.take ((dec s).1.length - 32)) else badZ 12 ((dec s).1.length - 32)
theorem verZ_bad {k s : List UInt8} (h : 0 ≤ (dec s).2) : verZ k s = badZ 6 (dec s).2.toNat := by unfold verZ; rw [if_pos h]
theorem verZ_short {k s : List UInt8} (h : ¬ 0 ≤ (dec s).2) (h2 : (dec s).1.length < 32) : verZ k s = badZ 1 (dec s).1.length := by unfold verZ; rw [if_neg h, if_pos h2]
theorem verZ_tag {k s : List UInt8} (h : ¬ 0 ≤ (dec s).2) (h2 : ¬ (dec s).1.length < 32) (h3 : ¬ hmac k ((dec s).1.take ((dec s).1.length - 32)) = (dec s).1.drop ((dec s).1.length - 32)) :
    verZ k s = badZ 12 ((dec s).1.length - 32) := by unfold verZ; rw [if_neg h, if_neg h2, if_neg h3]
theorem verZ_yes {k s : List UInt8} (h : ¬ 0 ≤ (dec s).2) (h2 : ¬ (dec s).1.length < 32) (h3 : hmac k ((dec s).1.take ((dec s).1.length - 32)) = (dec s).1.drop ((dec s).1.length - 32)) :
    verZ k s = parseZ ((dec s).1.take ((dec s).1.length - 32)) := by unfold verZ; rw [if_neg h, if_neg h2, if_pos h3]
theorem verZ_sign (k b : List UInt8) : verZ k (signZ k b) = parseZ b := by
  have hd : dec (signZ k b) = (b ++ hmac k b, -1) := dec_enc_back _
  have hl : (b ++ hmac k b).length = b.length + 32 := by rw [List.length_append, hmac_length]
  have ht : (b ++ hmac k b).take (b.length + 32 - 32) = b := by rw [Nat.add_sub_cancel]; simp
  have hr : (b ++ hmac k b).drop (b.length + 32 - 32) = hmac k b := by rw [Nat.add_sub_cancel]; simp
  have h := verZ_yes (k := k) (s := signZ k b) (by rw [hd]; simp) (by rw [hd, hl]; omega) (by rw [hd, hl, ht, hr])
  rw [hd, hl, ht] at h
  exact h
theorem verZ_cases (k s : List UInt8) : (∃ c n, c ≠ 0 ∧ verZ k s = badZ c n) ∨ ∃ r d, r < lim63 ∧ d.length = 32 ∧ s = signZ k (payZ r d) ∧ verZ k s = (1, r, d, 0, 0) := by
  by_cases h : 0 ≤ (dec s).2
  · exact .inl ⟨6, _, by omega, verZ_bad h⟩
  · by_cases h2 : (dec s).1.length < 32
    · exact .inl ⟨1, _, by omega, verZ_short h h2⟩
    · by_cases h3 : hmac k ((dec s).1.take ((dec s).1.length - 32)) = (dec s).1.drop ((dec s).1.length - 32)
      · rw [verZ_yes h h2 h3]
        rcases parseZ_cases ((dec s).1.take ((dec s).1.length - 32)) with ⟨c, n, hc, e⟩ | ⟨r, d, hr, hd, hb, e⟩
        · exact .inl ⟨c, n, hc, e⟩
        · refine .inr ⟨r, d, hr, hd, ?_, e⟩
          unfold signZ
          rw [← hb, h3, List.take_append_drop]
          exact (dec_enc s (by omega)).symm
      · exact .inl ⟨12, _, by omega, verZ_tag h h2 h3⟩

/-- Any bits are those of a number. -/
theorem bitsN_any : ∀ (n : Nat) (X : List Nat), X.length = n → (∀ x ∈ X, x < 2) → ∃ a, a < 2 ^ n ∧ bitsN n a = X
  | 0, X, h, _ => by
    obtain rfl := List.eq_nil_of_length_eq_zero h
    exact ⟨0, by decide, rfl⟩
  | n + 1, X, h, hx => by
    obtain ⟨Y, y, rfl⟩ : ∃ Y y, X = Y ++ [y] := by
      have hne : X ≠ [] := by intro e; rw [e] at h; simp at h
      exact ⟨X.dropLast, X.getLast hne, (List.dropLast_concat_getLast hne).symm⟩
    obtain ⟨a, ha, e⟩ := bitsN_any n Y (by simpa using h) (fun x hm => hx x (by simp [hm]))
    have hy := hx y (by simp)
    refine ⟨2 * a + y, by rw [Nat.pow_succ]; omega, ?_⟩
    rw [bitsN, show (2 * a + y) / 2 = a by omega, show (2 * a + y) % 2 = y by omega, e]
theorem bitsOf_any : ∀ (L : Nat) (X : List Nat), X.length = 8 * L → (∀ x ∈ X, x < 2) → ∃ l : List UInt8, l.length = L ∧ bitsOf l = X
  | 0, X, h, _ => by
    obtain rfl := List.eq_nil_of_length_eq_zero (by omega : X.length = 0)
    exact ⟨[], rfl, rfl⟩
  | L + 1, X, h, hx => by
    obtain ⟨a, ha, ea⟩ := bitsN_any 8 (X.take 8) (by rw [List.length_take]; omega) (fun x hm => hx x (List.mem_of_mem_take hm))
    obtain ⟨l, hl, el⟩ := bitsOf_any L (X.drop 8) (by rw [List.length_drop]; omega) (fun x hm => hx x (List.mem_of_mem_drop hm))
    refine ⟨UInt8.ofNat a :: l, by simp [hl], ?_⟩
    have e8 : (UInt8.ofNat a).toNat = a := by rw [UInt8.toNat_ofNat']; omega
    have : bitsOf (UInt8.ofNat a :: l) = bitsN 8 a ++ bitsOf l := by rw [← e8]; simp [bitsOf, e8]
    rw [this, ea, el, List.take_append_drop]
theorem bitsN_lt : ∀ (n a : Nat), ∀ x ∈ bitsN n a, x < 2
  | 0, a, x, h => by simp [bitsN] at h
  | n + 1, a, x, h => by
    rw [bitsN] at h
    rcases List.mem_append.1 h with h | h
    · exact bitsN_lt n _ x h
    · simp at h; omega
theorem bitsOf_lt (l : List UInt8) : ∀ x ∈ bitsOf l, x < 2 := by
  intro x h
  simp only [bitsOf, List.mem_flatMap] at h
  obtain ⟨b, _, h⟩ := h
  exact bitsN_lt _ _ x h
theorem six_append (a b : List Nat) : six (a ++ b) = six a ++ six b := by simp [six, List.flatMap_append]
theorem six_set (gs : List Nat) (i g : Nat) (h : i < gs.length) : six (gs.set i g) = (six gs).take (6 * i) ++ bitsN 6 g ++ (six gs).drop (6 * i + 6) := by
  have e1 : gs.set i g = gs.take i ++ g :: gs.drop (i + 1) := by rw [List.set_eq_take_append_cons_drop, if_pos h]
  have e2 : gs = gs.take i ++ gs[i] :: gs.drop (i + 1) := by rw [← List.drop_eq_getElem_cons h, List.take_append_drop]
  have l1 : (six (gs.take i)).length = 6 * i := by rw [six_len, List.length_take]; omega
  have c : ∀ x (r : List Nat), six (x :: r) = bitsN 6 x ++ six r := fun x r => by simp [six]
  have h6 : six gs = six (gs.take i) ++ (bitsN 6 gs[i] ++ six (gs.drop (i + 1))) := by
    conv => lhs; rw [e2]
    rw [six_append, c]
  have t1 : (six gs).take (6 * i) = six (gs.take i) := by rw [h6, ← l1, List.take_left']; rfl
  have t2 : (six gs).drop (6 * i + 6) = six (gs.drop (i + 1)) := by
    rw [h6, ← List.append_assoc]
    exact List.drop_left' (by rw [List.length_append, l1, bitsN_len])
  rw [e1, six_append, c, t1, t2, List.append_assoc]
theorem bitsOf_append (a b : List UInt8) : bitsOf (a ++ b) = bitsOf a ++ bitsOf b := by simp [bitsOf, List.flatMap_append]
/-- A text of bytes with another sign behind the first n bytes and in front of the last sign is the text of other bytes, the first n of which are the same. -/
theorem enc_set (l : List UInt8) (n i g : Nat) (hn : 8 * n ≤ 6 * i) (hL : 6 * i + 6 ≤ 8 * l.length) (hg : g < 64) :
    ∃ l' : List UInt8, l'.length = l.length ∧ l'.take n = l.take n ∧ dec ((enc l).set i (sgn g)) = (l', -1) := by
  obtain ⟨gs, h1, h2, h3⟩ := enc_groups l
  have hlen := congrArg List.length h3
  rw [List.length_append, bitsOf_len, List.length_replicate, six_len] at hlen
  have hi : i < gs.length := by omega
  have hB := bitsOf_len l
  obtain ⟨l', hl', e'⟩ := bitsOf_any l.length ((bitsOf l).take (6 * i) ++ bitsN 6 g ++ (bitsOf l).drop (6 * i + 6))
    (by rw [List.length_append, List.length_append, List.length_take, List.length_drop, bitsN_len]; omega)
    (fun x hx => by
      rcases List.mem_append.1 hx with hx | hx
      · rcases List.mem_append.1 hx with hx | hx
        · exact bitsOf_lt l x (List.mem_of_mem_take hx)
        · exact bitsN_lt _ _ x hx
      · exact bitsOf_lt l x (List.mem_of_mem_drop hx))
  refine ⟨l', hl', ?_, ?_⟩
  · apply bitsOf_inj
    have a1 : bitsOf l = bitsOf (l.take n) ++ bitsOf (l.drop n) := by rw [← bitsOf_append, List.take_append_drop]
    have a2 : bitsOf l' = bitsOf (l'.take n) ++ bitsOf (l'.drop n) := by rw [← bitsOf_append, List.take_append_drop]
    have b1 : (bitsOf (l.take n)).length = 8 * n := by rw [bitsOf_len, List.length_take]; omega
    have b2 : (bitsOf (l'.take n)).length = 8 * n := by rw [bitsOf_len, List.length_take]; omega
    have c1 : (bitsOf l).take (8 * n) = bitsOf (l.take n) := by rw [a1]; exact List.take_left' b1
    have c2 : (bitsOf l').take (8 * n) = bitsOf (l'.take n) := by rw [a2]; exact List.take_left' b2
    rw [← c1, ← c2, e', List.append_assoc, List.take_append_of_le_length (by rw [List.length_take]; omega), List.take_take, Nat.min_eq_left hn]
  · rw [h2, show (gs.map sgn).set i (sgn g) = (gs.set i g).map sgn from (List.map_set ..).symm]
    refine decGo_back l' (gs.set i g) ?_ (gs.set i g) [] [] 0 0 0 rfl (fun x hx => ?_) (Or.inl ⟨rfl, by omega⟩) rfl
    · rw [six_set gs i g hi, ← h3, hl', e', List.take_append_of_le_length (by omega), List.drop_append_of_le_length (by omega)]
      simp only [List.append_assoc]
    · rcases List.mem_or_eq_of_mem_set hx with h | h
      · exact h1 x h
      · rw [h]; exact hg
theorem spoilt {k b : List UInt8} {i g : Nat} (hn : 8 * b.length ≤ 6 * i) (hL : 6 * i + 6 ≤ 8 * (b.length + 32)) (hg : g < 64) (hne : (signZ k b).set i (sgn g) ≠ signZ k b) :
    verZ k ((signZ k b).set i (sgn g)) = badZ 12 b.length := by
  have hl : (b ++ hmac k b).length = b.length + 32 := by rw [List.length_append, hmac_length]
  obtain ⟨l', h1, h2, h3⟩ := enc_set (b ++ hmac k b) b.length i g hn (by rw [hl]; exact hL) hg
  rw [hl] at h1
  rw [List.take_left' rfl] at h2
  have hd : dec ((signZ k b).set i (sgn g)) = (l', -1) := h3
  have hd2 : dec (signZ k b) = (b ++ hmac k b, -1) := dec_enc_back _
  have hne2 : l' ≠ b ++ hmac k b := fun e => hne (by
    have e1 := dec_enc ((signZ k b).set i (sgn g)) (by rw [hd]; simp)
    rw [hd, e] at e1
    exact e1.symm)
  have h := verZ_tag (k := k) (s := (signZ k b).set i (sgn g)) (by rw [hd]; simp) (by rw [hd, h1]; omega) (by
    rw [hd, h1, Nat.add_sub_cancel, h2]
    intro e
    exact hne2 (by rw [e]; conv => lhs; rw [← List.take_append_drop b.length l', h2]))
  rw [hd, h1, Nat.add_sub_cancel] at h
  exact h
end Go.Proofs.YtaikdbbakdicgaaDoor
/-
  errors.As at a target of type *api.Code and *api.Fault: closed facts on the model's entries for internal/reflectlite, at this program's types.
-/
namespace Go.Proofs.YtaikdbbakdicgaaDoor.errAs
open Go.RowKit Go.Extern.Stop Go.Stop Go.Extern

theorem methodKind (h : Value) (w : World) : (Go.method 273 134 (.agg #[h]) "Kind").run Tryd.prog w = .ok (101, h) w := by kernel_rfl
theorem methodElem (h : Value) (w : World) : (Go.method 273 134 (.agg #[h]) "Elem").run Tryd.prog w = .ok (113, .agg #[h]) w := by kernel_rfl
theorem methodImplements (h : Value) (w : World) : (Go.method 273 134 (.agg #[h]) "Implements").run Tryd.prog w = .ok (114, .agg #[h]) w := by kernel_rfl
theorem methodAssignableTo (h : Value) (w : World) : (Go.method 273 134 (.agg #[h]) "AssignableTo").run Tryd.prog w = .ok (111, .agg #[h]) w := by kernel_rfl

theorem valueOfPC (a : Addr) (w : World) : (ReflectliteValue.unpack (.iface 110 (.pointer (some a)))).run Tryd.prog w
    = .ok (.agg #[.pointer (some ⟨4, 110, none⟩), .pointer (some ⟨w.heap.size, 0, none⟩), .int .u64 150]) (w.alloc (.cells #[.pointer (some a)] 110)) := by kernel_rfl
theorem typePC (a : Addr) (w : World) : (ReflectliteValue.methodAny (ReflectliteValue.valueError "reflectlite.Value.Type" 0) (fun t _ _ _ => ReflectliteType.toType t) #[.agg #[.pointer (some ⟨4, 110, none⟩), .pointer (some a), .int .u64 150]]).run Tryd.prog w
    = .ok (.iface 134 (.agg #[.pointer (some ⟨4, 110, none⟩)])) w := by kernel_rfl
theorem kindPC (w : World) : ((ReflectliteType.abiMethod fun t => (fun a : Nat => Value.int IntKind.u8 (a : Int)) <$> Rtype.kind t) #[.pointer (some ⟨4, 110, none⟩)]).run Tryd.prog w = .ok (.int .u8 22) w := by kernel_rfl
theorem kindC (w : World) : ((ReflectliteType.abiMethod fun t => (fun a : Nat => Value.int IntKind.u8 (a : Int)) <$> Rtype.kind t) #[.pointer (some ⟨4, 35, none⟩)]).run Tryd.prog w = .ok (.int .u8 2) w := by kernel_rfl
theorem partsPC (a : Addr) (w : World) : (ReflectliteValue.parts (.agg #[.pointer (some ⟨4, 110, none⟩), .pointer (some a), .int .u64 150])).run Tryd.prog w = .ok (some (110, a, 150)) w := by kernel_rfl
theorem isNilPC (a p : Addr) (W : World) (ha : W.cell? a = some (.pointer (some p))) :
    (ReflectliteValue.method (ReflectliteValue.valueError "reflectlite.Value.IsNil" 0) ReflectliteValue.isNil #[.agg #[.pointer (some ⟨4, 110, none⟩), .pointer (some a), .int .u64 150]]).run Tryd.prog W = .ok (.bool false) W := by
  change (ReflectliteValue.parts _ >>= _).run Tryd.prog W = _
  simp only [Array.getLit, List.getElem_toArray, List.getElem_cons_zero, Sem.run_bind, partsPC, Result.andThen]
  simp [ReflectliteValue.isNil, loadVar, isAgg, underlying, Tryd.underlying110, ha, Result.andThen]
theorem elemPC (w : World) : (ReflectliteType.method ReflectliteType.elem #[.agg #[.pointer (some ⟨4, 110, none⟩)]]).run Tryd.prog w = .ok (.iface 134 (.agg #[.pointer (some ⟨4, 35, none⟩)])) w := by kernel_rfl
theorem implementsC (w : World) : (ReflectliteType.relation "Implements" ReflectliteType.implements_ #[.agg #[.pointer (some ⟨4, 35, none⟩)], .iface 134 (.agg #[.pointer (some ⟨4, 31, none⟩)])]).run Tryd.prog w = .ok (.bool true) w := by kernel_rfl
theorem elemOfPC (w : World) : (Rtype.elem? 110).run Tryd.prog w = .ok (some 35) w := by kernel_rfl
theorem mkC (a : Addr) (w : World) : (ReflectliteValue.mk 35 a ReflectliteValue.flagAddr).run Tryd.prog w = .ok (.agg #[.pointer (some ⟨4, 35, none⟩), .pointer (some a), .int .u64 386]) w := by kernel_rfl
theorem elemVPC (a p : Addr) (W : World) (ha : W.cell? a = some (.pointer (some p))) :
    (ReflectliteValue.method (ReflectliteValue.valueError "reflectlite.Value.Elem" 0) ReflectliteValue.elem #[.agg #[.pointer (some ⟨4, 110, none⟩), .pointer (some a), .int .u64 150]]).run Tryd.prog W
      = .ok (.agg #[.pointer (some ⟨4, 35, none⟩), .pointer (some p), .int .u64 386]) W := by
  change (ReflectliteValue.parts _ >>= _).run Tryd.prog W = _
  simp only [Array.getLit, List.getElem_toArray, List.getElem_cons_zero, Sem.run_bind, partsPC, Result.andThen]
  simp [ReflectliteValue.elem, loadVar, isAgg, underlying, Tryd.underlying110, ha, Result.andThen, elemOfPC, mkC]
theorem partsCa (a : Addr) (w : World) : (ReflectliteValue.parts (.agg #[.pointer (some ⟨4, 35, none⟩), .pointer (some a), .int .u64 386])).run Tryd.prog w = .ok (some (35, a, 386)) w := by kernel_rfl
theorem partsC (a : Addr) (w : World) : (ReflectliteValue.parts (.agg #[.pointer (some ⟨4, 35, none⟩), .pointer (some a), .int .u64 130])).run Tryd.prog w = .ok (some (35, a, 130)) w := by kernel_rfl
theorem directC (w : World) : (Rtype.directlyAssignable 35 35).run Tryd.prog w = .ok true w := by kernel_rfl
theorem typeOfC (v : Value) (w : World) : (ReflectliteType.typeOf #[.iface 35 v]).run Tryd.prog w = .ok (.iface 134 (.agg #[.pointer (some ⟨4, 35, none⟩)])) w := by kernel_rfl
theorem assignableC (w : World) : (ReflectliteType.relation "AssignableTo" ReflectliteType.assignableTo #[.agg #[.pointer (some ⟨4, 35, none⟩)], .iface 134 (.agg #[.pointer (some ⟨4, 35, none⟩)])]).run Tryd.prog w = .ok (.bool true) w := by kernel_rfl

theorem valueOfPF (a : Addr) (w : World) : (ReflectliteValue.unpack (.iface 112 (.pointer (some a)))).run Tryd.prog w
    = .ok (.agg #[.pointer (some ⟨4, 112, none⟩), .pointer (some ⟨w.heap.size, 0, none⟩), .int .u64 150]) (w.alloc (.cells #[.pointer (some a)] 112)) := by kernel_rfl
theorem typePF (a : Addr) (w : World) : (ReflectliteValue.methodAny (ReflectliteValue.valueError "reflectlite.Value.Type" 0) (fun t _ _ _ => ReflectliteType.toType t) #[.agg #[.pointer (some ⟨4, 112, none⟩), .pointer (some a), .int .u64 150]]).run Tryd.prog w
    = .ok (.iface 134 (.agg #[.pointer (some ⟨4, 112, none⟩)])) w := by kernel_rfl
theorem kindPF (w : World) : ((ReflectliteType.abiMethod fun t => (fun a : Nat => Value.int IntKind.u8 (a : Int)) <$> Rtype.kind t) #[.pointer (some ⟨4, 112, none⟩)]).run Tryd.prog w = .ok (.int .u8 22) w := by kernel_rfl
theorem kindF (w : World) : ((ReflectliteType.abiMethod fun t => (fun a : Nat => Value.int IntKind.u8 (a : Int)) <$> Rtype.kind t) #[.pointer (some ⟨4, 93, none⟩)]).run Tryd.prog w = .ok (.int .u8 25) w := by kernel_rfl
theorem partsPF (a : Addr) (w : World) : (ReflectliteValue.parts (.agg #[.pointer (some ⟨4, 112, none⟩), .pointer (some a), .int .u64 150])).run Tryd.prog w = .ok (some (112, a, 150)) w := by kernel_rfl
theorem isNilPF (a p : Addr) (W : World) (ha : W.cell? a = some (.pointer (some p))) :
    (ReflectliteValue.method (ReflectliteValue.valueError "reflectlite.Value.IsNil" 0) ReflectliteValue.isNil #[.agg #[.pointer (some ⟨4, 112, none⟩), .pointer (some a), .int .u64 150]]).run Tryd.prog W = .ok (.bool false) W := by
  change (ReflectliteValue.parts _ >>= _).run Tryd.prog W = _
  simp only [Array.getLit, List.getElem_toArray, List.getElem_cons_zero, Sem.run_bind, partsPF, Result.andThen]
  simp [ReflectliteValue.isNil, loadVar, isAgg, underlying, Tryd.underlying112, ha, Result.andThen]
theorem elemPF (w : World) : (ReflectliteType.method ReflectliteType.elem #[.agg #[.pointer (some ⟨4, 112, none⟩)]]).run Tryd.prog w = .ok (.iface 134 (.agg #[.pointer (some ⟨4, 93, none⟩)])) w := by kernel_rfl
theorem implementsF (w : World) : (ReflectliteType.relation "Implements" ReflectliteType.implements_ #[.agg #[.pointer (some ⟨4, 93, none⟩)], .iface 134 (.agg #[.pointer (some ⟨4, 31, none⟩)])]).run Tryd.prog w = .ok (.bool true) w := by kernel_rfl
theorem elemOfPF (w : World) : (Rtype.elem? 112).run Tryd.prog w = .ok (some 93) w := by kernel_rfl
theorem mkF (a : Addr) (w : World) : (ReflectliteValue.mk 93 a ReflectliteValue.flagAddr).run Tryd.prog w = .ok (.agg #[.pointer (some ⟨4, 93, none⟩), .pointer (some a), .int .u64 409]) w := by kernel_rfl
theorem elemVPF (a p : Addr) (W : World) (ha : W.cell? a = some (.pointer (some p))) :
    (ReflectliteValue.method (ReflectliteValue.valueError "reflectlite.Value.Elem" 0) ReflectliteValue.elem #[.agg #[.pointer (some ⟨4, 112, none⟩), .pointer (some a), .int .u64 150]]).run Tryd.prog W
      = .ok (.agg #[.pointer (some ⟨4, 93, none⟩), .pointer (some p), .int .u64 409]) W := by
  change (ReflectliteValue.parts _ >>= _).run Tryd.prog W = _
  simp only [Array.getLit, List.getElem_toArray, List.getElem_cons_zero, Sem.run_bind, partsPF, Result.andThen]
  simp [ReflectliteValue.elem, loadVar, isAgg, underlying, Tryd.underlying112, ha, Result.andThen, elemOfPF, mkF]
theorem partsFa (a : Addr) (w : World) : (ReflectliteValue.parts (.agg #[.pointer (some ⟨4, 93, none⟩), .pointer (some a), .int .u64 409])).run Tryd.prog w = .ok (some (93, a, 409)) w := by kernel_rfl
theorem partsF (a : Addr) (w : World) : (ReflectliteValue.parts (.agg #[.pointer (some ⟨4, 93, none⟩), .pointer (some a), .int .u64 153])).run Tryd.prog w = .ok (some (93, a, 153)) w := by kernel_rfl
theorem directF (w : World) : (Rtype.directlyAssignable 93 93).run Tryd.prog w = .ok true w := by kernel_rfl
theorem typeOfF (v : Value) (w : World) : (ReflectliteType.typeOf #[.iface 93 v]).run Tryd.prog w = .ok (.iface 134 (.agg #[.pointer (some ⟨4, 93, none⟩)])) w := by kernel_rfl
theorem assignableF (w : World) : (ReflectliteType.relation "AssignableTo" ReflectliteType.assignableTo #[.agg #[.pointer (some ⟨4, 93, none⟩)], .iface 134 (.agg #[.pointer (some ⟨4, 93, none⟩)])]).run Tryd.prog w = .ok (.bool true) w := by kernel_rfl

theorem assignableFC (w : World) : (ReflectliteType.relation "AssignableTo" ReflectliteType.assignableTo #[.agg #[.pointer (some ⟨4, 93, none⟩)], .iface 134 (.agg #[.pointer (some ⟨4, 35, none⟩)])]).run Tryd.prog w = .ok (.bool false) w := by kernel_rfl
theorem assignableCF (w : World) : (ReflectliteType.relation "AssignableTo" ReflectliteType.assignableTo #[.agg #[.pointer (some ⟨4, 35, none⟩)], .iface 134 (.agg #[.pointer (some ⟨4, 93, none⟩)])]).run Tryd.prog w = .ok (.bool false) w := by kernel_rfl
theorem valueOfC (c : Int) (w : World) : (ReflectliteValue.unpack (.iface 35 (.int .i64 c))).run Tryd.prog w
    = .ok (.agg #[.pointer (some ⟨4, 35, none⟩), .pointer (some ⟨w.heap.size, 0, none⟩), .int .u64 130]) (w.alloc (.cells #[.int .i64 c] 35)) := by kernel_rfl
theorem valueOfF (c n : Int) (w : World) : (ReflectliteValue.unpack (.iface 93 (.agg #[.int .i64 c, .int .i64 n]))).run Tryd.prog w
    = .ok (.agg #[.pointer (some ⟨4, 93, none⟩), .pointer (some ⟨w.heap.size, 0, none⟩), .int .u64 153]) (w.alloc (.cells #[.int .i64 c, .int .i64 n] 93)) := by kernel_rfl
theorem setC (ta b : Addr) (c : Int) (old : Value) (W : World) (hb : W.cell? b = some (.int .i64 c)) (ht : W.cell? ta = some old) (hf : W.frozen? ta = false) :
    (ReflectliteValue.set #[.agg #[.pointer (some ⟨4, 35, none⟩), .pointer (some ta), .int .u64 386], .agg #[.pointer (some ⟨4, 35, none⟩), .pointer (some b), .int .u64 130]]).run Tryd.prog W
      = .ok (.tuple #[]) (W.setCell ta (.int .i64 c)) := by
  change (ReflectliteValue.parts _ >>= _).run Tryd.prog W = _
  simp only [Array.getLit, List.getElem_toArray, List.getElem_cons_zero, List.getElem_cons_succ, Sem.run_bind, partsCa, partsC, Result.andThen]
  simp [ReflectliteValue.flagAddr, loadVar, isAgg, underlying, Tryd.underlying35, hb, Result.andThen, directC, storeVar, Value.cells, storeCells, Addr.add]
  rw [run_store Tryd.prog W ta _ _ (by rfl)]
  simp [ht, hf]
theorem sizeF (w : World) : (sizeOf 93).run Tryd.prog w = .ok 2 w := by kernel_rfl
theorem aggF (w : World) : (isAgg 93).run Tryd.prog w = .ok true w := by kernel_rfl
theorem setF (ta b : Addr) (c n : Int) (o0 o1 : Value) (W : World) (hb0 : W.cell? b = some (.int .i64 c)) (hb1 : W.cell? (b.add 1) = some (.int .i64 n))
    (ht0 : W.cell? ta = some o0) (ht1 : (W.setCell ta (.int .i64 c)).cell? (ta.add 1) = some o1) (hf0 : W.frozen? ta = false) (hf1 : (W.setCell ta (.int .i64 c)).frozen? (ta.add 1) = false) :
    (ReflectliteValue.set #[.agg #[.pointer (some ⟨4, 93, none⟩), .pointer (some ta), .int .u64 409], .agg #[.pointer (some ⟨4, 93, none⟩), .pointer (some b), .int .u64 153]]).run Tryd.prog W
      = .ok (.tuple #[]) ((W.setCell ta (.int .i64 c)).setCell (ta.add 1) (.int .i64 n)) := by
  have hl : (loadCells b 2).run Tryd.prog W = .ok #[.int .i64 c, .int .i64 n] W :=
    run_loadCells_list (P := Tryd.prog) W b [.int .i64 c, .int .i64 n] (fun j v hj => by
      match j, hj with
      | 0, hj => simp at hj; subst hj; simpa [Addr.add] using hb0
      | 1, hj => simp at hj; subst hj; exact hb1)
  change (ReflectliteValue.parts _ >>= _).run Tryd.prog W = _
  simp only [Array.getLit, List.getElem_toArray, List.getElem_cons_zero, List.getElem_cons_succ, Sem.run_bind, partsFa, partsF, Result.andThen]
  simp [ReflectliteValue.flagAddr, loadVar, hl, Result.andThen, directF, storeVar, Value.cells, storeCells]
  rw [show ta.add 0 = ta from by simp [Addr.add], run_store Tryd.prog W ta _ _ (by rfl)]
  simp [ht0, hf0]
  rw [run_store Tryd.prog _ (ta.add 1) _ _ (by rfl)]
  simp [ht1, hf1]
end Go.Proofs.YtaikdbbakdicgaaDoor.errAs
/-
  errors.As at *api.Code and *api.Fault, on an error of type api.Fault: Go's own text of errors.As and errors.as is walked.
-/
namespace Go.Proofs.YtaikdbbakdicgaaDoor.errAs
open Go.RowKit Go.Extern.Stop Go.Stop Go.Extern

/-- The variable errors.errorType holds what start-up code lays. -/
def ErrT (w : World) : Prop := w.cell? ⟨1, 0, none⟩ = some (.iface 134 (.agg #[.pointer (some ⟨4, 31, none⟩)]))
theorem cell_lt {w : World} {a : Addr} {v : Value} (h : w.cell? a = some v) : a.block < w.heap.size := by
  rcases Nat.lt_or_ge a.block w.heap.size with h' | h'
  · exact h'
  · simp [World.cell?, Array.getElem?_eq_none h'] at h
theorem ErrT.lt {w : World} (h : ErrT w) : 1 < w.heap.size := cell_lt h
theorem ErrT.alloc {w : World} (h : ErrT w) (o : Obj) : ErrT (w.alloc o) := by
  unfold ErrT
  rw [World.cell?_alloc_lt _ _ ⟨1, 0, none⟩ h.lt]; exact h
theorem ErrT.alloc2 {w : World} (h : ErrT w) (o1 o2 : Obj) : ((w.alloc o1).alloc o2).cell? ⟨1, 0, none⟩ = some (.iface 134 (.agg #[.pointer (some ⟨4, 31, none⟩)])) := (h.alloc o1).alloc o2
theorem ErrT.below {w w' : World} {B : Nat} (h : ErrT w) (hb : Below B w w') (hB : 1 < B) : ErrT w' := (hb.cell (by exact hB)).trans h

/-- Block tb is a variable of type api.Code, api.Fault. -/
def SlotC (w : World) (tb : Nat) : Prop := ∃ o, w.cell? ⟨tb, 0, none⟩ = some o ∧ w.frozen? ⟨tb, 0, none⟩ = false
def SlotF (w : World) (tb : Nat) : Prop := ∃ o0 o1, w.cell? ⟨tb, 0, none⟩ = some o0 ∧ w.cell? ⟨tb, 1, none⟩ = some o1 ∧ w.frozen? ⟨tb, 0, none⟩ = false ∧ w.frozen? ⟨tb, 1, none⟩ = false
theorem SlotC.lt {w : World} {tb : Nat} (h : SlotC w tb) : tb < w.heap.size := by obtain ⟨_, h, _⟩ := h; exact cell_lt h
theorem SlotF.lt {w : World} {tb : Nat} (h : SlotF w tb) : tb < w.heap.size := by obtain ⟨_, _, h, _⟩ := h; exact cell_lt h
theorem SlotC.alloc {w : World} {tb : Nat} (h : SlotC w tb) (o : Obj) : SlotC (w.alloc o) tb := by
  have hl := h.lt
  obtain ⟨x, h1, h2⟩ := h
  exact ⟨x, by rw [World.cell?_alloc_lt _ _ ⟨tb, 0, none⟩ hl]; exact h1, by rw [World.frozen?_alloc_old _ _ ⟨tb, 0, none⟩ (Nat.ne_of_lt hl)]; exact h2⟩
theorem SlotF.alloc {w : World} {tb : Nat} (h : SlotF w tb) (o : Obj) : SlotF (w.alloc o) tb := by
  have hl := h.lt
  obtain ⟨x, y, h1, h2, h3, h4⟩ := h
  exact ⟨x, y, by rw [World.cell?_alloc_lt _ _ ⟨tb, 0, none⟩ hl]; exact h1, by rw [World.cell?_alloc_lt _ _ ⟨tb, 1, none⟩ hl]; exact h2, by rw [World.frozen?_alloc_old _ _ ⟨tb, 0, none⟩ (Nat.ne_of_lt hl)]; exact h3, by rw [World.frozen?_alloc_old _ _ ⟨tb, 1, none⟩ (Nat.ne_of_lt hl)]; exact h4⟩
theorem SlotC.alloc2 {w : World} {tb : Nat} (h : SlotC w tb) (o1 o2 : Obj) : SlotC ((w.alloc o1).alloc o2) tb := (h.alloc o1).alloc o2
theorem SlotF.alloc2 {w : World} {tb : Nat} (h : SlotF w tb) (o1 o2 : Obj) : SlotF ((w.alloc o1).alloc o2) tb := (h.alloc o1).alloc o2
def AsPostC (w : World) (tb : Nat) (c : Int) (e : Ending) (w' : World) : Prop := e = .returned (.bool true) ∧ w.grownBy w' (some tb) ∧ w'.cell? ⟨tb, 0, none⟩ = some (.int .i64 c)
def AsPostF (w : World) (tb : Nat) (c n : Int) (e : Ending) (w' : World) : Prop := e = .returned (.bool true) ∧ w.grownBy w' (some tb) ∧ w'.cell? ⟨tb, 0, none⟩ = some (.int .i64 c) ∧ w'.cell? ⟨tb, 1, none⟩ = some (.int .i64 n)
theorem grown_alloc {a w : World} {row : Option Nat} (h : a.grownBy w row) (o : Obj) : a.grownBy (w.alloc o) row :=
  ⟨h.os, h.tape, h.output, Nat.le_trans h.size (by simp), fun i hi hne => (Below.heap_alloc w o i (Nat.lt_of_lt_of_le hi h.size)).trans (h.block i hi hne)⟩
theorem grown_set {a w : World} {g : Nat} (h : a.grownBy w (some g)) (i : Nat) (u : Value) : a.grownBy (w.setCell ⟨g, i, none⟩ u) (some g) :=
  ⟨h.os, h.tape, h.output, by simpa [World.setCell] using h.size, fun k hk hne => (Below.heap_setCell w ⟨g, i, none⟩ u k (by rintro rfl; exact hne rfl)).trans (h.block k hk hne)⟩
theorem grown_drewN {a w : World} {row : Option Nat} (h : a.grownBy w row) (n : Nat) : a.grownBy (w.drewN n) row := ⟨h.os, h.tape, h.output, h.size, h.block⟩
theorem AsPostC.drewN {w w' : World} {tb : Nat} {c : Int} {e : Ending} (h : AsPostC w tb c e w') (k : Nat) : AsPostC w tb c e (w'.drewN k) := ⟨h.1, grown_drewN h.2.1 k, h.2.2⟩
theorem AsPostF.drewN {w w' : World} {tb : Nat} {c n : Int} {e : Ending} (h : AsPostF w tb c n e w') (k : Nat) : AsPostF w tb c n e (w'.drewN k) := ⟨h.1, grown_drewN h.2.1 k, h.2.2⟩
theorem AsPostF.drew {w w' : World} {tb : Nat} {c n : Int} {e : Ending} (h : AsPostF w tb c n e w') : AsPostF w tb c n e w'.drew := h.drewN 1
theorem AsPostC.drew {w w' : World} {tb : Nat} {c : Int} {e : Ending} (h : AsPostC w tb c e w') : AsPostC w tb c e w'.drew := h.drewN 1
theorem fin_F {w : World} {tb : Nat} (hf : SlotF w tb) (c n : Int) (o1 o2 : Obj) : AsPostF w tb c n (.returned (.bool true)) ((((w.setCell ⟨tb, 0, none⟩ (.int .i64 c)).setCell ⟨tb, 1, none⟩ (.int .i64 n)).alloc o1).alloc o2) := by
  have hl := hf.lt
  obtain ⟨x, y, h1, h2, h3, h4⟩ := hf
  refine ⟨rfl, grown_alloc (grown_alloc (grown_set (grown_set (World.grownBy.refl _ _) 0 _) 1 _) _) _, ?_, ?_⟩
  · rw [World.cell?_alloc_lt _ _ ⟨tb, 0, none⟩ (by simp [World.setCell]; omega), World.cell?_alloc_lt _ _ ⟨tb, 0, none⟩ (by simpa [World.setCell] using hl), World.cell?_setCell_other _ ⟨tb, 1, none⟩ ⟨tb, 0, none⟩ _ (fun e => by injection e with _ e _; omega), World.cell?_setCell_same _ _ _ h1]
  · rw [World.cell?_alloc_lt _ _ ⟨tb, 1, none⟩ (by simp [World.setCell]; omega), World.cell?_alloc_lt _ _ ⟨tb, 1, none⟩ (by simpa [World.setCell] using hl)]
    exact World.cell?_setCell_same _ _ _ ((World.cell?_setCell_other _ ⟨tb, 0, none⟩ ⟨tb, 1, none⟩ _ (fun e => by injection e with _ e _; omega)).trans h2)
theorem AsPostC.alloc {w w' : World} {tb : Nat} {c : Int} {e : Ending} (h : AsPostC w tb c e w') (o : Obj) : AsPostC w tb c e (w'.alloc o) :=
  ⟨h.1, grown_alloc h.2.1 o, by rw [World.cell?_alloc_lt _ _ ⟨tb, 0, none⟩ (cell_lt h.2.2)]; exact h.2.2⟩
theorem fin_C0 {w : World} {tb : Nat} (hf : SlotC w tb) (c : Int) : AsPostC w tb c (.returned (.bool true)) (w.setCell ⟨tb, 0, none⟩ (.int .i64 c)) := by
  obtain ⟨x, h1, h3⟩ := hf
  exact ⟨rfl, grown_set (World.grownBy.refl _ _) 0 _, World.cell?_setCell_same _ _ _ h1⟩
theorem fin_C {w : World} {tb : Nat} (hf : SlotC w tb) (c : Int) (o1 o2 : Obj) : AsPostC w tb c (.returned (.bool true)) (((w.setCell ⟨tb, 0, none⟩ (.int .i64 c)).alloc o1).alloc o2) := by
  have hl := hf.lt
  obtain ⟨x, h1, h3⟩ := hf
  refine ⟨rfl, grown_alloc (grown_alloc (grown_set (World.grownBy.refl _ _) 0 _) _) _, ?_⟩
  rw [World.cell?_alloc_lt _ _ ⟨tb, 0, none⟩ (by simp [World.setCell]; omega), World.cell?_alloc_lt _ _ ⟨tb, 0, none⟩ (by simpa [World.setCell] using hl), World.cell?_setCell_same _ _ _ h1]
theorem grown_alloc2 {a w : World} {row : Option Nat} (h : a.grownBy w row) (o1 o2 : Obj) : a.grownBy ((w.alloc o1).alloc o2) row := grown_alloc (grown_alloc h o1) o2
theorem grown_trans {a b c : World} {row : Option Nat} (h : a.grownBy b row) (k : b.grownBy c row) : a.grownBy c row :=
  ⟨k.os.trans h.os, k.tape.trans h.tape, k.output.trans h.output, Nat.le_trans h.size k.size, fun i hi hne => (k.block i (Nat.lt_of_lt_of_le hi h.size) hne).trans (h.block i hi hne)⟩
theorem fin_C1 {w W : World} {tb : Nat} (hf : SlotC W tb) (hg : w.grownBy W (some tb)) (c : Int) : AsPostC w tb c (.returned (.bool true)) (W.setCell ⟨tb, 0, none⟩ (.int .i64 c)) := by
  obtain ⟨x, h1, h3⟩ := hf
  exact ⟨rfl, grown_set hg 0 _, World.cell?_setCell_same _ _ _ h1⟩

theorem noAsF (v : Value) (x : TypeId) (w : World) : (Instr.typeAssert (.iface 93 v) x 139 true).run Tryd.prog w = .ok (.tuple #[.nilIface, .bool false]) w := run_typeAssert_lacksB Tryd.underlying139 (by kernel_rfl) (by kernel_rfl) v x w
theorem unwrapsF (v : Value) (x : TypeId) (w : World) : (Instr.typeAssert (.iface 93 v) x 142 true).run Tryd.prog w = .ok (.tuple #[.iface 93 v, .bool true]) w := run_typeAssert_hasB Tryd.underlying142 (by kernel_rfl) v x w
theorem methodUnwrapF (v : Value) (w : World) : (Go.method 273 93 v "Unwrap").run Tryd.prog w = .ok (106, v) w := by kernel_rfl
set_option maxRecDepth 100000 in
theorem unwrap_F (c n : Int) (w : World) : Calls Tryd.prog 106 #[.agg #[.int .i64 c, .int .i64 n]] w fun e w' => e = .returned (.iface 35 (.int .i64 c)) ∧ w' = w.alloc (.cells #[.int .i64 c, .int .i64 n] 93) := by
  go_enter Tryd.func106, Tryd.ntmps106
  go_wp2_with fail
  go_ret
  exact ⟨rfl, rfl⟩

set_option maxRecDepth 100000 in
set_option maxHeartbeats 4000000 in
theorem as_F_F (c n : Int) (tb : Nat) (a : Addr) (w : World) (ha : w.cell? a = some (.pointer (some ⟨tb, 0, none⟩))) (hf : SlotF w tb) :
    Calls Tryd.prog 78 #[.iface 93 (.agg #[.int .i64 c, .int .i64 n]), .iface 112 (.pointer (some ⟨tb, 0, none⟩)), .agg #[.pointer (some ⟨4, 112, none⟩), .pointer (some a), .int .u64 150], .iface 134 (.agg #[.pointer (some ⟨4, 93, none⟩)])] w (AsPostF w tb c n) := by
  have h10 := @run_callFunc_extern Tryd.prog 83 _ ReflectliteType.typeOf Tryd.func83 (by kernel_rfl) (by kernel_rfl) (by kernel_rfl) (by kernel_rfl)
  have h35 := @run_callFunc_extern Tryd.prog 111 _ (ReflectliteType.relation "AssignableTo" ReflectliteType.assignableTo) Tryd.func111 (by kernel_rfl) (by kernel_rfl) (by kernel_rfl) (by kernel_rfl)
  have h11 := @run_callFunc_extern Tryd.prog 84 _ (ReflectliteValue.method (ReflectliteValue.valueError "reflectlite.Value.Elem" 0) ReflectliteValue.elem) Tryd.func84 (by kernel_rfl) (by kernel_rfl) (by kernel_rfl) (by kernel_rfl)
  have h6 := @run_callFunc_extern Tryd.prog 75 _ (fun args => ReflectliteValue.unpack (args.getD 0 (.tuple #[]))) Tryd.func75 (by kernel_rfl) (by kernel_rfl) (by kernel_rfl) (by kernel_rfl)
  have h12 := @run_callFunc_extern Tryd.prog 85 _ ReflectliteValue.set Tryd.func85 (by kernel_rfl) (by kernel_rfl) (by kernel_rfl) (by kernel_rfl)
  have tO := typeOfF
  have tO2 := typeOfC
  have mA := methodAssignableTo
  have a1 := assignableF
  have a2 := assignableFC
  have a3 := assignableC
  have v1 := valueOfF
  have v2 := valueOfC
  have nA := noAsF
  have hU := unwrapsF
  have mU := methodUnwrapF
  have hla : a.block < w.heap.size := cell_lt ha
  have htb := hf.lt
  have el := elemVPF a ⟨tb, 0, none⟩ ((w.alloc (.cells #[.pointer (some ⟨4, 112, none⟩), .pointer (some a), .int .u64 150] 121))) (by rw [World.cell?_alloc_lt _ _ a hla]; exact ha)
  obtain ⟨W2, hW2⟩ : ∃ W2, W2 = ((w.alloc (.cells #[.pointer (some ⟨4, 112, none⟩), .pointer (some a), .int .u64 150] 121)).alloc (.cells #[.int .i64 c, .int .i64 n] 93)) := ⟨_, rfl⟩
  have hs2 : SlotF W2 tb := by rw [hW2]; exact hf.alloc2 _ _
  obtain ⟨o0, o1, q0, q1, p0, p1⟩ := hs2
  have st := setF ⟨tb, 0, none⟩ ⟨w.heap.size + 1, 0, none⟩ c n o0 o1 W2 (by rw [hW2]; rw [World.cell?_alloc_at _ _ _ _ (by simp)]; rfl) (by rw [hW2]; show World.cell? _ ⟨w.heap.size + 1, 0 + 1, none⟩ = _; rw [World.cell?_alloc_at _ _ _ _ (by simp)]; rfl)
    q0 (by show World.cell? _ ⟨tb, 0 + 1, none⟩ = _; rw [World.cell?_setCell_other _ _ _ _ (fun e => by injection e with _ e _; omega)]; exact q1) p0 (by rw [World.frozen?_setCell]; exact p1)
  have HFIN := Lib.hid (fun o1 o2 => fin_F hf c n o1 o2)
  clear q0 q1 p0 p1 hf
  rw [hW2] at st
  go_enter Tryd.func78, Tryd.ntmps78
  go_wp2_with fail
  refine wp_loop_rounds 1 ?_
  rw [rounds_succ]
  go_wp2_with fail
  go_ret
  exact HFIN.out _ _

set_option maxRecDepth 100000 in
set_option maxHeartbeats 4000000 in
theorem as_F_C (c n : Int) (tb : Nat) (a : Addr) (w : World) (ha : w.cell? a = some (.pointer (some ⟨tb, 0, none⟩))) (hf : SlotC w tb) :
    Calls Tryd.prog 78 #[.iface 93 (.agg #[.int .i64 c, .int .i64 n]), .iface 110 (.pointer (some ⟨tb, 0, none⟩)), .agg #[.pointer (some ⟨4, 110, none⟩), .pointer (some a), .int .u64 150], .iface 134 (.agg #[.pointer (some ⟨4, 35, none⟩)])] w (AsPostC w tb c) := by
  have h10 := @run_callFunc_extern Tryd.prog 83 _ ReflectliteType.typeOf Tryd.func83 (by kernel_rfl) (by kernel_rfl) (by kernel_rfl) (by kernel_rfl)
  have h35 := @run_callFunc_extern Tryd.prog 111 _ (ReflectliteType.relation "AssignableTo" ReflectliteType.assignableTo) Tryd.func111 (by kernel_rfl) (by kernel_rfl) (by kernel_rfl) (by kernel_rfl)
  have h11 := @run_callFunc_extern Tryd.prog 84 _ (ReflectliteValue.method (ReflectliteValue.valueError "reflectlite.Value.Elem" 0) ReflectliteValue.elem) Tryd.func84 (by kernel_rfl) (by kernel_rfl) (by kernel_rfl) (by kernel_rfl)
  have h6 := @run_callFunc_extern Tryd.prog 75 _ (fun args => ReflectliteValue.unpack (args.getD 0 (.tuple #[]))) Tryd.func75 (by kernel_rfl) (by kernel_rfl) (by kernel_rfl) (by kernel_rfl)
  have h12 := @run_callFunc_extern Tryd.prog 85 _ ReflectliteValue.set Tryd.func85 (by kernel_rfl) (by kernel_rfl) (by kernel_rfl) (by kernel_rfl)
  have tO := typeOfF
  have tO2 := typeOfC
  have mA := methodAssignableTo
  have a1 := assignableF
  have a2 := assignableFC
  have a3 := assignableC
  have v1 := valueOfF
  have v2 := valueOfC
  have nA := noAsF
  have hU := unwrapsF
  have mU := methodUnwrapF
  have hla : a.block < w.heap.size := cell_lt ha
  have htb := hf.lt
  obtain ⟨W2, hW2⟩ : ∃ W2, W2 = ((w.alloc (.cells #[.pointer (some ⟨4, 110, none⟩), .pointer (some a), .int .u64 150] 121)).alloc (.cells #[.int .i64 c, .int .i64 n] 93)) := ⟨_, rfl⟩
  have hz2 : W2.heap.size = w.heap.size + 1 + 1 := by rw [hW2]; simp
  have el := elemVPC a ⟨tb, 0, none⟩ W2 (by rw [hW2, World.cell?_alloc_lt _ _ a (by simp; omega), World.cell?_alloc_lt _ _ a hla]; exact ha)
  have hs2 : SlotC (W2.alloc (.cells #[.int .i64 c] 35)) tb := by rw [hW2]; exact (hf.alloc2 _ _).alloc _
  obtain ⟨o0, q0, p0⟩ := hs2
  have st := setC ⟨tb, 0, none⟩ ⟨w.heap.size + 1 + 1, 0, none⟩ c o0 (W2.alloc (.cells #[.int .i64 c] 35)) (by rw [World.cell?_alloc_at _ _ _ _ hz2.symm]; rfl) q0 p0
  have HFIN := Lib.hid (fun o1 o2 o3 => fin_C1 (w := w) (((hf.alloc o1).alloc o2).alloc o3) (grown_alloc (grown_alloc2 (World.grownBy.refl w _) _ _) _) c)
  clear q0 p0 hf hz2
  rw [hW2] at st el
  clear hW2 W2
  go_enter Tryd.func78, Tryd.ntmps78
  go_wp2_with fail
  refine wp_loop_rounds 2 ?_
  rw [rounds_succ]
  go_wp2_with fail
  refine (unwrap_F c n _).mono ?_
  rintro e w1 ⟨rfl, rfl⟩
  go_wp2_with fail
  rw [rounds_succ]
  go_wp2_with fail
  go_ret
  exact HFIN.out _ _ _

set_option maxRecDepth 100000 in
set_option maxHeartbeats 4000000 in
theorem As_F_F (c n : Int) (tb : Nat) (w : World) (hg : ErrT w) (hf : SlotF w tb) :
    Calls Tryd.prog 67 #[.iface 93 (.agg #[.int .i64 c, .int .i64 n]), .iface 112 (.pointer (some ⟨tb, 0, none⟩))] w (AsPostF w tb c n) := by
  have h6 := @run_callFunc_extern Tryd.prog 75 _ (fun args => ReflectliteValue.unpack (args.getD 0 (.tuple #[]))) Tryd.func75 (by kernel_rfl) (by kernel_rfl) (by kernel_rfl) (by kernel_rfl)
  have h7 := @run_callFunc_extern Tryd.prog 76 _ (ReflectliteValue.methodAny (ReflectliteValue.valueError "reflectlite.Value.Type" 0) (fun t _ _ _ => ReflectliteType.toType t)) Tryd.func76 (by kernel_rfl) (by kernel_rfl) (by kernel_rfl) (by kernel_rfl)
  have h8 := @run_callFunc_extern Tryd.prog 77 _ (ReflectliteValue.method (ReflectliteValue.valueError "reflectlite.Value.IsNil" 0) ReflectliteValue.isNil) Tryd.func77 (by kernel_rfl) (by kernel_rfl) (by kernel_rfl) (by kernel_rfl)
  have h27 := @run_callFunc_extern Tryd.prog 101 _ (ReflectliteType.abiMethod fun t => do pure (.int .u8 (← Rtype.kind t))) Tryd.func101 (by kernel_rfl) (by kernel_rfl) (by kernel_rfl) (by kernel_rfl)
  have h37 := @run_callFunc_extern Tryd.prog 113 _ (ReflectliteType.method ReflectliteType.elem) Tryd.func113 (by kernel_rfl) (by kernel_rfl) (by kernel_rfl) (by kernel_rfl)
  have h38 := @run_callFunc_extern Tryd.prog 114 _ (ReflectliteType.relation "Implements" ReflectliteType.implements_) Tryd.func114 (by kernel_rfl) (by kernel_rfl) (by kernel_rfl) (by kernel_rfl)
  have f6 := valueOfPF
  have f7 := typePF
  have mK := methodKind
  have mE := methodElem
  have mI := methodImplements
  have k27 := kindPF
  have k25 := kindF
  have e27 := elemPF
  have i25 := implementsF
  have n8 := fun a W => isNilPF a ⟨tb, 0, none⟩ W
  have hgA := hg.alloc2
  have htb := hf.lt
  have HF := Lib.hid hf
  clear hf
  go_enter Tryd.func67, Tryd.ntmps67
  go_wp2_with fail
  refine (as_F_F c n tb ⟨w.heap.size, 0, none⟩ _ (by simp) (HF.out.alloc2 _ _)).mono ?_
  rintro e w1 ⟨rfl, h1, h2⟩
  go_wp2_with fail
  go_ret
  exact ⟨rfl, grown_trans (grown_alloc2 (World.grownBy.refl _ _) _ _) h1, h2⟩

set_option maxRecDepth 100000 in
set_option maxHeartbeats 4000000 in
theorem As_F_C (c n : Int) (tb : Nat) (w : World) (hg : ErrT w) (hf : SlotC w tb) :
    Calls Tryd.prog 67 #[.iface 93 (.agg #[.int .i64 c, .int .i64 n]), .iface 110 (.pointer (some ⟨tb, 0, none⟩))] w (AsPostC w tb c) := by
  have h6 := @run_callFunc_extern Tryd.prog 75 _ (fun args => ReflectliteValue.unpack (args.getD 0 (.tuple #[]))) Tryd.func75 (by kernel_rfl) (by kernel_rfl) (by kernel_rfl) (by kernel_rfl)
  have h7 := @run_callFunc_extern Tryd.prog 76 _ (ReflectliteValue.methodAny (ReflectliteValue.valueError "reflectlite.Value.Type" 0) (fun t _ _ _ => ReflectliteType.toType t)) Tryd.func76 (by kernel_rfl) (by kernel_rfl) (by kernel_rfl) (by kernel_rfl)
  have h8 := @run_callFunc_extern Tryd.prog 77 _ (ReflectliteValue.method (ReflectliteValue.valueError "reflectlite.Value.IsNil" 0) ReflectliteValue.isNil) Tryd.func77 (by kernel_rfl) (by kernel_rfl) (by kernel_rfl) (by kernel_rfl)
  have h27 := @run_callFunc_extern Tryd.prog 101 _ (ReflectliteType.abiMethod fun t => do pure (.int .u8 (← Rtype.kind t))) Tryd.func101 (by kernel_rfl) (by kernel_rfl) (by kernel_rfl) (by kernel_rfl)
  have h37 := @run_callFunc_extern Tryd.prog 113 _ (ReflectliteType.method ReflectliteType.elem) Tryd.func113 (by kernel_rfl) (by kernel_rfl) (by kernel_rfl) (by kernel_rfl)
  have h38 := @run_callFunc_extern Tryd.prog 114 _ (ReflectliteType.relation "Implements" ReflectliteType.implements_) Tryd.func114 (by kernel_rfl) (by kernel_rfl) (by kernel_rfl) (by kernel_rfl)
  have f6 := valueOfPC
  have f7 := typePC
  have mK := methodKind
  have mE := methodElem
  have mI := methodImplements
  have k27 := kindPC
  have k25 := kindC
  have e27 := elemPC
  have i25 := implementsC
  have n8 := fun a W => isNilPC a ⟨tb, 0, none⟩ W
  have hgA := hg.alloc2
  have htb := hf.lt
  have HF := Lib.hid hf
  clear hf
  go_enter Tryd.func67, Tryd.ntmps67
  go_wp2_with fail
  refine (as_F_C c n tb ⟨w.heap.size, 0, none⟩ _ (by simp) (HF.out.alloc2 _ _)).mono ?_
  rintro e w1 ⟨rfl, h1, h2⟩
  go_wp2_with fail
  go_ret
  exact ⟨rfl, grown_trans (grown_alloc2 (World.grownBy.refl _ _) _ _) h1, h2⟩
end Go.Proofs.YtaikdbbakdicgaaDoor.errAs
/-
  fault.Code and fault.At on nil and on an error of type api.Fault.
-/
namespace Go.Proofs.YtaikdbbakdicgaaDoor.errAs
open Go.RowKit Go.Extern.Stop Go.Stop Go.Extern

theorem cell_g {W w1 : World} {row : Option Nat} (h : W.grownBy w1 row) {p : Addr} (hp : p.block < W.heap.size) (hne : some p.block ≠ row) : w1.cell? p = W.cell? p := World.cell?_of_block (h.block p.block hp hne)
theorem frozen_g {W w1 : World} {row : Option Nat} (h : W.grownBy w1 row) {p : Addr} (hp : p.block < W.heap.size) (hne : some p.block ≠ row) : w1.frozen? p = W.frozen? p := World.frozen?_of_block (h.block p.block hp hne)

theorem idle_C (p q : Value) (w : World) :
    CallsD Tryd.prog 66 #[p, q] .returning w fun e u' w' => e = .returned (.tuple #[]) ∧ u' = .returning ∧ w' = w := by
  refine callsD_of_wpS Tryd.func66 rfl fun c₀ cs hu => ?_
  apply wpS_seq
  apply wpS_region
  simp [wpOpsS, go_sem, recoverD, hu, Tryd.ntmps66, Exit.thenS]
  refine wpS_cond (t := false) (by simp [Act.eval, Array.replicate]) ?_
  simp only [Bool.false_eq_true, if_false]
  refine wpS_of_wp (wp_skip ?_)
  cases c₀
  simp_all [bodyPostS, results, Tryd.results66]
theorem idle_F (p q : Value) (w : World) :
    CallsD Tryd.prog 68 #[p, q] .returning w fun e u' w' => e = .returned (.tuple #[]) ∧ u' = .returning ∧ w' = w := by
  refine callsD_of_wpS Tryd.func68 rfl fun c₀ cs hu => ?_
  apply wpS_seq
  apply wpS_region
  simp [wpOpsS, go_sem, recoverD, hu, Tryd.ntmps68, Exit.thenS]
  refine wpS_cond (t := false) (by simp [Act.eval, Array.replicate]) ?_
  simp only [Bool.false_eq_true, if_false]
  refine wpS_of_wp (wp_skip ?_)
  cases c₀
  simp_all [bodyPostS, results, Tryd.results68]

/-- Three blocks that a call has just made. -/
def Three (w : World) (c0 c1 c2 : Array Value) (t0 t1 t2 : TypeId) (W : World) : Prop :=
  W.heap[w.heap.size]? = some (.cells c0 t0 (0, 0)) ∧ W.heap[w.heap.size + 1]? = some (.cells c1 t1 (0, 0)) ∧ W.heap[w.heap.size + 1 + 1]? = some (.cells c2 t2 (0, 0)) ∧ W.heap.size = w.heap.size + 3 ∧ Below w.heap.size w W
theorem three (w : World) (c0 c1 c2 : Array Value) (t0 t1 t2 : TypeId) : Three w c0 c1 c2 t0 t1 t2 (((w.alloc (.cells c0 t0)).alloc (.cells c1 t1)).alloc (.cells c2 t2)) := by
  have e1 : w.heap.size + 1 = (w.alloc (.cells c0 t0)).heap.size := by simp
  have e2 : w.heap.size + 1 + 1 = ((w.alloc (.cells c0 t0)).alloc (.cells c1 t1)).heap.size := by simp
  refine ⟨?_, ?_, ?_, by simp, (((Below.refl w.heap.size w).alloc (Nat.le_refl _) _).alloc (by simp) _).alloc (by simp; omega) _⟩
  · exact (Below.heap_alloc _ _ _ (by simp; omega)).trans ((Below.heap_alloc _ _ _ (by simp)).trans (heap_alloc_new w _))
  · rw [e1]
    exact (Below.heap_alloc _ _ _ (by simp)).trans (heap_alloc_new _ _)
  · rw [e2]
    exact heap_alloc_new _ _

set_option maxRecDepth 100000 in
set_option maxHeartbeats 4000000 in
theorem find_C (c n : Int) (w : World) (hg : ErrT w) :
    Calls Tryd.prog 55 #[.iface 93 (.agg #[.int .i64 c, .int .i64 n])] w fun e w' => e = .returned (.tuple #[.int .i64 c, .bool true]) ∧ Below w.heap.size w w' := by
  have hmf : ∀ (fn : Fn) (first cap : Array Value) (w : World), (Instr.makeFunc fn first cap).run Tryd.prog w = .ok (.func fn first cap) w := fun _ _ _ _ => rfl
  obtain ⟨W3, hW3⟩ : ∃ W3, W3 = (((w.alloc (.cells #[.int .i64 0] 35)).alloc (.cells #[.bool false] 4)).alloc (.cells #[.int .i64 0] 35)) := ⟨_, rfl⟩
  have hE : ErrT W3 := by rw [hW3]; exact ((hg.alloc _).alloc _).alloc _
  obtain ⟨h0, h1, h2, z3, B3⟩ := three w #[.int .i64 0] #[.bool false] #[.int .i64 0] 35 4 35
  rw [← hW3] at h0 h1 h2 z3 B3
  have hS : SlotC W3 (w.heap.size + 1 + 1) := ⟨.int .i64 0, cell_of_row _ _ 0 _ _ _ h2, frozen_of_row _ _ 0 _ _ h2⟩
  have k0 : W3.cell? ⟨w.heap.size, 0, none⟩ = some (.int .i64 0) := cell_of_row _ _ 0 _ _ _ h0
  have k1 : W3.cell? ⟨w.heap.size + 1, 0, none⟩ = some (.bool false) := cell_of_row _ _ 0 _ _ _ h1
  have f0 : W3.frozen? ⟨w.heap.size, 0, none⟩ = false := frozen_of_row _ _ 0 _ _ h0
  have f1 : W3.frozen? ⟨w.heap.size + 1, 0, none⟩ = false := frozen_of_row _ _ 0 _ _ h1
  have HW := Lib.hid hW3
  have K := Lib.hid (And.intro hE (And.intro hS (And.intro k0 (And.intro k1 (And.intro f0 (And.intro f1 (And.intro z3 B3)))))))
  clear hE hS k0 k1 f0 f1 z3 B3 h0 h1 h2 hW3
  go_enter_defers Tryd.func55, Tryd.ntmps55
  go_wp2_with fail
  rw [← HW.out]
  obtain ⟨hE, hS, k0, k1, f0, f1, z3, B3⟩ := K.out
  refine (As_F_C c n _ _ hE hS).mono ?_
  rintro e w1 ⟨rfl, g1, t1⟩
  have k0' : w1.cell? ⟨w.heap.size, 0, none⟩ = some (.int .i64 0) := (cell_g g1 (by show w.heap.size < _; omega) (fun e => by injection e with e; have e : w.heap.size = w.heap.size + 1 + 1 := e; omega)).trans k0
  have k1' : w1.cell? ⟨w.heap.size + 1, 0, none⟩ = some (.bool false) := (cell_g g1 (by show w.heap.size + 1 < _; omega) (fun e => by injection e with e; have e : w.heap.size + 1 = w.heap.size + 1 + 1 := e; omega)).trans k1
  have f0' : w1.frozen? ⟨w.heap.size, 0, none⟩ = false := (frozen_g g1 (by show w.heap.size < _; omega) (fun e => by injection e with e; have e : w.heap.size = w.heap.size + 1 + 1 := e; omega)).trans f0
  have f1' : w1.frozen? ⟨w.heap.size + 1, 0, none⟩ = false := (frozen_g g1 (by show w.heap.size + 1 < _; omega) (fun e => by injection e with e; have e : w.heap.size + 1 = w.heap.size + 1 + 1 := e; omega)).trans f1
  have B1 : Below w.heap.size w w1 := B3.grown g1 B3.size (fun k hk => by injection hk with hk; omega)
  clear g1 hE hS k0 k1 f0 f1 z3 B3 K HW hg
  go_wp2_with fail
  refine leaves_cons (f := 66) (args := #[.pointer (some ⟨w.heap.size, 0, none⟩), .pointer (some ⟨w.heap.size + 1, 0, none⟩)]) (by simp) (by simp [go_sem]) ?_
  refine (idle_C _ _ _).mono ?_
  rintro e u' w'' ⟨rfl, rfl, rfl⟩
  have k1'' : (w1.setCell ⟨w.heap.size, 0, none⟩ (.int .i64 c)).cell? ⟨w.heap.size + 1, 0, none⟩ = some (.bool false) := by
    rw [World.cell?_setCell_other _ ⟨w.heap.size, 0, none⟩ ⟨w.heap.size + 1, 0, none⟩ _ (fun e => by injection e with e _ _; omega)]; exact k1'
  have q1 := World.cell?_setCell_same (w1.setCell ⟨w.heap.size, 0, none⟩ (.int .i64 c)) ⟨w.heap.size + 1, 0, none⟩ (.bool true) k1''
  have q0 : ((w1.setCell ⟨w.heap.size, 0, none⟩ (.int .i64 c)).setCell ⟨w.heap.size + 1, 0, none⟩ (.bool true)).cell? ⟨w.heap.size, 0, none⟩ = some (.int .i64 c) := by
    rw [World.cell?_setCell_other _ ⟨w.heap.size + 1, 0, none⟩ ⟨w.heap.size, 0, none⟩ _ (fun e => by injection e with e _ _; omega)]
    exact World.cell?_setCell_same _ _ _ k0'
  have B2 : Below w.heap.size w ((w1.setCell ⟨w.heap.size, 0, none⟩ (.int .i64 c)).setCell ⟨w.heap.size + 1, 0, none⟩ (.bool true)) := (B1.setCell (by exact Nat.le_refl _) _).setCell (by show w.heap.size ≤ w.heap.size + 1; omega) _
  generalize ((w1.setCell ⟨w.heap.size, 0, none⟩ (.int .i64 c)).setCell ⟨w.heap.size + 1, 0, none⟩ (.bool true)) = W at *
  refine ⟨.tuple #[.int .i64 c, .bool true], ?_, rfl, B2⟩
  simp [results, Tryd.results55, go_sem, q0, q1]
set_option maxRecDepth 100000 in
set_option maxHeartbeats 4000000 in
theorem find_F (c n : Int) (w : World) (hg : ErrT w) :
    Calls Tryd.prog 56 #[.iface 93 (.agg #[.int .i64 c, .int .i64 n])] w fun e w' => e = .returned (.tuple #[.agg #[.int .i64 c, .int .i64 n], .bool true]) ∧ Below w.heap.size w w' := by
  have hmf : ∀ (fn : Fn) (first cap : Array Value) (w : World), (Instr.makeFunc fn first cap).run Tryd.prog w = .ok (.func fn first cap) w := fun _ _ _ _ => rfl
  obtain ⟨W3, hW3⟩ : ∃ W3, W3 = (((w.alloc (.cells #[.int .i64 0, .int .i64 0] 93)).alloc (.cells #[.bool false] 4)).alloc (.cells #[.int .i64 0, .int .i64 0] 93)) := ⟨_, rfl⟩
  have hE : ErrT W3 := by rw [hW3]; exact ((hg.alloc _).alloc _).alloc _
  obtain ⟨h0, h1, h2, z3, B3⟩ := three w #[.int .i64 0, .int .i64 0] #[.bool false] #[.int .i64 0, .int .i64 0] 93 4 93
  rw [← hW3] at h0 h1 h2 z3 B3
  have hS : SlotF W3 (w.heap.size + 1 + 1) := ⟨.int .i64 0, .int .i64 0, cell_of_row _ _ 0 _ _ _ h2, cell_of_row _ _ 1 _ _ _ h2, frozen_of_row _ _ 0 _ _ h2, frozen_of_row _ _ 1 _ _ h2⟩
  have k0 : W3.cell? ⟨w.heap.size, 0, none⟩ = some (.int .i64 0) := cell_of_row _ _ 0 _ _ _ h0
  have k1 : W3.cell? ⟨w.heap.size + 1, 0, none⟩ = some (.bool false) := cell_of_row _ _ 0 _ _ _ h1
  have f0 : W3.frozen? ⟨w.heap.size, 0, none⟩ = false := frozen_of_row _ _ 0 _ _ h0
  have f1 : W3.frozen? ⟨w.heap.size + 1, 0, none⟩ = false := frozen_of_row _ _ 0 _ _ h1
  have k01 : W3.cell? ⟨w.heap.size, 1, none⟩ = some (.int .i64 0) := cell_of_row _ _ 1 _ _ _ h0
  have f01 : W3.frozen? ⟨w.heap.size, 1, none⟩ = false := frozen_of_row _ _ 1 _ _ h0
  have HW := Lib.hid hW3
  have K01 := Lib.hid (And.intro k01 f01)
  clear k01 f01
  have K := Lib.hid (And.intro hE (And.intro hS (And.intro k0 (And.intro k1 (And.intro f0 (And.intro f1 (And.intro z3 B3)))))))
  clear hE hS k0 k1 f0 f1 z3 B3 h0 h1 h2 hW3
  go_enter_defers Tryd.func56, Tryd.ntmps56
  go_wp2_with fail
  rw [← HW.out]
  obtain ⟨hE, hS, k0, k1, f0, f1, z3, B3⟩ := K.out
  refine (As_F_F c n _ _ hE hS).mono ?_
  rintro e w1 ⟨rfl, g1, t1, t2⟩
  have k01' : w1.cell? ⟨w.heap.size, 1, none⟩ = some (.int .i64 0) := (cell_g g1 (by show w.heap.size < _; omega) (fun e => by injection e with e; have e : w.heap.size = w.heap.size + 1 + 1 := e; omega)).trans K01.out.1
  have f01' : w1.frozen? ⟨w.heap.size, 1, none⟩ = false := (frozen_g g1 (by show w.heap.size < _; omega) (fun e => by injection e with e; have e : w.heap.size = w.heap.size + 1 + 1 := e; omega)).trans K01.out.2
  have k0' : w1.cell? ⟨w.heap.size, 0, none⟩ = some (.int .i64 0) := (cell_g g1 (by show w.heap.size < _; omega) (fun e => by injection e with e; have e : w.heap.size = w.heap.size + 1 + 1 := e; omega)).trans k0
  have k1' : w1.cell? ⟨w.heap.size + 1, 0, none⟩ = some (.bool false) := (cell_g g1 (by show w.heap.size + 1 < _; omega) (fun e => by injection e with e; have e : w.heap.size + 1 = w.heap.size + 1 + 1 := e; omega)).trans k1
  have f0' : w1.frozen? ⟨w.heap.size, 0, none⟩ = false := (frozen_g g1 (by show w.heap.size < _; omega) (fun e => by injection e with e; have e : w.heap.size = w.heap.size + 1 + 1 := e; omega)).trans f0
  have f1' : w1.frozen? ⟨w.heap.size + 1, 0, none⟩ = false := (frozen_g g1 (by show w.heap.size + 1 < _; omega) (fun e => by injection e with e; have e : w.heap.size + 1 = w.heap.size + 1 + 1 := e; omega)).trans f1
  have B1 : Below w.heap.size w w1 := B3.grown g1 B3.size (fun k hk => by injection hk with hk; omega)
  clear g1 hE hS k0 k1 f0 f1 z3 B3 K HW hg
  go_wp2_with fail
  refine leaves_cons (f := 68) (args := #[.pointer (some ⟨w.heap.size, 0, none⟩), .pointer (some ⟨w.heap.size + 1, 0, none⟩)]) (by simp) (by simp [go_sem]) ?_
  refine (idle_F _ _ _).mono ?_
  rintro e u' w'' ⟨rfl, rfl, rfl⟩
  have q0 : (((w1.setCell ⟨w.heap.size, 0, none⟩ (.int .i64 c)).setCell ⟨w.heap.size, 1, none⟩ (.int .i64 n)).setCell ⟨w.heap.size + 1, 0, none⟩ (.bool true)).cell? ⟨w.heap.size, 0, none⟩ = some (.int .i64 c) := by
    rw [World.cell?_setCell_other _ ⟨w.heap.size + 1, 0, none⟩ ⟨w.heap.size, 0, none⟩ _ (fun e => by injection e with e _ _; omega), World.cell?_setCell_other _ ⟨w.heap.size, 1, none⟩ ⟨w.heap.size, 0, none⟩ _ (fun e => by injection e with _ e _; omega)]
    exact World.cell?_setCell_same _ _ _ k0'
  have q01 : (((w1.setCell ⟨w.heap.size, 0, none⟩ (.int .i64 c)).setCell ⟨w.heap.size, 1, none⟩ (.int .i64 n)).setCell ⟨w.heap.size + 1, 0, none⟩ (.bool true)).cell? ⟨w.heap.size, 1, none⟩ = some (.int .i64 n) := by
    rw [World.cell?_setCell_other _ ⟨w.heap.size + 1, 0, none⟩ ⟨w.heap.size, 1, none⟩ _ (fun e => by injection e with e _ _; omega)]
    exact World.cell?_setCell_same _ _ _ ((World.cell?_setCell_other _ ⟨w.heap.size, 0, none⟩ ⟨w.heap.size, 1, none⟩ _ (fun e => by injection e with _ e _; omega)).trans k01')
  have q1 : (((w1.setCell ⟨w.heap.size, 0, none⟩ (.int .i64 c)).setCell ⟨w.heap.size, 1, none⟩ (.int .i64 n)).setCell ⟨w.heap.size + 1, 0, none⟩ (.bool true)).cell? ⟨w.heap.size + 1, 0, none⟩ = some (.bool true) := by
    refine World.cell?_setCell_same _ _ _ ?_ (u := .bool false)
    rw [World.cell?_setCell_other _ ⟨w.heap.size, 1, none⟩ ⟨w.heap.size + 1, 0, none⟩ _ (fun e => by injection e with e _ _; omega), World.cell?_setCell_other _ ⟨w.heap.size, 0, none⟩ ⟨w.heap.size + 1, 0, none⟩ _ (fun e => by injection e with e _ _; omega)]
    exact k1'
  have B2 : Below w.heap.size w (((w1.setCell ⟨w.heap.size, 0, none⟩ (.int .i64 c)).setCell ⟨w.heap.size, 1, none⟩ (.int .i64 n)).setCell ⟨w.heap.size + 1, 0, none⟩ (.bool true)) := ((B1.setCell (by exact Nat.le_refl _) _).setCell (by exact Nat.le_refl _) _).setCell (by show w.heap.size ≤ w.heap.size + 1; omega) _
  generalize (((w1.setCell ⟨w.heap.size, 0, none⟩ (.int .i64 c)).setCell ⟨w.heap.size, 1, none⟩ (.int .i64 n)).setCell ⟨w.heap.size + 1, 0, none⟩ (.bool true)) = W at *
  refine ⟨.tuple #[.agg #[.int .i64 c, .int .i64 n], .bool true], ?_, rfl, B2⟩
  simp [results, Tryd.results56, go_sem]
  simp only [q0, q01, q1, Result.andThen]

set_option maxRecDepth 100000 in
theorem code_F (c n : Int) (w : World) (hg : ErrT w) :
    Calls Tryd.prog 38 #[.iface 93 (.agg #[.int .i64 c, .int .i64 n])] w fun e w' => e = .returned (.tuple #[.int .i64 c, .bool true]) ∧ Below w.heap.size w w' := by
  have H := Lib.hid (find_C c n w hg)
  clear hg
  go_enter Tryd.func38, Tryd.ntmps38
  go_wp2_with fail
  refine H.out.mono ?_
  rintro e w1 ⟨rfl, B1⟩
  go_wp2_with fail
  go_ret2
  exact ⟨rfl, B1⟩

set_option maxRecDepth 100000 in
theorem at_F (c n : Int) (w : World) (hg : ErrT w) :
    Calls Tryd.prog 39 #[.iface 93 (.agg #[.int .i64 c, .int .i64 n])] w fun e w' => e = .returned (.tuple #[.int .i64 n, .bool true]) ∧ Below w.heap.size w w' := by
  have H := Lib.hid (find_F c n w hg)
  clear hg
  go_enter Tryd.func39, Tryd.ntmps39
  go_wp2_with fail
  refine H.out.mono ?_
  rintro e w1 ⟨rfl, B1⟩
  go_wp2_with fail
  go_ret2
  exact ⟨rfl, B1.alloc B1.size _⟩
end Go.Proofs.YtaikdbbakdicgaaDoor.errAs
/-
  fault.New; the law's told.
-/
namespace Go.Proofs.YtaikdbbakdicgaaDoor
open Go.ChangeShapes Go.WideShapes Go.ChangeAt Go.RowKit
open errAs (ErrT)
set_option linter.unusedVariables false

def faultN (c n : Nat) : Value := .iface 93 (.agg #[.int .i64 c, .int .i64 n])
def errF (c n : Nat) : Value := if c = 0 then .nilIface else faultN c n
set_option maxRecDepth 100000 in
theorem fnew_any (c n : Int) (w : World) : Calls Tryd.prog 30 #[.int .i64 c, .int .i64 n] w fun e w' => e = .returned (.iface 93 (.agg #[.int .i64 c, .int .i64 n])) ∧ w = w' := by
  go_enter Tryd.func30, Tryd.ntmps30
  go_wp2_with fail
  go_ret
  exact ⟨rfl, rfl⟩
theorem errT_below {w w' : World} (h : ErrT w) (hb : Below w.heap.size w w') : ErrT w' := h.below hb h.lt
set_option maxRecDepth 100000 in
theorem told_none (n : Nat) (w : World) : Calls Tryd.prog 18 #[.nilIface, .int .i64 0, .int .i64 n] w fun e w' => e = .returned (.bool true) ∧ w = w' := by
  go_enter Tryd.func18, Tryd.ntmps18
  go_wp2_with fail
  go_ret
  exact ⟨rfl, rfl⟩
set_option maxRecDepth 100000 in
theorem told_fault (c n : Nat) (hc : c ≠ 0) (w : World) (hg : ErrT w) : Calls Tryd.prog 18 #[faultN c n, .int .i64 c, .int .i64 n] w fun e w' => e = .returned (.bool true) ∧ Below w.heap.size w w' := by
  have HE := Lib.hid hg
  have h0 : ¬ (c : Int) = 0 := by omega
  have h0' : ((c : Int) == 0) = false := by rw [beq_eq_false_iff_ne]; omega
  clear hg
  unfold faultN
  go_enter Tryd.func18, Tryd.ntmps18
  go_wp2_with fail
  refine (errAs.code_F c n _ HE.out).mono ?_
  rintro e w1 ⟨rfl, b1⟩
  have HE1 := Lib.hid (errT_below HE.out b1)
  have HB1 := Lib.hid b1
  clear b1
  go_wp2_with fail
  refine (errAs.at_F c n _ HE1.out).mono ?_
  rintro e w2 ⟨rfl, b2⟩
  have HB2 := Lib.hid (HB1.out.trans (b2.mono HB1.out.size))
  clear b2
  go_wp2_with fail
  go_ret
  exact ⟨rfl, HB2.out⟩
theorem told_any (c n : Nat) (w : World) (hg : ErrT w) : Calls Tryd.prog 18 #[errF c n, .int .i64 c, .int .i64 n] w fun e w' => e = .returned (.bool true) ∧ Below w.heap.size w w' := by
  by_cases hc : c = 0
  · subst hc
    exact (told_none n w).mono fun e w' ⟨h1, h2⟩ => ⟨h1, h2 ▸ Below.refl _ _⟩
  · unfold errF
    rw [if_neg hc]
    exact told_fault c n hc w hg
end Go.Proofs.YtaikdbbakdicgaaDoor
