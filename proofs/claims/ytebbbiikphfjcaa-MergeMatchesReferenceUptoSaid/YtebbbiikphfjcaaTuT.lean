/-
  tuple.Sorted.
-/
import Derived.Test.YtebbbiikphfjcaaTuQ
import Derived.Test.YtebbbiikphfjcaaTuS
import Derived.Test.YtebbbiikphfjcaaTuI
import Derived.Test.YtebbbiikphfjcaaShfS
import Derived.RegionTactic
import Derived.BigRegion
namespace Go.Proofs.Ytebbbiikphfjcaa
open Go.ChangeShapes Go.WideShapes Go.ChangeAt Go.RowKit Go.Lib Go.Sort
set_option linter.unusedVariables false

/-- The value sv is a slice that holds the tuples l. -/
def TuSl (w : World) (sv : Value) (l : List Tu) : Prop :=
  (sv = .slice none 0 0 ∧ l = []) ∨ ∃ b off c, sv = .slice (some ⟨b, off, none⟩) l.length c ∧ l.length ≤ c ∧ b < w.heap.size ∧ w.rangeAt b off (l.flatMap tc)
theorem flat_get : ∀ (l : List Tu) (t : Nat), (l.flatMap tc)[t]? = (l[t / 6]?).bind fun x => (tc x)[t % 6]?
  | [], t => by simp
  | x :: l, t => by
    rw [List.flatMap_cons]
    by_cases h : t < 6
    · rw [List.getElem?_append_left (by exact h), show t / 6 = 0 by omega, show t % 6 = t by omega]; rfl
    · rw [List.getElem?_append_right (by exact Nat.le_of_not_lt h), show (tc x).length = 6 from rfl, flat_get l (t - 6), show t / 6 = (t - 6) / 6 + 1 by omega, show t % 6 = (t - 6) % 6 by omega]; rfl
theorem flat_len : ∀ (l : List Tu), (l.flatMap tc).length = l.length * 6
  | [] => rfl
  | x :: l => by rw [List.flatMap_cons, List.length_append, flat_len l, List.length_cons, show (tc x).length = 6 from rfl]; omega
theorem flat_row {w : World} {b off : Nat} {l : List Tu} (h : w.rangeAt b off (l.flatMap tc)) {i : Nat} (hi : i < l.length) : w.rangeAt b (off + i * 6) (tc l[i]) := fun j v hv => by
  have hj : j < 6 := (List.getElem?_eq_some_iff.1 hv).1
  have := h (i * 6 + j) v (by rw [flat_get, show (i * 6 + j) / 6 = i by omega, show (i * 6 + j) % 6 = j by omega, List.getElem?_eq_getElem hi]; exact hv)
  rwa [← Nat.add_assoc] at this
theorem flatK_list (l : List Tu) : flatK tc 6 l.toArray = (l.flatMap tc).toArray := by
  apply Array.ext_getElem?
  intro t
  rw [show ((l.flatMap tc).toArray)[t]? = (l.flatMap tc)[t]? from List.getElem?_toArray, flat_get]
  by_cases h : t < l.length * 6
  · have h6 : t / 6 < l.length := by omega
    have hm : t % 6 < (tc l[t / 6]).length := by rw [show (tc l[t / 6]).length = 6 from rfl]; omega
    rw [List.getElem?_eq_getElem h6, Option.bind_some, List.getElem?_eq_getElem hm, flatK, Array.getElem?_map]
    rw [Array.getElem?_eq_getElem (by simpa using h), Option.map_some, Array.getElem_range]
    rw [show (l.toArray[t / 6]! : Tu) = l[t / 6] by simp [h6], List.getElem!_eq_getElem?_getD, List.getElem?_eq_getElem hm]; rfl
  · rw [Array.getElem?_eq_none (by simpa using h), List.getElem?_eq_none (by omega)]; rfl
theorem holds_of_row {w : World} {g : Nat} {cur : Array Value} {e : TypeId} {l : List Tu} (hb : w.heap[g]? = some (.cells cur e (0, 0))) (ht : cur.toList.take (l.length * 6) = l.flatMap tc) : HoldsK tc 6 w g 0 l.toArray := by
  intro j hj
  have hj' : j < l.length * 6 := by simpa using hj
  refine ⟨?_, by simp [World.frozen?, hb]⟩
  have h1 : (cur.toList.take (l.length * 6))[j]? = (l.flatMap tc)[j]? := by rw [ht]
  rw [List.getElem?_take_of_lt hj'] at h1
  simp only [World.cell?, hb, Nat.zero_add]
  simp only [Option.isSome_none, Bool.false_eq_true, if_false]
  rw [← Array.getElem?_toList, h1, flatK_list]
  have hlt : j < (l.flatMap tc).length := by rw [flat_len]; exact hj'
  rw [List.getElem?_eq_getElem hlt]
  simp
  rw [List.getElem?_eq_getElem hlt]; rfl
theorem row_of_holds {w : World} {g : Nat} {l r : List Tu} (h : HoldsK tc 6 w g 0 (l ++ r).toArray) : w.rangeAt g 0 (l.flatMap tc) := fun j v hv => by
  have hj : j < l.length * 6 := by rw [← flat_len]; exact (List.getElem?_eq_some_iff.1 hv).1
  have := (h j (by simp; omega)).1
  rw [this, flatK_list, List.flatMap_append]
  have hlt : j < (l.flatMap tc).length := (List.getElem?_eq_some_iff.1 hv).1
  rw [show (((l.flatMap tc ++ r.flatMap tc).toArray)[j]! : Value) = v by
    rw [List.getElem!_toArray, List.getElem!_eq_getElem?_getD, List.getElem?_append_left hlt, hv]; rfl]
  rfl
theorem grownBy_sortK {w : World} {g n : Nat} {os : Array Obj} (d : Array Tu) : w.grownBy (sortWorldK tc 6 w g 0 n d os) (some g) := by
  refine ⟨rfl, rfl, rfl, by simp [sortWorldK, putRowK, putRow, mapBlock, Sort.ahead], fun k hk hne => ?_⟩
  unfold sortWorldK
  rw [heap_grow_old _ _ (by simpa [putRowK, putRow, mapBlock, Sort.ahead] using hk)]
  have : g ≠ k := fun e => hne (by rw [e])
  simp [putRowK, putRow, mapBlock, Sort.ahead, Array.getElem?_modify, this]
theorem swoT : SWO (ltOf ordT) where
  irrefl x := by simp [ltOf, ordT_self]
  trans x y z h1 h2 := by
    simp only [ltOf, decide_eq_true_eq] at *
    exact ordT_up h1 h2
  ntrans x y z h1 h2 := by
    simp only [ltOf, decide_eq_false_iff_not] at *
    have f1 := ordT_flip x y; have f2 := ordT_flip y z; have f3 := ordT_flip x z
    have := ordT_le (a := z) (b := y) (c := x) (by omega) (by omega)
    omega
theorem cmpT (blk off size : Nat) (w : World) : CmpLays Try.prog 32 #[] tc 6 ordT blk off size w :=
  fun _ _ _ _ x y => tcompare_any x y _
theorem insNone (w : World) (p : Option Addr) (cap : Nat) (fv : Value) : Calls Try.prog 51 #[.slice p 0 cap, .int .i64 0, .int .i64 0, fv] w fun e w' => e = .returned (.tuple #[]) ∧ w = w' := by
  go_enter Try.func51, Try.ntmps51
  go_wp2_with fail
  refine wp_loop_rounds 1 ?_
  rw [rounds_succ]
  go_wp2_with fail
  go_end0
  exact ⟨rfl, rfl⟩
theorem pdqNone (w : World) (p : Option Addr) (cap : Nat) (lim : Int) (fv : Value) : Calls Try.prog 48 #[.slice p 0 cap, .int .i64 0, .int .i64 0, .int .i64 lim, fv] w fun e w' => e = .returned (.tuple #[]) ∧ w = w' := by
  have HI := Lib.hid (insNone w p cap fv)
  go_enter Try.func48, Try.ntmps48
  go_wp2_with fail
  refine wp_loop_rounds 1 ?_
  rw [rounds_succ]
  go_wp2_with fail
  refine HI.out.mono ?_
  rintro e w1 ⟨rfl, rfl⟩
  go_wp2_with fail
  (try simp only [Exit.inBlock, Exit.then]); refine bodyPost_ret (results_none rfl _ _ _) rfl ?_
  exact ⟨rfl, rfl⟩
theorem len0 (w : World) : Calls Try.prog 49 #[.int .u64 0] w fun e w' => e = .returned (.int .i64 (Lib.bitLen 0 : Nat)) ∧ w' = w :=
  Any.bits_Len (SlLaysF0.n15.bits (P := Try.prog) (ρ := Try.sortTu_ren) { Try.sortTu with }) 0 w (by omega) (by omega)
theorem sortNone (w : World) (p : Option Addr) (cap : Nat) (fv : Value) : Calls Try.prog 44 #[.slice p 0 cap, fv] w fun e w' => e = .returned (.tuple #[]) ∧ w = w' := by
  have HP := fun lim => Lib.hid (pdqNone w p cap lim fv)
  have HL := Lib.hid (len0 w)
  generalize (Lib.bitLen 0 : Nat) = L at HL
  go_enter Try.func44, Try.ntmps44
  go_wp2_with fail
  refine HL.out.mono ?_
  rintro e w1 ⟨rfl, rfl⟩
  go_wp2_with fail
  refine (HP _).out.mono ?_
  rintro e w1 ⟨rfl, rfl⟩
  go_wp2_with fail
  go_end0
  exact ⟨rfl, rfl⟩
/-- The three calls, the list nil or laid. -/
theorem clone_any {w : World} {sv : Value} {l : List Tu} (h : TuSl w sv l) (hl : l.length ≤ 1000000) :
    Calls Try.prog 36 #[sv] w fun e w' => ∃ v', e = .returned v' ∧ Below w.heap.size w w' ∧
      ((v' = .slice none 0 0 ∧ l = []) ∨ ∃ g c, v' = .slice (some ⟨g, 0, none⟩) l.length c ∧ l.length ≤ c ∧ w.heap.size ≤ g ∧ g < w'.heap.size ∧ HoldsK tc 6 w' g 0 l.toArray) := by
  rcases h with ⟨rfl, rfl⟩ | ⟨b, off, c, rfl, h1, h2, h3⟩
  · refine (AnyE.slices_Clone_nil Try.cloneTu 0 0 w).mono ?_
    rintro e w1 ⟨rfl, rfl⟩
    exact ⟨_, rfl, Below.refl _ _, .inl ⟨rfl, rfl⟩⟩
  · obtain ⟨i0, hi0⟩ : ∃ i, Try.prog.info? 34 = some i := Option.isSome_iff_exists.1 (by kernel_rfl)
    have q1 : (Try.prog.info? 34).bind (·.zero) = some (tuV t0) := by kernel_rfl
    have q2 : (Try.prog.info? 34).map (·.size) = some 6 := by kernel_rfl
    have q3 : (Try.prog.info? 34).map (·.bytes) = some 96 := by kernel_rfl
    rw [hi0] at q1 q2 q3
    refine (AnyE.slices_Clone Try.cloneTu i0 (tuV t0) 6 96 hi0 q1 (Option.some.inj q2) (Option.some.inj q3) (by kernel_rfl) (by omega) (fun _ => by kernel_rfl) b off l.length c (l.flatMap tc) w (flat_len l) (Nat.le_trans hl (by decide)) (by omega) h3 ?_).mono ?_
    · intro u hu
      obtain ⟨x, _, hx⟩ := List.mem_flatMap.1 hu
      exact tc_one x u hx
    · rintro e w1 ⟨v', rfl, ho, hn, hb⟩
      refine ⟨v', rfl, hb, ?_⟩
      rcases ho.2 with ⟨h0, _⟩ | ⟨g, cap, cur, rfl, g1, g2, g3, g4, g5, g6⟩
      · exact absurd h0 hn
      · exact .inr ⟨g, cap, rfl, g3, g1, (Array.getElem?_eq_some_iff.1 g2).1, holds_of_row g2 g6⟩
theorem sortT_any {w : World} {g c : Nat} {l : List Tu} (hH : HoldsK tc 6 w g 0 l.toArray) (hg : g < w.heap.size) (hl : l.length ≤ 1000000) :
    Calls Try.prog 44 #[.slice (some ⟨g, 0, none⟩) l.length c, .func (.func 32) #[] #[]] w fun e w' => e = .returned (.tuple #[]) ∧ w.grownBy w' (some g) ∧ g < w'.heap.size ∧
      ∃ d, HoldsK tc 6 w' g 0 d ∧ d.size = l.length ∧ compactUpTo d d.size = sortedT l := by
  have eg : ∀ args w, (callFunc 32 args).run Try.prog w = .ok (.enter 32 args) w := enters_of Try.func32 (by kernel_rfl) rfl
  have hcon := AnyQ.slices_SortFunc Try.sortTu 6 (fun _ => by kernel_rfl) (fun _ => by kernel_rfl) tc (fun _ => rfl) tc_one ordT swoT 32 #[] g 0 c l.toArray w eg (cmpT g 0 _ w) hH hg (by simp; omega)
  change Calls Try.prog 44 _ _ _ at hcon
  refine hcon.mono ?_
  rintro e w1 ⟨rfl, d, n, os, hp, hs, rfl⟩
  have hd : d.size = l.length := by simpa using hp.1
  refine ⟨rfl, grownBy_sortK d, lt_sortWorldK tc 6 w g 0 n d os hg, d, holdsK_sortWorldK tc 6 w g 0 n l.toArray d os hg hH (by simpa using hd), hd, ?_⟩
  refine kept_sorted (fun i j hij hj => ?_) (fun x => ?_)
  · have := hs i j (Nat.zero_le _) hij (by simpa [hd] using hj)
    simp only [ltOf, decide_eq_false_iff_not] at this
    have := ordT_flip d[i]! d[j]!
    omega
  · have := hp.2.2
    rw [show d.extract 0 l.toArray.size = d by rw [Array.extract_eq_self_of_le (by simp [hd])], show l.toArray.extract 0 l.toArray.size = l.toArray by rw [Array.extract_eq_self_of_le (Nat.le_refl _)]] at this
    exact this.mem_iff
theorem compT_any {w : World} {g c : Nat} {d : Array Tu} {l : List Tu} (hH : HoldsK tc 6 w g 0 d) (hd : d.size = l.length) (hg : g < w.heap.size) (hk : compactUpTo d d.size = sortedT l) (hl : l.length ≤ 1000000) (hc : l.length ≤ c) :
    Calls Try.prog 31 #[.slice (some ⟨g, 0, none⟩) l.length c] w fun e w' => ∃ v', e = .returned v' ∧ w.grownBy w' (some g) ∧ TuSl w' v' (sortedT l) := by
  rw [← hd]
  refine (tcompact_any g 0 c d w hH (by omega) (by omega)).mono ?_
  rintro e w1 ⟨rfl, q, rfl⟩
  rw [hk]
  have hle : (sortedT l).length ≤ d.size := by rw [← hk]; unfold compactUpTo; rw [List.length_map]; exact Nat.le_trans (List.length_filter_le _ _) (by simp)
  have hs : putRowK tc 6 (Sort.ahead w q) g 0 (sortedT l ++ List.replicate (d.size - (sortedT l).length) t0).toArray = sortWorldK tc 6 w g 0 q (sortedT l ++ List.replicate (d.size - (sortedT l).length) t0).toArray #[] := by unfold sortWorldK; rw [grow_empty]
  rw [hs]
  refine ⟨_, rfl, grownBy_sortK _, .inr ⟨g, 0, c, rfl, by omega, lt_sortWorldK tc 6 w g 0 q _ #[] hg, ?_⟩⟩
  exact row_of_holds (r := List.replicate (d.size - (sortedT l).length) t0) (holdsK_sortWorldK tc 6 w g 0 q d _ #[] hg hH (by simp; omega))
set_option maxHeartbeats 1000000 in
theorem tsorted_any {w : World} {sv : Value} {l : List Tu} (h : TuSl w sv l) (hl : l.length ≤ 1000000) :
    Calls Try.prog 38 #[sv] w fun e w' => ∃ v', e = .returned v' ∧ Below w.heap.size w w' ∧ TuSl w' v' (sortedT l) := by
  have HC := Lib.hid (clone_any h hl)
  have HLN := Lib.hid hl
  clear h hl
  go_enter Try.func38, Try.ntmps38
  go_wp2_with fail
  refine HC.out.mono ?_
  rintro e w1 ⟨v', rfl, hb, hv⟩
  have HB := Lib.hid hb
  clear HC hb
  rcases hv with ⟨rfl, rfl⟩ | ⟨g, c, rfl, h1, h2, h3, h4⟩
  · go_wp2_with fail
    refine (sortNone _ none 0 _).mono ?_
    rintro e w2 ⟨rfl, rfl⟩
    go_wp2_with fail
    refine (tcompact_nil none 0 _).mono ?_
    rintro e w2 ⟨rfl, rfl⟩
    go_wp2_with fail
    go_ret
    exact ⟨_, rfl, HB.out, .inl ⟨rfl, rfl⟩⟩
  · have HS := Lib.hid (sortT_any (c := c) h4 h3 HLN.out)
    have H1 := Lib.hid h1
    have H2 := Lib.hid h2
    have H3 := Lib.hid h3
    clear h1 h2 h3 h4
    go_wp2_with fail
    refine HS.out.mono ?_
    rintro e w2 ⟨rfl, hg, hg2, d, hd1, hd2, hd3⟩
    have HB2 := Lib.hid (HB.out.trans (grown_below' hg H2.out HB.out.size))
    have HK := Lib.hid (compT_any hd1 hd2 hg2 hd3 HLN.out H1.out)
    have HZ := Lib.hid (Nat.le_trans HB.out.size hg.size)
    clear HS hg hg2 hd1 hd2 hd3
    go_wp2_with fail
    refine HK.out.mono ?_
    rintro e w3 ⟨v3, rfl, hg3, hsl⟩
    have HB3 := Lib.hid (HB2.out.trans (grown_below' hg3 H2.out HZ.out))
    have HV := Lib.hid hsl
    clear HK hg3 hsl
    go_wp2_with fail
    go_ret
    exact ⟨_, rfl, HB3.out, HV.out⟩
end Go.Proofs.Ytebbbiikphfjcaa
