/-
  vestrylaw23.MergeLaws.
-/
import Derived.Test.YtebbbiikphfjcaaMgQ
namespace Go.Proofs.Ytebbbiikphfjcaa
open Go.ChangeShapes Go.WideShapes Go.ChangeAt Go.RowKit
set_option linter.unusedVariables false

theorem sorted_few (l : List Tu) : (sortedT l).length ≤ l.length := by
  have h := srt_len l []
  unfold sortedT
  simp only [List.length_nil] at h
  omega
theorem ris_two {a b : List Tu} (ha : Ris a) (hb : Ris b) : ∀ l ∈ [a, b], Ris l := fun l hl => by
  simp only [List.mem_cons, List.not_mem_nil, or_false] at hl
  rcases hl with rfl | rfl
  · exact ha
  · exact hb
/-- append of a list that is read, also under a guard that is met. -/
theorem appRw {ops : Array Oper} {rest : List Oper} {o : Oper} {a : Act} {Q : Exit → Act → World → Prop} {w : World} (s x : Operand) (hgd : Region.wanted o (yielded ops a.tmps) = true) (ho : o.op = .call { callee := .builtin .append, args := #[s, x], argTypes := #[24, 24] })
    {base n m c : Nat} {v : Value} {xs news : List Tu} {p : Option Addr} (hs : a.eval s = v) (hown : w.ownsRow base 34 6 v n (xs.flatMap tc)) (hx : a.eval x = .slice p m c) (h2 : TuRd w (.slice p m c) news) (hm : news.length = m)
    (hlen : n + m ≤ 1000000) (hbase : base ≤ w.heap.size)
    (h : ∀ v' w', w'.ownsRow base 34 6 v' (n + m) ((xs ++ news).flatMap tc) → Below base w w' → wpList Try.prog ops Q rest (a.put o.dst v') w') : wpList Try.prog ops Q (o :: rest) a w := by
  obtain ⟨i0, hi⟩ : ∃ i, Try.prog.info? 34 = some i := Option.isSome_iff_exists.1 (by kernel_rfl)
  have q1 : (Try.prog.info? 34).bind (·.zero) = some (tuV t0) := by kernel_rfl
  have q2 : (Try.prog.info? 34).map (·.size) = some 6 := by kernel_rfl
  have q3 : (Try.prog.info? 34).map (·.bytes) = some 96 := by kernel_rfl
  rw [hi] at q1 q2 q3
  refine wpList_step fun K hK => ?_
  rw [if_pos hgd]
  rcases h2 with ⟨h1, h2⟩ | ⟨ad, cap, h1, h2, h3⟩
  · simp only [Value.slice.injEq] at h1
    obtain ⟨rfl, rfl, rfl⟩ := h1
    subst h2
    have hrun := run_append_owned_none (P := Try.prog) (w := w) base 24 o.type 34 i0 6 Try.underlying24 hi v n _ hown
    unfold Oper.wp
    simp [execOp, ho, resolve, invoke, builtin, hs, hx, hrun, Result.andThen]
    exact hK _ _ (h v w (by rw [List.append_nil]; exact hown) (Below.refl _ _))
  · simp only [Value.slice.injEq] at h1
    obtain ⟨rfl, _, rfl⟩ := h1
    refine wp_append_own w s x 24 ho base 34 i0 (tuV t0) 6 96 Try.underlying24 hi q1 (Option.some.inj q2) (Option.some.inj q3) (by kernel_rfl) (by decide) v n _ hs hown ad m c (news.flatMap tc) hx (by rw [flat_len, hm]) ?_ ?_ (by unfold maxLen; omega) (by omega) hbase ?_
    · intro j u hj
      have hj' := (List.getElem?_eq_some_iff.1 hj).1
      rw [flat_len] at hj'
      obtain ⟨b, off, rfl, _, hr⟩ := h3 (by omega)
      rw [show (Addr.add ⟨b, off, none⟩ j) = ⟨b, off + j, none⟩ by cases j <;> simp [Addr.add]]
      exact hr j u hj
    · intro u hu
      obtain ⟨y, _, hy⟩ := List.mem_flatMap.1 hu
      exact tc_one y u hy
    · intro v' w' r1 r2 _
      exact hK _ _ (h v' w' (by rw [List.flatMap_append]; exact r1) ((Below.refl _ _).grown r2 hbase (fun k hk => (hown.lt k hk).1)))
set_option maxRecDepth 100000 in
set_option maxHeartbeats 4000000 in
theorem mlaws_any {w : World} {xv yv : Value} {x y : List Tu} (hx : TuRd w xv x) (hy : TuRd w yv y) (hzx : ∀ t ∈ x, sizesT t 140737488355328) (hlx : x.length ≤ 140737488355328) (hzy : ∀ t ∈ y, sizesT t 140737488355328) (hly : y.length ≤ 140737488355328) :
    Calls Try.prog 7 #[xv, yv] w fun e w' => e = .returned (.bool true) ∧ Below w.heap.size w w' := by
  have HB0 := Lib.hid (Below.refl w.heap.size w)
  have HX0 := Lib.hid hx
  have HY0 := Lib.hid hy
  obtain ⟨px, cx, rfl, _⟩ := hx.form tc_length (by decide)
  obtain ⟨py, cy, rfl, _⟩ := hy.form tc_length (by decide)
  clear hx hy
  go_enter Try.func7, Try.ntmps7
  have HC1 := Lib.hid (mawake_any w)
  go_wp2_with fail
  refine HC1.out.mono ?_
  rintro e w1 ⟨rfl, b1⟩
  clear HC1
  have HB1 := Lib.hid (HB0.out.trans ((b1).mono HB0.out.size))
  have X_1 := Lib.hid (HX0.out.below (b1))
  have Y_1 := Lib.hid (HY0.out.below (b1))
  clear b1 HB0 HX0 HY0
  have HC2 := Lib.hid (few_any X_1.out hzx hlx)
  go_wp2_with fail
  refine HC2.out.mono ?_
  rintro e w2 ⟨rfl, b2⟩
  clear HC2
  have HB2 := Lib.hid (HB1.out.trans ((b2).mono HB1.out.size))
  have X_2 := Lib.hid (X_1.out.below (b2))
  have Y_2 := Lib.hid (Y_1.out.below (b2))
  clear b2 HB1 X_1 Y_1
  rcases hfx : fewT x with _ | _
  · have HC53 := Lib.hid (mawake_any w2)
    go_wp2_with fail
    refine HC53.out.mono ?_
    rintro e w53 ⟨rfl, b53⟩
    clear HC53
    have HB53 := Lib.hid (HB2.out.trans ((b53).mono HB2.out.size))
    have X_53 := Lib.hid (X_2.out.below (b53))
    have Y_53 := Lib.hid (Y_2.out.below (b53))
    clear b53 HB2 X_2 Y_2
    go_wp2_with fail
    go_ret
    exact ⟨rfl, HB53.out⟩
  have hfx' := fewT_out hfx
  have ZX : Hid (∀ t ∈ x, sizesT t 1000000) := fun t ht => (hfx'.1 t ht).mono (by decide)
  have LX : Hid (x.length ≤ 60) := hfx'.2
  clear hfx hfx'
  have HC3 := Lib.hid (few_any Y_2.out hzy hly)
  go_wp2_with fail
  refine HC3.out.mono ?_
  rintro e w3 ⟨rfl, b3⟩
  clear HC3
  have HB3 := Lib.hid (HB2.out.trans ((b3).mono HB2.out.size))
  have X_3 := Lib.hid (X_2.out.below (b3))
  have Y_3 := Lib.hid (Y_2.out.below (b3))
  clear b3 HB2 X_2 Y_2
  rcases hfy : fewT y with _ | _
  · have HC54 := Lib.hid (mawake_any w3)
    go_wp2_with fail
    refine HC54.out.mono ?_
    rintro e w54 ⟨rfl, b54⟩
    clear HC54
    have HB54 := Lib.hid (HB3.out.trans ((b54).mono HB3.out.size))
    have X_54 := Lib.hid (X_3.out.below (b54))
    have Y_54 := Lib.hid (Y_3.out.below (b54))
    clear b54 HB3 X_3 Y_3
    go_wp2_with fail
    go_ret
    exact ⟨rfl, HB54.out⟩
  have hfy' := fewT_out hfy
  have ZY : Hid (∀ t ∈ y, sizesT t 1000000) := fun t ht => (hfy'.1 t ht).mono (by decide)
  have LY : Hid (y.length ≤ 60) := hfy'.2
  clear hfy hfy'
  clear hzx hlx hzy hly
  have HC4 := Lib.hid (rsorted_any X_3.out ZX.out (by have := LX.out; omega))
  go_wp2_with fail
  refine HC4.out.mono ?_
  rintro e w4 ⟨v4, rfl, b4, t4⟩
  clear HC4
  have A_4 : Hid (TuSl w4 v4 (sortedT x)) := t4
  have HB4 := Lib.hid (HB3.out.trans ((b4).mono HB3.out.size))
  have X_4 := Lib.hid (X_3.out.below (b4))
  have Y_4 := Lib.hid (Y_3.out.below (b4))
  clear b4 HB3 X_3 Y_3
  clear t4
  obtain ⟨a, ha⟩ : ∃ a, a = sortedT x := ⟨_, rfl⟩
  rw [← ha] at A_4
  have HEA := Lib.hid ha
  clear ha
  obtain ⟨qa, ma, rfl, _⟩ := A_4.out.src
  have HC5 := Lib.hid (rsorted_any Y_4.out ZY.out (by have := LY.out; omega))
  go_wp2_with fail
  refine HC5.out.mono ?_
  rintro e w5 ⟨v5, rfl, b5, t5⟩
  clear HC5
  have B_5 : Hid (TuSl w5 v5 (sortedT y)) := t5
  have HB5 := Lib.hid (HB4.out.trans ((b5).mono HB4.out.size))
  have X_5 := Lib.hid (X_4.out.below (b5))
  have Y_5 := Lib.hid (Y_4.out.below (b5))
  have A_5 := Lib.hid (A_4.out.below (b5))
  clear b5 HB4 X_4 Y_4 A_4
  clear t5
  obtain ⟨b, hb⟩ : ∃ b, b = sortedT y := ⟨_, rfl⟩
  rw [← hb] at B_5
  have HEB := Lib.hid hb
  clear hb
  obtain ⟨qb, mb, rfl, _⟩ := B_5.out.src
  have RA : Hid (Ris a) := by rw [HEA.out]; exact sorted_ris x
  have RB : Hid (Ris b) := by rw [HEB.out]; exact sorted_ris y
  have NA : Hid (a.length ≤ 60) := by rw [HEA.out]; exact Nat.le_trans (sorted_few x) LX.out
  have NB : Hid (b.length ≤ 60) := by rw [HEB.out]; exact Nat.le_trans (sorted_few y) LY.out
  have EAB : Hid (unionT [a, b] = sortedT (x ++ y)) := by rw [HEA.out, HEB.out]; exact union_app x y
  have EM : Hid (unionT [minusT a b, b] = unionT [a, b]) := union_minus a b
  have EG := Lib.hid (minG_eq a b RA.out RB.out)
  have ES : Hid (minG a a = []) := (minG_eq a a RA.out RA.out).trans (minusT_self a)
  have EN : Hid (minG a [] = a) := (minG_eq a [] RA.out List.Pairwise.nil).trans (minusT_nil a)
  have NM : Hid ((minusT a b).length ≤ 60) := Nat.le_trans (List.length_filter_le _ _) NA.out
  have RM : Hid (Ris (minusT a b)) := minusT_ris RA.out b
  clear HEA HEB
  have HC6 := Lib.hid (minus_any A_5.out B_5.out (by have := NA.out; omega) (by have := NB.out; omega))
  go_wp2_with fail
  refine HC6.out.mono ?_
  rintro e w6 ⟨v6, rfl, b6, t6⟩
  clear HC6
  have M_6 : Hid (TuSl w6 v6 (minusT a b)) := by rw [← EG.out]; exact t6
  have HB6 := Lib.hid (HB5.out.trans ((b6).mono HB5.out.size))
  have X_6 := Lib.hid (X_5.out.below (b6))
  have Y_6 := Lib.hid (Y_5.out.below (b6))
  have A_6 := Lib.hid (A_5.out.below (b6))
  have B_6 := Lib.hid (B_5.out.below (b6))
  clear b6 HB5 X_5 Y_5 A_5 B_5
  clear t6
  obtain ⟨m, hm⟩ : ∃ m, m = minusT a b := ⟨_, rfl⟩
  rw [← hm] at M_6 EM NM RM
  clear hm
  obtain ⟨qm, mm, rfl, _⟩ := M_6.out.src
  have b7 : Below w6.heap.size w6 (w6.alloc (.cells #[.slice qm m.length mm, .slice qb b.length mb] 24)) := (Below.refl _ _).alloc (Nat.le_refl _) _
  have LL_7 : Hid (LLs (w6.alloc (.cells #[.slice qm m.length mm, .slice qb b.length mb] 24)) (.slice (some ⟨w6.heap.size, 0, none⟩) 2 2) [m, b]) := lls_two M_6.out B_6.out
  have HB7 := Lib.hid (HB6.out.trans ((b7).mono HB6.out.size))
  have X_7 := Lib.hid (X_6.out.below (b7))
  have Y_7 := Lib.hid (Y_6.out.below (b7))
  have A_7 := Lib.hid (A_6.out.below (b7))
  have B_7 := Lib.hid (B_6.out.below (b7))
  have M_7 := Lib.hid (M_6.out.below (b7))
  clear b7 HB6 X_6 Y_6 A_6 B_6 M_6
  go_wp2_with fail
  generalize (w6.alloc (.cells #[.slice qm m.length mm, .slice qb b.length mb] 24)) = w7 at HB7 X_7 Y_7 A_7 B_7 M_7 LL_7 ⊢
  have HC8 := Lib.hid (union_any LL_7.out (ris_two RM.out RB.out) (by show 2 ≤ 100000; decide) (by have := NM.out; have := NB.out; simp only [List.flatten_cons, List.flatten_nil, List.append_nil, List.length_append]; omega))
  refine HC8.out.mono ?_
  rintro e w8 ⟨v8, rfl, b8, t8⟩
  clear HC8
  have U_8 : Hid (TuSl w8 v8 (unionT [m, b])) := by show TuSl _ _ (sortedT _); exact t8
  have HB8 := Lib.hid (HB7.out.trans ((b8).mono HB7.out.size))
  have X_8 := Lib.hid (X_7.out.below (b8))
  have Y_8 := Lib.hid (Y_7.out.below (b8))
  have A_8 := Lib.hid (A_7.out.below (b8))
  have B_8 := Lib.hid (B_7.out.below (b8))
  have M_8 := Lib.hid (M_7.out.below (b8))
  have LL_8 := Lib.hid (LL_7.out.below (b8))
  clear b8 HB7 X_7 Y_7 A_7 B_7 M_7 LL_7
  clear t8
  clear LL_8
  rw [EM.out] at U_8
  clear M_8
  have b9 : Below w8.heap.size w8 (w8.alloc (.cells #[.slice qa a.length ma, .slice qb b.length mb] 24)) := (Below.refl _ _).alloc (Nat.le_refl _) _
  have LL_9 : Hid (LLs (w8.alloc (.cells #[.slice qa a.length ma, .slice qb b.length mb] 24)) (.slice (some ⟨w8.heap.size, 0, none⟩) 2 2) [a, b]) := lls_two A_8.out B_8.out
  have HB9 := Lib.hid (HB8.out.trans ((b9).mono HB8.out.size))
  have X_9 := Lib.hid (X_8.out.below (b9))
  have Y_9 := Lib.hid (Y_8.out.below (b9))
  have A_9 := Lib.hid (A_8.out.below (b9))
  have B_9 := Lib.hid (B_8.out.below (b9))
  have U_9 := Lib.hid (U_8.out.below (b9))
  clear b9 HB8 X_8 Y_8 A_8 B_8 U_8
  go_wp2_with fail
  generalize (w8.alloc (.cells #[.slice qa a.length ma, .slice qb b.length mb] 24)) = w9 at HB9 X_9 Y_9 A_9 B_9 U_9 LL_9 ⊢
  have HC10 := Lib.hid (union_any LL_9.out (ris_two RA.out RB.out) (by show 2 ≤ 100000; decide) (by have := NA.out; have := NB.out; simp only [List.flatten_cons, List.flatten_nil, List.append_nil, List.length_append]; omega))
  refine HC10.out.mono ?_
  rintro e w10 ⟨v10, rfl, b10, t10⟩
  clear HC10
  have V_10 : Hid (TuSl w10 v10 (unionT [a, b])) := by show TuSl _ _ (sortedT _); exact t10
  have HB10 := Lib.hid (HB9.out.trans ((b10).mono HB9.out.size))
  have X_10 := Lib.hid (X_9.out.below (b10))
  have Y_10 := Lib.hid (Y_9.out.below (b10))
  have A_10 := Lib.hid (A_9.out.below (b10))
  have B_10 := Lib.hid (B_9.out.below (b10))
  have U_10 := Lib.hid (U_9.out.below (b10))
  have LL_10 := Lib.hid (LL_9.out.below (b10))
  clear b10 HB9 X_9 Y_9 A_9 B_9 U_9 LL_9
  clear t10
  clear LL_10
  obtain ⟨u, hu⟩ : ∃ u, u = unionT [a, b] := ⟨_, rfl⟩
  have NU : Hid (u.length ≤ 140737488355328) := by rw [hu]; refine Nat.le_trans (sorted_few _) ?_; have := NA.out; have := NB.out; simp only [List.flatten_cons, List.flatten_nil, List.append_nil, List.length_append]; omega
  rw [← hu] at U_10 V_10 EAB
  clear hu
  have HC11 := Lib.hid (samel_any U_10.out.rd V_10.out.rd NU.out NU.out)
  rw [same_self] at HC11
  go_wp2_with fail
  refine HC11.out.mono ?_
  rintro e w11 ⟨rfl, b11⟩
  clear HC11
  have HB11 := Lib.hid (HB10.out.trans ((b11).mono HB10.out.size))
  have X_11 := Lib.hid (X_10.out.below (b11))
  have Y_11 := Lib.hid (Y_10.out.below (b11))
  have A_11 := Lib.hid (A_10.out.below (b11))
  have B_11 := Lib.hid (B_10.out.below (b11))
  have U_11 := Lib.hid (U_10.out.below (b11))
  have V_11 := Lib.hid (V_10.out.below (b11))
  clear b11 HB10 X_10 Y_10 A_10 B_10 U_10 V_10
  clear V_11
  clear B_11
  have HBA : Hid (Below w11.heap.size w11 (w11.alloc (.cells #[] 34))) := (Below.refl _ _).alloc (Nat.le_refl _) _
  have HXA := Lib.hid (X_11.out.below HBA.out)
  have HYA := Lib.hid (Y_11.out.below HBA.out)
  have HW1 : Hid (World.ownsRow (w11.alloc (.cells #[] 34)) w11.heap.size 34 6 (.slice (some ⟨w11.heap.size, 0, none⟩) 0 0) 0 (([] : List Tu).flatMap tc)) := World.ownsRow_made w11 #[] 0 (Nat.le_refl _) (Nat.zero_le _) (by simp)
  go_wp2_with (first
    | (at_builtin; refine appRw _ _ (by kernel_rfl) rfl (base := w11.heap.size) (xs := []) (news := x) rfl HW1.out rfl HXA.out rfl (by have := LX.out; omega) HBA.out.size ?_; intro v12 w12 h12 b12; have HY12 := Lib.hid (Y_11.out.below (HBA.out.trans b12)); have HH12 : Hid (w12.ownsRow w11.heap.size 34 6 v12 x.length (x.flatMap tc)) := (by have h := h12; rw [Nat.zero_add, List.nil_append] at h; exact h); have HBK12 := Lib.hid b12; clear h12 b12)
    | (at_builtin; refine appRw _ _ (by kernel_rfl) rfl (base := w11.heap.size) (xs := x) (news := y) rfl HH12.out rfl HY12.out rfl (by have := LX.out; have := LY.out; omega) (Nat.le_trans HBA.out.size HBK12.out.size) ?_; intro v13 w13 h13 b13))
  have bb := HBA.out.trans (HBK12.out.trans b13)
  have HO : Hid (TuSl w13 v13 (x ++ y)) := ownsRow_sl (base := w11.heap.size) (by have h := h13; rw [List.length_append]; exact h)
  clear HXA HYA HW1 HY12 HH12 h13 HBA HBK12 b13
  have HB13 := Lib.hid (HB11.out.trans ((bb).mono HB11.out.size))
  have X_13 := Lib.hid (X_11.out.below (bb))
  have Y_13 := Lib.hid (Y_11.out.below (bb))
  have A_13 := Lib.hid (A_11.out.below (bb))
  have U_13 := Lib.hid (U_11.out.below (bb))
  clear bb HB11 X_11 Y_11 A_11 U_11
  clear X_13
  clear Y_13
  have ZXY : Hid (∀ t ∈ x ++ y, sizesT t 1000000) := fun t ht => (List.mem_append.1 ht).elim (fun h => ZX.out t h) fun h => ZY.out t h
  have HC14 := Lib.hid (rsorted_any HO.out.rd ZXY.out (by have := LX.out; have := LY.out; simp only [List.length_append]; omega))
  go_wp2_with fail
  refine HC14.out.mono ?_
  rintro e w14 ⟨v14, rfl, b14, t14⟩
  clear HC14
  have P_14 : Hid (TuSl w14 v14 u) := by rw [EAB.out]; exact t14
  have HB14 := Lib.hid (HB13.out.trans ((b14).mono HB13.out.size))
  have A_14 := Lib.hid (A_13.out.below (b14))
  have U_14 := Lib.hid (U_13.out.below (b14))
  have O_14 := Lib.hid (HO.out.below (b14))
  clear b14 HB13 A_13 U_13 HO
  clear t14
  clear O_14
  have HC15 := Lib.hid (samel_any U_14.out.rd P_14.out.rd NU.out NU.out)
  rw [same_self] at HC15
  go_wp2_with fail
  refine HC15.out.mono ?_
  rintro e w15 ⟨rfl, b15⟩
  clear HC15
  have HB15 := Lib.hid (HB14.out.trans ((b15).mono HB14.out.size))
  have A_15 := Lib.hid (A_14.out.below (b15))
  have U_15 := Lib.hid (U_14.out.below (b15))
  have P_15 := Lib.hid (P_14.out.below (b15))
  clear b15 HB14 A_14 U_14 P_14
  clear P_15
  clear U_15
  have HC16 := Lib.hid (minus_any A_15.out A_15.out (by have := NA.out; omega) (by have := NA.out; omega))
  go_wp2_with fail
  refine HC16.out.mono ?_
  rintro e w16 ⟨v16, rfl, b16, t16⟩
  clear HC16
  have E_16 : Hid (TuSl w16 v16 []) := by rw [← ES.out]; exact t16
  have HB16 := Lib.hid (HB15.out.trans ((b16).mono HB15.out.size))
  have A_16 := Lib.hid (A_15.out.below (b16))
  clear b16 HB15 A_15
  clear t16
  obtain ⟨qe, me, rfl⟩ := E_16.out.none_form
  clear E_16
  have HC17 := Lib.hid (minus_any A_16.out (.inl ⟨rfl, rfl⟩ : TuSl _ (.slice none 0 0) []) (by have := NA.out; omega) (Nat.zero_le _))
  go_wp2_with fail
  refine HC17.out.mono ?_
  rintro e w17 ⟨v17, rfl, b17, t17⟩
  clear HC17
  have N_17 : Hid (TuSl w17 v17 a) := by rw [← EN.out]; exact t17
  have HB17 := Lib.hid (HB16.out.trans ((b17).mono HB16.out.size))
  have A_17 := Lib.hid (A_16.out.below (b17))
  clear b17 HB16 A_16
  clear t17
  have NA2 : Hid (a.length ≤ 140737488355328) := by have := NA.out; show _ ≤ _; omega
  have HC18 := Lib.hid (samel_any N_17.out.rd A_17.out.rd NA2.out NA2.out)
  rw [same_self] at HC18
  go_wp2_with fail
  refine HC18.out.mono ?_
  rintro e w18 ⟨rfl, b18⟩
  clear HC18
  have HB18 := Lib.hid (HB17.out.trans ((b18).mono HB17.out.size))
  have A_18 := Lib.hid (A_17.out.below (b18))
  have N_18 := Lib.hid (N_17.out.below (b18))
  clear b18 HB17 A_17 N_17
  go_wp2_with fail
  go_ret
  exact ⟨rfl, HB18.out⟩
end Go.Proofs.Ytebbbiikphfjcaa
