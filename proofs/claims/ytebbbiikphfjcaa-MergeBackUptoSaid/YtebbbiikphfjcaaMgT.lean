/-
  vestrylaw23.MergeBack.
-/
import Derived.Test.YtebbbiikphfjcaaMgR
namespace Go.Proofs.Ytebbbiikphfjcaa
open Go.ChangeShapes Go.WideShapes Go.ChangeAt Go.RowKit
set_option linter.unusedVariables false

/-- The changes of a difference, as they are built. -/
def chL (ts ds : List Tu) : List Ce := ts.map (fun t => (0, false, t)) ++ ds.map fun t => (0, true, t)
theorem chL_len (ts ds : List Tu) : (chL ts ds).length = ts.length + ds.length := by simp [chL]
theorem chL_snd (ts ds : List Tu) : (chL ts ds).map Prod.snd = ts.map (fun t => (false, t)) ++ ds.map fun t => (true, t) := by simp [chL, Function.comp_def]
theorem chL_t {ts : List Tu} {i : Nat} {x : Tu} (hlt : i < ts.length) (h : x = ts[i]) : chL (ts.take (i + 1)) [] = chL (ts.take i) [] ++ [(0, false, x)] := by
  subst h
  unfold chL
  rw [List.take_add_one, List.getElem?_eq_getElem hlt, List.map_append]
  simp
theorem chL_d {ts ds : List Tu} {i : Nat} {x : Tu} (hlt : i < ds.length) (h : x = ds[i]) : chL ts (ds.take (i + 1)) = chL ts (ds.take i) ++ [(0, true, x)] := by
  subst h
  unfold chL
  rw [List.take_add_one, List.getElem?_eq_getElem hlt, List.map_append]
  simp
theorem chL_sizes {ts ds : List Tu} (h1 : ∀ t ∈ ts, sizesT t 1000000) (h2 : ∀ t ∈ ds, sizesT t 1000000) : ∀ t ∈ chL ts ds, sizesT t.2.2 maxLen := fun t ht => by
  unfold chL at ht
  rcases List.mem_append.1 ht with h | h
  · obtain ⟨y, hy, rfl⟩ := List.mem_map.1 h
    exact (h1 y hy).mono (by unfold maxLen; decide)
  · obtain ⟨y, hy, rfl⟩ := List.mem_map.1 h
    exact (h2 y hy).mono (by unfold maxLen; decide)
theorem own_formC {w : World} {base n : Nat} {v : Value} {xs : List Value} (h : w.ownsRow base 45 8 v n xs) : ∃ q c, v = .slice q n c := by
  rcases h.2 with ⟨h1, h2⟩ | ⟨g, cap, cur, h1, _⟩
  · exact ⟨none, 0, by rw [h1, h2]⟩
  · exact ⟨_, _, h1⟩
theorem cc_one (x : Ce) : ∀ u ∈ cc x, u.oneCell' = true := by
  intro u hu
  simp only [cc, List.mem_cons] at hu
  rcases hu with rfl | rfl | hu
  · rfl
  · rfl
  · exact tc_one _ u hu
theorem own_rdS {w : World} {base : Nat} {v : Value} {l : List Ce} (h : w.ownsRow base 45 8 v l.length (l.flatMap cc)) : RdS cc w v l := by
  rcases h.2 with ⟨h1, h2⟩ | ⟨g, cap, cur, h1, hb, hg, hn, _⟩
  · exact .inl ⟨h1, List.eq_nil_of_length_eq_zero h2⟩
  · refine .inr ⟨⟨g, 0, none⟩, cap, h1, hn, fun _ => ⟨g, 0, rfl, (Array.getElem?_eq_some_iff.1 hg).1, fun j u hj => ?_⟩⟩
    have := h.cells (g := g) (by rw [h1]; rfl) j u hj
    rwa [show (Addr.add ⟨g, 0, none⟩ j) = ⟨g, 0 + j, none⟩ by cases j <;> simp [Addr.add]] at this
theorem appCe {ops : Array Oper} {rest : List Oper} {o : Oper} {a : Act} {Q : Exit → Act → World → Prop} {w : World} (hgd : o.guard = none) (s x : Operand) (ho : o.op = .call { callee := .builtin .append, args := #[s, x], argTypes := #[42, 42] })
    {base n b : Nat} {v : Value} {xs : List Ce} {t : Ce} (hs : a.eval s = v) (hown : w.ownsRow base 45 8 v n (xs.flatMap cc)) (hx : a.eval x = .slice (some ⟨b, 0, none⟩) 1 1) (h3 : w.rangeAt b 0 (cc t))
    (hlen : n + 1 ≤ 1000000) (hbase : base ≤ w.heap.size)
    (h : ∀ v' w', w'.ownsRow base 45 8 v' (n + 1) ((xs ++ [t]).flatMap cc) → Hid (w.grownBy w' v.ownBlock) → wpList Try.prog ops Q rest (a.put o.dst v') w') : wpList Try.prog ops Q (o :: rest) a w := by
  obtain ⟨i0, hi⟩ : ∃ i, Try.prog.info? 45 = some i := Option.isSome_iff_exists.1 (by kernel_rfl)
  have q1 : (Try.prog.info? 45).bind (·.zero) = some (.agg (cc (0, false, t0)).toArray) := by kernel_rfl
  have q2 : (Try.prog.info? 45).map (·.size) = some 8 := by kernel_rfl
  have q3 : (Try.prog.info? 45).map (·.bytes) = some 112 := by kernel_rfl
  rw [hi] at q1 q2 q3
  refine wpList_append_own w hgd s x 42 ho base 45 i0 (.agg (cc (0, false, t0)).toArray) 8 112 Try.underlying42 hi q1 (Option.some.inj q2) (Option.some.inj q3) (by kernel_rfl) (by decide) v n _ hs hown ⟨b, 0, none⟩ 1 1 (cc t) hx (by rw [cc_length]) ?_ (cc_one t) (by unfold maxLen; omega) (by omega) hbase ?_
  · intro j u hj
    rw [show (Addr.add ⟨b, 0, none⟩ j) = ⟨b, 0 + j, none⟩ by cases j <;> simp [Addr.add]]
    exact h3 j u hj
  · intro v' w' r1 r2 _
    exact h v' w' (by rw [List.flatMap_append]; simpa using r1) (Lib.hid r2)
set_option maxRecDepth 100000 in
set_option maxHeartbeats 4000000 in
theorem mback_any {w : World} {xv yv : Value} {x y : List Tu} (hx : TuRd w xv x) (hy : TuRd w yv y) (hzx : ∀ t ∈ x, sizesT t 140737488355328) (hlx : x.length ≤ 140737488355328) (hzy : ∀ t ∈ y, sizesT t 140737488355328) (hly : y.length ≤ 140737488355328) :
    Calls Try.prog 6 #[xv, yv] w fun e w' => e = .returned (.bool true) ∧ Below w.heap.size w w' := by
  have HB0 := Lib.hid (Below.refl w.heap.size w)
  have HX0 := Lib.hid hx
  have HY0 := Lib.hid hy
  obtain ⟨px, cx, rfl, _⟩ := hx.form tc_length (by decide)
  obtain ⟨py, cy, rfl, _⟩ := hy.form tc_length (by decide)
  clear hx hy
  go_enter Try.func6, Try.ntmps6
  have HC1 := Lib.hid (mawake_any w)
  go_wp2_with fail
  refine HC1.out.mono ?_
  rintro e w1 ⟨rfl, b1⟩
  clear HC1
  have HB1 := Lib.hid (HB0.out.trans ((b1).mono HB0.out.size))
  have X_1 := Lib.hid (HX0.out.below (b1))
  have Y_1 := Lib.hid (HY0.out.below (b1))
  clear b1 HB0 HX0 HY0
  have HC2 := Lib.hid (few_any X_1.out hzx hlx)
  go_wp2_with fail
  refine HC2.out.mono ?_
  rintro e w2 ⟨rfl, b2⟩
  clear HC2
  have HB2 := Lib.hid (HB1.out.trans ((b2).mono HB1.out.size))
  have X_2 := Lib.hid (X_1.out.below (b2))
  have Y_2 := Lib.hid (Y_1.out.below (b2))
  clear b2 HB1 X_1 Y_1
  rcases hfx : fewT x with _ | _
  · have HC53 := Lib.hid (mawake_any w2)
    go_wp2_with fail
    refine HC53.out.mono ?_
    rintro e w53 ⟨rfl, b53⟩
    clear HC53
    have HB53 := Lib.hid (HB2.out.trans ((b53).mono HB2.out.size))
    have X_53 := Lib.hid (X_2.out.below (b53))
    have Y_53 := Lib.hid (Y_2.out.below (b53))
    clear b53 HB2 X_2 Y_2
    go_wp2_with fail
    go_ret
    exact ⟨rfl, HB53.out⟩
  have hfx' := fewT_out hfx
  have ZX : Hid (∀ t ∈ x, sizesT t 1000000) := fun t ht => (hfx'.1 t ht).mono (by decide)
  have LX : Hid (x.length ≤ 60) := hfx'.2
  clear hfx hfx'
  have HC3 := Lib.hid (few_any Y_2.out hzy hly)
  go_wp2_with fail
  refine HC3.out.mono ?_
  rintro e w3 ⟨rfl, b3⟩
  clear HC3
  have HB3 := Lib.hid (HB2.out.trans ((b3).mono HB2.out.size))
  have X_3 := Lib.hid (X_2.out.below (b3))
  have Y_3 := Lib.hid (Y_2.out.below (b3))
  clear b3 HB2 X_2 Y_2
  rcases hfy : fewT y with _ | _
  · have HC54 := Lib.hid (mawake_any w3)
    go_wp2_with fail
    refine HC54.out.mono ?_
    rintro e w54 ⟨rfl, b54⟩
    clear HC54
    have HB54 := Lib.hid (HB3.out.trans ((b54).mono HB3.out.size))
    have X_54 := Lib.hid (X_3.out.below (b54))
    have Y_54 := Lib.hid (Y_3.out.below (b54))
    clear b54 HB3 X_3 Y_3
    go_wp2_with fail
    go_ret
    exact ⟨rfl, HB54.out⟩
  have hfy' := fewT_out hfy
  have ZY : Hid (∀ t ∈ y, sizesT t 1000000) := fun t ht => (hfy'.1 t ht).mono (by decide)
  have LY : Hid (y.length ≤ 60) := hfy'.2
  clear hfy hfy'
  clear hzx hlx hzy hly
  have HC4 := Lib.hid (rsorted_any X_3.out ZX.out (by have := LX.out; omega))
  go_wp2_with fail
  refine HC4.out.mono ?_
  rintro e w4 ⟨v4, rfl, b4, t4⟩
  clear HC4
  have A_4 : Hid (TuSl w4 v4 (sortedT x)) := t4
  have HB4 := Lib.hid (HB3.out.trans ((b4).mono HB3.out.size))
  have X_4 := Lib.hid (X_3.out.below (b4))
  have Y_4 := Lib.hid (Y_3.out.below (b4))
  clear b4 HB3 X_3 Y_3
  clear t4
  obtain ⟨a, ha⟩ : ∃ a, a = sortedT x := ⟨_, rfl⟩
  rw [← ha] at A_4
  have RA : Hid (Ris a) := by rw [ha]; exact sorted_ris x
  have NA : Hid (a.length ≤ 60) := by rw [ha]; exact Nat.le_trans (sorted_few x) LX.out
  have ZA : Hid (∀ t ∈ a, sizesT t 1000000) := by rw [ha]; exact fun t ht => ZX.out t ((sorted_mem x t).1 ht)
  clear ha
  obtain ⟨qa, ma, rfl, _⟩ := A_4.out.src
  have HC5 := Lib.hid (rsorted_any Y_4.out ZY.out (by have := LY.out; omega))
  go_wp2_with fail
  refine HC5.out.mono ?_
  rintro e w5 ⟨v5, rfl, b5, t5⟩
  clear HC5
  have B_5 : Hid (TuSl w5 v5 (sortedT y)) := t5
  have HB5 := Lib.hid (HB4.out.trans ((b5).mono HB4.out.size))
  have X_5 := Lib.hid (X_4.out.below (b5))
  have Y_5 := Lib.hid (Y_4.out.below (b5))
  have A_5 := Lib.hid (A_4.out.below (b5))
  clear b5 HB4 X_4 Y_4 A_4
  clear t5
  obtain ⟨b, hb⟩ : ∃ b, b = sortedT y := ⟨_, rfl⟩
  rw [← hb] at B_5
  have RB : Hid (Ris b) := by rw [hb]; exact sorted_ris y
  have NB : Hid (b.length ≤ 60) := by rw [hb]; exact Nat.le_trans (sorted_few y) LY.out
  have ZB : Hid (∀ t ∈ b, sizesT t 1000000) := by rw [hb]; exact fun t ht => ZY.out t ((sorted_mem y t).1 ht)
  clear hb
  obtain ⟨qb, mb, rfl, _⟩ := B_5.out.src
  clear X_5
  clear Y_5
  have HC6 := Lib.hid (diff_any A_5.out B_5.out (by have := NA.out; omega) (by have := NB.out; omega))
  go_wp2_with fail
  refine HC6.out.mono ?_
  rintro e w6 ⟨v6, u6, rfl, b6, s6, t6⟩
  clear HC6
  have T_6 : Hid (TuSl w6 v6 (minusT b a)) := by rw [← minG_eq b a RB.out RA.out]; exact s6
  have D_6 : Hid (TuSl w6 u6 (minusT a b)) := by rw [← minG_eq a b RA.out RB.out]; exact t6
  have HB6 := Lib.hid (HB5.out.trans ((b6).mono HB5.out.size))
  have A_6 := Lib.hid (A_5.out.below (b6))
  have B_6 := Lib.hid (B_5.out.below (b6))
  clear b6 HB5 A_5 B_5
  clear s6 t6
  obtain ⟨ts, hts⟩ : ∃ l, l = minusT b a := ⟨_, rfl⟩
  obtain ⟨ds, hds⟩ : ∃ l, l = minusT a b := ⟨_, rfl⟩
  rw [← hts] at T_6
  rw [← hds] at D_6
  have NT : Hid (ts.length ≤ 60) := by rw [hts]; exact Nat.le_trans (List.length_filter_le _ _) NB.out
  have ND : Hid (ds.length ≤ 60) := by rw [hds]; exact Nat.le_trans (List.length_filter_le _ _) NA.out
  have ZT : Hid (∀ t ∈ ts, sizesT t 1000000) := by rw [hts]; exact fun t ht => ZB.out t ((minusT_mem b a t).1 ht).1
  have ZD : Hid (∀ t ∈ ds, sizesT t 1000000) := by rw [hds]; exact fun t ht => ZA.out t ((minusT_mem a b t).1 ht).1
  have EC : Hid ((chL ts ds).map Prod.snd = diffC a b) := by rw [hts, hds]; exact chL_snd _ _
  clear hts hds
  obtain ⟨pt, ct, rfl, hrt⟩ := T_6.out.form
  obtain ⟨pd, cd, rfl, hrd⟩ := D_6.out.form
  have HRT := Lib.hid hrt
  have HRD := Lib.hid hrd
  clear hrt hrd T_6 D_6
  go_wp2_with fail
  go_loopg [9, 10] ts.length (fun gg s9 s10 wr => ∃ (i : Nat) (q : Option Addr) (c : Nat), i ≤ ts.length ∧ ts.length - i ≤ gg ∧ s10 = .int .i64 i ∧ s9 = .slice q i c ∧ Below w6.heap.size w6 wr ∧ wr.ownsRow w6.heap.size 45 8 (.slice q i c) i ((chL (ts.take i) []).flatMap cc))
  case atStart => exact ⟨0, none, 0, Nat.zero_le _, by omega, rfl, rfl, Below.refl _ _, World.ownsRow_nil _ _ _ _⟩
  case round =>
      obtain ⟨i, q, c, hi, hgi, rfl, rfl, hB, hO⟩ := hrel
      have HB := Lib.hid hB
      have HO := Lib.hid hO
      clear hB hO
      by_cases hlt : i < ts.length
      · obtain ⟨b, off, rfl, hb, hr⟩ := HRT.out i hlt
        obtain ⟨x1, hx1⟩ : ∃ t, t = ts[i] := ⟨_, rfl⟩
        have HX1 := Lib.hid hx1
        rw [← hx1] at hr
        have HRI : Hid (wr.rangeAt b (off + i * 6) (tc x1)) := range_below hr hb HB.out
        have hw : wrap64 ((i : Int) + 1) = (i : Int) + 1 := by unfold wrap64; have := NT.out; have := ND.out; omega
        have ba : Below wr.heap.size wr (wr.alloc (.cells #[.int .u64 0, .bool false, .string x1.ot, .string x1.oi, .string x1.re, .string x1.st, .string x1.si, .string x1.us] 45)) := (Below.refl _ _).alloc (Nat.le_refl _) _
        have HBA := Lib.hid (HB.out.trans (ba.mono HB.out.size))
        have HO2 := Lib.hid (HO.out.alloc (.cells #[.int .u64 0, .bool false, .string x1.ot, .string x1.oi, .string x1.re, .string x1.st, .string x1.si, .string x1.us] 45))
        have HNW : Hid ((wr.alloc (.cells #[.int .u64 0, .bool false, .string x1.ot, .string x1.oi, .string x1.re, .string x1.st, .string x1.si, .string x1.us] 45)).rangeAt wr.heap.size 0 (cc (0, false, x1))) := Arr.range (ce_new wr 0 false x1)
        clear hx1 hr hb ba
        go_wp2_with (first | ((with_reducible refine loadMX (x := .tmp 45) (u := x1) (o := ⟨some 46, _, _, _, _, _⟩) HRI.out ?_ ?_); exact ⟨rfl, rfl, by go_simp⟩) | (at_builtin; refine appCe rfl _ _ rfl (base := w6.heap.size) (t := (0, false, x1)) rfl HO2.out rfl HNW.out (by have := NT.out; have := ND.out; omega) HBA.out.size ?_; intro v5 w5 h5 g5))
        have HB5 := Lib.hid (HBA.out.grown g5.out HBA.out.size (fun k hk => (HO2.out.lt k hk).1))
        obtain ⟨q5, c5, rfl⟩ := own_formC h5
        have HO5 := Lib.hid h5
        clear g5 h5 HBA HO2 HNW HRI HB HO
        go_roundg (ts.length - (i + 1))
        case measure => omega
        case rel => exact ⟨i + 1, q5, c5, by omega, Nat.le_refl _, by go_num, rfl, HB5.out, by rw [chL_t (h := HX1.out) hlt]; exact HO5.out⟩
      · have hil : i = ts.length := by omega
        subst hil
        clear hi hgi hlt
        have HO1 : Hid (wr.ownsRow w6.heap.size 45 8 (.slice q ts.length c) ts.length ((chL ts (ds.take 0)).flatMap cc)) := by have h := HO.out; rw [List.take_length] at h; exact h
        go_wp2_with fail
        go_loopg [9, 11] ds.length (fun gg s9 s11 wr => ∃ (i k : Nat) (q : Option Addr) (c : Nat), i ≤ ds.length ∧ ds.length - i ≤ gg ∧ s11 = .int .i64 i ∧ s9 = .slice q k c ∧ Below w6.heap.size w6 wr ∧ wr.ownsRow w6.heap.size 45 8 (.slice q k c) k ((chL ts (ds.take i)).flatMap cc) ∧ k = ts.length + i)
        case atStart => exact ⟨0, ts.length, q, c, Nat.zero_le _, by omega, rfl, rfl, HB.out, HO1.out, rfl⟩
        case round =>
          obtain ⟨i, k, q, c, hi, hgi, rfl, rfl, hB, hO, hk⟩ := hrel
          have HK := Lib.hid hk
          clear hk
          have HB := Lib.hid hB
          have HO := Lib.hid hO
          clear hB hO HO1
          by_cases hlt : i < ds.length
          · obtain ⟨b, off, rfl, hb, hr⟩ := HRD.out i hlt
            obtain ⟨x1, hx1⟩ : ∃ t, t = ds[i] := ⟨_, rfl⟩
            have HX1 := Lib.hid hx1
            rw [← hx1] at hr
            have HRI : Hid (wr.rangeAt b (off + i * 6) (tc x1)) := range_below hr hb HB.out
            have hw : wrap64 ((i : Int) + 1) = (i : Int) + 1 := by unfold wrap64; have := NT.out; have := ND.out; omega
            have ba : Below wr.heap.size wr (wr.alloc (.cells #[.int .u64 0, .bool true, .string x1.ot, .string x1.oi, .string x1.re, .string x1.st, .string x1.si, .string x1.us] 45)) := (Below.refl _ _).alloc (Nat.le_refl _) _
            have HBA := Lib.hid (HB.out.trans (ba.mono HB.out.size))
            have HO2 := Lib.hid (HO.out.alloc (.cells #[.int .u64 0, .bool true, .string x1.ot, .string x1.oi, .string x1.re, .string x1.st, .string x1.si, .string x1.us] 45))
            have HNW : Hid ((wr.alloc (.cells #[.int .u64 0, .bool true, .string x1.ot, .string x1.oi, .string x1.re, .string x1.st, .string x1.si, .string x1.us] 45)).rangeAt wr.heap.size 0 (cc (0, true, x1))) := Arr.range (ce_new wr 0 true x1)
            clear hx1 hr hb ba
            go_wp2_with (first | ((with_reducible refine loadMX (x := .tmp 59) (u := x1) (o := ⟨some 60, _, _, _, _, _⟩) HRI.out ?_ ?_); exact ⟨rfl, rfl, by go_simp⟩) | (at_builtin; refine appCe rfl _ _ rfl (base := w6.heap.size) (t := (0, true, x1)) rfl HO2.out rfl HNW.out (by have := HK.out; have := NT.out; have := ND.out; omega) HBA.out.size ?_; intro v5 w5 h5 g5))
            have HB5 := Lib.hid (HBA.out.grown g5.out HBA.out.size (fun k hk => (HO2.out.lt k hk).1))
            obtain ⟨q5, c5, rfl⟩ := own_formC h5
            have HO5 := Lib.hid h5
            clear g5 h5 HBA HO2 HNW HRI HB HO
            go_roundg (ds.length - (i + 1))
            case measure => omega
            case rel => exact ⟨i + 1, k + 1, q5, c5, by omega, Nat.le_refl _, by go_num, rfl, HB5.out, by rw [chL_d (h := HX1.out) hlt]; exact HO5.out, by have := HK.out; omega⟩
          · have HCR : Hid (RdS cc wr (.slice q k c) (chL ts ds)) := by
              have h := HO.out
              rw [List.take_of_length_le (by omega)] at h
              have e : k = (chL ts ds).length := by rw [chL_len, HK.out]; omega
              rw [e] at h ⊢
              exact own_rdS h
            have NL : Hid ((chL ts ds).length ≤ 120) := by rw [chL_len]; have := NT.out; have := ND.out; show _ ≤ _; omega
            have ZL : Hid (∀ t ∈ chL ts ds, sizesT t.2.2 maxLen) := fun t ht => chL_sizes ZT.out ZD.out t ht
            have EA : Hid (foldC a ((chL ts ds).map Prod.snd) = b) := by show _ = _; rw [EC.out]; exact fold_back RA.out RB.out (fun t h => .inl h) (fun t h _ => h)
            have EB : Hid (foldC b ((chL ts ds).map Prod.snd) = b) := by show _ = _; rw [EC.out]; exact fold_back RB.out RB.out (fun t h => .inr h) (fun t _ h => h)
            have NB2 : Hid (b.length ≤ 140737488355328) := by have := NB.out; show _ ≤ _; omega
            have HWB : Hid (Below w.heap.size w wr) := HB6.out.trans (HB.out.mono HB6.out.size)
            have HAW := Lib.hid (A_6.out.below HB.out)
            have HBW := Lib.hid (B_6.out.below HB.out)
            clear HO
            have HC101 := Lib.hid (fold_any HAW.out RA.out HCR.out (by have := NA.out; have := NL.out; omega) ZL.out)
            go_wp2_with fail
            refine HC101.out.mono ?_
            rintro e w101 ⟨v101, rfl, b101, t101⟩
            clear HC101
            have F_101 : Hid (TuSl w101 v101 b) := by rw [← EA.out]; exact t101
            have HB101 := Lib.hid (HWB.out.trans ((b101).mono HWB.out.size))
            have A_101 := Lib.hid (HAW.out.below (b101))
            have B_101 := Lib.hid (HBW.out.below (b101))
            have C_101 := Lib.hid (HCR.out.below (b101))
            clear b101 HWB HAW HBW HCR
            clear t101
            obtain ⟨qf, mf, rfl, _⟩ := F_101.out.src
            have HC102 := Lib.hid (samel_any F_101.out.rd B_101.out.rd NB2.out NB2.out)
            rw [same_self] at HC102
            go_wp2_with fail
            refine HC102.out.mono ?_
            rintro e w102 ⟨rfl, b102⟩
            clear HC102
            have HB102 := Lib.hid (HB101.out.trans ((b102).mono HB101.out.size))
            have A_102 := Lib.hid (A_101.out.below (b102))
            have B_102 := Lib.hid (B_101.out.below (b102))
            have C_102 := Lib.hid (C_101.out.below (b102))
            have F_102 := Lib.hid (F_101.out.below (b102))
            clear b102 HB101 A_101 B_101 C_101 F_101
            have HC103 := Lib.hid (fold_any F_102.out RB.out C_102.out (by have := NB.out; have := NL.out; omega) ZL.out)
            go_wp2_with fail
            refine HC103.out.mono ?_
            rintro e w103 ⟨v103, rfl, b103, t103⟩
            clear HC103
            have G_103 : Hid (TuSl w103 v103 b) := by rw [← EB.out]; exact t103
            have HB103 := Lib.hid (HB102.out.trans ((b103).mono HB102.out.size))
            have A_103 := Lib.hid (A_102.out.below (b103))
            have B_103 := Lib.hid (B_102.out.below (b103))
            have C_103 := Lib.hid (C_102.out.below (b103))
            have F_103 := Lib.hid (F_102.out.below (b103))
            clear b103 HB102 A_102 B_102 C_102 F_102
            clear t103
            obtain ⟨qg, mg, rfl, _⟩ := G_103.out.src
            have HC104 := Lib.hid (samel_any G_103.out.rd B_103.out.rd NB2.out NB2.out)
            rw [same_self] at HC104
            go_wp2_with fail
            refine HC104.out.mono ?_
            rintro e w104 ⟨rfl, b104⟩
            clear HC104
            have HB104 := Lib.hid (HB103.out.trans ((b104).mono HB103.out.size))
            have A_104 := Lib.hid (A_103.out.below (b104))
            have B_104 := Lib.hid (B_103.out.below (b104))
            have C_104 := Lib.hid (C_103.out.below (b104))
            have F_104 := Lib.hid (F_103.out.below (b104))
            have G_104 := Lib.hid (G_103.out.below (b104))
            clear b104 HB103 A_103 B_103 C_103 F_103 G_103
            go_wp2_with fail
            go_ret
            exact ⟨rfl, HB104.out⟩
end Go.Proofs.Ytebbbiikphfjcaa
