/-
  merge.Union.
-/
import Derived.Test.YtebbbiikphfjcaaMgK
namespace Go.Proofs.Ytebbbiikphfjcaa
open Go.ChangeShapes Go.WideShapes Go.ChangeAt Go.RowKit Go.Lib Go.Sort
set_option linter.unusedVariables false

/-- v is a slice of slices that read as the lists. -/
def LLs (w : World) (v : Value) (L : List (List Tu)) : Prop := ∃ p c, v = .slice p L.length c ∧ ∀ i, i < L.length → ∃ b off u, p = some ⟨b, off, none⟩ ∧ b < w.heap.size ∧ w.cell? ⟨b, off + i, none⟩ = some u ∧ TuSl w u (L.getD i [])
theorem len_le_sum : ∀ (ls : List (List Tu)), (∀ l ∈ ls, l ≠ []) → ls.length ≤ (ls.map List.length).sum
  | [], _ => Nat.le_refl _
  | a :: r, h => by
    have h1 := len_le_sum r fun x hx => h x (by simp [hx])
    have h2 : 1 ≤ a.length := by cases a with | nil => exact absurd rfl (h [] (by simp)) | cons _ _ => simp
    simp only [List.length_cons, List.map_cons, List.sum_cons]
    omega
theorem UI.few {ls : List (List Tu)} {acc all : List Tu} (h : UI ls acc all) : acc.length + ls.length ≤ all.length := by
  have := len_le_sum ls fun l hl => (h.ris l hl).1
  have := h.len
  omega
section
variable {F : List (Nat × Obj)} {w0 w w' : World} {g c : Nat} {p : Option Addr} {ls : List (List Tu)}
theorem QS.nof (h : QS F w0 g p c ls w) : QS [] w0 g p c ls w := by
  obtain ⟨h1, h2, h3, vs, h4, h5, _⟩ := h
  exact ⟨h1, h2, h3, vs, h4, h5, fun x hx => by cases hx⟩
/-- A row of tuples is none of the queue's blocks. -/
theorem QS.rowT (h : QS F w0 g p c ls w) {base n : Nat} {v : Value} {xs : List Value} (ho : w.ownsRow base 34 6 v n xs) : ∀ k, v.ownBlock = some k → k ≠ g ∧ ∀ a, p = some a → k ≠ a.block := by
  obtain ⟨h1, h2, h3, vs, h4, h5, _⟩ := h
  intro k hk
  rcases ho.2 with ⟨hv, _⟩ | ⟨gr, cap, cur, hv, _, hg, _⟩
  · rw [hv] at hk; cases hk
  · rw [hv] at hk
    cases hk
    refine ⟨fun e => ?_, fun a ha e => ?_⟩
    · change gr = g at e
      subst e
      have := h3.symm.trans hg
      simp only [Option.some.injEq, Obj.cells.injEq] at this
      exact absurd this.2.1 (by decide)
    · change gr = a.block at e
      rcases h4.2 with ⟨hv2, _⟩ | ⟨gq, cap2, cur2, hv2, _, hg2, _⟩
      · simp only [Value.slice.injEq] at hv2; rw [hv2.1] at ha; cases ha
      · simp only [Value.slice.injEq, true_and] at hv2
        rw [hv2.1] at ha
        cases ha
        change gr = gq at e
        subst e
        have := hg2.symm.trans hg
        simp only [Option.some.injEq, Obj.cells.injEq] at this
        exact absurd this.2.1 (by decide)
theorem QS.frame (h : QS F w0 g p c ls w) {base n : Nat} {v : Value} {xs : List Value} (ho : w.ownsRow base 34 6 v n xs) : ∃ F2, QS F2 w0 g p c ls w ∧ ∀ w' p' c' ls', QS F2 w0 g p' c' ls' w' → w'.ownsRow base 34 6 v n xs := by
  have hrow := h.rowT ho
  have h' := h.nof
  rcases ho.2 with ⟨hv, hn⟩ | ⟨gr, cap, cur, hv, hb, hg, r⟩
  · exact ⟨[], h', fun w' p' c' ls' _ => ⟨ho.1, .inl ⟨hv, hn⟩⟩⟩
  · refine ⟨[(gr, .cells cur 34 (0, 0))], ?_, fun w' p' c' ls' hq => ⟨ho.1, .inr ⟨gr, cap, cur, hv, hb, ?_, r⟩⟩⟩
    · obtain ⟨h1, h2, h3, vs, h4, h5, _⟩ := h'
      refine ⟨h1, h2, h3, vs, h4, h5, fun x hx => ?_⟩
      rw [List.mem_singleton] at hx
      subst hx
      exact ⟨hg, hrow gr (by rw [hv]; rfl)⟩
    · obtain ⟨_, _, _, _, _, _, h6⟩ := hq
      exact (h6 (gr, .cells cur 34 (0, 0)) (by simp)).1
theorem QS.grown (h : QS [] w0 g p c ls w) {row : Option Nat} (hg : w.grownBy w' row) (hr : ∀ k, row = some k → w0.heap.size ≤ k ∧ k ≠ g ∧ ∀ a, p = some a → k ≠ a.block) : QS [] w0 g p c ls w' := by
  obtain ⟨h1, h2, h3, vs, h4, h5, _⟩ := h
  refine ⟨?_, h2, (hg.block _ h3.lt (fun e => (hr _ e.symm).2.1 rfl)).trans h3, vs, ⟨h4.1, ?_⟩, h5, fun x hx => by cases hx⟩
  · exact h1.grown hg h1.size (fun k hk => (hr k hk).1)
  · rcases h4.2 with h | ⟨gr, cap, cur, hv, hb, hgr, r⟩
    · exact .inl h
    · refine .inr ⟨gr, cap, cur, hv, hb, (hg.block _ (Array.getElem?_eq_some_iff.1 hgr).1 (fun e => ?_)).trans hgr, r⟩
      simp only [Value.slice.injEq, true_and] at hv
      exact (hr _ e.symm).2.2 _ hv.1 rfl
end
theorem tuV_x (t : Tu) : Value.agg (tc t).toArray = .agg #[.string t.ot, .string t.oi, .string t.re, .string t.st, .string t.si, .string t.us] := rfl
theorem appTg {ops : Array Oper} {rest : List Oper} {o : Oper} {a : Act} {Q : Exit → Act → World → Prop} {w : World} (hgd : o.guard = none) (s x : Operand) (ho : o.op = .call { callee := .builtin .append, args := #[s, x], argTypes := #[24, 24] })
    {base n b : Nat} {v : Value} {xs : List Tu} {t : Tu} (hs : a.eval s = v) (hown : w.ownsRow base 34 6 v n (xs.flatMap tc)) (hx : a.eval x = .slice (some ⟨b, 0, none⟩) 1 1) (h3 : w.rangeAt b 0 (tc t))
    (hlen : n + 1 ≤ 1000000) (hbase : base ≤ w.heap.size)
    (h : ∀ v' w', w'.ownsRow base 34 6 v' (n + 1) ((xs ++ [t]).flatMap tc) → Hid (w.grownBy w' v.ownBlock) → wpList Try.prog ops Q rest (a.put o.dst v') w') : wpList Try.prog ops Q (o :: rest) a w := by
  obtain ⟨i0, hi⟩ : ∃ i, Try.prog.info? 34 = some i := Option.isSome_iff_exists.1 (by kernel_rfl)
  have q1 : (Try.prog.info? 34).bind (·.zero) = some (tuV t0) := by kernel_rfl
  have q2 : (Try.prog.info? 34).map (·.size) = some 6 := by kernel_rfl
  have q3 : (Try.prog.info? 34).map (·.bytes) = some 96 := by kernel_rfl
  rw [hi] at q1 q2 q3
  refine wpList_append_own w hgd s x 24 ho base 34 i0 (tuV t0) 6 96 Try.underlying24 hi q1 (Option.some.inj q2) (Option.some.inj q3) (by kernel_rfl) (by decide) v n _ hs hown ⟨b, 0, none⟩ 1 1 (tc t) hx (by rw [tc_length]) ?_ (tc_one t) (by unfold maxLen; omega) (by omega) hbase ?_
  · intro j u hj
    rw [show (Addr.add ⟨b, 0, none⟩ j) = ⟨b, 0 + j, none⟩ by cases j <;> simp [Addr.add]]
    exact h3 j u hj
  · intro v' w' r1 r2 _
    exact h v' w' (by rw [List.flatMap_append]; simpa using r1) (Lib.hid r2)
theorem asc_get {l : List Tu} (h : l.Pairwise fun a b => ¬ 0 < ordT a b) {i j : Nat} (hij : i < j) (hj : j < l.length) : ¬ 0 < ordT l.toArray[i]! l.toArray[j]! := by
  have h1 : l.toArray[i]! = l[i] := by rw [getElem!_pos l.toArray i (by simp; omega)]; simp
  have h2 : l.toArray[j]! = l[j] := by rw [getElem!_pos l.toArray j (by simpa using hj)]; simp
  rw [h1, h2]
  exact List.pairwise_iff_getElem.1 h i j (by omega) hj hij
theorem take_flat {L : List (List Tu)} {k : Nat} (h : k < L.length) : (L.take (k + 1)).flatten = (L.take k).flatten ++ L.getD k [] := by
  rw [List.take_add_one, List.getElem?_eq_getElem h, List.flatten_append, List.getD_eq_getElem?_getD, List.getElem?_eq_getElem h]
  simp
theorem take_flat_le (L : List (List Tu)) (k : Nat) : (L.take k).flatten.length ≤ L.flatten.length := by
  conv => rhs; rw [← List.take_append_drop k L]
  rw [List.flatten_append, List.length_append]; omega
theorem UI.addS {ls : List (List Tu)} {all l : List Tu} (h : UI ls [] all) (hr : Ris l) : UI (addS ls l) [] (all ++ l) := by
  unfold Go.Proofs.Ytebbbiikphfjcaa.addS
  by_cases e : l = []
  · rw [if_pos e, e, List.append_nil]; exact h
  · rw [if_neg e]; exact h.add e hr
set_option maxRecDepth 100000 in
set_option maxHeartbeats 8000000 in
theorem union_any {w : World} {v : Value} {L : List (List Tu)} (h : LLs w v L) (hris : ∀ l ∈ L, Ris l) (hL : L.length ≤ 100000) (htot : L.flatten.length ≤ 9000) :
    Calls Try.prog 12 #[v] w fun e w' => ∃ v', e = .returned v' ∧ Below w.heap.size w w' ∧ TuSl w' v' (sortedT L.flatten) := by
  obtain ⟨pa, ca, rfl, hel⟩ := h
  obtain ⟨all, hall⟩ : ∃ all, all = L.flatten := ⟨_, rfl⟩
  rw [← hall] at htot ⊢
  have HALL := Lib.hid hall
  have HEL := Lib.hid hel
  have HRIS := Lib.hid hris
  have HL := Lib.hid hL
  have HTOT := Lib.hid htot
  have ba : Below w.heap.size w (w.alloc (.cells #[.slice none 0 0] 54)) := (Below.refl _ _).alloc (Nat.le_refl _) _
  have HQ0 : Hid (QS [] w w.heap.size none 0 [] (w.alloc (.cells #[.slice none 0 0] 54))) := ⟨ba, Nat.le_refl _, Arr.new' _ _ _ _ rfl, [], World.ownsRow_nil _ _ _ _, ⟨rfl, fun i v hi => by simp at hi⟩, fun x hx => by cases hx⟩
  obtain ⟨g, hg⟩ : ∃ g, g = w.heap.size := ⟨_, rfl⟩
  rw [← hg] at HQ0
  have HG : Hid (w.heap.size = g) := hg.symm
  clear hel hris hL htot ba hall
  go_enter Try.func12, Try.ntmps12
  go_upto_region 2 with (fail)
  rw [HG.out]
  clear hg
  generalize w.alloc (.cells #[.slice none 0 0] 54) = w1 at HQ0 ⊢
  go_wp2_with fail
  go_loopg [11] L.length (fun gg s11 wr => ∃ (k : Nat) (p : Option Addr) (c : Nat) (ls : List (List Tu)), k ≤ L.length ∧ L.length - k ≤ gg ∧ s11 = .int .i64 k ∧ QS [] w g p c ls wr ∧ UI ls [] (L.take k).flatten)
  case atStart => exact ⟨0, none, 0, [], Nat.zero_le _, by omega, rfl, HQ0.out, by rw [List.take_zero]; exact UI.start⟩
  case round =>
    obtain ⟨k, p, c, ls, hk, hgk, rfl, hq, hu⟩ := hrel
    have HQ := Lib.hid hq
    have HU := Lib.hid hu
    clear hq hu HQ0
    by_cases hlt : k < L.length
    · obtain ⟨b, off, u, rfl, hb, hc, ht⟩ := HEL.out k hlt
      obtain ⟨q, m, rfl, _⟩ := ht.src
      have hcell : wr.cell? ⟨b, off + k, none⟩ = some (.slice q (L.getD k []).length m) := (HQ.out.1.cell (p := ⟨b, off + k, none⟩) hb).trans hc
      have hfl := take_flat hlt
      have HUN := Lib.hid (HU.out.addS (l := L.getD k []) (HRIS.out _ (by rw [List.getD_eq_getElem?_getD, List.getElem?_eq_getElem hlt]; exact List.getElem_mem hlt)))
      rw [← hfl] at HUN
      have hfew := HU.out.few
      have hle := take_flat_le L k
      rw [← HALL.out] at hle
      have hw : wrap64 ((k : Int) + 1) = (k : Int) + 1 := by unfold wrap64; have := HL.out; omega
      have HAD := Lib.hid (qadd_any HQ.out ht (fun x hx => (HU.out.ris x hx).1) (by have := HTOT.out; omega))
      obtain ⟨l, hl⟩ : ∃ l, l = L.getD k [] := ⟨_, rfl⟩
      rw [← hl] at HAD HUN hcell
      clear hb hc ht hfl hfew hle hl
      go_wp2_with fail
      refine HAD.out.mono ?_
      rintro e w2 ⟨rfl, p2, c2, q2⟩
      have HQ2 := Lib.hid q2
      clear q2 HAD HQ hcell
      go_wp2_with fail
      go_roundg (L.length - (k + 1))
      case measure => omega
      case rel => exact ⟨k + 1, p2, c2, _, by omega, Nat.le_refl _, by go_num, HQ2.out, HUN.out⟩
    · have HUA : Hid (UI ls [] all) := by
        have h := HU.out
        rw [List.take_of_length_le (by omega)] at h
        rw [HALL.out]; exact h
      clear HU
      go_wp2_with fail
      go_loopg [6] (all.length + 1) (fun gg s6 wr => ∃ (p : Option Addr) (c : Nat) (ls : List (List Tu)) (acc : List Tu) (q6 : Option Addr) (c6 : Nat), all.length + 1 - acc.length ≤ gg ∧ s6 = .slice q6 acc.length c6 ∧ QS [] w g p c ls wr ∧ UI ls acc all ∧ wr.ownsRow w.heap.size 34 6 (.slice q6 acc.length c6) acc.length (acc.flatMap tc))
      case atStart => exact ⟨p, c, ls, [], none, 0, by simp, rfl, HQ.out, HUA.out, World.ownsRow_nil _ _ _ _⟩
      case round =>
        obtain ⟨p2, c2, l2, acc, q6, c6, hg6, rfl, hq, hu, ho⟩ := hrel
        have HQ2 := Lib.hid hq
        have HU2 := Lib.hid hu
        have HO2 := Lib.hid ho
        have hfew := hu.few
        have HFW := Lib.hid hfew
        have hbx := hq.box
        clear hq hu ho HQ HUA
        obtain ⟨N, hN⟩ : ∃ N, N = l2.length := ⟨_, rfl⟩
        have HN := Lib.hid hN.symm
        rw [← hN] at hbx hfew
        have HLE := Lib.hid (llen_any p2 N c2 wr)
        clear hN
        cases N with
        | zero =>
          have hl0 : l2 = [] := List.eq_nil_of_length_eq_zero HN.out
          have HD : Hid (sortedT acc = sortedT all) := by
            have hu := HU2.out
            rw [hl0] at hu
            rw [← hu.done]
            exact (cmpct_sorted hu.asc fun x => Iff.rfl).symm
          have HASC := Lib.hid HU2.out.asc
          clear hl0 HN
          go_wp2_with fail
          refine HLE.out.mono ?_
          rintro e w3 ⟨rfl, rfl⟩
          rcases HO2.out.2 with ⟨hv, hn0⟩ | ⟨gr, cap, cur, hv, hb, hgr, hcc, _, _, htk⟩
          · simp only [Value.slice.injEq] at hv
            obtain ⟨rfl, h0, rfl⟩ := hv
            obtain rfl : acc = [] := List.eq_nil_of_length_eq_zero h0
            have HC := Lib.hid (tcompact_nil none 0 wr)
            have HBW := Lib.hid HQ2.out.1
            have HR : Hid (TuSl wr (.slice none 0 0) (sortedT all)) := .inl ⟨rfl, by rw [← HD.out]; rfl⟩
            clear hbx
            go_wp2_with fail
            refine HC.out.mono ?_
            rintro e w4 ⟨rfl, rfl⟩
            go_wp2_with fail
            go_ret
            exact ⟨_, rfl, HBW.out, HR.out⟩
          · simp only [Value.slice.injEq, true_and] at hv
            obtain ⟨rfl, rfl⟩ := hv
            have hgl := (Array.getElem?_eq_some_iff.1 hgr).1
            have HC := Lib.hid (compT_any (w := wr) (g := gr) (c := c6) (d := acc.toArray) (l := acc) (holds_of_row hgr htk) (by simp) hgl (kept_sorted (fun i j hij hj => asc_get (HASC.out.imp fun h => Int.not_lt.2 (by omega)) hij (by simpa using hj)) (fun x => by simp)) (by have := HTOT.out; omega) hcc)
            have HBW := Lib.hid HQ2.out.1
            have HGR := Lib.hid hb
            clear hbx hb hgr hcc htk hgl
            go_wp2_with fail
            refine HC.out.mono ?_
            rintro e w4 ⟨v4, rfl, g4, t4⟩
            have HB4 := Lib.hid (HBW.out.trans (grown_below' g4 HGR.out HBW.out.size))
            rw [HD.out] at t4
            have HT4 := Lib.hid t4
            clear g4 t4 HC
            go_wp2_with fail
            go_ret
            exact ⟨_, rfl, HB4.out, HT4.out⟩
        | succ N =>
          obtain ⟨F2, hf2, hback⟩ := HQ2.out.frame HO2.out
          have HBK := Lib.hid hback
          have HNX := Lib.hid (qnext_any hf2 HN.out (fun x hx => (HU2.out.ris x hx).1) (by have := HTOT.out; omega))
          have HUN := Lib.hid (HU2.out.next (by rw [HN.out]; omega))
          obtain ⟨t, ht⟩ : ∃ t, t = hd (l2.getD 0 []) := ⟨_, rfl⟩
          rw [← ht] at HNX HUN
          have hpos : (0 : Int) < ((N + 1 : Nat) : Int) := by omega
          clear hf2 hback ht
          go_wp2_with fail
          refine HLE.out.mono ?_
          rintro e w3 ⟨rfl, rfl⟩
          clear HLE hbx
          go_wp2_with fail
          refine HNX.out.mono ?_
          rintro e w4 ⟨rfl, p4, c4, q4⟩
          simp only [tuV_x]
          have ba : Below w4.heap.size w4 (w4.alloc (.cells #[.string t.ot, .string t.oi, .string t.re, .string t.st, .string t.si, .string t.us] 34)) := (Below.refl _ _).alloc (Nat.le_refl _) _
          have HO4 := Lib.hid (own_keep (HBK.out _ _ _ _ q4) ba)
          have HQ4 := Lib.hid (q4.nof.later ba)
          have HR4 : Hid ((w4.alloc (.cells #[.string t.ot, .string t.oi, .string t.re, .string t.st, .string t.si, .string t.us] 34)).rangeAt w4.heap.size 0 (tc t)) := Arr.range (tu_new w4 t)
          have HBS : Hid (w.heap.size ≤ (w4.alloc (.cells #[.string t.ot, .string t.oi, .string t.re, .string t.st, .string t.si, .string t.us] 34)).heap.size) := HQ4.out.1.size
          clear q4 ba HNX HBK HQ2 HO2
          go_wp2_with (at_builtin; refine appTg rfl _ _ rfl (base := w.heap.size) (xs := acc) (t := t) rfl HO4.out rfl HR4.out (by have := HFW.out; have := HTOT.out; omega) HBS.out ?_; intro v5 w5 h5 g5)
          have HQ5 := Lib.hid (HQ4.out.grown g5.out (fun k hk => ⟨(HO4.out.lt k hk).1, HQ4.out.rowT HO4.out k hk⟩))
          obtain ⟨q7, c7, rfl⟩ := own_formT h5
          have HO5 : Hid (w5.ownsRow w.heap.size 34 6 (.slice q7 (acc ++ [t]).length c7) (acc ++ [t]).length ((acc ++ [t]).flatMap tc)) := by have h := h5; rw [List.length_append]; exact h
          clear h5 g5 HQ4 HO4 HR4 HBS
          go_roundg (all.length + 1 - (acc.length + 1))
          case measure => omega
          case rel => exact ⟨p4, c4, _, acc ++ [t], q7, c7, by rw [List.length_append]; exact Nat.le_refl _, by rw [List.length_append]; rfl, HQ5.out, HUN.out, HO5.out⟩
end Go.Proofs.Ytebbbiikphfjcaa
