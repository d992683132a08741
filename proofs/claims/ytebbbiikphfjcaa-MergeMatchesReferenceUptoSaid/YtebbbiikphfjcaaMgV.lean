/-
  Rows of lists of the call's own beside a row of tuples; slices.Reverse of lists.
-/
import Derived.Test.YtebbbiikphfjcaaMgR
namespace Go.Proofs.Ytebbbiikphfjcaa
open Go.ChangeShapes Go.WideShapes Go.ChangeAt Go.RowKit Go.Lib Go.Sort
set_option linter.unusedVariables false

/-- An append to a row of the call's own: the row's block is the old one or a new one. -/
theorem run_app_gen {w : World} (st e ty : TypeId) (i0 : TypeInfo) (z : Value) (size bytes : Nat) (hst : Try.prog.underlying st = some (.slice e)) (hi : Try.prog.info? e = some i0) (hz : i0.zero = some z) (hsz : i0.size = size) (hby : i0.bytes = bytes) (hzs : z.cells.size = size) (hpos : 0 < size)
    {base n m c : Nat} {v : Value} {xs news : List Value} {ad : Addr} (hown : w.ownsRow base e size v n xs) (hl : news.length = m * size) (hx : ∀ j u, news[j]? = some u → w.cell? (ad.add j) = some u) (h1 : ∀ u ∈ news, u.oneCell' = true) (h63 : n + m ≤ maxLen) (hbytes : (n + m) * bytes ≤ 140737488355328) (hbase : base ≤ w.heap.size) :
    ∃ v' w', (Builtin.append_ #[st, st] ty #[v, .slice (some ad) m c]).run Try.prog w = .ok v' w' ∧ w'.ownsRow base e size v' (n + m) (xs ++ news) ∧ w.grownBy w' v.ownBlock ∧ ∀ k, v'.ownBlock = some k → v.ownBlock = some k ∨ w.heap.size ≤ k := by
  obtain ⟨v', w', hrun, r1, r2, _⟩ := run_append_own (P := Try.prog) w base st ty e i0 z size bytes hst hi hz hsz hby hzs hpos v n _ hown ad m c news hl hx h1 h63 hbytes hbase
  refine ⟨v', w', hrun, r1, r2, ?_⟩
  rcases hown.2 with ⟨rfl, rfl⟩ | ⟨g, cap, cur, rfl, hb, hg, hn, hc, hs, ht⟩
  · have hx0 : xs = [] := List.eq_nil_of_length_eq_zero (by rw [hown.1, Nat.zero_mul])
    obtain ⟨v2, w2, hrun2, p1, _⟩ := run_append_own (P := Try.prog) w w.heap.size st ty e i0 z size bytes hst hi hz hsz hby hzs hpos (.slice none 0 0) 0 [] (World.ownsRow_nil _ _ _ _) ad m c news hl hx h1 h63 hbytes (Nat.le_refl _)
    rw [hrun] at hrun2
    simp only [Result.ok.injEq] at hrun2
    obtain ⟨rfl, rfl⟩ := hrun2
    exact fun k hk => .inr (p1.lt k hk).1
  · by_cases hroom : n + m ≤ cap
    · have hcell : ∀ j, j < cur.size → (w.cell? ⟨g, j, none⟩).isSome = true := fun j hj => by
        simp [World.cell?, hg, hj]
      have h := run_append_room_cells (P := Try.prog) w st ty e i0 hst hi g 0 n cap ad m c news (by rw [hsz, hl]) hx h1 hroom
        (fun j hj => by
          rw [hsz]
          refine hcell _ ?_
          rw [hl] at hj
          have h5 : (n + m) * size ≤ cap * size := Nat.mul_le_mul_right _ hroom
          have h6 : (n + m) * size = n * size + m * size := Nat.add_mul _ _ _
          omega) (fun j hj => by simp [World.frozen?, hg])
      rw [hrun] at h
      simp only [Result.ok.injEq] at h
      obtain ⟨rfl, _⟩ := h
      exact fun k hk => .inl hk
    · obtain ⟨v2, w2, hrun2, p1, _⟩ := run_append_arg_grows (P := Try.prog) w st ty e i0 z size bytes hst hi hz hsz hby hzs hpos ⟨g, 0, none⟩ n cap xs hown.1 (fun j u hj => hown.cells rfl j u hj) ad m c news hl hx (by omega) h63 hbytes
      rw [hrun] at hrun2
      simp only [Result.ok.injEq] at hrun2
      obtain ⟨rfl, rfl⟩ := hrun2
      exact fun k hk => .inr (p1.lt k hk).1
theorem TuSl.blk {w : World} {u : Value} {l : List Tu} (h : TuSl w u l) : ∀ k, u.ownBlock = some k → k < w.heap.size := fun k hk => by
  rcases h with ⟨rfl, _⟩ | ⟨b, off, c, rfl, _, h3, _⟩
  · cases hk
  · cases hk; exact h3
theorem TuSl.kept {w w' : World} {u : Value} {l : List Tu} {row : Option Nat} (h : TuSl w u l) (hg : w.grownBy w' row) (hr : ∀ k, u.ownBlock = some k → row ≠ some k) : TuSl w' u l := by
  rcases h with h | ⟨b, off, c, rfl, h2, h3, h4⟩
  · exact .inl h
  · refine .inr ⟨b, off, c, rfl, h2, Nat.lt_of_lt_of_le h3 hg.size, fun j v hj => ?_⟩
    have h5 := h4 j v hj
    rw [← h5]
    exact World.cell?_of_block (hg.block b h3 fun e => hr b rfl e.symm)
theorem TuRd.kept {w0 w w' : World} {u : Value} {l : List Tu} (h : TuRd w0 u l) (hb : Below w0.heap.size w0 w') : TuRd w' u l := h.below hb
/-- A row of tuples and a row of lists, which are read elsewhere. -/
structure TwoR (B : Nat) (w : World) (v3 v4 : Value) (all : List Tu) (vs : List Value) (ls : List (List Tu)) : Prop where
  r3 : w.ownsRow B 34 6 v3 all.length (all.flatMap tc)
  r4 : w.ownsRow B 24 1 v4 ls.length vs
  el : ∀ j u, vs[j]? = some u → TuSl w u (ls.getD j []) ∧ Apt u v3 ∧ Apt u v4
section
variable {B : Nat} {w w' : World} {v3 v4 : Value} {all : List Tu} {vs : List Value} {ls : List (List Tu)}
theorem TwoR.nil (B : Nat) (w : World) : TwoR B w (.slice none 0 0) (.slice none 0 0) [] [] [] := ⟨World.ownsRow_nil _ _ _ _, World.ownsRow_nil _ _ _ _, fun j u hj => by simp at hj⟩
theorem TwoR.later (h : TwoR B w v3 v4 all vs ls) (hb : Below w.heap.size w w') : TwoR B w' v3 v4 all vs ls := ⟨own_keepG h.r3 hb, own_keepG h.r4 hb, fun j u hj => ⟨(h.el j u hj).1.below hb, (h.el j u hj).2⟩⟩
theorem TwoR.apt (h : TwoR B w v3 v4 all vs ls) : Apt v3 v4 := fun k h3 h4 => by
  rcases h.r3.2 with ⟨rfl, _⟩ | ⟨g, cap, cur, rfl, _, hg, _⟩
  · cases h3
  · cases h3
    rcases h.r4.2 with ⟨rfl, _⟩ | ⟨g2, cap2, cur2, rfl, _, hg2, _⟩
    · cases h4
    · cases h4
      have := hg.symm.trans hg2
      simp only [Option.some.injEq, Obj.cells.injEq] at this
      exact absurd this.2.1 (by decide)
theorem TwoR.len (h : TwoR B w v3 v4 all vs ls) : vs.length = ls.length := by have := h.r4.1; omega
theorem Apt.next {u v v' : Value} {n : Nat} (h : Apt u v) (hu : ∀ k, u.ownBlock = some k → k < n) (hv : ∀ k, v'.ownBlock = some k → v.ownBlock = some k ∨ n ≤ k) : Apt u v' := fun k h1 h2 => by
  rcases hv k h2 with e | e
  · exact h k h1 e
  · have := hu k h1; omega
/-- A list more. -/
theorem TwoR.push4 (h : TwoR B w v3 v4 all vs ls) {u v' : Value} {l : List Tu} (hu : TuSl w u l) (a3 : Apt u v3) (a4 : Apt u v4) (r1 : w'.ownsRow B 24 1 v' (ls.length + 1) (vs ++ [u])) (r2 : w.grownBy w' v4.ownBlock) (r3 : ∀ k, v'.ownBlock = some k → v4.ownBlock = some k ∨ w.heap.size ≤ k) :
    TwoR B w' v3 v' all (vs ++ [u]) (ls ++ [l]) := by
  refine ⟨h.r3.kept r2 h.apt.swap.ne, by rw [List.length_append]; exact r1, fun j x hj => ?_⟩
  by_cases hlt : j < vs.length
  · rw [List.getElem?_append_left hlt] at hj
    obtain ⟨h1, h2, h3⟩ := h.el j x hj
    have e : (ls ++ [l]).getD j [] = ls.getD j [] := by
      rw [List.getD_eq_getElem?_getD, List.getD_eq_getElem?_getD, List.getElem?_append_left (by rw [← h.len]; exact hlt)]
    rw [e]
    exact ⟨h1.kept r2 fun k hk e => h3 k hk e, h2, h3.next h1.blk r3⟩
  · have hj0 : j = vs.length := by
      have := (List.getElem?_eq_some_iff.1 hj).1
      simp only [List.length_append, List.length_cons, List.length_nil] at this
      omega
    subst hj0
    rw [List.getElem?_append_right (Nat.le_refl _), Nat.sub_self] at hj
    obtain rfl : u = x := by simpa using hj
    have e : (ls ++ [l]).getD vs.length [] = l := by rw [h.len, List.getD_eq_getElem?_getD, List.getElem?_append_right (Nat.le_refl _), Nat.sub_self]; rfl
    rw [e]
    exact ⟨hu.kept r2 fun k hk e => a4 k hk e, a3, a4.next hu.blk r3⟩
/-- Tuples more. -/
theorem TwoR.push3 (h : TwoR B w v3 v4 all vs ls) {v' : Value} {x : List Tu} (r1 : w'.ownsRow B 34 6 v' (all.length + x.length) (all.flatMap tc ++ x.flatMap tc)) (r2 : w.grownBy w' v3.ownBlock) (r3 : ∀ k, v'.ownBlock = some k → v3.ownBlock = some k ∨ w.heap.size ≤ k) :
    TwoR B w' v' v4 (all ++ x) vs ls := by
  refine ⟨by rw [List.length_append, List.flatMap_append]; exact r1, h.r4.kept r2 h.apt.ne, fun j u hj => ?_⟩
  obtain ⟨h1, h2, h3⟩ := h.el j u hj
  exact ⟨h1.kept r2 fun k hk e => h2 k hk e, h2.next h1.blk r3, h3⟩
end
theorem appLv {ops : Array Oper} {rest : List Oper} {o : Oper} {a : Act} {Q : Exit → Act → World → Prop} {w : World} (hgd : o.guard = none) (s x : Operand) (ho : o.op = .call { callee := .builtin .append, args := #[s, x], argTypes := #[22, 22] })
    {B g : Nat} {v3 v4 u : Value} {all : List Tu} {vs : List Value} {ls : List (List Tu)} {l : List Tu} (hs : a.eval s = v4) (hT : TwoR B w v3 v4 all vs ls) (hx : a.eval x = .slice (some ⟨g, 0, none⟩) 1 1) (hc : w.cell? ⟨g, 0, none⟩ = some u) (hu : TuSl w u l) (a3 : Apt u v3) (a4 : Apt u v4)
    (hlen : ls.length + 1 ≤ 1000000) (hbase : B ≤ w.heap.size)
    (h : ∀ v' w', TwoR B w' v3 v' all (vs ++ [u]) (ls ++ [l]) → Below B w w' → wpList Try.prog ops Q rest (a.put o.dst v') w') : wpList Try.prog ops Q (o :: rest) a w := by
  obtain ⟨i0, hi⟩ : ∃ i, Try.prog.info? 24 = some i := Option.isSome_iff_exists.1 (by kernel_rfl)
  have q1 : (Try.prog.info? 24).bind (·.zero) = some (.slice none 0 0) := by kernel_rfl
  have q2 : (Try.prog.info? 24).map (·.size) = some 1 := by kernel_rfl
  have q3 : (Try.prog.info? 24).map (·.bytes) = some 24 := by kernel_rfl
  rw [hi] at q1 q2 q3
  refine wpList_plain hgd fun K hK' => ?_
  obtain ⟨v', w', hrun, r1, r2, r3⟩ := run_app_gen (w := w) 22 24 o.type i0 (.slice none 0 0) 1 24 Try.underlying22 hi q1 (Option.some.inj q2) (Option.some.inj q3) (by decide) (by decide) (m := 1) (c := 1) (news := [u]) (ad := ⟨g, 0, none⟩) hT.r4 rfl (fun j y hj => by
    match j, hj with
    | 0, hj => simp only [List.getElem?_cons_zero, Option.some.injEq] at hj; subst hj; exact hc
    | j + 1, hj => simp at hj) (fun y hy => by
    rw [List.mem_singleton] at hy; subst hy
    rcases hu with ⟨rfl, _⟩ | ⟨_, _, _, rfl, _⟩ <;> rfl) (by unfold maxLen; omega) (by omega) hbase
  unfold Oper.wp
  simp [execOp, ho, resolve, invoke, builtin, hs, hx, hrun, Result.andThen]
  exact hK' _ _ (h v' w' (hT.push4 hu a3 a4 r1 r2 r3) ((Below.refl B w).grown r2 hbase fun k hk => (hT.r4.lt k hk).1))
theorem appTv {ops : Array Oper} {rest : List Oper} {o : Oper} {a : Act} {Q : Exit → Act → World → Prop} {w : World} (hgd : o.guard = none) (s x : Operand) (ho : o.op = .call { callee := .builtin .append, args := #[s, x], argTypes := #[24, 24] })
    {B : Nat} {v3 v4 xv : Value} {all y : List Tu} {vs : List Value} {ls : List (List Tu)} (hs : a.eval s = v3) (hT : TwoR B w v3 v4 all vs ls) (hx : a.eval x = xv) (hy : TuRd w xv y)
    (hlen : all.length + y.length ≤ 1000000) (hbase : B ≤ w.heap.size)
    (h : ∀ v' w', TwoR B w' v' v4 (all ++ y) vs ls → Below B w w' → wpList Try.prog ops Q rest (a.put o.dst v') w') : wpList Try.prog ops Q (o :: rest) a w := by
  obtain ⟨i0, hi⟩ : ∃ i, Try.prog.info? 34 = some i := Option.isSome_iff_exists.1 (by kernel_rfl)
  have q1 : (Try.prog.info? 34).bind (·.zero) = some (tuV t0) := by kernel_rfl
  have q2 : (Try.prog.info? 34).map (·.size) = some 6 := by kernel_rfl
  have q3 : (Try.prog.info? 34).map (·.bytes) = some 96 := by kernel_rfl
  rw [hi] at q1 q2 q3
  refine wpList_plain hgd fun K hK => ?_
  rcases hy with ⟨h1, h2⟩ | ⟨ad, cap, h1, h2, h3⟩
  · subst h1 h2
    have hrun := run_append_owned_none (P := Try.prog) (w := w) B 24 o.type 34 i0 6 Try.underlying24 hi v3 all.length _ hT.r3
    unfold Oper.wp
    simp [execOp, ho, resolve, invoke, builtin, hs, hx, hrun, Result.andThen]
    exact hK _ _ (h v3 w (by rw [List.append_nil]; exact hT) (Below.refl _ _))
  · subst h1
    obtain ⟨v', w', hrun, r1, r2, r3⟩ := run_app_gen (w := w) 24 34 o.type i0 (tuV t0) 6 96 Try.underlying24 hi q1 (Option.some.inj q2) (Option.some.inj q3) (by kernel_rfl) (by decide) (m := y.length) (c := cap) (news := y.flatMap tc) (ad := ad) hT.r3 (by rw [flat_len]) (fun j u hj => by
      have hj' := (List.getElem?_eq_some_iff.1 hj).1
      rw [flat_len] at hj'
      obtain ⟨b, off, rfl, _, hr⟩ := h3 (by omega)
      rw [show (Addr.add ⟨b, off, none⟩ j) = ⟨b, off + j, none⟩ by cases j <;> simp [Addr.add]]
      exact hr j u hj) (fun u hu => by
      obtain ⟨x, _, hx2⟩ := List.mem_flatMap.1 hu
      exact tc_one x u hx2) (by unfold maxLen; omega) (by omega) hbase
    unfold Oper.wp
    simp [execOp, ho, resolve, invoke, builtin, hs, hx, hrun, Result.andThen]
    exact hK _ _ (h v' w' (hT.push3 r1 r2 r3) ((Below.refl B w).grown r2 hbase fun k hk => (hT.r3.lt k hk).1))

/-- A row of lists, and one list beside it. -/
structure RevR (B : Nat) (w : World) (v4 : Value) (vs : List Value) (ls : List (List Tu)) (vx : Value) (lx : List Tu) : Prop where
  r4 : w.ownsRow B 24 1 v4 ls.length vs
  el : ∀ j u, vs[j]? = some u → TuSl w u (ls.getD j []) ∧ Apt u v4
  ex : TuSl w vx lx ∧ Apt vx v4
section
variable {B : Nat} {w w' : World} {v4 vx : Value} {lx : List Tu} {vs : List Value} {ls : List (List Tu)}
theorem RevR.later (h : RevR B w v4 vs ls vx lx) (hb : Below w.heap.size w w') : RevR B w' v4 vs ls vx lx := ⟨own_keepG h.r4 hb, fun j u hj => ⟨(h.el j u hj).1.below hb, (h.el j u hj).2⟩, h.ex.1.below hb, h.ex.2⟩
theorem RevR.len (h : RevR B w v4 vs ls vx lx) : vs.length = ls.length := by have := h.r4.1; omega
theorem RevR.lls (h : RevR B w v4 vs ls vx lx) : LLs w v4 ls := by
  have hlen := h.len
  rcases h.r4.2 with ⟨e, hn⟩ | ⟨g, cap, cur, e, hb, hg, _⟩
  · refine ⟨none, 0, by rw [hn]; exact e, fun i hi => by omega⟩
  · refine ⟨_, cap, e, fun i hi => ?_⟩
    have hv : i < vs.length := by omega
    have hr4 := h.r4
    rw [e] at hr4
    refine ⟨g, 0, vs[i], rfl, (Array.getElem?_eq_some_iff.1 hg).1, ?_, (h.el i _ (List.getElem?_eq_getElem hv)).1⟩
    rw [Nat.zero_add, hr4.cellAt i (by omega), List.getElem?_eq_getElem hv]
theorem RevR.at (h : RevR B w v4 vs ls vx lx) {i : Nat} (hi : i < ls.length) : ∃ gr c v, v4 = .slice (some ⟨gr, 0, none⟩) ls.length c ∧ B ≤ gr ∧ gr < w.heap.size ∧ w.cell? ⟨gr, i, none⟩ = some v ∧ (∀ j, w.frozen? ⟨gr, j, none⟩ = false) ∧ TuSl w v (ls.getD i []) := by
  have hr4 := h.r4
  have hlen := h.len
  rcases h.r4.2 with ⟨_, h0⟩ | ⟨gr, cap, cur, hv, hb, hg, _⟩
  · omega
  · rw [hv] at hr4
    have hiv : i < vs.length := by omega
    refine ⟨gr, cap, vs[i], hv, hb, (Array.getElem?_eq_some_iff.1 hg).1, ?_, fun j => hr4.frozenAt j, (h.el i _ (List.getElem?_eq_getElem hiv)).1⟩
    rw [hr4.cellAt i (by omega), List.getElem?_eq_getElem hiv]
theorem TuSl.setC {u : Value} {l : List Tu} {gr i : Nat} (h : TuSl w u l) (ha : ∀ k, u.ownBlock = some k → gr ≠ k) (x : Value) : TuSl (w.setCell ⟨gr, i, none⟩ x) u l := by
  rcases h with h | ⟨b, off, c, rfl, h2, h3, h4⟩
  · exact .inl h
  · have hne := ha b rfl
    refine .inr ⟨b, off, c, rfl, h2, ?_, fun j v hj => ?_⟩
    · simpa using h3
    · rw [← h4 j v hj]
      exact World.cell?_of_block (Below.heap_setCell w ⟨gr, i, none⟩ x b fun e => hne e.symm)
theorem RevR.swap {gr c : Nat} (h : RevR B w (.slice (some ⟨gr, 0, none⟩) ls.length c) vs ls vx lx) {i k : Nat} (hi : i < ls.length) (hk : k < ls.length) {vi vk : Value} (ci : w.cell? ⟨gr, i, none⟩ = some vi) (ck : w.cell? ⟨gr, k, none⟩ = some vk) :
    RevR B ((w.setCell ⟨gr, i, none⟩ vk).setCell ⟨gr, k, none⟩ vi) (.slice (some ⟨gr, 0, none⟩) ls.length c) ((vs.set i vk).set k vi) (swapL [] ls i k) vx lx := by
  have hlen := h.len
  have hiv : i < vs.length := by omega
  have hkv : k < vs.length := by omega
  rw [h.r4.cellAt i (by omega), List.getElem?_eq_getElem hiv, Option.some.injEq] at ci
  rw [h.r4.cellAt k (by omega), List.getElem?_eq_getElem hkv, Option.some.injEq] at ck
  have ti := h.el i _ (List.getElem?_eq_getElem hiv)
  have tk := h.el k _ (List.getElem?_eq_getElem hkv)
  rw [ci] at ti
  rw [ck] at tk
  have g1 := (h.r4.stored i vk).1
  have g2 := (g1.stored k vi).1
  have hl : (swapL [] ls i k).length = ls.length := swapL_len ls i k
  have keep : ∀ {u : Value} {l : List Tu}, TuSl w u l → Apt u (.slice (some ⟨gr, 0, none⟩) ls.length c) → TuSl ((w.setCell ⟨gr, i, none⟩ vk).setCell ⟨gr, k, none⟩ vi) u l := fun h1 h2 => (h1.setC (fun q hq e => h2 q hq (by rw [← e]; rfl)) vk).setC (fun q hq e => h2 q hq (by rw [← e]; rfl)) vi
  refine ⟨by rw [hl]; exact g2, fun j v hj => ?_, keep h.ex.1 h.ex.2, h.ex.2⟩
  rw [swapL_get hi hk]
  by_cases e1 : j = k
  · subst e1
    rw [if_pos rfl]
    rw [List.getElem?_set_self (by simpa using hkv), Option.some.injEq] at hj
    rw [← hj]; exact ⟨keep ti.1 ti.2, ti.2⟩
  · rw [if_neg e1]
    rw [List.getElem?_set_ne (fun e => e1 e.symm)] at hj
    by_cases e2 : j = i
    · subst e2
      rw [if_pos rfl]
      rw [List.getElem?_set_self hiv, Option.some.injEq] at hj
      rw [← hj]; exact ⟨keep tk.1 tk.2, tk.2⟩
    · rw [if_neg e2]
      rw [List.getElem?_set_ne (fun e => e2 e.symm)] at hj
      exact ⟨keep (h.el j v hj).1 (h.el j v hj).2, (h.el j v hj).2⟩
theorem RevR.stok {gr c : Nat} (h : RevR B w (.slice (some ⟨gr, 0, none⟩) ls.length c) vs ls vx lx) {i k : Nat} (hk : k < ls.length) (v : Value) : StOk (w.setCell ⟨gr, i, none⟩ v) gr k := store_ok h.r4 hk v
end
set_option maxRecDepth 100000 in
set_option maxHeartbeats 4000000 in
theorem rev_any {B : Nat} {w : World} {v4 vx : Value} {lx : List Tu} {vs : List Value} {ls : List (List Tu)} (h : RevR B w v4 vs ls vx lx) (hl : ls.length ≤ 1000000) (hB : B ≤ w.heap.size) :
    Calls Try.prog 13 #[v4] w fun e w' => e = .returned (.tuple #[]) ∧ Below B w w' ∧ ∃ vs' ls', RevR B w' v4 vs' ls' vx lx ∧ ls'.Perm ls := by
  have HR := Lib.hid h
  have HLN := Lib.hid hl
  have HBB := Lib.hid hB
  obtain ⟨p, c, rfl, _⟩ := h.lls
  obtain ⟨e0, he0⟩ : ∃ e : Int, e = (ls.length : Int) - 1 := ⟨_, rfl⟩
  have hw0 : wrap64 ((ls.length : Int) - 1) = e0 := by rw [he0]; unfold wrap64; omega
  have HE0 := Lib.hid he0
  clear h hl hB he0
  go_enter Try.func13, Try.ntmps13
  go_wp2_with fail
  go_loopg [2, 3] ls.length (fun g s2 s3 wr => ∃ (i : Nat) (e : Int) (vs' : List Value) (ls' : List (List Tu)), i ≤ ls.length ∧ e + i + 1 = ls.length ∧ ls.length - i ≤ g ∧ s2 = .int .i64 i ∧ s3 = .int .i64 e ∧ Below B w wr ∧ ls'.length = ls.length ∧ RevR B wr (.slice p ls.length c) vs' ls' vx lx ∧ ls'.Perm ls)
  case atStart => exact ⟨0, e0, vs, ls, Nat.zero_le _, by have := HE0.out; omega, by omega, rfl, by rw [hw0], Below.refl _ _, rfl, HR.out, List.Perm.refl _⟩
  case round =>
    obtain ⟨i, e, vs', ls', hi, hei, hg, rfl, rfl, hb, hll, hr, hpm⟩ := hrel
    have HBW0 := Lib.hid hb
    have HRR := Lib.hid hr
    have HPM := Lib.hid hpm
    clear hb hr hpm hw0
    by_cases hlt : (i : Int) < e
    · obtain ⟨k, hk⟩ : ∃ k : Nat, e = (k : Int) := ⟨e.toNat, by omega⟩
      subst hk
      have hik : i < k := by omega
      have hkn : k + i + 1 = ls.length := by omega
      have HKN := Lib.hid hkn
      have hiL : i < ls'.length := by omega
      have hkL : k < ls'.length := by omega
      have h2 := HRR.out
      rw [← hll] at h2
      obtain ⟨gr, c1, vi, e1, hbg, _, ci, fr, ti⟩ := h2.at hiL
      simp only [Value.slice.injEq, true_and] at e1
      obtain ⟨rfl, rfl⟩ := e1
      obtain ⟨gr', c2, vk, e2, _, _, ck, _, tk⟩ := h2.at hkL
      simp only [Value.slice.injEq, true_and, Option.some.injEq, Addr.mk.injEq, and_true] at e2
      obtain ⟨rfl, rfl⟩ := e2
      have hdd : Below wr.heap.size wr wr.drew := (Below.refl _ _).drew
      have ci' : (wr.drew).cell? ⟨gr, i, none⟩ = some vi := ci
      have ck' : (wr.drew).cell? ⟨gr, k, none⟩ = some vk := ck
      have HQ := Lib.hid ((h2.later hdd).swap hiL hkL ci' ck')
      rw [hll] at HQ
      have HST := Lib.hid ((h2.later hdd).stok (i := i) hkL vk)
      have HBW : Hid (Below B w (((wr.drew).setCell ⟨gr, i, none⟩ vk).setCell ⟨gr, k, none⟩ vi)) := ((HBW0.out.trans (hdd.mono (Nat.le_trans HBB.out HBW0.out.size))).setCell (p := ⟨gr, i, none⟩) hbg vk).setCell (p := ⟨gr, k, none⟩) hbg vi
      have fi : (wr.drew).frozen? ⟨gr, i, none⟩ = false := fr i
      have fk : (wr.drew).frozen? ⟨gr, k, none⟩ = false := fr k
      have hi' : (i : Int) < ls.length := by omega
      have hk' : (k : Int) < ls.length := by omega
      have hw1 : wrap64 ((i : Int) + 1) = (i : Int) + 1 := by unfold wrap64; have := HLN.out; omega
      have hw2 : wrap64 ((k : Int) - 1) = (k : Int) - 1 := by unfold wrap64; have := HLN.out; omega
      have HLL := Lib.hid hll
      obtain ⟨q1, n1, m1, rfl⟩ : ∃ q n m, vi = .slice q n m := by obtain ⟨a, b, e, _⟩ := ti.src; exact ⟨_, _, _, e⟩
      obtain ⟨q2, n2, m2, rfl⟩ : ∃ q n m, vk = .slice q n m := by obtain ⟨a, b, e, _⟩ := tk.src; exact ⟨_, _, _, e⟩
      clear h2 hbg ci ck fr ti tk hdd HRR HBW0 hei hll hiL hkL hkn hi hik HR HE0
      go_wp2_with fail
      refine wp_region_noPanic ?_
      refine wp_region_held_drew (S := fun _ => True) (by kernel_rfl) trivial (fun hHeld => ?_)
      try simp only [Act.put]
      generalize wr.drew = wd at ci' ck' fi fk HQ HST HBW ⊢
      refine wpAnyH_take (i := 0) (oi := ⟨some 14, _, _, _, _, _⟩) (v := .slice (some ⟨gr, 0, none⟩) ls.length c) rfl (by kernel_rfl) (by kernel_rfl) (by kernel_rfl) (fun _ _ _ h => h) (.inl ⟨by rfl, fun w' hSw => ?_⟩) hHeld ?_
      focus (skip; clear hHeld; go_simp)
      try simp only [Act.put, List.setIfInBounds_toArray, List.set_cons_zero, List.set_cons_succ]
      refine wpAnyH_take (i := 1) (oi := ⟨some 15, _, _, _, _, _⟩) (v := .int .i64 i) rfl (by kernel_rfl) (by kernel_rfl) (by kernel_rfl) (fun _ _ _ h => h) (.inl ⟨by rfl, fun w' hSw => ?_⟩) hHeld ?_
      focus (skip; clear hHeld; go_simp)
      try simp only [Act.put, List.setIfInBounds_toArray, List.set_cons_zero, List.set_cons_succ]
      refine wpAnyH_take (i := 2) (oi := ⟨some 16, _, _, _, _, _⟩) (v := .slice (some ⟨gr, 0, none⟩) ls.length c) rfl (by kernel_rfl) (by kernel_rfl) (by kernel_rfl) (fun _ _ _ h => h) (.inl ⟨by rfl, fun w' hSw => ?_⟩) hHeld ?_
      focus (skip; clear hHeld; go_simp)
      try simp only [Act.put, List.setIfInBounds_toArray, List.set_cons_zero, List.set_cons_succ]
      refine wpAnyH_take (i := 3) (oi := ⟨some 17, _, _, _, _, _⟩) (v := .int .i64 k) rfl (by kernel_rfl) (by kernel_rfl) (by kernel_rfl) (fun _ _ _ h => h) (.inl ⟨by rfl, fun w' hSw => ?_⟩) hHeld ?_
      focus (skip; clear hHeld; go_simp)
      try simp only [Act.put, List.setIfInBounds_toArray, List.set_cons_zero, List.set_cons_succ]
      refine wpAnyH_take (i := 4) (oi := ⟨some 18, _, _, _, _, _⟩) (v := .slice (some ⟨gr, 0, none⟩) ls.length c) rfl (by kernel_rfl) (by kernel_rfl) (by kernel_rfl) (fun _ _ _ h => h) (.inl ⟨by rfl, fun w' hSw => ?_⟩) hHeld ?_
      focus (skip; clear hHeld; go_simp)
      try simp only [Act.put, List.setIfInBounds_toArray, List.set_cons_zero, List.set_cons_succ]
      refine wpAnyH_take (i := 5) (oi := ⟨some 19, _, _, _, _, _⟩) (v := .int .i64 k) rfl (by kernel_rfl) (by kernel_rfl) (by kernel_rfl) (fun _ _ _ h => h) (.inl ⟨by rfl, fun w' hSw => ?_⟩) hHeld ?_
      focus (skip; clear hHeld; go_simp)
      try simp only [Act.put, List.setIfInBounds_toArray, List.set_cons_zero, List.set_cons_succ]
      refine wpAnyH_take (i := 6) (oi := ⟨some 20, _, _, _, _, _⟩) (v := .pointer (some ⟨gr, k, none⟩)) rfl (by kernel_rfl) (by kernel_rfl) (by kernel_rfl) (fun _ _ _ h => h) (.inl ⟨by rfl, fun w' hSw => ?_⟩) hHeld ?_
      focus (skip; clear hHeld; go_simp)
      try simp only [Act.put, List.setIfInBounds_toArray, List.set_cons_zero, List.set_cons_succ]
      refine wpAnyH_take (i := 8) (oi := ⟨some 22, _, _, _, _, _⟩) (v := .slice (some ⟨gr, 0, none⟩) ls.length c) rfl (by kernel_rfl) (by kernel_rfl) (by kernel_rfl) (fun _ _ _ h => h) (.inl ⟨by rfl, fun w' hSw => ?_⟩) hHeld ?_
      focus (skip; clear hHeld; go_simp)
      try simp only [Act.put, List.setIfInBounds_toArray, List.set_cons_zero, List.set_cons_succ]
      refine wpAnyH_take (i := 9) (oi := ⟨some 23, _, _, _, _, _⟩) (v := .int .i64 i) rfl (by kernel_rfl) (by kernel_rfl) (by kernel_rfl) (fun _ _ _ h => h) (.inl ⟨by rfl, fun w' hSw => ?_⟩) hHeld ?_
      focus (skip; clear hHeld; go_simp)
      try simp only [Act.put, List.setIfInBounds_toArray, List.set_cons_zero, List.set_cons_succ]
      refine wpAnyH_take (i := 10) (oi := ⟨some 24, _, _, _, _, _⟩) (v := .pointer (some ⟨gr, i, none⟩)) rfl (by kernel_rfl) (by kernel_rfl) (by kernel_rfl) (fun _ _ _ h => h) (.inl ⟨by rfl, fun w' hSw => ?_⟩) hHeld ?_
      focus (skip; clear hHeld; go_simp)
      try simp only [Act.put, List.setIfInBounds_toArray, List.set_cons_zero, List.set_cons_succ]
      refine wpAnyH_ready (rs := [7, 11]) (by kernel_rfl) (by simp) ?_
      refine AllReadyH.cons (o := ⟨some 21, _, _, _, _, _⟩) rfl (fun K' hK' => ?_) (AllReadyH.cons (o := ⟨some 25, _, _, _, _, _⟩) rfl (fun K' hK' => ?_) AllReadyH.nil)
      · go_simp
        refine hK'.out _ _ trivial (fun _ => ?_)
        clear hK' K'
        try simp only [Act.put, List.setIfInBounds_toArray, List.set_cons_zero, List.set_cons_succ]
        refine wpAnyH_ready (rs := [11]) (by kernel_rfl) (by simp) ?_
        refine AllReadyH.cons (o := ⟨some 25, _, _, _, _, _⟩) rfl (fun K' hK' => ?_) AllReadyH.nil
        go_simp
        refine hK'.out _ _ trivial (fun _ => ?_)
        clear hK' K'
        try simp only [Act.put, List.setIfInBounds_toArray, List.set_cons_zero, List.set_cons_succ]
        refine wpAnyH_take (i := 12) (oi := ⟨some 26, _, _, _, _, _⟩) (v := .pointer (some ⟨gr, i, none⟩)) rfl (by kernel_rfl) (by kernel_rfl) (by kernel_rfl) (fun _ _ _ h => h) (.inl ⟨by rfl, fun w' hSw => ?_⟩) hHeld ?_
        focus (skip; clear hHeld; go_simp)
        try simp only [Act.put, List.setIfInBounds_toArray, List.set_cons_zero, List.set_cons_succ]
        refine wpAnyH_ready (rs := [13]) (by kernel_rfl) (by simp) ?_
        refine AllReadyH.cons (o := ⟨none, _, _, _, _, _⟩) rfl (fun K' hK' => ?_) AllReadyH.nil
        go_simp
        refine hK'.out _ _ trivial (fun _ => ?_)
        clear hK' K'
        try simp only [Act.put, List.setIfInBounds_toArray, List.set_cons_zero, List.set_cons_succ]
        clear ci' ck' fi fk
        generalize wd.setCell ⟨gr, i, none⟩ (.slice q2 n2 m2) = w1 at HQ HST HBW ⊢
        obtain ⟨⟨u, hu⟩, f2⟩ := HST.out
        clear HST
        refine wpAnyH_take (i := 14) (oi := ⟨some 27, _, _, _, _, _⟩) (v := .pointer (some ⟨gr, k, none⟩)) rfl (by kernel_rfl) (by kernel_rfl) (by kernel_rfl) (fun _ _ _ h => h) (.inl ⟨by rfl, fun w' hSw => ?_⟩) hHeld ?_
        focus (skip; clear hHeld; go_simp)
        try simp only [Act.put, List.setIfInBounds_toArray, List.set_cons_zero, List.set_cons_succ]
        refine wpAnyH_ready (rs := [15]) (by kernel_rfl) (by simp) ?_
        refine AllReadyH.cons (o := ⟨none, _, _, _, _, _⟩) rfl (fun K' hK' => ?_) AllReadyH.nil
        go_simp
        refine hK'.out _ _ trivial (fun _ => ?_)
        clear hK' K'
        try simp only [Act.put, List.setIfInBounds_toArray, List.set_cons_zero, List.set_cons_succ]
        refine wpAnyH_done (by kernel_rfl) ?_ _
        refine NoPanic.normal ?_
        clear hu f2
        generalize w1.setCell ⟨gr, k, none⟩ _ = w2 at HQ HBW ⊢
        go_wp2_with fail
        go_roundg (ls.length - (i + 1))
        case measure => have := HKN.out; omega
        case rel => exact ⟨i + 1, (k : Int) - 1, _, swapL [] ls' i k, by have := HKN.out; omega, by have := HKN.out; omega, Nat.le_refl _, by go_num, by go_num, HBW.out, by rw [swapL_len]; exact HLL.out, HQ.out, (swapL_perm (by have := HKN.out; have := HLL.out; omega) (by have := HKN.out; have := HLL.out; omega)).trans HPM.out⟩
      · go_simp
        refine hK'.out _ _ trivial (fun _ => ?_)
        clear hK' K'
        try simp only [Act.put, List.setIfInBounds_toArray, List.set_cons_zero, List.set_cons_succ]
        refine wpAnyH_ready (rs := [7]) (by kernel_rfl) (by simp) ?_
        refine AllReadyH.cons (o := ⟨some 21, _, _, _, _, _⟩) rfl (fun K' hK' => ?_) AllReadyH.nil
        go_simp
        refine hK'.out _ _ trivial (fun _ => ?_)
        clear hK' K'
        try simp only [Act.put, List.setIfInBounds_toArray, List.set_cons_zero, List.set_cons_succ]
        refine wpAnyH_take (i := 12) (oi := ⟨some 26, _, _, _, _, _⟩) (v := .pointer (some ⟨gr, i, none⟩)) rfl (by kernel_rfl) (by kernel_rfl) (by kernel_rfl) (fun _ _ _ h => h) (.inl ⟨by rfl, fun w' hSw => ?_⟩) hHeld ?_
        focus (skip; clear hHeld; go_simp)
        try simp only [Act.put, List.setIfInBounds_toArray, List.set_cons_zero, List.set_cons_succ]
        refine wpAnyH_ready (rs := [13]) (by kernel_rfl) (by simp) ?_
        refine AllReadyH.cons (o := ⟨none, _, _, _, _, _⟩) rfl (fun K' hK' => ?_) AllReadyH.nil
        go_simp
        refine hK'.out _ _ trivial (fun _ => ?_)
        clear hK' K'
        try simp only [Act.put, List.setIfInBounds_toArray, List.set_cons_zero, List.set_cons_succ]
        clear ci' ck' fi fk
        generalize wd.setCell ⟨gr, i, none⟩ (.slice q2 n2 m2) = w1 at HQ HST HBW ⊢
        obtain ⟨⟨u, hu⟩, f2⟩ := HST.out
        clear HST
        refine wpAnyH_take (i := 14) (oi := ⟨some 27, _, _, _, _, _⟩) (v := .pointer (some ⟨gr, k, none⟩)) rfl (by kernel_rfl) (by kernel_rfl) (by kernel_rfl) (fun _ _ _ h => h) (.inl ⟨by rfl, fun w' hSw => ?_⟩) hHeld ?_
        focus (skip; clear hHeld; go_simp)
        try simp only [Act.put, List.setIfInBounds_toArray, List.set_cons_zero, List.set_cons_succ]
        refine wpAnyH_ready (rs := [15]) (by kernel_rfl) (by simp) ?_
        refine AllReadyH.cons (o := ⟨none, _, _, _, _, _⟩) rfl (fun K' hK' => ?_) AllReadyH.nil
        go_simp
        refine hK'.out _ _ trivial (fun _ => ?_)
        clear hK' K'
        try simp only [Act.put, List.setIfInBounds_toArray, List.set_cons_zero, List.set_cons_succ]
        refine wpAnyH_done (by kernel_rfl) ?_ _
        refine NoPanic.normal ?_
        clear hu f2
        generalize w1.setCell ⟨gr, k, none⟩ _ = w2 at HQ HBW ⊢
        go_wp2_with fail
        go_roundg (ls.length - (i + 1))
        case measure => have := HKN.out; omega
        case rel => exact ⟨i + 1, (k : Int) - 1, _, swapL [] ls' i k, by have := HKN.out; omega, by have := HKN.out; omega, Nat.le_refl _, by go_num, by go_num, HBW.out, by rw [swapL_len]; exact HLL.out, HQ.out, (swapL_perm (by have := HKN.out; have := HLL.out; omega) (by have := HKN.out; have := HLL.out; omega)).trans HPM.out⟩
    · have HEI := Lib.hid hei
      clear hei
      go_wp2_with fail
      go_end0
      exact ⟨rfl, HBW0.out, vs', ls', HRR.out, HPM.out⟩
end Go.Proofs.Ytebbbiikphfjcaa
