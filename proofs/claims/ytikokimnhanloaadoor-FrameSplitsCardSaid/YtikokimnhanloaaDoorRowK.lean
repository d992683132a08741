/-
  Rows of the call's own that are appended to in turn: slices of slices of bytes, slices of ints.
-/
import Derived.Test.YtikokimnhanloaaDoorPart1
namespace Go.Proofs.YtikokimnhanloaaDoor
open Go.ChangeShapes Go.WideShapes Go.ChangeAt Go.RowKit
set_option linter.unusedVariables false

theorem ownsRow_kept {w w' : World} {base e size n : Nat} {v : Value} {xs : List Value} {row : Option Nat} (h : w.ownsRow base e size v n xs) (hg : w.grownBy w' row) (hne : row = none ∨ row ≠ v.ownBlock) : w'.ownsRow base e size v n xs := by
  refine ⟨h.1, ?_⟩
  rcases h.2 with h | ⟨g, cap, cur, rfl, h0, h1, r⟩
  · exact .inl h
  · refine .inr ⟨g, cap, cur, rfl, h0, (hg.block g (Array.getElem?_eq_some_iff.1 h1).1 ?_).trans h1, r⟩
    rcases hne with rfl | hne
    · simp
    · exact fun e => hne e.symm
theorem ownsRow_apart {w : World} {b1 b2 e1 e2 s1 s2 n1 n2 : Nat} {v1 v2 : Value} {xs1 xs2 : List Value} (h1 : w.ownsRow b1 e1 s1 v1 n1 xs1) (h2 : w.ownsRow b2 e2 s2 v2 n2 xs2) (he : e1 ≠ e2) : v1.ownBlock = none ∨ v1.ownBlock ≠ v2.ownBlock := by
  rcases h1.2 with ⟨rfl, _⟩ | ⟨g1, c1, cur1, rfl, _, hg1, _⟩
  · exact .inl rfl
  · rcases h2.2 with ⟨rfl, _⟩ | ⟨g2, c2, cur2, rfl, _, hg2, _⟩
    · exact .inr (by simp [Value.ownBlock])
    · refine .inr fun e => ?_
      obtain rfl : g1 = g2 := by simpa [Value.ownBlock] using e
      rw [hg1] at hg2
      simp only [Option.some.injEq, Obj.cells.injEq] at hg2
      exact he hg2.2.1
theorem ownsRow_block {w : World} {base e size n : Nat} {v : Value} {xs : List Value} (h : w.ownsRow base e size v n xs) {k : Nat} (hk : v.ownBlock = some k) : base ≤ k := by
  rcases h.2 with ⟨rfl, _⟩ | ⟨g, c, cur, rfl, hb, _⟩
  · cases hk
  · cases hk; exact hb
theorem RowAll.toP {base B : Nat} {w : World} {v : Value} {ks : List (List UInt8)} (h : RowAll base B w v ks) (hB : B ≤ base) (hbase : base ≤ w.heap.size) : RowP base w v ks := by
  obtain ⟨xs, hown, hrd⟩ := h
  refine ⟨xs, hown, fun i hi => ?_⟩
  obtain ⟨u, hu, hr⟩ := hrd i hi
  refine ⟨u, hu, hr.mono (Nat.le_trans hB hbase), ?_⟩
  rcases hr.blk with h | ⟨b, h1, h2⟩
  · exact .inl h
  · refine .inr fun e => ?_
    have := ownsRow_block hown (e.trans h1)
    omega
theorem RowAll.kept {base B : Nat} {w w' : World} {v : Value} {ks : List (List UInt8)} {row : Option Nat} (h : RowAll base B w v ks) (hg : w.grownBy w' row) (hne : row = none ∨ row ≠ v.ownBlock) (hrow : ∀ k, row = some k → B ≤ k) (hB : B ≤ w.heap.size) : RowAll base B w' v ks := by
  obtain ⟨xs, hown, hrd⟩ := h
  refine ⟨xs, ownsRow_kept hown hg hne, fun i hi => ?_⟩
  obtain ⟨u, hu, hr⟩ := hrd i hi
  refine ⟨u, hu, hr.below ((Below.refl B w).grown hg hB hrow) (Nat.le_refl _)⟩

theorem run_partB {w : World} {base B : Nat} {v : Value} {ks : List (List UInt8)} {ad : Addr} {c : Nat} {u : Value} {k : List UInt8} (hown : RowAll base B w v ks) (hc : w.cell? ad = some u) (hr : Rd B w u k)
    (hlen : (ks.length + 1) * 24 ≤ 140737488355328) (hB : B ≤ base) (hbase : base ≤ w.heap.size) (ty : TypeId) :
    ∃ v' w', (Builtin.append_ #[37, 37] ty #[v, .slice (some ad) 1 c]).run Tryd.prog w = .ok v' w' ∧ RowAll base B w' v' (ks ++ [k]) ∧ Below base w w' ∧ w.grownBy w' v.ownBlock := by
  obtain ⟨i0, hi, hz0, hz1, hz2⟩ := info_parts Tryd.infoS
  obtain ⟨xs, hx, hrd⟩ := hown
  have hxl : xs.length = ks.length := by simpa using hx.1
  obtain ⟨v', w', hrun, ho, hg, _⟩ := run_append_own (P := Tryd.prog) w base 37 ty 22 i0 (.slice none 0 0) 1 24 Tryd.underlying37 hi hz0 hz1 hz2 rfl (by decide) v ks.length xs hx ad 1 c [u] (by simp)
    (fun j y hy => by
      cases j with
      | zero =>
        have e0 : ad.add 0 = ad := by cases ad; simp [Addr.add]
        rw [e0, hc]; simpa using hy
      | succ j => simp at hy)
    (fun y hy => by
      obtain rfl := List.mem_singleton.1 hy
      obtain ⟨q, c, rfl, _, _⟩ := hr.form
      rfl) (by unfold maxLen; omega) hlen hbase
  have hbel : Below base w w' := (Below.refl _ _).grown hg hbase (fun k hk => (hx.lt k hk).1)
  refine ⟨v', w', hrun, ⟨xs ++ [u], by rw [List.length_append]; exact ho, fun i hi' => ?_⟩, hbel, hg⟩
  rw [List.length_append] at hi'
  by_cases hik : i < ks.length
  · obtain ⟨z, h1, h2⟩ := hrd i hik
    refine ⟨z, by rw [List.getElem?_append_left (by omega)]; exact h1, ?_⟩
    rw [show (ks ++ [k]).getD i [] = ks.getD i [] by simp [List.getD_eq_getElem?_getD, List.getElem?_append_left hik]]
    exact h2.below hbel hB
  · obtain rfl : i = ks.length := by simp at hi'; omega
    refine ⟨u, by rw [List.getElem?_append_right (by omega), hxl]; simp, ?_⟩
    rw [show (ks ++ [k]).getD ks.length [] = k by simp [List.getD_eq_getElem?_getD]]
    exact hr.below hbel hB

def nv (n : Nat) : Value := .int .i64 n
def nvs (l : List Nat) : List Value := l.map nv
theorem Tryd.infoN : (Tryd.prog.info? 3).map (fun i => (i.zero, i.size, i.bytes)) = some (some (.int .i64 0), 1, 8) := by kernel_rfl
theorem own_nums {w : World} {base : Nat} {v : Value} {l : List Nat} (h : w.ownsRow base 3 1 v l.length (nvs l)) : ∃ oa cap, v = .slice oa l.length cap ∧ l.length ≤ maxLen ∧
    (0 < l.length → ∃ g, oa = some ⟨g, 0, none⟩ ∧ l.length ≤ cap ∧ base ≤ g ∧ ∀ i, i < l.length → w.cell? ⟨g, i, none⟩ = some (nv (l.getD i 0))) := by
  rcases h.2 with ⟨hv, h0⟩ | ⟨g, cap, cur, hv, hb, hg, h1, h2, h3, h4⟩
  · exact ⟨none, 0, by rw [hv, h0], by rw [h0]; exact Nat.zero_le _, fun hp => by omega⟩
  · refine ⟨_, cap, hv, by omega, fun _ => ⟨g, rfl, h1, hb, fun i hi => ?_⟩⟩
    rw [cell_of_row w g i cur 3 (0, 0) hg]
    have hi2 : (nvs l)[i]? = some (nv (l.getD i 0)) := by simp [nvs, List.getD_eq_getElem?_getD, List.getElem?_eq_getElem hi]
    rw [← h4, List.getElem?_take] at hi2
    split at hi2
    · simpa using hi2
    · cases hi2
section
variable {ops : Array Oper} {rest : List Oper} {o : Oper} {a : Act} {Q : Exit → Act → World → Prop} {w : World}
theorem app_partB (hgd : o.guard = none) (s x : Operand) (ho : o.op = .call { callee := .builtin .append, args := #[s, x], argTypes := #[37, 37] })
    {base B c : Nat} {v u : Value} {ad : Addr} {ks : List (List UInt8)} {k : List UInt8} (hs : a.eval s = v) (hown : RowAll base B w v ks) (hx : a.eval x = .slice (some ad) 1 c) (hc : w.cell? ad = some u) (hr : Rd B w u k)
    (hlen : (ks.length + 1) * 24 ≤ 140737488355328) (hB : B ≤ base) (hbase : base ≤ w.heap.size)
    (h : ∀ v' w', RowAll base B w' v' (ks ++ [k]) → Below base w w' → w.grownBy w' v.ownBlock → wpList Tryd.prog ops Q rest (a.put o.dst v') w') : wpList Tryd.prog ops Q (o :: rest) a w := by
  refine wpList_plain hgd fun K hK' => ?_
  obtain ⟨v', w', hrun, r1, r2, r3⟩ := run_partB (c := c) hown hc hr hlen hB hbase o.type
  obtain ⟨vx, hvx⟩ : ∃ vx, vx = Value.slice (some ad) 1 c := ⟨_, rfl⟩
  rw [← hvx] at hx hrun
  unfold Oper.wp
  simp [execOp, ho, resolve, invoke, builtin, hs, hx, hrun, Result.andThen]
  exact hK' _ _ (h v' w' r1 r2 r3)
theorem app_num (hgd : o.guard = none) (s x : Operand) (ho : o.op = .call { callee := .builtin .append, args := #[s, x], argTypes := #[40, 40] })
    {base n : Nat} {v : Value} {l : List Nat} {b : Nat} (hs : a.eval s = v) (hown : w.ownsRow base 3 1 v l.length (nvs l)) (hx : a.eval x = .slice (some ⟨n, 0, none⟩) 1 1) (hc : w.cell? ⟨n, 0, none⟩ = some (nv b))
    (hlen : l.length + 1 ≤ 17592186044416) (hbase : base ≤ w.heap.size)
    (h : ∀ v' w', w'.ownsRow base 3 1 v' (l ++ [b]).length (nvs (l ++ [b])) → Below base w w' → w.grownBy w' v.ownBlock → wpList Tryd.prog ops Q rest (a.put o.dst v') w') : wpList Tryd.prog ops Q (o :: rest) a w := by
  obtain ⟨i0, hi, hz0, hz1, hz2⟩ := info_parts Tryd.infoN
  refine wpList_append_own w hgd s x 40 ho base 3 i0 (.int .i64 0) 1 8 Tryd.underlying40 hi hz0 hz1 hz2 rfl (by decide) v l.length (nvs l) hs hown ⟨n, 0, none⟩ 1 1 [nv b] hx rfl ?_ ?_ (by unfold maxLen; omega) (by omega) hbase ?_
  · intro j u hu
    match j, hu with
    | 0, hu => simp at hu; subst hu; simpa [Addr.add] using hc
  · intro u hu; simp at hu; subst hu; rfl
  · intro v' w' r1 r2 _
    exact h v' w' (by simpa [nvs] using r1) ((Below.refl _ _).grown r2 hbase (fun k hk => (hown.lt k hk).1)) r2
end
end Go.Proofs.YtikokimnhanloaaDoor
