/-
  An expression among the arguments: what it reads as; its texts are no longer than the bulk that is read.
-/
import Derived.Test.YtdnmgemjhpkekaaGreatExV
import Derived.Test.YtdnmgemjhpkekaaGreatRows
namespace Go.Proofs.YtdnmgemjhpkekaaGreat
open Go.ChangeShapes Go.WideShapes Go.ChangeAt Go.RowKit Go.Deep
set_option linter.unusedVariables false

theorem bulk_pos {H : Type} (d : DataW H) : 1 ≤ Rows.uptoBulk d := by
  cases d with
  | lit l => cases l <;> simp [Rows.uptoBulk]
  | nil => simp [Rows.uptoBulk]
  | ptr d => simp [Rows.uptoBulk]
  | slice elems spare => simp [Rows.uptoBulk]
  | agg parts => simp [Rows.uptoBulk]
  | iface t d => simp [Rows.uptoBulk]
  | map entries => simp [Rows.uptoBulk]
  | held h => simp [Rows.uptoBulk]
theorem bulk_len {H : Type} (l : List (DataW H)) : l.length ≤ Rows.uptoBulkAll l := by
  induction l with
  | nil => simp [Rows.uptoBulkAll]
  | cons x r ih => have := bulk_pos x; simp only [Rows.uptoBulkAll, List.length_cons]; omega
theorem bulk_part {H : Type} {d : DataW H} {l : List (DataW H)} (h : d ∈ l) : Rows.uptoBulk d ≤ Rows.uptoBulkAll l := by
  induction l with
  | nil => cases h
  | cons x r ih =>
    simp only [Rows.uptoBulkAll]
    cases List.mem_cons.1 h with
    | inl e => subst e; omega
    | inr e => have := ih e; omega
theorem bulk_slice {H : Type} (elems spare : List (DataW H)) : Rows.uptoBulkAll elems + 1 ≤ Rows.uptoBulk (.slice elems spare) := by
  simp only [Rows.uptoBulk]; omega
theorem bulk_bound {H : Type} {l : List (DataW H)} (hk : Rows.uptoSmall H l = true) : Rows.uptoBulkAll l ≤ 1048576 := of_decide_eq_true hk
section
variable {H : Type} {enc : TypeId × Value → H}
set_option maxRecDepth 100000 in
theorem rdE_openB {w : World} : ∀ (fuel : Nat) (cs : List Value) (d : DataW H) (p : List MemPlace), DataW.trod enc Tryz.prog w 0 (fun _ => true) true fuel 24 cs = some (d, p) →
    ∃ e : Ex, RdE (fun b => b < w.heap.size) w e (.agg cs.toArray) ∧ (Rows.uptoBulk d ≤ 1048576 → okE bigM e) := by
  intro fuel
  induction fuel using Nat.strongRecOn with
  | ind fuel ih =>
    intro cs d p hf
    obtain ⟨xs, n, rfl, hx, hcl, hlen, hel⟩ := DataW.trod_struct Tryz.underlying24 hf
    obtain ⟨c0, c1, c2, c3, rfl⟩ := list4 (hcl.trans cellsEx)
    obtain ⟨x0, x1, x2, x3, rfl⟩ := list4 (show xs.length = 4 from hlen)
    simp only [Prod.mk.injEq, List.map_cons, List.map_nil] at hx
    obtain ⟨rfl, _⟩ := hx
    have k0 := hel 0 _ rfl
    have k1 := hel 1 _ rfl
    have k2 := hel 2 _ rfl
    have k3 := hel 3 _ rfl
    obtain ⟨k, e0, y0, _⟩ := DataW.trod_int Tryz.underlying3 (show DataW.trod enc Tryz.prog w 0 (fun _ => true) true n 3 [c0] = some x0 from k0)
    obtain ⟨s1, e1, y1, _⟩ := DataW.trod_string Tryz.underlying9 (show DataW.trod enc Tryz.prog w 0 (fun _ => true) true n 9 [c1] = some x1 from k1)
    obtain ⟨s2, e2, y2, _⟩ := DataW.trod_string Tryz.underlying9 (show DataW.trod enc Tryz.prog w 0 (fun _ => true) true n 9 [c2] = some x2 from k2)
    obtain rfl : c0 = .int .i64 k := by simpa using e0
    obtain rfl : c1 = .string s1 := by simpa using e1
    obtain rfl : c2 = .string s2 := by simpa using e2
    subst y0; subst y1; subst y2
    have k3' : DataW.trod enc Tryz.prog w 0 (fun _ => true) true n 22 [c3] = some x3 := k3
    rcases DataW.trod_slice Tryz.underlying22 k3' with ⟨hc, hx3⟩ | ⟨a, len, cap, elems, rest, m, hnm, hc, hx3, _, hlc, _, hel3, hat, _, _⟩
    · obtain rfl : c3 = .slice none 0 0 := by simpa using hc
      refine ⟨.mk k s1.data.toList s2.data.toList [], ?_, fun hw => ?_⟩
      · unfold RdE
        rw [bstr_back, bstr_back]
        exact ⟨none, 0, rfl, Nat.le_refl _, fun h => by simp at h⟩
      · unfold okE
        simp only [Rows.uptoBulk, Rows.uptoBulkAll] at hw
        have hB : 1048576 ≤ bigM := by decide
        exact ⟨Nat.le_trans (by omega) hB, Nat.le_trans (by omega) hB, by unfold okL; trivial⟩
    · obtain rfl : c3 = .slice (some a) len cap := by simpa using hc
      subst hnm hx3
      have key : ∀ i, ∃ e : Ex, i < len → (∃ v0 v1 v2 v3, w.cell? ((a.add (i * 4)).add 0) = some v0 ∧ w.cell? ((a.add (i * 4)).add 1) = some v1 ∧ w.cell? ((a.add (i * 4)).add 2) = some v2 ∧ w.cell? ((a.add (i * 4)).add 3) = some v3 ∧ RdE (fun b => b < w.heap.size) w e (.agg #[v0, v1, v2, v3])) ∧
          ∃ y : DataW H × List MemPlace, elems[i]? = some y ∧ (Rows.uptoBulk y.1 ≤ 1048576 → okE bigM e) := by
        intro i
        by_cases hil : i < len
        · have h1 := hat i hil
          have hy : elems[i]? = some (elems[i]'(by omega)) := List.getElem?_eq_getElem (by omega)
          rw [hy, cellsEx] at h1
          obtain ⟨cs', hc1, hc2⟩ := Option.bind_eq_some_iff.1 h1
          obtain ⟨_, hcl4, hcat⟩ := World.cells?_some hc1
          obtain ⟨v0, v1, v2, v3, rfl⟩ := list4 hcl4
          obtain ⟨e, he1, he2⟩ := ih m (by omega) _ (elems[i]'(by omega)).1 (elems[i]'(by omega)).2 hc2
          exact ⟨e, fun _ => ⟨⟨v0, v1, v2, v3, hcat 0 (by omega), hcat 1 (by omega), hcat 2 (by omega), hcat 3 (by omega), he1⟩, _, hy, he2⟩⟩
        · exact ⟨ex0, fun h => absurd h hil⟩
      obtain ⟨f, hf2⟩ := Classical.axiomOfChoice key
      have hlenf : ((List.range len).map f).length = len := by simp
      have hget : ∀ i, i < len → ((List.range len).map f).getD i ex0 = f i := fun i h => by
        rw [List.getD_eq_getElem?_getD, List.getElem?_map, List.getElem?_range h]; rfl
      refine ⟨.mk k s1.data.toList s2.data.toList ((List.range len).map f), ?_, fun hw => ?_⟩
      · unfold RdE
        rw [bstr_back, bstr_back, hlenf]
        refine ⟨some a, cap, rfl, hlc, fun h0 => ?_⟩
        obtain ⟨b, off, spot⟩ := a
        obtain ⟨v0, _, _, _, hc0, _⟩ := (hf2 0 h0).1
        have hspot : spot = none := by simpa [Addr.add] using World.cell?_spot hc0
        subst hspot
        have hb := World.block_lt_of_cell? w _ hc0
        refine ⟨b, off, rfl, by simpa [Addr.add] using hb, RdL.mk fun i hi => ?_⟩
        rw [hlenf] at hi
        rw [hget i hi]
        obtain ⟨v0, v1, v2, v3, g0, g1, g2, g3, g4⟩ := (hf2 i hi).1
        have ea : ∀ j, (((⟨b, off, none⟩ : Addr).add (i * 4)).add j) = ⟨b, off + i * 4 + j, none⟩ := fun j => by
          unfold Addr.add; split <;> split <;> simp_all
        rw [ea] at g0 g1 g2 g3
        exact ⟨v0, v1, v2, v3, g0, g1, g2, g3, g4⟩
      · unfold okE
        simp only [Rows.uptoBulk, Rows.uptoBulkAll] at hw
        have hB : 1048576 ≤ bigM := by decide
        refine ⟨Nat.le_trans (by omega) hB, Nat.le_trans (by omega) hB, okL_mk fun i hi => ?_⟩
        rw [hlenf] at hi
        rw [hget i hi]
        obtain ⟨_, y, hy, hok⟩ := hf2 i hi
        have hm : y.1 ∈ elems.map (·.1) := List.mem_map.2 ⟨y, List.mem_of_getElem? hy, rfl⟩
        have hp := bulk_part hm
        exact hok (by omega)
set_option maxRecDepth 100000 in
theorem expr_openB {w : World} {base : Nat} {v : Value} {d : DataW H} {p : List MemPlace} (hv : Value.okWide Tryz.prog w .any base 24 v) (h : DataW.Trod enc Tryz.prog w 0 (fun _ => true) true 24 v d p) :
    ∃ e : Ex, RdE (fun b => b < w.heap.size) w e v ∧ (Rows.uptoBulk d ≤ 1048576 → okE bigM e) := by
  obtain ⟨cs, rfl, hsz⟩ := okWide_struct Tryz.underlying24 hv
  obtain ⟨fuel, hf⟩ := h
  obtain ⟨e, h1, h2⟩ := rdE_openB fuel _ d p hf
  exact ⟨e, h1, h2⟩
end
end Go.Proofs.YtdnmgemjhpkekaaGreat
