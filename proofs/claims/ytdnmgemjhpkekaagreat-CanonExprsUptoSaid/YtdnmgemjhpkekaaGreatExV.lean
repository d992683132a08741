/-
  An expression among the arguments: what it reads as, and how long its texts are.
-/
import Derived.Test.YtdnmgemjhpkekaaGreatExD
import Derived.Deep.Slices
import Derived.Deep.Fields
import Derived.ChangeSame
import Derived.SizedLaws
import Derived.HandedShaped
import Derived.OpenShut
namespace Go.Proofs.YtdnmgemjhpkekaaGreat
open Go.ChangeShapes Go.WideShapes Go.ChangeAt Go.RowKit Go.Deep
set_option linter.unusedVariables false

theorem RdL.mk {P : Nat → Prop} {w : World} {b : Nat} : ∀ {ks : List Ex} {o : Nat}, (∀ i, i < ks.length → ∃ v0 v1 v2 v3, w.cell? ⟨b, o + i * 4, none⟩ = some v0 ∧ w.cell? ⟨b, o + i * 4 + 1, none⟩ = some v1 ∧ w.cell? ⟨b, o + i * 4 + 2, none⟩ = some v2 ∧ w.cell? ⟨b, o + i * 4 + 3, none⟩ = some v3 ∧ RdE P w (ks.getD i ex0) (.agg #[v0, v1, v2, v3])) → RdL P w ks b o
  | [], _, _ => by unfold RdL; trivial
  | e :: r, o, h => by
    unfold RdL
    refine ⟨?_, RdL.mk fun i hi => ?_⟩
    · have := h 0 (by simp)
      simpa using this
    · have := h (i + 1) (by simpa using hi)
      rw [show o + (i + 1) * 4 = o + 4 + i * 4 by omega] at this
      simpa using this
theorem okL_mk {M : Nat} : ∀ {ks : List Ex}, (∀ i, i < ks.length → okE M (ks.getD i ex0)) → okL M ks
  | [], _ => by unfold okL; trivial
  | e :: r, h => by
    unfold okL
    exact ⟨by simpa using h 0 (by simp), okL_mk fun i hi => by simpa using h (i + 1) (by simpa using hi)⟩
section
variable {H : Type} {enc : TypeId × Value → H}
theorem weightsAll_mem {P : Program} {e : TypeId} : ∀ {l : List (DataW H)} {d : DataW H}, d ∈ l → ∀ n ∈ d.weights P e, n ∈ DataW.weightsAll P e l
  | [], _, h, _, _ => by cases h
  | d0 :: l, d, h, n, hn => by
    simp only [DataW.weightsAll, List.mem_append]
    rcases List.mem_cons.1 h with rfl | h
    · exact .inl hn
    · exact .inr (weightsAll_mem h n hn)
theorem ex_weights (d0 d1 d2 d3 : DataW H) : DataW.weights Tryz.prog 24 (.agg [d0, d1, d2, d3]) = d0.weights Tryz.prog 3 ++ (d1.weights Tryz.prog 9 ++ (d2.weights Tryz.prog 9 ++ (d3.weights Tryz.prog 22 ++ []))) := by
  conv => lhs; unfold DataW.weights
  rw [Tryz.underlying24]
  rfl
theorem exs_weights (l r : List (DataW H)) : ∀ d ∈ l, ∀ n ∈ d.weights Tryz.prog 24, n ∈ DataW.weights Tryz.prog 22 (.slice l r) := fun d hd n hn => by
  have e : DataW.weights Tryz.prog 22 (.slice l r) = (l.length + r.length) * Tryz.prog.bytesOf 24 :: (DataW.weightsAll Tryz.prog 24 l ++ DataW.weightsAll Tryz.prog 24 r) := by
    conv => lhs; unfold DataW.weights
    rw [Tryz.underlying22]
  rw [e]
  exact List.mem_cons_of_mem _ (List.mem_append_left _ (weightsAll_mem hd n hn))
theorem list4 {α : Type} {l : List α} (h : l.length = 4) : ∃ a b c d, l = [a, b, c, d] := by
  match l, h with
  | [a, b, c, d], _ => exact ⟨a, b, c, d, rfl⟩
theorem cellsEx : Tryz.prog.cellsOf 24 = 4 := by kernel_rfl
set_option maxRecDepth 100000 in
theorem rdE_open {w : World} : ∀ (fuel : Nat) (cs : List Value) (d : DataW H) (p : List MemPlace), DataW.trod enc Tryz.prog w 0 (fun _ => true) true fuel 24 cs = some (d, p) →
    ∃ e : Ex, RdE (fun b => b < w.heap.size) w e (.agg cs.toArray) ∧ ((∀ n ∈ d.weights Tryz.prog 24, n ≤ reachBytes) → okE bigM e) := by
  intro fuel
  induction fuel using Nat.strongRecOn with
  | ind fuel ih =>
    intro cs d p hf
    obtain ⟨xs, n, rfl, hx, hcl, hlen, hel⟩ := DataW.trod_struct Tryz.underlying24 hf
    obtain ⟨c0, c1, c2, c3, rfl⟩ := list4 (hcl.trans cellsEx)
    obtain ⟨x0, x1, x2, x3, rfl⟩ := list4 (show xs.length = 4 from hlen)
    simp only [Prod.mk.injEq, List.map_cons, List.map_nil] at hx
    obtain ⟨rfl, _⟩ := hx
    have k0 := hel 0 _ rfl
    have k1 := hel 1 _ rfl
    have k2 := hel 2 _ rfl
    have k3 := hel 3 _ rfl
    obtain ⟨k, e0, y0, _⟩ := DataW.trod_int Tryz.underlying3 (show DataW.trod enc Tryz.prog w 0 (fun _ => true) true n 3 [c0] = some x0 from k0)
    obtain ⟨s1, e1, y1, _⟩ := DataW.trod_string Tryz.underlying9 (show DataW.trod enc Tryz.prog w 0 (fun _ => true) true n 9 [c1] = some x1 from k1)
    obtain ⟨s2, e2, y2, _⟩ := DataW.trod_string Tryz.underlying9 (show DataW.trod enc Tryz.prog w 0 (fun _ => true) true n 9 [c2] = some x2 from k2)
    obtain rfl : c0 = .int .i64 k := by simpa using e0
    obtain rfl : c1 = .string s1 := by simpa using e1
    obtain rfl : c2 = .string s2 := by simpa using e2
    subst y0; subst y1; subst y2
    have k3' : DataW.trod enc Tryz.prog w 0 (fun _ => true) true n 22 [c3] = some x3 := k3
    rcases DataW.trod_slice Tryz.underlying22 k3' with ⟨hc, hx3⟩ | ⟨a, len, cap, elems, rest, m, hnm, hc, hx3, _, hlc, _, hel3, hat, _, _⟩
    · obtain rfl : c3 = .slice none 0 0 := by simpa using hc
      refine ⟨.mk k s1.data.toList s2.data.toList [], ?_, fun hw => ?_⟩
      · unfold RdE
        rw [bstr_back, bstr_back]
        exact ⟨none, 0, rfl, Nat.le_refl _, fun h => by simp at h⟩
      · unfold okE
        rw [ex_weights] at hw
        exact ⟨Nat.le_trans (hw _ (by simp [DataW.weights])) (by decide), Nat.le_trans (hw _ (by simp [DataW.weights])) (by decide), by unfold okL; trivial⟩
    · obtain rfl : c3 = .slice (some a) len cap := by simpa using hc
      subst hnm hx3
      have key : ∀ i, ∃ e : Ex, i < len → (∃ v0 v1 v2 v3, w.cell? ((a.add (i * 4)).add 0) = some v0 ∧ w.cell? ((a.add (i * 4)).add 1) = some v1 ∧ w.cell? ((a.add (i * 4)).add 2) = some v2 ∧ w.cell? ((a.add (i * 4)).add 3) = some v3 ∧ RdE (fun b => b < w.heap.size) w e (.agg #[v0, v1, v2, v3])) ∧
          ∃ y : DataW H × List MemPlace, elems[i]? = some y ∧ ((∀ n ∈ y.1.weights Tryz.prog 24, n ≤ reachBytes) → okE bigM e) := by
        intro i
        by_cases hil : i < len
        · have h1 := hat i hil
          have hy : elems[i]? = some (elems[i]'(by omega)) := List.getElem?_eq_getElem (by omega)
          rw [hy, cellsEx] at h1
          obtain ⟨cs', hc1, hc2⟩ := Option.bind_eq_some_iff.1 h1
          obtain ⟨_, hcl4, hcat⟩ := World.cells?_some hc1
          obtain ⟨v0, v1, v2, v3, rfl⟩ := list4 hcl4
          obtain ⟨e, he1, he2⟩ := ih m (by omega) _ (elems[i]'(by omega)).1 (elems[i]'(by omega)).2 hc2
          exact ⟨e, fun _ => ⟨⟨v0, v1, v2, v3, hcat 0 (by omega), hcat 1 (by omega), hcat 2 (by omega), hcat 3 (by omega), he1⟩, _, hy, he2⟩⟩
        · exact ⟨ex0, fun h => absurd h hil⟩
      obtain ⟨f, hf2⟩ := Classical.axiomOfChoice key
      have hlenf : ((List.range len).map f).length = len := by simp
      have hget : ∀ i, i < len → ((List.range len).map f).getD i ex0 = f i := fun i h => by
        rw [List.getD_eq_getElem?_getD, List.getElem?_map, List.getElem?_range h]; rfl
      refine ⟨.mk k s1.data.toList s2.data.toList ((List.range len).map f), ?_, fun hw => ?_⟩
      · unfold RdE
        rw [bstr_back, bstr_back, hlenf]
        refine ⟨some a, cap, rfl, hlc, fun h0 => ?_⟩
        obtain ⟨b, off, spot⟩ := a
        obtain ⟨v0, _, _, _, hc0, _⟩ := (hf2 0 h0).1
        have hspot : spot = none := by simpa [Addr.add] using World.cell?_spot hc0
        subst hspot
        have hb := World.block_lt_of_cell? w _ hc0
        refine ⟨b, off, rfl, by simpa [Addr.add] using hb, RdL.mk fun i hi => ?_⟩
        rw [hlenf] at hi
        rw [hget i hi]
        obtain ⟨v0, v1, v2, v3, g0, g1, g2, g3, g4⟩ := (hf2 i hi).1
        have ea : ∀ j, (((⟨b, off, none⟩ : Addr).add (i * 4)).add j) = ⟨b, off + i * 4 + j, none⟩ := fun j => by
          unfold Addr.add; split <;> split <;> simp_all
        rw [ea] at g0 g1 g2 g3
        exact ⟨v0, v1, v2, v3, g0, g1, g2, g3, g4⟩
      · unfold okE
        rw [ex_weights] at hw
        refine ⟨Nat.le_trans (hw _ (by simp [DataW.weights])) (by decide), Nat.le_trans (hw _ (by simp [DataW.weights])) (by decide), okL_mk fun i hi => ?_⟩
        rw [hlenf] at hi
        rw [hget i hi]
        obtain ⟨_, y, hy, hok⟩ := hf2 i hi
        refine hok fun n hn => hw n ?_
        have hm : y.1 ∈ elems.map (·.1) := List.mem_map.2 ⟨y, List.mem_of_getElem? hy, rfl⟩
        have := exs_weights (elems.map (·.1)) (rest.map (·.1)) y.1 hm n hn
        simp only [List.mem_append]
        exact .inr (.inr (.inr (.inl this)))
set_option maxRecDepth 100000 in
theorem expr_open {w : World} {base : Nat} {v : Value} {d : DataW H} {p : List MemPlace} (hv : Value.okWide Tryz.prog w .any base 24 v) (h : DataW.Trod enc Tryz.prog w 0 (fun _ => true) true 24 v d p) :
    ∃ e : Ex, RdE (fun b => b < w.heap.size) w e v ∧ ((∀ n ∈ d.weights Tryz.prog 24, n ≤ reachBytes) → okE bigM e) := by
  obtain ⟨cs, rfl, hsz⟩ := okWide_struct Tryz.underlying24 hv
  obtain ⟨fuel, hf⟩ := h
  obtain ⟨e, h1, h2⟩ := rdE_open fuel _ d p hf
  exact ⟨e, h1, h2⟩
end
end Go.Proofs.YtdnmgemjhpkekaaGreat
