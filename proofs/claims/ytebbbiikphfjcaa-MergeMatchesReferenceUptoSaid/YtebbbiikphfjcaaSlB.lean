/-
  What the bound of the second form says of the tuples and of the lists of tuples among the arguments.
-/
import Derived.Test.YtebbbiikphfjcaaTuOs
import Derived.Test.YtebbbiikphfjcaaRows
namespace Go.Proofs.Ytebbbiikphfjcaa
open Go.ChangeShapes Go.WideShapes Go.ChangeAt Go.RowKit Go.Deep
set_option linter.unusedVariables false
theorem bulk_pos {H : Type} (d : DataW H) : 1 ≤ Rows.uptoBulk d := by
  cases d with
  | lit l => cases l <;> simp [Rows.uptoBulk]
  | nil => simp [Rows.uptoBulk]
  | ptr d => simp [Rows.uptoBulk]
  | slice elems spare => simp [Rows.uptoBulk]
  | agg parts => simp [Rows.uptoBulk]
  | iface t d => simp [Rows.uptoBulk]
  | map entries => simp [Rows.uptoBulk]
  | held h => simp [Rows.uptoBulk]
theorem bulk_len {H : Type} (l : List (DataW H)) : l.length ≤ Rows.uptoBulkAll l := by
  induction l with
  | nil => simp [Rows.uptoBulkAll]
  | cons x r ih => have := bulk_pos x; simp only [Rows.uptoBulkAll, List.length_cons]; omega
theorem bulk_part {H : Type} {d : DataW H} {l : List (DataW H)} (h : d ∈ l) : Rows.uptoBulk d ≤ Rows.uptoBulkAll l := by
  induction l with
  | nil => cases h
  | cons x r ih =>
    simp only [Rows.uptoBulkAll]
    cases List.mem_cons.1 h with
    | inl e => subst e; omega
    | inr e => have := ih e; omega
theorem bulk_slice {H : Type} (elems spare : List (DataW H)) : Rows.uptoBulkAll elems + 1 ≤ Rows.uptoBulk (.slice elems spare) := by
  simp only [Rows.uptoBulk]; omega
theorem bulk_bound {H : Type} {l : List (DataW H)} (hk : Rows.uptoSmall H l = true) : Rows.uptoBulkAll l ≤ 1048576 := of_decide_eq_true hk

section
variable {H : Type} {enc : TypeId × Value → H}
theorem sl_openB {α : Type} (inh : α) {T E : TypeId} {k : Nat} (c : α → List Value) (hc : ∀ t, (c t).length = k) (hk : 0 < k) (R Sz : α → Prop) {w : World} (hT : Try.prog.underlying T = some (.slice E)) (hC : Try.prog.cellsOf E = k) 
    (hE : ∀ (fuel : Nat) (cs : List Value) (d : DataW H) (p : List MemPlace), cs.length = k → DataW.trod enc Try.prog w 0 (fun _ => true) true fuel E cs = some (d, p) → ∃ t, cs = c t ∧ R t ∧ (Rows.uptoBulk d ≤ 1048576 → Sz t))
    {v : Value} {d : DataW H} {p : List MemPlace} {fuel : Nat} (hf : DataW.trod enc Try.prog w 0 (fun _ => true) true fuel T [v] = some (d, p)) :
    ∃ l : List α, RdS c w v l ∧ (∀ t ∈ l, R t) ∧ (Rows.uptoBulk d ≤ 1048576 → l.length ≤ 1048576 ∧ ∀ t ∈ l, Sz t) := by
  rcases open_slice hT hf with ⟨hcs, hx⟩ | ⟨a, len, cap, m, n, D, Pl, hcs, _, hlc, hcm, hm, hx, hi⟩
  · obtain rfl : v = .slice none 0 0 := by simpa using hcs
    exact ⟨[], .inl ⟨rfl, rfl⟩, fun t ht => absurd ht List.not_mem_nil, fun _ => ⟨by simp, fun t ht => absurd ht List.not_mem_nil⟩⟩
  · obtain rfl : v = .slice (some a) len cap := by simpa using hcs
    simp only [if_true] at hm
    subst hm
    have key : ∀ i, ∃ t : α, i < len → w.cells? 0 (a.add (i * k)) k = some (c t) ∧ R t ∧ (Rows.uptoBulk (D i) ≤ 1048576 → Sz t) := by
      intro i
      by_cases hil : i < len
      · obtain ⟨cs', h1, h2⟩ := hi i (by omega)
        rw [hC] at h1
        obtain ⟨t, rfl, hr, hs⟩ := hE _ _ _ _ (World.cells?_some h1).2.1 h2
        exact ⟨t, fun _ => ⟨h1, hr, hs⟩⟩
      · exact ⟨inh, fun h => absurd h hil⟩
    obtain ⟨f, hf2⟩ := Classical.axiomOfChoice key
    have hlen : ((List.range len).map f).length = len := by simp
    refine ⟨(List.range len).map f, .inr ⟨a, m, by rw [hlen], by rw [hlen]; omega, fun h0 => ?_⟩, fun t ht => ?_, fun hw => ⟨?_, fun t ht => ?_⟩⟩
    · rw [hlen] at h0
      obtain ⟨b, off, spot⟩ := a
      have hat0 := (World.cells?_some (hf2 0 h0).1).2.2 0 hk
      have hc0 : w.cell? (Addr.add ⟨b, off, spot⟩ 0) = (c (f 0))[0]? := by
        rw [← hat0, Go.Deep.add_add, Nat.zero_mul]
      rw [List.getElem?_eq_getElem (by rw [hc]; exact hk)] at hc0
      have hspot : spot = none := by simpa [Addr.add] using World.cell?_spot hc0
      subst hspot
      have hb := World.block_lt_of_cell? w _ hc0
      refine ⟨b, off, rfl, by simpa [Addr.add] using hb, fun j u hu => ?_⟩
      rw [flat_getK hc hk] at hu
      obtain ⟨x, hx1, hx2⟩ := Option.bind_eq_some_iff.1 hu
      have hlt : j / k < len := by rw [← hlen]; exact (List.getElem?_eq_some_iff.1 hx1).1
      rw [List.getElem?_map, List.getElem?_range hlt] at hx1
      obtain rfl : f (j / k) = x := by simpa using hx1
      have hat := (World.cells?_some (hf2 _ hlt).1).2.2 (j % k) (Nat.mod_lt _ hk)
      rw [hx2] at hat
      have hj : j / k * k + j % k = j := by rw [Nat.mul_comm]; exact Nat.div_add_mod j k
      rw [← hat, Go.Deep.add_add, hj, show (Addr.add ⟨b, off, none⟩ j) = ⟨b, off + j, none⟩ by cases j <;> simp [Addr.add]]
    · obtain ⟨i, hi1, rfl⟩ := List.mem_map.1 ht
      exact (hf2 i (List.mem_range.1 hi1)).2.1
    · obtain ⟨rfl, _⟩ := Prod.mk.inj hx
      have h1 := bulk_slice ((List.range len).map D) ((List.range (m - len)).map fun j => D (len + j))
      have h2 := bulk_len ((List.range len).map D)
      rw [hlen]
      simp only [List.length_map, List.length_range] at h2
      omega
    · obtain ⟨i, hi1, rfl⟩ := List.mem_map.1 ht
      obtain ⟨rfl, _⟩ := Prod.mk.inj hx
      have h1 := bulk_slice ((List.range len).map D) ((List.range (m - len)).map fun j => D (len + j))
      have h2 := bulk_part (List.mem_map.2 ⟨i, hi1, rfl⟩ : D i ∈ (List.range len).map D)
      exact (hf2 i (List.mem_range.1 hi1)).2.2 (by omega)
set_option maxRecDepth 100000 in
theorem tu_trodB {w : World} (fuel : Nat) (cs : List Value) (d : DataW H) (p : List MemPlace) (hl : cs.length = 6) (hf' : DataW.trod enc Try.prog w 0 (fun _ => true) true fuel 34 cs = some (d, p)) :
    ∃ t : Tu, cs = tc t ∧ True ∧ (Rows.uptoBulk d ≤ 1048576 → sizesT t 1048576) := by
  obtain ⟨xs, n, _, hx, _, hlen, hel⟩ := DataW.trod_struct Try.underlying34 hf'
  obtain ⟨c0, c1, c2, c3, c4, c5, rfl⟩ : ∃ c0 c1 c2 c3 c4 c5, cs = [c0, c1, c2, c3, c4, c5] := by
    match cs, hl with
    | [c0, c1, c2, c3, c4, c5], _ => exact ⟨c0, c1, c2, c3, c4, c5, rfl⟩
  obtain ⟨x0, x1, x2, x3, rfl⟩ := list4 (show xs.length = 4 from hlen)
  have k0 := hel 0 _ rfl
  have k1 := hel 1 _ rfl
  have k2 := hel 2 _ rfl
  have k3 := hel 3 _ rfl
  obtain ⟨y0, y1, m0, hx0, _, q0, q1⟩ := trod_struct2 Try.underlying32 (show DataW.trod enc Try.prog w 0 (fun _ => true) true n 32 [c0, c1] = some x0 from k0)
  obtain ⟨s2, e2, rfl, _⟩ := DataW.trod_string Try.underlying9 (show DataW.trod enc Try.prog w 0 (fun _ => true) true n 9 [c2] = some x1 from k1)
  obtain ⟨y3, y4, m2, hx2, _, q3, q4⟩ := trod_struct2 Try.underlying32 (show DataW.trod enc Try.prog w 0 (fun _ => true) true n 32 [c3, c4] = some x2 from k2)
  obtain ⟨s5, e5, rfl, _⟩ := DataW.trod_string Try.underlying9 (show DataW.trod enc Try.prog w 0 (fun _ => true) true n 9 [c5] = some x3 from k3)
  obtain ⟨s0, e0, rfl, _⟩ := DataW.trod_string Try.underlying9 (show DataW.trod enc Try.prog w 0 (fun _ => true) true m0 9 [c0] = some y0 from q0)
  obtain ⟨s1, e1, rfl, _⟩ := DataW.trod_string Try.underlying9 (show DataW.trod enc Try.prog w 0 (fun _ => true) true m0 9 [c1] = some y1 from q1)
  obtain ⟨s3, e3, rfl, _⟩ := DataW.trod_string Try.underlying9 (show DataW.trod enc Try.prog w 0 (fun _ => true) true m2 9 [c3] = some y3 from q3)
  obtain ⟨s4, e4, rfl, _⟩ := DataW.trod_string Try.underlying9 (show DataW.trod enc Try.prog w 0 (fun _ => true) true m2 9 [c4] = some y4 from q4)
  subst hx0 hx2
  obtain rfl : c0 = .string s0 := by simpa using e0
  obtain rfl : c1 = .string s1 := by simpa using e1
  obtain rfl : c2 = .string s2 := by simpa using e2
  obtain rfl : c3 = .string s3 := by simpa using e3
  obtain rfl : c4 = .string s4 := by simpa using e4
  obtain rfl : c5 = .string s5 := by simpa using e5
  refine ⟨⟨s0, s1, s2, s3, s4, s5⟩, rfl, trivial, fun hw => ?_⟩
  have hd := congrArg Prod.fst hx
  simp only [List.map_cons, List.map_nil] at hd
  subst hd
  simp only [Rows.uptoBulk, Rows.uptoBulkAll, Array.length_toList] at hw
  simp at hw
  exact ⟨by show s0.size ≤ _; omega, by show s1.size ≤ _; omega, by show s2.size ≤ _; omega, by show s3.size ≤ _; omega, by show s4.size ≤ _; omega, by show s5.size ≤ _; omega⟩
set_option maxRecDepth 100000 in
theorem tus_openB {w : World} {base : Nat} {v : Value} {d : DataW H} {p : List MemPlace} (hv : Value.okWide Try.prog w .any base 24 v) (h : DataW.Trod enc Try.prog w 0 (fun _ => true) true 24 v d p) :
    ∃ l : List Tu, TuRd w v l ∧ (Rows.uptoBulk d ≤ 1048576 → l.length ≤ 1048576 ∧ ∀ t ∈ l, sizesT t 1048576) := by
  obtain ⟨a, len, cap, rfl⟩ := okWide_slice Try.underlying24 hv
  obtain ⟨fuel, hf⟩ := h
  obtain ⟨l, h1, _, h2⟩ := sl_openB t0 tc tc_length (by decide) (fun _ => True) (fun t => sizesT t 1048576) Try.underlying24 (by kernel_rfl) tu_trodB (show DataW.trod enc Try.prog w 0 (fun _ => true) true fuel 24 [.slice a len cap] = some (d, p) from hf)
  exact ⟨l, h1, h2⟩
end
end Go.Proofs.Ytebbbiikphfjcaa
