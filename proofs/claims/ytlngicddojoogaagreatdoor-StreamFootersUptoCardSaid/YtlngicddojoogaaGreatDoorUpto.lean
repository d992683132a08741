/-
  What the bound of the second form gives; a slice of byte slices among the arguments reads as lists of bytes.
-/
import Derived.Test.YtlngicddojoogaaGreatDoorRowsOf
import Derived.Deep.Slices
namespace Go.Proofs.YtlngicddojoogaaGreatDoor
open Go.ChangeShapes Go.WideShapes Go.ChangeAt Go.RowKit

theorem addr_add (b off i : Nat) : (⟨b, off, none⟩ : Addr).add i = ⟨b, off + i, none⟩ := by unfold Addr.add; split <;> simp_all
theorem bulk_pos {H : Type} (d : DataW H) : 1 ≤ Rows.uptoBulk d := by
  cases d with
  | lit l => cases l <;> simp [Rows.uptoBulk]
  | nil => simp [Rows.uptoBulk]
  | ptr d => simp [Rows.uptoBulk]
  | slice elems spare => simp [Rows.uptoBulk]
  | agg parts => simp [Rows.uptoBulk]
  | iface t d => simp [Rows.uptoBulk]
  | map entries => simp [Rows.uptoBulk]
  | held h => simp [Rows.uptoBulk]
theorem bulk_len {H : Type} (l : List (DataW H)) : l.length ≤ Rows.uptoBulkAll l := by
  induction l with
  | nil => simp [Rows.uptoBulkAll]
  | cons x r ih => have := bulk_pos x; simp only [Rows.uptoBulkAll, List.length_cons]; omega
theorem bulk_part {H : Type} {d : DataW H} {l : List (DataW H)} (h : d ∈ l) : Rows.uptoBulk d ≤ Rows.uptoBulkAll l := by
  induction l with
  | nil => cases h
  | cons x r ih =>
    simp only [Rows.uptoBulkAll]
    cases List.mem_cons.1 h with
    | inl e => subst e; omega
    | inr e => have := ih e; omega
theorem bulk_slice {H : Type} (elems spare : List (DataW H)) : Rows.uptoBulkAll elems + 1 ≤ Rows.uptoBulk (.slice elems spare) := by
  simp only [Rows.uptoBulk]; omega
theorem bulk_bound {H : Type} {l : List (DataW H)} (hk : Rows.uptoSmall H l = true) : Rows.uptoBulkAll l ≤ 1048576 := of_decide_eq_true hk

theorem rd_open_bulk {H : Type} {enc : TypeId × Value → H} {w : World} {v : Value} {d : DataW H} {p : List MemPlace} {fuel : Nat}
    (hf : DataW.trod enc Tryz.prog w 0 (fun _ => true) true fuel 27 [v] = some (d, p)) : ∃ l, l.length ≤ Rows.uptoBulk d ∧ Rd w.heap.size w v l := by
  have hf0 := hf
  rcases open_ints Tryz.underlying27 Tryz.underlying5 (by kernel_rfl) hf with ⟨hcs, _⟩ | ⟨x, l, c, zs, hcs, _, hl, hm, hz, hx, hcell, hwz⟩
  · simp at hcs
    exact ⟨[], Nat.zero_le _, .inl ⟨_, hcs, rfl⟩⟩
  · simp at hcs
    subst hcs
    obtain ⟨l', hl', hr⟩ := rd_open (a := some x) (len := l) (cap := c) (enc := enc) (w := w) hf0
    refine ⟨l', ?_, hr⟩
    simp only [Prod.mk.injEq] at hx
    rw [hl', hx.1]
    have h1 := bulk_slice (lits (H := H) .u8 (zs.take l)) (lits .u8 (zs.drop l))
    have h2 := bulk_len (lits (H := H) .u8 (zs.take l))
    have h3 : (lits (H := H) .u8 (zs.take l)).length = l := by
      have hz' : zs.length = c := by simpa using hz
      simp [lits]; omega
    omega

theorem bulk_range {H : Type} (D : Nat → DataW H) (L : Nat → Nat) (N : Nat) (h : ∀ i, i < N → L i ≤ Rows.uptoBulk (D i)) : ∀ (n : Nat), n ≤ N → ((List.range n).map L).sum ≤ Rows.uptoBulkAll ((List.range n).map D) := by
  have app : ∀ (l r : List (DataW H)), Rows.uptoBulkAll (l ++ r) = Rows.uptoBulkAll l + Rows.uptoBulkAll r := by
    intro l r
    induction l with
    | nil => simp [Rows.uptoBulkAll]
    | cons x l ih => simp only [List.cons_append, Rows.uptoBulkAll, ih]; omega
  intro n
  induction n with
  | zero => simp [Rows.uptoBulkAll]
  | succ n ih =>
    intro hn
    have ih := ih (by omega)
    rw [List.range_succ, List.map_append, List.map_append, List.sum_append, app]
    have := h n (by omega)
    simp [Rows.uptoBulkAll]
    omega

/-- A slice of byte slices among the arguments. -/
theorem rdall_open {H : Type} {enc : TypeId × Value → H} {w : World} {a : Option Addr} {len cap : Nat} {d : DataW H} {p : List MemPlace} {fuel : Nat}
    (hf : DataW.trod enc Tryz.prog w 0 (fun _ => true) true fuel 42 (Value.slice a len cap).cells.toList = some (d, p)) :
    ∃ ls, ls.length = len ∧ RdAll w.heap.size w a ls ∧ total ls + len ≤ 2 * Rows.uptoBulk d := by
  rcases Deep.open_slice1 Tryz.underlying42 (by kernel_rfl) hf with ⟨hcs, _⟩ | ⟨x, l, c, m, n, V, D, Pl, hcs, _, hl, hm, hz, hx, hcell⟩
  · simp [Value.cells] at hcs
    obtain ⟨rfl, rfl, rfl⟩ := hcs
    exact ⟨[], rfl, fun h => absurd h (by simp), by simp [total]⟩
  · simp [Value.cells] at hcs
    obtain ⟨rfl, rfl, rfl⟩ := hcs
    simp only [Prod.mk.injEq] at hx
    have hm' : m = cap := by simpa using hz
    subst hm'
    obtain ⟨f, hf'⟩ := Classical.axiomOfChoice (r := fun (i : Nat) (l : List UInt8) => i < m → l.length ≤ Rows.uptoBulk (D i) ∧ Rd w.heap.size w (V i) l) (fun i => by
      by_cases hi : i < m
      · obtain ⟨l, h1, h2⟩ := rd_open_bulk (hcell i hi).2
        exact ⟨l, fun _ => ⟨h1, h2⟩⟩
      · exact ⟨[], fun h => absurd h hi⟩)
    have hll : ((List.range len).map f).length = len := by simp
    have hbulk : total ((List.range len).map f) ≤ Rows.uptoBulkAll ((List.range len).map D) := by
      unfold total
      rw [List.length_flatten, List.map_map]
      exact bulk_range D (List.length ∘ f) m (fun i hi => (hf' i hi).1) len hl
    have hlen2 := bulk_len ((List.range len).map D)
    have hsl := bulk_slice ((List.range len).map D) ((List.range (m - len)).map fun j => D (len + j))
    rw [← hx.1] at hsl
    refine ⟨(List.range len).map f, hll, fun hpos => ?_, by rw [List.length_map, List.length_range] at hlen2; omega⟩
    rw [hll] at hpos
    obtain ⟨b, off, spot⟩ := x
    have hc := (hcell 0 (by omega)).1
    have e0 : (⟨b, off, spot⟩ : Addr).add 0 = ⟨b, off, spot⟩ := by simp [Addr.add]
    rw [e0] at hc
    have hspot : spot = none := World.cell?_spot hc
    subst hspot
    have hb := World.block_lt_of_cell? w _ hc
    refine ⟨b, off, rfl, hb, fun i hi => ?_⟩
    rw [hll] at hi
    have e := addr_add b off i
    have hci := (hcell i (by omega)).1
    rw [e] at hci
    refine ⟨V i, hci, ?_⟩
    have hg : ((List.range len).map f).getD i [] = f i := by
      simp [List.getD_eq_getElem?_getD, hi]
    rw [hg]
    exact (hf' i (by omega)).2
end Go.Proofs.YtlngicddojoogaaGreatDoor
