/-
  Elements of several cells in a row of the call's own; what is kept of a list in order where neighbours with one key are made one.
-/
import Derived.Test.YtdnmgemjhpkekaaGreatOrS
import Derived.Test.YtdnmgemjhpkekaaGreatArr
import Derived.Lib.SliceRun
import Derived.Deep.LoopGhost
import Derived.Deep.Draws
import Derived.Deep.MidRow
import Derived.Sort.Grow
import Derived.Shelf.SlSortFuncK.RowK2
import Derived.Shelf.SlSortFuncK.ComposeK
import Derived.RegionTactic
import Derived.BigRegion
namespace Go.Proofs.YtdnmgemjhpkekaaGreat
open Go.ChangeShapes Go.WideShapes Go.ChangeAt Go.RowKit Go.Lib Go.Sort
set_option linter.unusedVariables false

section
variable {α : Type} [Inhabited α] {enc : α → List Value} {k : Nat} {w w' : World} {blk off : Nat} {d : Array α}
theorem rangeG (hk : ∀ x, (enc x).length = k) (h : HoldsK enc k w blk off d) {i : Nat} (hi : i < d.size) : w.rangeAt blk (off + i * k) (enc d[i]!) := fun j v hv => by
  have hj : j < k := by rw [← hk d[i]!]; exact (List.getElem?_eq_some_iff.1 hv).1
  rw [(HoldsK.cell h hi hj).1, List.getElem!_eq_getElem?_getD, hv]; rfl
theorem thereG (h : HoldsK enc k w blk off d) {i : Nat} (hi : i < d.size) : w.there blk (off + i * k) k := fun j hj => by
  obtain ⟨h1, h2⟩ := HoldsK.cell h hi hj
  rw [h1, h2]; exact ⟨rfl, rfl⟩
theorem setManyG (hk : ∀ x, (enc x).length = k) (hpos : 0 < k) (d : Array α) (i : Nat) (x : α) (hi : i < d.size) : setMany (flatK enc k d) (i * k) (enc x) = flatK enc k (d.setIfInBounds i x) := by
  refine ext_get! (by simp) fun t ht => ?_
  have ht' : t < d.size * k := by simpa using ht
  rw [get_setMany _ _ _ t (by simpa using ht'), get_flatK _ _ _ t ht', get_flatK _ _ _ t (by simpa using ht'), hk]
  by_cases a : t / k = i
  · rw [if_pos ((blk_iff k i t hpos).2 a)]
    subst a
    have := Nat.div_add_mod t k
    rw [Nat.mul_comm] at this
    rw [show t - t / k * k = t % k by omega, show (d.setIfInBounds (t / k) x)[t / k]! = x by simp [hi]]
  · rw [if_neg (fun h => a ((blk_iff k i t hpos).1 h)), getElem!_set_other d i (t / k) x a]
theorem mul_room {i k n : Nat} (h : i < n) : i * k + k ≤ n * k := by
  have := Nat.mul_le_mul_right k (show i + 1 ≤ n from h)
  rwa [Nat.succ_mul] at this
/-- A store of an element into the row. -/
theorem putG (hk : ∀ x, (enc x).length = k) (hpos : 0 < k) (h : HoldsK enc k w blk off d) {i : Nat} (hi : i < d.size) (x : α) : HoldsK enc k (w.setCells blk (off + i * k) (enc x)) blk off (d.setIfInBounds i x) := by
  have e : w.setCells blk (off + i * k) (enc x) = putRowK enc k w blk off (d.setIfInBounds i x) := by
    conv => lhs; rw [← putRowK_self enc k w blk off d h]
    unfold putRowK
    rw [setCells_putRow _ _ _ _ _ _ (by rw [hk, size_flatK]; exact mul_room hi), setManyG hk hpos d i x hi]
  rw [e]
  exact holdsK_putRowK enc k w blk off d _ h (by simp)
theorem setCells_appG (b : Nat) : ∀ (xs ys : List Value) (o : Nat) (w : World), w.setCells b o (xs ++ ys) = (w.setCells b o xs).setCells b (o + xs.length) ys
  | [], ys, o, w => by simp [World.setCells]
  | v :: r, ys, o, w => by
    rw [List.cons_append, World.setCells, World.setCells, setCells_appG b r ys (o + 1), List.length_cons, show o + 1 + r.length = o + (r.length + 1) by omega]
theorem putsG (hk : ∀ x, (enc x).length = k) (hpos : 0 < k) : ∀ (xs : List α) (d : Array α) (j : Nat) (w : World), HoldsK enc k w blk off d → j + xs.length ≤ d.size →
    ∃ d' : Array α, HoldsK enc k (w.setCells blk (off + j * k) (xs.flatMap enc)) blk off d' ∧ d'.size = d.size ∧ ∀ i, i < j → d'[i]! = d[i]!
  | [], d, j, w, h, _ => ⟨d, h, rfl, fun _ _ => rfl⟩
  | x :: r, d, j, w, h, hl => by
    have hl' : j + (r.length + 1) ≤ d.size := by simpa using hl
    obtain ⟨d', h1, h2, h3⟩ := putsG hk hpos r (d.setIfInBounds j x) (j + 1) _ (putG hk hpos h (by omega) x) (by simp; omega)
    refine ⟨d', ?_, by rw [h2]; simp, fun i hi => ?_⟩
    · rw [List.flatMap_cons, setCells_appG, hk, show off + j * k + k = off + (j + 1) * k by rw [Nat.succ_mul]; omega]
      exact h1
    · rw [h3 i (by omega), getElem!_set_other d j i x (by omega)]
theorem grown_cells (g : Nat) : ∀ (xs : List Value) (o : Nat) (w : World), w.grownBy (w.setCells g o xs) (some g)
  | [], o, w => ⟨rfl, rfl, rfl, Nat.le_refl _, fun _ _ _ => rfl⟩
  | v :: r, o, w => by
    have h := grown_cells g r (o + 1) (w.setCell ⟨g, o, none⟩ v)
    refine ⟨h.os, h.tape, h.output, ?_, fun k hk hne => ?_⟩
    · have := h.size
      simp [World.setCells, World.setCell] at this ⊢
      try omega
    · rw [World.setCells, h.block k (by simpa [World.setCell] using hk) hne]
      exact Below.heap_setCell _ _ _ _ (fun e => hne (by rw [e]))
theorem grown_refl (w : World) (g : Nat) : w.grownBy w (some g) := ⟨rfl, rfl, rfl, Nat.le_refl _, fun _ _ _ => rfl⟩
theorem grown_tr {w1 w2 : World} {g : Nat} (a : w.grownBy w1 (some g)) (b : w1.grownBy w2 (some g)) : w.grownBy w2 (some g) :=
  ⟨b.os.trans a.os, b.tape.trans a.tape, b.output.trans a.output, Nat.le_trans a.size b.size, fun k hk hne => (b.block k (Nat.lt_of_lt_of_le hk a.size) hne).trans (a.block k hk hne)⟩
theorem grown_below {w1 w2 : World} {g : Nat} (a : w.grownBy w1 (some g)) (b : Below w1.heap.size w1 w2) : w.grownBy w2 (some g) :=
  grown_tr a ⟨b.os, b.tape, b.output, b.size, fun k hk _ => b.block k hk⟩
theorem holdsK_below (h : HoldsK enc k w blk off d) (hb : blk < w.heap.size) (hB : Below w.heap.size w w') : HoldsK enc k w' blk off d := fun j hj => by
  have := h j hj
  unfold World.cell? World.frozen? at this ⊢
  rw [hB.block blk hb]
  exact this
end

section
variable {α β : Type} [Inhabited α] [DecidableEq β]
/-- Of the first m elements those that are first or whose key is another than that of the one before. -/
def kpS (key : α → β) (d : Array α) : Nat → List α
  | 0 => []
  | m + 1 => kpS key d m ++ (if m = 0 ∨ key d[m]! ≠ key d[m - 1]! then [d[m]!] else [])
theorem kpS_yes {key : α → β} {d : Array α} {m : Nat} (h : key d[m]! ≠ key d[m - 1]!) : kpS key d (m + 1) = kpS key d m ++ [d[m]!] := by rw [kpS, if_pos (.inr h)]
theorem kpS_no {key : α → β} {d : Array α} {m : Nat} (hm : 0 < m) (h : key d[m]! = key d[m - 1]!) : kpS key d (m + 1) = kpS key d m := by
  rw [kpS, if_neg (fun e => e.elim (fun e => by omega) fun e => e h), List.append_nil]
theorem kpS_len (key : α → β) (d : Array α) : ∀ m, (kpS key d m).length ≤ m
  | 0 => Nat.le_refl _
  | m + 1 => by
    have := kpS_len key d m
    rw [kpS, List.length_append]
    split <;> simp <;> omega
/-- Where no neighbours have one key, all are kept. -/
theorem kpS_all {key : α → β} {d : Array α} : ∀ {m : Nat}, (∀ j, 0 < j → j < m → key d[j]! ≠ key d[j - 1]!) → (kpS key d m).length = m ∧ ∀ j, j < m → (kpS key d m)[j]? = some d[j]!
  | 0, _ => ⟨rfl, fun j hj => by omega⟩
  | m + 1, h => by
    obtain ⟨h1, h2⟩ := kpS_all (m := m) fun j h0 hj => h j h0 (by omega)
    have e : kpS key d (m + 1) = kpS key d m ++ [d[m]!] := by
      rw [kpS, if_pos]
      by_cases e : m = 0
      · exact .inl e
      · exact .inr (h m (by omega) (by omega))
    rw [e]
    refine ⟨by simp [h1], fun j hj => ?_⟩
    by_cases hm : j < m
    · rw [List.getElem?_append_left (by rw [h1]; exact hm), h2 j hm]
    · obtain rfl : j = m := by omega
      rw [List.getElem?_append_right (by omega), h1, Nat.sub_self]; rfl
/-- The second loop: m elements have been looked at, kk of them are kept at the row's head; behind them the row is as it was. -/
structure KI (key : α → β) (d : Array α) (m kk : Nat) (dk : Array α) : Prop where
  size : dk.size = d.size
  len : (kpS key d m).length = kk
  lt : kk < m
  low : ∀ j, j < kk → (kpS key d m)[j]? = some dk[j]!
  high : ∀ j, kk ≤ j → dk[j]! = d[j]!
theorem KI.start {key : α → β} {d : Array α} {k0 : Nat} (h0 : 0 < k0) (hall : ∀ j, 0 < j → j < k0 → key d[j]! ≠ key d[j - 1]!) (hdup : key d[k0]! = key d[k0 - 1]!) : KI key d (k0 + 1) k0 d where
  size := rfl
  len := by rw [kpS_no h0 hdup]; exact (kpS_all hall).1
  lt := Nat.lt_succ_self _
  low := fun j hj => by rw [kpS_no h0 hdup]; exact (kpS_all hall).2 j hj
  high := fun _ _ => rfl
theorem KI.keep {key : α → β} {d dk : Array α} {m kk : Nat} (h : KI key d m kk dk) (hm : m < d.size) (hk : key d[m]! ≠ key d[m - 1]!) : KI key d (m + 1) (kk + 1) (dk.setIfInBounds kk d[m]!) where
  size := by simp [h.size]
  len := by rw [kpS_yes hk]; simp [h.len]
  lt := by have := h.lt; omega
  low := fun j hj => by
    rw [kpS_yes hk]
    by_cases e : j = kk
    · subst e
      rw [List.getElem?_append_right (by rw [h.len]; exact Nat.le_refl _), h.len, Nat.sub_self, getElem!_set_same dk j _ (by have := h.lt; have := h.size; omega)]
      rfl
    · rw [List.getElem?_append_left (by rw [h.len]; omega), h.low j (by omega), getElem!_set_other dk kk j _ e]
  high := fun j hj => by rw [getElem!_set_other dk kk j _ (by omega), h.high j (by omega)]
theorem KI.skip {key : α → β} {d dk : Array α} {m kk : Nat} (h : KI key d m kk dk) (hk : key d[m]! = key d[m - 1]!) : KI key d (m + 1) kk dk := by
  have h0 : 0 < m := by have := h.lt; omega
  exact ⟨h.size, by rw [kpS_no h0 hk]; exact h.len, by have := h.lt; omega, fun j hj => by rw [kpS_no h0 hk]; exact h.low j hj, h.high⟩
/-- Of a list in order: its keys, in order, each one once. -/
theorem kpS_rises {o : β → β → Int} (H : OrdL o) {key : α → β} {d : Array α} (hs : ∀ i j, i < j → j < d.size → ¬ 0 < o (key d[i]!) (key d[j]!)) :
    ∀ m, m < d.size → ∃ pre, (kpS key d (m + 1)).map key = pre ++ [key d[m]!] ∧ RisO o (pre ++ [key d[m]!]) ∧ ∀ x, x ∈ (pre ++ [key d[m]!]) ↔ ∃ j, j ≤ m ∧ key d[j]! = x
  | 0, _ => ⟨[], by simp [kpS], by simp [RisO], fun x => by
      simp only [List.nil_append, List.mem_singleton, Nat.le_zero]
      exact ⟨fun e => ⟨0, rfl, e.symm⟩, fun ⟨j, h1, h2⟩ => by subst h1; exact h2.symm⟩⟩
  | m + 1, hm => by
    obtain ⟨pre, h1, h2, h3⟩ := kpS_rises H hs m (by omega)
    by_cases e : key d[m + 1]! = key d[m]!
    · refine ⟨pre, by rw [kpS_no (by omega) (by simpa using e), h1, e], by rw [e]; exact h2, fun x => ?_⟩
      rw [e, h3]
      constructor
      · rintro ⟨j, hj, hx⟩; exact ⟨j, by omega, hx⟩
      · rintro ⟨j, hj, hx⟩
        by_cases ej : j = m + 1
        · subst ej; exact ⟨m, Nat.le_refl _, e ▸ hx⟩
        · exact ⟨j, by omega, hx⟩
    · have hlt : o (key d[m]!) (key d[m + 1]!) < 0 := by
        have h4 := hs m (m + 1) (by omega) hm
        have h5 : o (key d[m]!) (key d[m + 1]!) ≠ 0 := fun h => e (H.eq h).symm
        omega
      refine ⟨pre ++ [key d[m]!], by rw [kpS_yes (by simpa using e), List.map_append, h1]; rfl, ?_, fun x => ?_⟩
      · refine List.pairwise_append.2 ⟨h2, List.pairwise_singleton _ _, fun x hx y hy => ?_⟩
        rw [List.mem_singleton] at hy
        subst hy
        rcases List.mem_append.1 hx with h | h
        · exact H.up ((List.pairwise_append.1 h2).2.2 x h _ (List.mem_singleton.2 rfl)) hlt
        · rw [List.mem_singleton] at h; subst h; exact hlt
      · rw [List.mem_append, h3, List.mem_singleton]
        constructor
        · rintro (⟨j, hj, hx⟩ | hx)
          · exact ⟨j, by omega, hx⟩
          · exact ⟨m + 1, Nat.le_refl _, hx.symm⟩
        · rintro ⟨j, hj, hx⟩
          by_cases ej : j = m + 1
          · subst ej; exact .inr hx.symm
          · exact .inl ⟨j, by omega, hx⟩
theorem kpS_sorted {o : β → β → Int} (H : OrdL o) {key : α → β} {d : Array α} {l : List β} (hs : ∀ i j, i < j → j < d.size → ¬ 0 < o (key d[i]!) (key d[j]!)) (hm : ∀ x, (∃ j, j < d.size ∧ key d[j]! = x) ↔ x ∈ l) :
    (kpS key d d.size).map key = sortedO o l := by
  refine ris_extO H ?_ (sorted_risO H l) fun x => ?_
  · rcases hn : d.size with _ | n
    · simp [kpS, RisO]
    · obtain ⟨pre, h1, h2, _⟩ := kpS_rises H hs n (by omega)
      rw [h1]; exact h2
  · rw [sorted_memO H, ← hm]
    rcases hn : d.size with _ | n
    · simp [kpS]
    · obtain ⟨pre, h1, _, h3⟩ := kpS_rises H hs n (by omega)
      rw [h1, h3]
      constructor
      · rintro ⟨j, hj, hx⟩; exact ⟨j, by omega, hx⟩
      · rintro ⟨j, hj, hx⟩; exact ⟨j, by omega, hx⟩
end
end Go.Proofs.YtdnmgemjhpkekaaGreat
