/-
  slices.Compact at a slice of tuples.
-/
import Derived.Test.YtebbbiikphfjcaaTuB
import Derived.Test.YtebbbiikphfjcaaTuD
import Derived.Test.YtebbbiikphfjcaaArr
import Derived.Lib.SlicesCompact
import Derived.Lib.SliceRun
import Derived.Deep.LoopGhost
import Derived.Deep.Draws
import Derived.Deep.MidRow
import Derived.Laws.StructEq
import Derived.Shelf.SlSortFuncK.RowK2
import Derived.Shelf.SlSortFuncK.ComposeK
import Derived.RegionTactic
import Derived.BigRegion
namespace Go.Proofs.Ytebbbiikphfjcaa
open Go.ChangeShapes Go.WideShapes Go.ChangeAt Go.RowKit Go.Lib Go.Sort
set_option linter.unusedVariables false

instance : Inhabited Tu := ⟨t0⟩
instance : DecidableEq Tu := fun a b => if h : eqT a b = true then .isTrue ((eqT_iff a b).1 h) else .isFalse fun e => h ((eqT_iff a b).2 e)
theorem HoldsK.rangeT {w : World} {blk off : Nat} {d : Array Tu} (h : HoldsK tc 6 w blk off d) {i : Nat} (hi : i < d.size) : w.rangeAt blk (off + i * 6) (tc d[i]!) := fun j v hv => by
  have hj : j < 6 := (List.getElem?_eq_some_iff.1 hv).1
  rw [(HoldsK.cell h hi hj).1, List.getElem!_eq_getElem?_getD, hv]; rfl
theorem HoldsK.thereT {w : World} {blk off : Nat} {d : Array Tu} (h : HoldsK tc 6 w blk off d) {i : Nat} (hi : i < d.size) : w.there blk (off + i * 6) 6 := fun j hj => by
  obtain ⟨h1, h2⟩ := HoldsK.cell h hi hj
  rw [h1, h2]; exact ⟨rfl, rfl⟩
theorem setManyT (d : Array Tu) (i : Nat) (x : Tu) (hi : i < d.size) : setMany (flatK tc 6 d) (i * 6) (tc x) = flatK tc 6 (d.setIfInBounds i x) := by
  refine ext_get! (by simp) fun t ht => ?_
  have ht' : t < d.size * 6 := by simpa using ht
  rw [get_setMany _ _ _ t (by simpa using ht'), get_flatK _ _ _ t ht', get_flatK _ _ _ t (by simpa using ht')]
  rw [show (tc x).length = 6 from rfl]
  by_cases a : t / 6 = i
  · rw [if_pos ((blk_iff 6 i t (by omega)).2 a)]
    subst a
    rw [show t - t / 6 * 6 = t % 6 by omega, show (d.setIfInBounds (t / 6) x)[t / 6]! = x by simp [hi]]
  · rw [if_neg (fun h => a ((blk_iff 6 i t (by omega)).1 h)), getElem!_set_other d i (t / 6) x a]
theorem putRowT_set (w : World) (blk off : Nat) (d : Array Tu) (i : Nat) (x : Tu) (hi : i < d.size) : (putRowK tc 6 w blk off d).setCells blk (off + i * 6) (tc x) = putRowK tc 6 w blk off (d.setIfInBounds i x) := by
  unfold putRowK
  rw [setCells_putRow _ _ _ _ _ _ (by rw [show (tc x).length = 6 from rfl, size_flatK]; omega), setManyT d i x hi]
theorem setCells_appT (b : Nat) : ∀ (xs ys : List Value) (o : Nat) (w : World), w.setCells b o (xs ++ ys) = (w.setCells b o xs).setCells b (o + xs.length) ys
  | [], ys, o, w => by simp [World.setCells]
  | v :: r, ys, o, w => by
    rw [List.cons_append, World.setCells, World.setCells, setCells_appT b r ys (o + 1), List.length_cons, show o + 1 + r.length = o + (r.length + 1) by omega]
theorem putRowT_lay (w : World) (blk off : Nat) : ∀ (xs : List Tu) (d : Array Tu) (k : Nat), k + xs.length ≤ d.size → (putRowK tc 6 w blk off d).setCells blk (off + k * 6) (xs.flatMap tc) = putRowK tc 6 w blk off (lay d k xs)
  | [], _, _, _ => rfl
  | x :: r, d, k, h => by
    have hl : k + (r.length + 1) ≤ d.size := by simpa using h
    rw [List.flatMap_cons, setCells_appT, putRowT_set _ _ _ _ _ _ (by omega), show (tc x).length = 6 from rfl, show off + k * 6 + 6 = off + (k + 1) * 6 by omega, putRowT_lay w blk off r _ (k + 1) (by simp; omega)]
    rfl
theorem zerosT (n : Nat) : (List.replicate n t0).flatMap tc = List.replicate (n * 6) (.string ⟨#[]⟩) := by
  induction n with
  | zero => rfl
  | succ n ih =>
    rw [List.replicate_succ, List.flatMap_cons, ih, show (n + 1) * 6 = 6 + n * 6 by omega, ← List.replicate_append_replicate]
    rfl
theorem zeroCellsT (n : Nat) : (Builtin.zeroCells (tc t0).toArray n).toList = List.replicate (n * 6) (.string ⟨#[]⟩) := by
  refine List.eq_replicate_iff.2 ⟨by simp [Builtin.zeroCells, tc], fun b hb => ?_⟩
  simp only [Builtin.zeroCells, Array.toList_map, List.mem_map] at hb
  obtain ⟨i, _, rfl⟩ := hb
  have : i % (tc t0).toArray.size < 6 := Nat.mod_lt _ (by decide)
  generalize i % (tc t0).toArray.size = m at this ⊢
  rcases m with _ | _ | _ | _ | _ | _ | m <;> first | rfl | omega
/-- clear, at a slice of tuples. -/
theorem run_clearT (w : World) (ty : TypeId) (b o n c : Nat) (hn : 0 < n) (hT : ∀ i, i < n → w.there b (o + i * 6) 6) :
    (Builtin.clear_ #[24] ty #[.slice (some ⟨b, o, none⟩) n c]).run Try.prog w = .ok (.tuple #[]) (w.setCells b o ((List.replicate n t0).flatMap tc)) := by
  have hv : ∀ w, (zeroValue 34).run Try.prog w = .ok (tuV t0) w := fun w => by kernel_rfl
  have ht : ∀ j, j < n * 6 → (w.cell? ⟨b, o + j, none⟩).isSome = true ∧ w.frozen? ⟨b, o + j, none⟩ = false := fun j hj => by
    have := hT (j / 6) (by omega) (j % 6) (by omega)
    rwa [show o + j / 6 * 6 + j % 6 = o + j by omega] at this
  have hst := run_storeCells_cells (P := Try.prog) b o (List.replicate (n * 6) (.string ⟨#[]⟩)) 0 w (fun j hj => (ht j (by simpa using hj)).1) (fun j hj => (ht j (by simpa using hj)).2) (by intro v hv'; rw [List.eq_of_mem_replicate hv']; rfl)
  simp only [Nat.add_zero] at hst
  rw [zerosT]
  have hz := zeroCellsT n
  obtain ⟨m, rfl⟩ : ∃ m, n = m + 1 := ⟨n - 1, by omega⟩
  simp only [Builtin.clear_]
  simp only [List.size_toArray, List.length_cons, List.length_nil, getElem?_pos, List.getElem_toArray, List.getElem_cons_zero, Nat.zero_add, Nat.lt_add_one, Sem.run_bind, run_underlying Try.underlying24, Result.andThen_ok, hv, Value.cells, hz, hst, Sem.run_pure]
section
variable {ops : Array Oper} {rest : List Oper} {o : Oper} {a : Act} {Q : Exit → Act → World → Prop} {w : World} {b off : Nat} {x y : Operand} {u v : Tu}
theorem loadM (hr : w.rangeAt b off (tc u)) (hs : o.guard = none ∧ o.op = .load 34 x ∧ a.eval x = .pointer (some ⟨b, off, none⟩))
    (hk : wpList Try.prog ops Q rest (a.put o.dst (tuV u)) w) : wpList Try.prog ops Q (o :: rest) a w :=
  wpList_load_mid hs.1 _ x hs.2.1 b off hs.2.2 _ _ hr Try.underlying34 rfl (by kernel_rfl) hk
theorem stillM {Q' : Act → Prop} (hr : w.rangeAt b off (tc u)) (hs : o.guard = none ∧ o.op = .load 34 x ∧ a.eval x = .pointer (some ⟨b, off, none⟩))
    (hk : wpStill Try.prog ops w Q' rest (a.put o.dst (tuV u))) : wpStill Try.prog ops w Q' (o :: rest) a :=
  still_load hs.1 _ x hs.2.1 b off hs.2.2 _ _ hr Try.underlying34 rfl (by kernel_rfl) hk
theorem storeM (ht : w.there b off 6) (hs : o.guard = none ∧ o.op = .store 34 x y ∧ a.eval x = .pointer (some ⟨b, off, none⟩) ∧ a.eval y = tuV u)
    (hk : wpList Try.prog ops Q rest (a.put o.dst undef) (w.setCells b off (tc u))) : wpList Try.prog ops Q (o :: rest) a w :=
  wpList_store_mid hs.1 _ x y hs.2.1 b off (tc u).toArray hs.2.2.1 hs.2.2.2 ht (by kernel_rfl) (all_oneCell_toArray (tc_one u)) hk
theorem eqM {t : TypeId} (hs : o.guard = none ∧ o.op = .binOp .eql 34 x y t ∧ a.eval x = tuV u ∧ a.eval y = tuV v)
    (hk : wpList Try.prog ops Q rest (a.put o.dst (.bool (eqT u v))) w) : wpList Try.prog ops Q (o :: rest) a w :=
  wpList_plain hs.1 fun K hK => by
    have hg : Try.prog.eqGuardType Try.prog.depth 34 = false := by kernel_rfl
    unfold Oper.wp execOp
    simp only [hs.2.1, hs.2.2.1, hs.2.2.2, Sem.run_bind, run_eqGuard_agg (hm := hg), Result.andThen_ok, eqlT, Sem.run_pure]
    exact hK _ _ hk
theorem neM {t : TypeId} (hs : o.guard = none ∧ o.op = .binOp .neq 34 x y t ∧ a.eval x = tuV u ∧ a.eval y = tuV v)
    (hk : wpList Try.prog ops Q rest (a.put o.dst (.bool (!eqT u v))) w) : wpList Try.prog ops Q (o :: rest) a w :=
  wpList_plain hs.1 fun K hK => by
    have hg : Try.prog.eqGuardType Try.prog.depth 34 = false := by kernel_rfl
    unfold Oper.wp execOp
    simp only [hs.2.1, hs.2.2.1, hs.2.2.2, Sem.run_bind, run_eqGuard_agg (hm := hg), Result.andThen_ok, neqT, Sem.run_pure]
    exact hK _ _ hk
end
theorem store_worldT {w wr : World} {n blk off : Nat} {dk : Array Tu} {i : Nat} (hi : i < dk.size) (hwr : wr = putRowK tc 6 (Sort.ahead w n) blk off dk) (x : Tu) :
    (wr.drew).setCells blk (off + i * 6) (tc x) = putRowK tc 6 (Sort.ahead w (n + 1)) blk off (dk.setIfInBounds i x) := by
  rw [← putRowT_set (Sort.ahead w (n + 1)) blk off dk i x hi, ← putRowK_drewN, ← hwr]
  rfl
/-- What Compact keeps of a list in order is the sorted list without repeats. -/
theorem keptRis {d : Array Tu} (h : ∀ i j, i < j → j < d.size → ¬ 0 < ordT d[i]! d[j]!) : Ris (compactUpTo d d.size) := by
  unfold Ris compactUpTo
  rw [List.pairwise_map]
  refine List.Pairwise.imp_of_mem ?_ ((List.pairwise_lt_range (n := d.size)).filter _)
  intro i j hi hj hij
  simp only [List.mem_filter, List.mem_range, keeps, decide_eq_true_eq] at hi hj
  have hne : d[j]! ≠ d[j - 1]! := by
    rcases hj.2 with e | e
    · omega
    · exact e
  have h1 := h (j - 1) j (by omega) hj.1
  have h0 : ¬ ordT d[j - 1]! d[j]! = 0 := fun e => hne (ordT_eq e).symm
  by_cases e : i = j - 1
  · subst e; omega
  · have h2 := h i (j - 1) (by omega) (by omega)
    have h3 := ordT_up (a := d[i]!) (b := d[j - 1]!) (c := d[j]!)
    by_cases e2 : ordT d[i]! d[j - 1]! = 0
    · rw [ordT_eq e2]; omega
    · exact h3 (by omega) (by omega)
theorem kept_mem (d : Array Tu) (x : Tu) : x ∈ compactUpTo d d.size ↔ x ∈ d.toList := by
  have key : ∀ m, m ≤ d.size → (x ∈ compactUpTo d m ↔ ∃ j, j < m ∧ d[j]! = x) := by
    intro m
    induction m with
    | zero => intro _; simp [compactUpTo]
    | succ m ih =>
      intro hm
      have ih := ih (by omega)
      rw [compactUpTo_succ, List.mem_append, ih]
      constructor
      · rintro (⟨j, hj, e⟩ | h)
        · exact ⟨j, by omega, e⟩
        · split at h
          · exact ⟨m, by omega, (List.mem_singleton.1 h).symm⟩
          · cases h
      · rintro ⟨j, hj, e⟩
        by_cases e1 : j < m
        · exact .inl ⟨j, e1, e⟩
        · obtain rfl : j = m := by omega
          by_cases hk : keeps d j = true
          · right; rw [if_pos hk, e]; exact List.mem_singleton.2 rfl
          · left
            simp only [keeps, decide_eq_true_eq, not_or, Decidable.not_not] at hk
            exact ⟨j - 1, by omega, by rw [← hk.2]; exact e⟩
  rw [key _ (Nat.le_refl _)]
  constructor
  · rintro ⟨j, hj, rfl⟩
    rw [getElem!_pos d j hj]
    exact Array.getElem_mem_toList hj
  · intro h
    obtain ⟨j, hj, e⟩ := List.getElem_of_mem h
    exact ⟨j, by simpa using hj, by rw [getElem!_pos d j (by simpa using hj)]; simpa using e⟩
theorem kept_sorted {l : List Tu} {d : Array Tu} (h : ∀ i j, i < j → j < d.size → ¬ 0 < ordT d[i]! d[j]!) (hm : ∀ x, x ∈ d.toList ↔ x ∈ l) : compactUpTo d d.size = sortedT l :=
  ris_ext (keptRis h) (sorted_ris l) fun x => by rw [kept_mem, sorted_mem, hm]
end Go.Proofs.Ytebbbiikphfjcaa
