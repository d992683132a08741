/-
  cmp.Or, tuple.Compare.
-/
import Derived.Test.YtnnebfcggdbgpaaGreatDoorTuB
import Derived.Test.YtnnebfcggdbgpaaGreatDoorTuD
import Derived.Test.YtnnebfcggdbgpaaGreatDoorTuL
import Derived.Sort.Grow
import Derived.RegionTactic
import Derived.BigRegion
import Derived.Test.YtnnebfcggdbgpaaGreatDoorArr
import Derived.Lib.SlicesCompact
import Derived.Lib.SliceRun
import Derived.Deep.LoopGhost
import Derived.Deep.Draws
import Derived.Deep.MidRow
import Derived.Laws.StructEq
import Derived.Shelf.SlSortFuncK.RowK2
import Derived.Shelf.SlSortFuncK.ComposeK
import Derived.Test.YtnnebfcggdbgpaaGreatDoorTuI
import Derived.Test.YtnnebfcggdbgpaaGreatDoorShfS
import Derived.Test.YtnnebfcggdbgpaaGreatDoorTuF
import Derived.Test.YtnnebfcggdbgpaaGreatDoorText
import Derived.Test.YtnnebfcggdbgpaaGreatDoorStep
import Derived.Test.YtnnebfcggdbgpaaGreatDoorStepC
import Derived.Test.YtnnebfcggdbgpaaGreatDoorTuK
import Derived.Test.YtnnebfcggdbgpaaGreatDoorNameQ
import Derived.Test.YtnnebfcggdbgpaaGreatDoorTold
import Derived.Test.YtnnebfcggdbgpaaGreatDoorNameC
import Derived.Test.YtnnebfcggdbgpaaGreatDoorNameA
import Derived.SizedLaws
import Derived.Test.YtnnebfcggdbgpaaGreatDoorRows
import Derived.ProofKit
import Derived.LaidMore
import Derived.LaidHandle
import Derived.OpenShut
import Derived.Stop.Joined
import Derived.HandedShaped
import Derived.ChangeMaps
import Derived.Deep.Fields
import Derived.ChangeSame
namespace Go.Proofs.YtnnebfcggdbgpaaGreatDoor
open Go.ChangeShapes Go.WideShapes Go.ChangeAt Go.RowKit
set_option linter.unusedVariables false

/-- The first that is not zero. -/
def orL : List Int → Int
  | [] => 0
  | x :: r => if x = 0 then orL r else x
theorem orL_drop : ∀ {l : List Int} {i : Nat}, (∀ j, j < i → l.getD j 0 = 0) → orL l = orL (l.drop i)
  | l, 0, _ => rfl
  | [], i + 1, _ => rfl
  | x :: r, i + 1, h => by
    have h0 := h 0 (by omega)
    simp only [List.getD_cons_zero] at h0
    rw [List.drop_succ_cons, ← orL_drop (l := r) (i := i) (fun j hj => by have := h (j + 1) (by omega); simpa using this)]
    conv => lhs; unfold orL
    rw [if_pos h0]
theorem orL_at {l : List Int} {i : Nat} (hi : i < l.length) (h : ∀ j, j < i → l.getD j 0 = 0) (hx : ¬ l.getD i 0 = 0) : orL l = l.getD i 0 := by
  rw [orL_drop h, List.drop_eq_getElem_cons hi]
  have e : l.getD i 0 = l[i] := by rw [List.getD_eq_getElem?_getD, List.getElem?_eq_getElem hi]; rfl
  rw [e] at hx ⊢
  conv => lhs; unfold orL
  rw [if_neg hx]
set_option maxRecDepth 100000 in
set_option maxHeartbeats 1000000 in
theorem or_any (l : List Int) (hl : l.length ≤ 1000) (g : Nat) (w : World) (hA : Arr w 3 g (l.map fun x => .int .i64 x)) : Calls Tryz.prog 81 #[.slice (some ⟨g, 0, none⟩) l.length l.length] w fun r w' => r = .returned (.int .i64 (orL l)) ∧ w = w' := by
  have HA := Lib.hid hA
  clear hA
  go_enter Tryz.func81, Tryz.ntmps81
  go_wp2_with fail
  go_loop [8] (fun iv => ∃ i : Nat, i ≤ l.length ∧ iv = .int .i64 i ∧ Hid (∀ j, j < i → l.getD j 0 = 0)) (fun iv => l.length - (intOf iv).toNat)
  case atStart => exact ⟨0, Nat.zero_le _, rfl, fun j hj => absurd hj (Nat.not_lt_zero _)⟩
  case round =>
    obtain ⟨i, hi, rfl, HG⟩ := hrel
    have hi0 : (0 : Int) ≤ i := by omega
    by_cases hlt : i < l.length
    · have hi1 : (i : Int) < l.length := by omega
      have hx0 := HA.out.cell i
      rw [List.getElem?_map, List.getElem?_eq_getElem hlt] at hx0
      obtain ⟨x, hx⟩ : ∃ x, x = l.getD i 0 := ⟨_, rfl⟩
      have e : l.getD i 0 = l[i] := by rw [List.getD_eq_getElem?_getD, List.getElem?_eq_getElem hlt]; rfl
      have X0 : w.cell? ⟨g, i, none⟩ = some (.int .i64 x) := by rw [hx, e]; exact hx0
      have HX := Lib.hid hx
      have HLT : Hid (i < l.length) := hlt
      clear hx0 e hx
      by_cases hz : x = 0
      · have bz : (x != 0) = false := by rw [hz]; rfl
        have HZ := Lib.hid hz
        clear hz
        go_wp2_with fail
        go_round
        case rel =>
          refine ⟨i + 1, by omega, by go_num, fun j hj => ?_⟩
          by_cases e : j = i
          · subst e; rw [← HX.out]; exact HZ.out
          · exact HG.out j (by omega)
        case measure => simp [intOf]; omega
      · have bz : (x != 0) = true := by rw [bne_iff_ne]; exact hz
        have HR : Hid (orL l = x) := by show _ = _; rw [HX.out]; exact orL_at HLT.out HG.out (by rw [← HX.out]; exact hz)
        clear hz
        go_wp2_with fail
        go_ret
        exact ⟨by rw [HR.out]; rfl, rfl⟩
    · have hi1 : ¬ (i : Int) < l.length := by omega
      have HR : Hid (orL l = 0) := by
        show _ = _
        rw [orL_drop HG.out, List.drop_of_length_le (by omega)]; rfl
      go_wp2_with fail
      go_ret
      exact ⟨by rw [HR.out]; rfl, rfl⟩
theorem ordT_or (a b : Tu) : ordT a b = orL [ord a.ot b.ot, ord a.oi b.oi, ord a.re b.re, ord a.st b.st, ord a.si b.si, ord a.us b.us] := by
  unfold ordT Tu.l
  simp only [ordL, orL]
theorem or6 (x0 x1 x2 x3 x4 x5 : Int) (w : World) :
    Calls Tryz.prog 81 #[.slice (some ⟨w.heap.size, 0, none⟩) 6 6] (w.alloc (.cells #[.int .i64 x0, .int .i64 x1, .int .i64 x2, .int .i64 x3, .int .i64 x4, .int .i64 x5] 3)) fun e w' => e = .returned (.int .i64 (orL [x0, x1, x2, x3, x4, x5])) ∧ w.alloc (.cells #[.int .i64 x0, .int .i64 x1, .int .i64 x2, .int .i64 x3, .int .i64 x4, .int .i64 x5] 3) = w' :=
  or_any [x0, x1, x2, x3, x4, x5] (by simp) w.heap.size _ (Arr.new' w _ _ _ rfl)
set_option maxRecDepth 100000 in
set_option maxHeartbeats 2000000 in
theorem tcompare_any (a b : Tu) (w : World) : Calls Tryz.prog 35 #[tuV a, tuV b] w fun e w' => e = .returned (.int .i64 (ordT a b)) ∧ ∃ q os, w' = Go.Sort.grow (w.drewN q) os := by
  obtain ⟨w0, hw0⟩ : ∃ w0, w0 = (w.alloc (.cells (tc a).toArray 25)).alloc (.cells (tc b).toArray 25) := ⟨_, rfl⟩
  have h1 : TuAt w0 w.heap.size a := by rw [hw0]; exact (tu_new w a).alloc _
  have h2 : TuAt w0 (w.heap.size + 1) b := by rw [hw0]; exact Arr.new2 w _ _ _ _ rfl
  obtain ⟨a0, a1, a2, a3, a4, a5⟩ := TuAt.cells h1
  obtain ⟨b0, b1, b2, b3, b4, b5⟩ := TuAt.cells h2
  have HO := Lib.hid (ordT_or a b)
  have HW := Lib.hid hw0
  have H0 := Lib.hid (Tryz.strings_Compare a.ot b.ot)
  have H1 := Lib.hid (Tryz.strings_Compare a.oi b.oi)
  have H2 := Lib.hid (Tryz.strings_Compare a.re b.re)
  have H3 := Lib.hid (Tryz.strings_Compare a.st b.st)
  have H4 := Lib.hid (Tryz.strings_Compare a.si b.si)
  have H5 := Lib.hid (Tryz.strings_Compare a.us b.us)
  clear h1 h2 hw0
  go_enter Tryz.func35, Tryz.ntmps35
  go_wp2_with fail
  rw [show (w.alloc (.cells (tc a).toArray 25)).alloc (.cells (tc b).toArray 25) = w0 from HW.out.symm]
  refine wp_region_still_tail 38 (by kernel_rfl) (by kernel_rfl) ?_
  simp only [List.take_succ_cons, List.take_zero, List.drop_succ_cons, List.drop_zero]
  repeat first | still_step | still_call (H0.out _) | still_call (H1.out _) | still_call (H2.out _) | still_call (H3.out _) | still_call (H4.out _) | still_call (H5.out _)
  refine wpStill_nil ?_
  change wpList _ _ _ _ _ w0.drew
  have HG : Hid (w0.drew = Go.Sort.grow (w.drewN 1) #[.cells (tc a).toArray 25, .cells (tc b).toArray 25]) := by
    show _ = _
    rw [HW.out, Go.Sort.alloc_eq_grow, Go.Sort.alloc_eq_grow, Go.Sort.grow_grow]; rfl
  generalize w0.drew = w2 at HG ⊢
  rw [show Lib.compareBytes a.ot.data.toList b.ot.data.toList = ord a.ot b.ot from rfl]
  rw [show Lib.compareBytes a.oi.data.toList b.oi.data.toList = ord a.oi b.oi from rfl]
  rw [show Lib.compareBytes a.re.data.toList b.re.data.toList = ord a.re b.re from rfl]
  rw [show Lib.compareBytes a.st.data.toList b.st.data.toList = ord a.st b.st from rfl]
  rw [show Lib.compareBytes a.si.data.toList b.si.data.toList = ord a.si b.si from rfl]
  rw [show Lib.compareBytes a.us.data.toList b.us.data.toList = ord a.us b.us from rfl]
  obtain ⟨x0, hx0⟩ : ∃ x, ord a.ot b.ot = x := ⟨_, rfl⟩
  obtain ⟨x1, hx1⟩ : ∃ x, ord a.oi b.oi = x := ⟨_, rfl⟩
  obtain ⟨x2, hx2⟩ : ∃ x, ord a.re b.re = x := ⟨_, rfl⟩
  obtain ⟨x3, hx3⟩ : ∃ x, ord a.st b.st = x := ⟨_, rfl⟩
  obtain ⟨x4, hx4⟩ : ∃ x, ord a.si b.si = x := ⟨_, rfl⟩
  obtain ⟨x5, hx5⟩ : ∃ x, ord a.us b.us = x := ⟨_, rfl⟩
  rw [hx0, hx1, hx2, hx3, hx4, hx5] at HO ⊢
  clear hx0 H0 a0 b0 hx1 H1 a1 b1 hx2 H2 a2 b2 hx3 H3 a3 b3 hx4 H4 a4 b4 hx5 H5 a5 b5 HW
  go_wp2_with fail
  refine (or6 x0 x1 x2 x3 x4 x5 _).mono ?_
  rintro e w3 ⟨rfl, rfl⟩
  rw [← HO.out]
  go_wp2_with fail
  go_ret
  exact ⟨rfl, 1, _, by rw [Go.Sort.alloc_eq_grow, HG.out, Go.Sort.grow_grow]⟩
theorem grow_below {w : World} (q : Nat) (os : Array Obj) : Below w.heap.size w (Go.Sort.grow (w.drewN q) os) :=
  ⟨rfl, rfl, rfl, by show w.heap.size ≤ (w.heap ++ os).size; simp, fun b hb => by
    show (w.heap ++ os)[b]? = w.heap[b]?
    rw [Array.getElem?_append_left hb]⟩
theorem tcompare_below (a b : Tu) (w : World) : Calls Tryz.prog 35 #[tuV a, tuV b] w fun e w' => e = .returned (.int .i64 (ordT a b)) ∧ Below w.heap.size w w' :=
  (tcompare_any a b w).mono fun e w' ⟨h, q, os, hw⟩ => ⟨h, by rw [hw]; exact grow_below q os⟩
end Go.Proofs.YtnnebfcggdbgpaaGreatDoor
/-
  slices.Compact at a slice of tuples.
-/
namespace Go.Proofs.YtnnebfcggdbgpaaGreatDoor
open Go.ChangeShapes Go.WideShapes Go.ChangeAt Go.RowKit Go.Lib Go.Sort
set_option linter.unusedVariables false

instance : Inhabited Tu := ⟨t0⟩
instance : DecidableEq Tu := fun a b => if h : eqT a b = true then .isTrue ((eqT_iff a b).1 h) else .isFalse fun e => h ((eqT_iff a b).2 e)
theorem HoldsK.rangeT {w : World} {blk off : Nat} {d : Array Tu} (h : HoldsK tc 6 w blk off d) {i : Nat} (hi : i < d.size) : w.rangeAt blk (off + i * 6) (tc d[i]!) := fun j v hv => by
  have hj : j < 6 := (List.getElem?_eq_some_iff.1 hv).1
  rw [(HoldsK.cell h hi hj).1, List.getElem!_eq_getElem?_getD, hv]; rfl
theorem HoldsK.thereT {w : World} {blk off : Nat} {d : Array Tu} (h : HoldsK tc 6 w blk off d) {i : Nat} (hi : i < d.size) : w.there blk (off + i * 6) 6 := fun j hj => by
  obtain ⟨h1, h2⟩ := HoldsK.cell h hi hj
  rw [h1, h2]; exact ⟨rfl, rfl⟩
theorem setManyT (d : Array Tu) (i : Nat) (x : Tu) (hi : i < d.size) : setMany (flatK tc 6 d) (i * 6) (tc x) = flatK tc 6 (d.setIfInBounds i x) := by
  refine ext_get! (by simp) fun t ht => ?_
  have ht' : t < d.size * 6 := by simpa using ht
  rw [get_setMany _ _ _ t (by simpa using ht'), get_flatK _ _ _ t ht', get_flatK _ _ _ t (by simpa using ht')]
  rw [show (tc x).length = 6 from rfl]
  by_cases a : t / 6 = i
  · rw [if_pos ((blk_iff 6 i t (by omega)).2 a)]
    subst a
    rw [show t - t / 6 * 6 = t % 6 by omega, show (d.setIfInBounds (t / 6) x)[t / 6]! = x by simp [hi]]
  · rw [if_neg (fun h => a ((blk_iff 6 i t (by omega)).1 h)), getElem!_set_other d i (t / 6) x a]
theorem putRowT_set (w : World) (blk off : Nat) (d : Array Tu) (i : Nat) (x : Tu) (hi : i < d.size) : (putRowK tc 6 w blk off d).setCells blk (off + i * 6) (tc x) = putRowK tc 6 w blk off (d.setIfInBounds i x) := by
  unfold putRowK
  rw [setCells_putRow _ _ _ _ _ _ (by rw [show (tc x).length = 6 from rfl, size_flatK]; omega), setManyT d i x hi]
theorem setCells_appT (b : Nat) : ∀ (xs ys : List Value) (o : Nat) (w : World), w.setCells b o (xs ++ ys) = (w.setCells b o xs).setCells b (o + xs.length) ys
  | [], ys, o, w => by simp [World.setCells]
  | v :: r, ys, o, w => by
    rw [List.cons_append, World.setCells, World.setCells, setCells_appT b r ys (o + 1), List.length_cons, show o + 1 + r.length = o + (r.length + 1) by omega]
theorem putRowT_lay (w : World) (blk off : Nat) : ∀ (xs : List Tu) (d : Array Tu) (k : Nat), k + xs.length ≤ d.size → (putRowK tc 6 w blk off d).setCells blk (off + k * 6) (xs.flatMap tc) = putRowK tc 6 w blk off (lay d k xs)
  | [], _, _, _ => rfl
  | x :: r, d, k, h => by
    have hl : k + (r.length + 1) ≤ d.size := by simpa using h
    rw [List.flatMap_cons, setCells_appT, putRowT_set _ _ _ _ _ _ (by omega), show (tc x).length = 6 from rfl, show off + k * 6 + 6 = off + (k + 1) * 6 by omega, putRowT_lay w blk off r _ (k + 1) (by simp; omega)]
    rfl
theorem zerosT (n : Nat) : (List.replicate n t0).flatMap tc = List.replicate (n * 6) (.string ⟨#[]⟩) := by
  induction n with
  | zero => rfl
  | succ n ih =>
    rw [List.replicate_succ, List.flatMap_cons, ih, show (n + 1) * 6 = 6 + n * 6 by omega, ← List.replicate_append_replicate]
    rfl
theorem zeroCellsT (n : Nat) : (Builtin.zeroCells (tc t0).toArray n).toList = List.replicate (n * 6) (.string ⟨#[]⟩) := by
  refine List.eq_replicate_iff.2 ⟨by simp [Builtin.zeroCells, tc], fun b hb => ?_⟩
  simp only [Builtin.zeroCells, Array.toList_map, List.mem_map] at hb
  obtain ⟨i, _, rfl⟩ := hb
  have : i % (tc t0).toArray.size < 6 := Nat.mod_lt _ (by decide)
  generalize i % (tc t0).toArray.size = m at this ⊢
  rcases m with _ | _ | _ | _ | _ | _ | m <;> first | rfl | omega
/-- clear, at a slice of tuples. -/
theorem run_clearT (w : World) (ty : TypeId) (b o n c : Nat) (hn : 0 < n) (hT : ∀ i, i < n → w.there b (o + i * 6) 6) :
    (Builtin.clear_ #[52] ty #[.slice (some ⟨b, o, none⟩) n c]).run Tryz.prog w = .ok (.tuple #[]) (w.setCells b o ((List.replicate n t0).flatMap tc)) := by
  have hv : ∀ w, (zeroValue 25).run Tryz.prog w = .ok (tuV t0) w := fun w => by kernel_rfl
  have ht : ∀ j, j < n * 6 → (w.cell? ⟨b, o + j, none⟩).isSome = true ∧ w.frozen? ⟨b, o + j, none⟩ = false := fun j hj => by
    have := hT (j / 6) (by omega) (j % 6) (by omega)
    rwa [show o + j / 6 * 6 + j % 6 = o + j by omega] at this
  have hst := run_storeCells_cells (P := Tryz.prog) b o (List.replicate (n * 6) (.string ⟨#[]⟩)) 0 w (fun j hj => (ht j (by simpa using hj)).1) (fun j hj => (ht j (by simpa using hj)).2) (by intro v hv'; rw [List.eq_of_mem_replicate hv']; rfl)
  simp only [Nat.add_zero] at hst
  rw [zerosT]
  have hz := zeroCellsT n
  obtain ⟨m, rfl⟩ : ∃ m, n = m + 1 := ⟨n - 1, by omega⟩
  simp only [Builtin.clear_]
  simp only [List.size_toArray, List.length_cons, List.length_nil, getElem?_pos, List.getElem_toArray, List.getElem_cons_zero, Nat.zero_add, Nat.lt_add_one, Sem.run_bind, run_underlying Tryz.underlying52, Result.andThen_ok, hv, Value.cells, hz, hst, Sem.run_pure]
section
variable {ops : Array Oper} {rest : List Oper} {o : Oper} {a : Act} {Q : Exit → Act → World → Prop} {w : World} {b off : Nat} {x y : Operand} {u v : Tu}
theorem loadM (hr : w.rangeAt b off (tc u)) (hs : o.guard = none ∧ o.op = .load 25 x ∧ a.eval x = .pointer (some ⟨b, off, none⟩))
    (hk : wpList Tryz.prog ops Q rest (a.put o.dst (tuV u)) w) : wpList Tryz.prog ops Q (o :: rest) a w :=
  wpList_load_mid hs.1 _ x hs.2.1 b off hs.2.2 _ _ hr Tryz.underlying25 rfl (by kernel_rfl) hk
theorem stillM {Q' : Act → Prop} (hr : w.rangeAt b off (tc u)) (hs : o.guard = none ∧ o.op = .load 25 x ∧ a.eval x = .pointer (some ⟨b, off, none⟩))
    (hk : wpStill Tryz.prog ops w Q' rest (a.put o.dst (tuV u))) : wpStill Tryz.prog ops w Q' (o :: rest) a :=
  still_load hs.1 _ x hs.2.1 b off hs.2.2 _ _ hr Tryz.underlying25 rfl (by kernel_rfl) hk
theorem storeM (ht : w.there b off 6) (hs : o.guard = none ∧ o.op = .store 25 x y ∧ a.eval x = .pointer (some ⟨b, off, none⟩) ∧ a.eval y = tuV u)
    (hk : wpList Tryz.prog ops Q rest (a.put o.dst undef) (w.setCells b off (tc u))) : wpList Tryz.prog ops Q (o :: rest) a w :=
  wpList_store_mid hs.1 _ x y hs.2.1 b off (tc u).toArray hs.2.2.1 hs.2.2.2 ht (by kernel_rfl) (all_oneCell_toArray (tc_one u)) hk
theorem eqM {t : TypeId} (hs : o.guard = none ∧ o.op = .binOp .eql 25 x y t ∧ a.eval x = tuV u ∧ a.eval y = tuV v)
    (hk : wpList Tryz.prog ops Q rest (a.put o.dst (.bool (eqT u v))) w) : wpList Tryz.prog ops Q (o :: rest) a w :=
  wpList_plain hs.1 fun K hK => by
    have hg : Tryz.prog.eqGuardType Tryz.prog.depth 25 = false := by kernel_rfl
    unfold Oper.wp execOp
    simp only [hs.2.1, hs.2.2.1, hs.2.2.2, Sem.run_bind, run_eqGuard_agg (hm := hg), Result.andThen_ok, eqlT, Sem.run_pure]
    exact hK _ _ hk
theorem neM {t : TypeId} (hs : o.guard = none ∧ o.op = .binOp .neq 25 x y t ∧ a.eval x = tuV u ∧ a.eval y = tuV v)
    (hk : wpList Tryz.prog ops Q rest (a.put o.dst (.bool (!eqT u v))) w) : wpList Tryz.prog ops Q (o :: rest) a w :=
  wpList_plain hs.1 fun K hK => by
    have hg : Tryz.prog.eqGuardType Tryz.prog.depth 25 = false := by kernel_rfl
    unfold Oper.wp execOp
    simp only [hs.2.1, hs.2.2.1, hs.2.2.2, Sem.run_bind, run_eqGuard_agg (hm := hg), Result.andThen_ok, neqT, Sem.run_pure]
    exact hK _ _ hk
end
theorem store_worldT {w wr : World} {n blk off : Nat} {dk : Array Tu} {i : Nat} (hi : i < dk.size) (hwr : wr = putRowK tc 6 (Sort.ahead w n) blk off dk) (x : Tu) :
    (wr.drew).setCells blk (off + i * 6) (tc x) = putRowK tc 6 (Sort.ahead w (n + 1)) blk off (dk.setIfInBounds i x) := by
  rw [← putRowT_set (Sort.ahead w (n + 1)) blk off dk i x hi, ← putRowK_drewN, ← hwr]
  rfl
/-- What Compact keeps of a list in order is the sorted list without repeats. -/
theorem keptRis {d : Array Tu} (h : ∀ i j, i < j → j < d.size → ¬ 0 < ordT d[i]! d[j]!) : Ris (compactUpTo d d.size) := by
  unfold Ris compactUpTo
  rw [List.pairwise_map]
  refine List.Pairwise.imp_of_mem ?_ ((List.pairwise_lt_range (n := d.size)).filter _)
  intro i j hi hj hij
  simp only [List.mem_filter, List.mem_range, keeps, decide_eq_true_eq] at hi hj
  have hne : d[j]! ≠ d[j - 1]! := by
    rcases hj.2 with e | e
    · omega
    · exact e
  have h1 := h (j - 1) j (by omega) hj.1
  have h0 : ¬ ordT d[j - 1]! d[j]! = 0 := fun e => hne (ordT_eq e).symm
  by_cases e : i = j - 1
  · subst e; omega
  · have h2 := h i (j - 1) (by omega) (by omega)
    have h3 := ordT_up (a := d[i]!) (b := d[j - 1]!) (c := d[j]!)
    by_cases e2 : ordT d[i]! d[j - 1]! = 0
    · rw [ordT_eq e2]; omega
    · exact h3 (by omega) (by omega)
theorem kept_mem (d : Array Tu) (x : Tu) : x ∈ compactUpTo d d.size ↔ x ∈ d.toList := by
  have key : ∀ m, m ≤ d.size → (x ∈ compactUpTo d m ↔ ∃ j, j < m ∧ d[j]! = x) := by
    intro m
    induction m with
    | zero => intro _; simp [compactUpTo]
    | succ m ih =>
      intro hm
      have ih := ih (by omega)
      rw [compactUpTo_succ, List.mem_append, ih]
      constructor
      · rintro (⟨j, hj, e⟩ | h)
        · exact ⟨j, by omega, e⟩
        · split at h
          · exact ⟨m, by omega, (List.mem_singleton.1 h).symm⟩
          · cases h
      · rintro ⟨j, hj, e⟩
        by_cases e1 : j < m
        · exact .inl ⟨j, e1, e⟩
        · obtain rfl : j = m := by omega
          by_cases hk : keeps d j = true
          · right; rw [if_pos hk, e]; exact List.mem_singleton.2 rfl
          · left
            simp only [keeps, decide_eq_true_eq, not_or, Decidable.not_not] at hk
            exact ⟨j - 1, by omega, by rw [← hk.2]; exact e⟩
  rw [key _ (Nat.le_refl _)]
  constructor
  · rintro ⟨j, hj, rfl⟩
    rw [getElem!_pos d j hj]
    exact Array.getElem_mem_toList hj
  · intro h
    obtain ⟨j, hj, e⟩ := List.getElem_of_mem h
    exact ⟨j, by simpa using hj, by rw [getElem!_pos d j (by simpa using hj)]; simpa using e⟩
theorem kept_sorted {l : List Tu} {d : Array Tu} (h : ∀ i j, i < j → j < d.size → ¬ 0 < ordT d[i]! d[j]!) (hm : ∀ x, x ∈ d.toList ↔ x ∈ l) : compactUpTo d d.size = sortedT l :=
  ris_ext (keptRis h) (sorted_ris l) fun x => by rw [kept_mem, sorted_mem, hm]
end Go.Proofs.YtnnebfcggdbgpaaGreatDoor
/-
  slices.Compact at a slice of tuples: the walk.
-/
namespace Go.Proofs.YtnnebfcggdbgpaaGreatDoor
open Go.ChangeShapes Go.WideShapes Go.ChangeAt Go.RowKit Go.Lib Go.Sort
set_option linter.unusedVariables false

set_option maxHeartbeats 4000000 in
set_option maxRecDepth 1000000 in
theorem tcompact_any (blk off cap : Nat) (d : Array Tu) (w : World) (hH : HoldsK tc 6 w blk off d) (hsz : d.size ≤ 9223372036854775807) (hcap : d.size ≤ cap) :
    Calls Tryz.prog 79 #[.slice (some ⟨blk, off, none⟩) d.size cap] w fun e w' => e = .returned (.slice (some ⟨blk, off, none⟩) (compactUpTo d d.size).length cap) ∧ ∃ q, w' = putRowK tc 6 (Sort.ahead w q) blk off (compactUpTo d d.size ++ List.replicate (d.size - (compactUpTo d d.size).length) t0).toArray := by
  have same : ∀ q, (∀ j, j < d.size → keeps d j = true) → (compactUpTo d d.size).length = d.size ∧ w.drewN q = putRowK tc 6 (Sort.ahead w q) blk off (compactUpTo d d.size ++ List.replicate (d.size - (compactUpTo d d.size).length) t0).toArray := by
    intro q hall
    have e : compactUpTo d d.size = d.toList := by rw [compactUpTo_all d _ hall, range_map_get]
    rw [e]
    refine ⟨by simp, ?_⟩
    simp only [Array.length_toList, Nat.sub_self, List.replicate_zero, List.append_nil, Array.toArray_toList]
    exact (putRowK_self tc 6 (Sort.ahead w q) blk off d (holdsK_ahead tc 6 w q blk off d hH)).symm
  have HS := Lib.hid same
  clear same
  by_cases h2 : d.size < 2
  · have HH := Lib.hid hH
    clear hH
    go_enter Tryz.func79, Tryz.ntmps79
    go_wp2_with fail
    go_ret
    obtain ⟨e1, e2⟩ := HS.out 0 (fun j hj => keeps_lt_one d j (by omega))
    exact ⟨by rw [e1]; rfl, 0, e2⟩
  · have HH := Lib.hid hH
    clear hH
    go_enter Tryz.func79, Tryz.ntmps79
    go_wp2_with fail
    go_loopg [3] d.size (fun g s3 wr => ∃ k q : Nat, 1 ≤ k ∧ k ≤ d.size ∧ d.size - k ≤ g ∧ s3 = .int .i64 k ∧ wr = w.drewN q ∧ ∀ j, j < k → keeps d j = true)
    case atStart => exact ⟨1, 0, Nat.le_refl _, by omega, by omega, rfl, rfl, keeps_lt_one d⟩
    case round =>
      obtain ⟨k, q, hk1, hk, hg, rfl, rfl, hall⟩ := hrel
      by_cases hlt : k < d.size
      · have HW : Hid (IntKind.i64.wrap ((k : Int) - 1) = ((k - 1 : Nat) : Int)) := by show _ = _; rw [IntKind.wrap_i64]; omega
        have hk1' : k - 1 < d.size := by omega
        have c1 := Lib.hid (HoldsK.rangeT (w := (w.drewN q).drew) HH.out hlt)
        have c0 := Lib.hid (HoldsK.rangeT (w := (w.drewN q).drew) HH.out (i := k - 1) (by omega))
        have A : Aside (∀ j, j < k → keeps d j = true) := hall
        clear hall
        generalize hx : d[k]! = x at c1
        generalize hy : d[k - 1]! = y at c0
        have B : Aside (d[k]! = x ∧ d[k - 1]! = y) := ⟨hx, hy⟩
        clear hx hy
        go_wp2_with fail
        refine region_tail 9 (by kernel_rfl) (by kernel_rfl) ?_
        simp only [List.take_succ_cons, List.take_zero, List.drop_succ_cons, List.drop_zero]
        repeat first
          | still_step
          | (rw [HW.out]; still_step)
          | ((with_reducible refine stillM (x := .tmp 18) (o := ⟨some 19, _, _, _, _, _⟩) c1.out ?_ ?_); exact ⟨rfl, rfl, by go_simp⟩)
          | ((with_reducible refine stillM (x := .tmp 23) (o := ⟨some 24, _, _, _, _, _⟩) c0.out ?_ ?_); exact ⟨rfl, rfl, by go_simp⟩)
        refine wpStill_nil ?_
        by_cases hdup : x = y
        · have he : eqT x y = true := (eqT_iff x y).2 hdup
          refine eqM (u := x) (v := y) (o := ⟨some 25, _, _, _, _, _⟩) ⟨rfl, rfl, rfl, rfl⟩ ?_
          rw [he]
          clear c0 c1
          generalize hw2 : (w.drewN q).drew = w2
          have W0 := Lib.hid hw2
          clear hw2
          go_wp2_with fail
          go_loopg [3, 5] d.size (fun g s3 s5 wr => ∃ (kk k2 q2 : Nat) (dk : Array Tu), s3 = .int .i64 kk ∧ s5 = .int .i64 k2 ∧ 1 ≤ k2 ∧ k + k2 ≤ d.size ∧ d.size - (k + k2) ≤ g ∧ wr = putRowK tc 6 (Sort.ahead w q2) blk off dk ∧ CompInv d (k + k2) kk dk)
          case atStart => exact ⟨k, 1, q + 1, d, rfl, rfl, Nat.le_refl _, by omega, by omega, by rw [← W0.out]; exact (putRowK_self tc 6 (Sort.ahead w (q + 1)) blk off d (holdsK_ahead tc 6 w (q + 1) blk off d HH.out)).symm, CompInv.start A.out (keeps_neg (by omega) (by rw [B.out.1, B.out.2, hdup]))⟩
          case round =>
            obtain ⟨kk, k2, q2, dk, rfl, rfl, h1, hle, hg2, hwr, hI⟩ := hrel
            have hkk := hI.lt
            have hds := hI.size
            have hHk : HoldsK tc 6 wr.drew blk off dk := by rw [hwr]; exact holdsK_putRowK tc 6 _ blk off d dk (holdsK_ahead tc 6 w q2 blk off d HH.out) hds
            have W2 : Aside (wr = putRowK tc 6 (Sort.ahead w q2) blk off dk) := hwr
            have I2 : Aside (CompInv d (k + k2) kk dk) := hI
            clear hwr
            by_cases hlt2 : k + k2 < d.size
            · have cm := Lib.hid (HoldsK.rangeT hHk (i := k + k2) (by omega))
              have cp := Lib.hid (HoldsK.rangeT hHk (i := k + k2 - 1) (by omega))
              have ck := Lib.hid (HoldsK.thereT hHk (i := kk) (by omega))
              have hk2' : k2 - 1 < d.size - k := by omega
              have HW2 : Hid (IntKind.i64.wrap ((k2 : Int) - 1) = ((k2 - 1 : Nat) : Int)) := by show _ = _; rw [IntKind.wrap_i64]; omega
              rw [hI.high (k + k2) (by omega), show off + (k + k2) * 6 = off + k * 6 + k2 * 6 by omega] at cm
              rw [hI.high (k + k2 - 1) (by omega), show off + (k + k2 - 1) * 6 = off + k * 6 + (k2 - 1) * 6 by omega] at cp
              clear hHk hI
              generalize hu : d[k + k2]! = u at cm
              generalize hv : d[k + k2 - 1]! = v at cp
              have C : Aside (d[k + k2]! = u ∧ d[k + k2 - 1]! = v) := ⟨hu, hv⟩
              clear hu hv
              go_wp2_with fail
              refine region_tail 9 (by kernel_rfl) (by kernel_rfl) ?_
              simp only [List.take_succ_cons, List.take_zero, List.drop_succ_cons, List.drop_zero]
              repeat first
                | still_step
                | (rw [HW2.out]; still_step)
                | ((with_reducible refine stillM (x := .tmp 37) (o := ⟨some 38, _, _, _, _, _⟩) cm.out ?_ ?_); exact ⟨rfl, rfl, by go_simp⟩)
                | ((with_reducible refine stillM (x := .tmp 42) (o := ⟨some 43, _, _, _, _, _⟩) cp.out ?_ ?_); exact ⟨rfl, rfl, by go_simp⟩)
              refine wpStill_nil ?_
              refine neM (u := u) (v := v) (o := ⟨some 44, _, _, _, _, _⟩) ⟨rfl, rfl, rfl, rfl⟩ ?_
              by_cases huv : u = v
              · have he2 : eqT u v = true := (eqT_iff u v).2 huv
                rw [he2]
                have H2 : Hid (wr.drew = putRowK tc 6 (Sort.ahead w (q2 + 1)) blk off dk) := by show _ = _; rw [W2.out]; rfl
                clear cm cp ck
                generalize wr.drew = w3 at H2 ⊢
                go_wp2_with fail
                go_roundg (d.size - (k + (k2 + 1)))
                case measure => omega
                case rel => exact ⟨kk, k2 + 1, q2 + 1, dk, rfl, by go_num, by omega, by omega, Nat.le_refl _, H2.out, I2.out.skip (keeps_neg (by omega) (by rw [C.out.1, C.out.2, huv]))⟩
              · have he2 : eqT u v = false := by rcases hb : eqT u v with _ | _; · rfl
                                                 · exact absurd ((eqT_iff u v).1 hb) huv
                rw [he2]
                have H2 : Hid ((wr.drew).setCells blk (off + kk * 6) (tc u) = putRowK tc 6 (Sort.ahead w (q2 + 1)) blk off (dk.setIfInBounds kk u)) := store_worldT (by omega) W2.out u
                clear cp
                have hkd : kk < d.size := by omega
                go_wp2_with (first
                  | ((with_reducible refine loadM (x := .tmp 49) (o := ⟨some 50, _, _, _, _, _⟩) cm.out ?_ ?_); exact ⟨rfl, rfl, by go_simp⟩)
                  | ((with_reducible refine storeM (x := .tmp 51) (y := .tmp 50) (u := u) (o := ⟨none, .store _ _ _, _, _, _, _⟩) ck.out ?_ ?_); exact ⟨rfl, rfl, by go_simp, rfl⟩))
                go_roundg (d.size - (k + (k2 + 1)))
                case measure => omega
                case rel => exact ⟨kk + 1, k2 + 1, q2 + 1, dk.setIfInBounds kk u, by go_num, by go_num, by omega, by omega, Nat.le_refl _, H2.out, by have := I2.out.keep hlt2 (keeps_pos (by rw [C.out.1, C.out.2]; exact huv)); rwa [C.out.1] at this⟩
            · have hend : k + k2 = d.size := by omega
              have hcl : ∀ ty, (Builtin.clear_ #[52] ty #[.slice (some ⟨blk, off + kk * 6, none⟩) (d.size - kk) (cap - kk)]).run Tryz.prog wr = .ok (.tuple #[]) (wr.setCells blk (off + kk * 6) ((List.replicate (d.size - kk) t0).flatMap tc)) :=
                fun ty => run_clearT wr ty blk (off + kk * 6) (d.size - kk) _ (by omega) (fun i hi => by
                  have := HoldsK.thereT hHk (i := kk + i) (by omega)
                  rwa [show off + (kk + i) * 6 = off + kk * 6 + i * 6 by omega] at this)
              clear hHk hI
              go_wp2_with fail
              go_ret
              have hI := I2.out
              rw [hend] at hI
              refine ⟨by rw [hI.len]; rfl, q2, ?_⟩
              rw [hI.len, ← hI.done t0, ← putRowT_lay _ blk off _ dk kk (by simp; omega), ← W2.out]
        · have he : eqT x y = false := by rcases hb : eqT x y with _ | _; · rfl
                                          · exact absurd ((eqT_iff x y).1 hb) hdup
          refine eqM (u := x) (v := y) (o := ⟨some 25, _, _, _, _, _⟩) ⟨rfl, rfl, rfl, rfl⟩ ?_
          rw [he]
          clear c0 c1
          generalize hw2 : (w.drewN q).drew = w2
          have W0 := Lib.hid hw2
          clear hw2
          go_wp2_with fail
          go_roundg (d.size - (k + 1))
          case measure => omega
          case rel =>
            refine ⟨k + 1, q + 1, by omega, by omega, Nat.le_refl _, by go_num, W0.out.symm, fun j hj => ?_⟩
            by_cases e : j = k
            · subst e
              exact keeps_pos (by rw [B.out.1, B.out.2]; exact hdup)
            · exact A.out j (by omega)
      · have : k = d.size := by omega
        subst this
        go_wp2_with fail
        go_ret
        obtain ⟨e1, e2⟩ := HS.out q hall
        exact ⟨by rw [e1]; rfl, q, e2⟩
theorem tcompact_nil (a : Option Addr) (cap : Nat) (w : World) : Calls Tryz.prog 79 #[.slice a 0 cap] w fun e w' => e = .returned (.slice a 0 cap) ∧ w = w' := by
  go_enter Tryz.func79, Tryz.ntmps79
  go_wp2_with fail
  go_ret
  exact ⟨rfl, rfl⟩
end Go.Proofs.YtnnebfcggdbgpaaGreatDoor
/-
  tuple.Sorted.
-/
namespace Go.Proofs.YtnnebfcggdbgpaaGreatDoor
open Go.ChangeShapes Go.WideShapes Go.ChangeAt Go.RowKit Go.Lib Go.Sort
set_option linter.unusedVariables false

/-- The value sv is a slice that holds the tuples l. -/
def TuSl (w : World) (sv : Value) (l : List Tu) : Prop :=
  (sv = .slice none 0 0 ∧ l = []) ∨ ∃ b off c, sv = .slice (some ⟨b, off, none⟩) l.length c ∧ l.length ≤ c ∧ b < w.heap.size ∧ w.rangeAt b off (l.flatMap tc)
theorem flat_get : ∀ (l : List Tu) (t : Nat), (l.flatMap tc)[t]? = (l[t / 6]?).bind fun x => (tc x)[t % 6]?
  | [], t => by simp
  | x :: l, t => by
    rw [List.flatMap_cons]
    by_cases h : t < 6
    · rw [List.getElem?_append_left (by exact h), show t / 6 = 0 by omega, show t % 6 = t by omega]; rfl
    · rw [List.getElem?_append_right (by exact Nat.le_of_not_lt h), show (tc x).length = 6 from rfl, flat_get l (t - 6), show t / 6 = (t - 6) / 6 + 1 by omega, show t % 6 = (t - 6) % 6 by omega]; rfl
theorem flat_len : ∀ (l : List Tu), (l.flatMap tc).length = l.length * 6
  | [] => rfl
  | x :: l => by rw [List.flatMap_cons, List.length_append, flat_len l, List.length_cons, show (tc x).length = 6 from rfl]; omega
theorem flat_row {w : World} {b off : Nat} {l : List Tu} (h : w.rangeAt b off (l.flatMap tc)) {i : Nat} (hi : i < l.length) : w.rangeAt b (off + i * 6) (tc l[i]) := fun j v hv => by
  have hj : j < 6 := (List.getElem?_eq_some_iff.1 hv).1
  have := h (i * 6 + j) v (by rw [flat_get, show (i * 6 + j) / 6 = i by omega, show (i * 6 + j) % 6 = j by omega, List.getElem?_eq_getElem hi]; exact hv)
  rwa [← Nat.add_assoc] at this
theorem flatK_list (l : List Tu) : flatK tc 6 l.toArray = (l.flatMap tc).toArray := by
  apply Array.ext_getElem?
  intro t
  rw [show ((l.flatMap tc).toArray)[t]? = (l.flatMap tc)[t]? from List.getElem?_toArray, flat_get]
  by_cases h : t < l.length * 6
  · have h6 : t / 6 < l.length := by omega
    have hm : t % 6 < (tc l[t / 6]).length := by rw [show (tc l[t / 6]).length = 6 from rfl]; omega
    rw [List.getElem?_eq_getElem h6, Option.bind_some, List.getElem?_eq_getElem hm, flatK, Array.getElem?_map]
    rw [Array.getElem?_eq_getElem (by simpa using h), Option.map_some, Array.getElem_range]
    rw [show (l.toArray[t / 6]! : Tu) = l[t / 6] by simp [h6], List.getElem!_eq_getElem?_getD, List.getElem?_eq_getElem hm]; rfl
  · rw [Array.getElem?_eq_none (by simpa using h), List.getElem?_eq_none (by omega)]; rfl
theorem holds_of_row {w : World} {g : Nat} {cur : Array Value} {e : TypeId} {l : List Tu} (hb : w.heap[g]? = some (.cells cur e (0, 0))) (ht : cur.toList.take (l.length * 6) = l.flatMap tc) : HoldsK tc 6 w g 0 l.toArray := by
  intro j hj
  have hj' : j < l.length * 6 := by simpa using hj
  refine ⟨?_, by simp [World.frozen?, hb]⟩
  have h1 : (cur.toList.take (l.length * 6))[j]? = (l.flatMap tc)[j]? := by rw [ht]
  rw [List.getElem?_take_of_lt hj'] at h1
  simp only [World.cell?, hb, Nat.zero_add]
  simp only [Option.isSome_none, Bool.false_eq_true, if_false]
  rw [← Array.getElem?_toList, h1, flatK_list]
  have hlt : j < (l.flatMap tc).length := by rw [flat_len]; exact hj'
  rw [List.getElem?_eq_getElem hlt]
  simp
  rw [List.getElem?_eq_getElem hlt]; rfl
theorem row_of_holds {w : World} {g : Nat} {l r : List Tu} (h : HoldsK tc 6 w g 0 (l ++ r).toArray) : w.rangeAt g 0 (l.flatMap tc) := fun j v hv => by
  have hj : j < l.length * 6 := by rw [← flat_len]; exact (List.getElem?_eq_some_iff.1 hv).1
  have := (h j (by simp; omega)).1
  rw [this, flatK_list, List.flatMap_append]
  have hlt : j < (l.flatMap tc).length := (List.getElem?_eq_some_iff.1 hv).1
  rw [show (((l.flatMap tc ++ r.flatMap tc).toArray)[j]! : Value) = v by
    rw [List.getElem!_toArray, List.getElem!_eq_getElem?_getD, List.getElem?_append_left hlt, hv]; rfl]
  rfl
theorem grownBy_sortK {w : World} {g n : Nat} {os : Array Obj} (d : Array Tu) : w.grownBy (sortWorldK tc 6 w g 0 n d os) (some g) := by
  refine ⟨rfl, rfl, rfl, by simp [sortWorldK, putRowK, putRow, mapBlock, Sort.ahead], fun k hk hne => ?_⟩
  unfold sortWorldK
  rw [heap_grow_old _ _ (by simpa [putRowK, putRow, mapBlock, Sort.ahead] using hk)]
  have : g ≠ k := fun e => hne (by rw [e])
  simp [putRowK, putRow, mapBlock, Sort.ahead, Array.getElem?_modify, this]
theorem swoT : SWO (ltOf ordT) where
  irrefl x := by simp [ltOf, ordT_self]
  trans x y z h1 h2 := by
    simp only [ltOf, decide_eq_true_eq] at *
    exact ordT_up h1 h2
  ntrans x y z h1 h2 := by
    simp only [ltOf, decide_eq_false_iff_not] at *
    have f1 := ordT_flip x y; have f2 := ordT_flip y z; have f3 := ordT_flip x z
    have := ordT_le (a := z) (b := y) (c := x) (by omega) (by omega)
    omega
theorem cmpT (blk off size : Nat) (w : World) : CmpLays Tryz.prog 35 #[] tc 6 ordT blk off size w :=
  fun _ _ _ _ x y => tcompare_any x y _
theorem insNone (w : World) (p : Option Addr) (cap : Nat) (fv : Value) : Calls Tryz.prog 131 #[.slice p 0 cap, .int .i64 0, .int .i64 0, fv] w fun e w' => e = .returned (.tuple #[]) ∧ w = w' := by
  go_enter Tryz.func131, Tryz.ntmps131
  go_wp2_with fail
  refine wp_loop_rounds 1 ?_
  rw [rounds_succ]
  go_wp2_with fail
  go_end0
  exact ⟨rfl, rfl⟩
theorem pdqNone (w : World) (p : Option Addr) (cap : Nat) (lim : Int) (fv : Value) : Calls Tryz.prog 114 #[.slice p 0 cap, .int .i64 0, .int .i64 0, .int .i64 lim, fv] w fun e w' => e = .returned (.tuple #[]) ∧ w = w' := by
  have HI := Lib.hid (insNone w p cap fv)
  go_enter Tryz.func114, Tryz.ntmps114
  go_wp2_with fail
  refine wp_loop_rounds 1 ?_
  rw [rounds_succ]
  go_wp2_with fail
  refine HI.out.mono ?_
  rintro e w1 ⟨rfl, rfl⟩
  go_wp2_with fail
  (try simp only [Exit.inBlock, Exit.then]); refine bodyPost_ret (results_none rfl _ _ _) rfl ?_
  exact ⟨rfl, rfl⟩
theorem len0 (w : World) : Calls Tryz.prog 115 #[.int .u64 0] w fun e w' => e = .returned (.int .i64 (Lib.bitLen 0 : Nat)) ∧ w' = w :=
  Any.bits_Len (SlLaysF0.n15.bits (P := Tryz.prog) (ρ := Tryz.sortTu_ren) { Tryz.sortTu with }) 0 w (by omega) (by omega)
theorem sortNone (w : World) (p : Option Addr) (cap : Nat) (fv : Value) : Calls Tryz.prog 78 #[.slice p 0 cap, fv] w fun e w' => e = .returned (.tuple #[]) ∧ w = w' := by
  have HP := fun lim => Lib.hid (pdqNone w p cap lim fv)
  have HL := Lib.hid (len0 w)
  generalize (Lib.bitLen 0 : Nat) = L at HL
  go_enter Tryz.func78, Tryz.ntmps78
  go_wp2_with fail
  refine HL.out.mono ?_
  rintro e w1 ⟨rfl, rfl⟩
  go_wp2_with fail
  refine (HP _).out.mono ?_
  rintro e w1 ⟨rfl, rfl⟩
  go_wp2_with fail
  go_end0
  exact ⟨rfl, rfl⟩
/-- The three calls, the list nil or laid. -/
theorem clone_any {w : World} {sv : Value} {l : List Tu} (h : TuSl w sv l) (hl : l.length ≤ 1000000) :
    Calls Tryz.prog 77 #[sv] w fun e w' => ∃ v', e = .returned v' ∧ Below w.heap.size w w' ∧
      ((v' = .slice none 0 0 ∧ l = []) ∨ ∃ g c, v' = .slice (some ⟨g, 0, none⟩) l.length c ∧ l.length ≤ c ∧ w.heap.size ≤ g ∧ g < w'.heap.size ∧ HoldsK tc 6 w' g 0 l.toArray) := by
  rcases h with ⟨rfl, rfl⟩ | ⟨b, off, c, rfl, h1, h2, h3⟩
  · refine (AnyE.slices_Clone_nil Tryz.cloneTu 0 0 w).mono ?_
    rintro e w1 ⟨rfl, rfl⟩
    exact ⟨_, rfl, Below.refl _ _, .inl ⟨rfl, rfl⟩⟩
  · obtain ⟨i0, hi0⟩ : ∃ i, Tryz.prog.info? 25 = some i := Option.isSome_iff_exists.1 (by kernel_rfl)
    have q1 : (Tryz.prog.info? 25).bind (·.zero) = some (tuV t0) := by kernel_rfl
    have q2 : (Tryz.prog.info? 25).map (·.size) = some 6 := by kernel_rfl
    have q3 : (Tryz.prog.info? 25).map (·.bytes) = some 96 := by kernel_rfl
    rw [hi0] at q1 q2 q3
    refine (AnyE.slices_Clone Tryz.cloneTu i0 (tuV t0) 6 96 hi0 q1 (Option.some.inj q2) (Option.some.inj q3) (by kernel_rfl) (by omega) (fun _ => by kernel_rfl) b off l.length c (l.flatMap tc) w (flat_len l) (Nat.le_trans hl (by decide)) (by omega) h3 ?_).mono ?_
    · intro u hu
      obtain ⟨x, _, hx⟩ := List.mem_flatMap.1 hu
      exact tc_one x u hx
    · rintro e w1 ⟨v', rfl, ho, hn, hb⟩
      refine ⟨v', rfl, hb, ?_⟩
      rcases ho.2 with ⟨h0, _⟩ | ⟨g, cap, cur, rfl, g1, g2, g3, g4, g5, g6⟩
      · exact absurd h0 hn
      · exact .inr ⟨g, cap, rfl, g3, g1, (Array.getElem?_eq_some_iff.1 g2).1, holds_of_row g2 g6⟩
theorem sortT_any {w : World} {g c : Nat} {l : List Tu} (hH : HoldsK tc 6 w g 0 l.toArray) (hg : g < w.heap.size) (hl : l.length ≤ 1000000) :
    Calls Tryz.prog 78 #[.slice (some ⟨g, 0, none⟩) l.length c, .func (.func 35) #[] #[]] w fun e w' => e = .returned (.tuple #[]) ∧ w.grownBy w' (some g) ∧ g < w'.heap.size ∧
      ∃ d, HoldsK tc 6 w' g 0 d ∧ d.size = l.length ∧ compactUpTo d d.size = sortedT l := by
  have eg : ∀ args w, (callFunc 35 args).run Tryz.prog w = .ok (.enter 35 args) w := enters_of Tryz.func35 (by kernel_rfl) rfl
  have hcon := AnyQ.slices_SortFunc Tryz.sortTu 6 (fun _ => by kernel_rfl) (fun _ => by kernel_rfl) tc (fun _ => rfl) tc_one ordT swoT 35 #[] g 0 c l.toArray w eg (cmpT g 0 _ w) hH hg (by simp; omega)
  change Calls Tryz.prog 78 _ _ _ at hcon
  refine hcon.mono ?_
  rintro e w1 ⟨rfl, d, n, os, hp, hs, rfl⟩
  have hd : d.size = l.length := by simpa using hp.1
  refine ⟨rfl, grownBy_sortK d, lt_sortWorldK tc 6 w g 0 n d os hg, d, holdsK_sortWorldK tc 6 w g 0 n l.toArray d os hg hH (by simpa using hd), hd, ?_⟩
  refine kept_sorted (fun i j hij hj => ?_) (fun x => ?_)
  · have := hs i j (Nat.zero_le _) hij (by simpa [hd] using hj)
    simp only [ltOf, decide_eq_false_iff_not] at this
    have := ordT_flip d[i]! d[j]!
    omega
  · have := hp.2.2
    rw [show d.extract 0 l.toArray.size = d by rw [Array.extract_eq_self_of_le (by simp [hd])], show l.toArray.extract 0 l.toArray.size = l.toArray by rw [Array.extract_eq_self_of_le (Nat.le_refl _)]] at this
    exact this.mem_iff
theorem compT_any {w : World} {g c : Nat} {d : Array Tu} {l : List Tu} (hH : HoldsK tc 6 w g 0 d) (hd : d.size = l.length) (hg : g < w.heap.size) (hk : compactUpTo d d.size = sortedT l) (hl : l.length ≤ 1000000) (hc : l.length ≤ c) :
    Calls Tryz.prog 79 #[.slice (some ⟨g, 0, none⟩) l.length c] w fun e w' => ∃ v', e = .returned v' ∧ w.grownBy w' (some g) ∧ TuSl w' v' (sortedT l) := by
  rw [← hd]
  refine (tcompact_any g 0 c d w hH (by omega) (by omega)).mono ?_
  rintro e w1 ⟨rfl, q, rfl⟩
  rw [hk]
  have hle : (sortedT l).length ≤ d.size := by rw [← hk]; unfold compactUpTo; rw [List.length_map]; exact Nat.le_trans (List.length_filter_le _ _) (by simp)
  have hs : putRowK tc 6 (Sort.ahead w q) g 0 (sortedT l ++ List.replicate (d.size - (sortedT l).length) t0).toArray = sortWorldK tc 6 w g 0 q (sortedT l ++ List.replicate (d.size - (sortedT l).length) t0).toArray #[] := by unfold sortWorldK; rw [grow_empty]
  rw [hs]
  refine ⟨_, rfl, grownBy_sortK _, .inr ⟨g, 0, c, rfl, by omega, lt_sortWorldK tc 6 w g 0 q _ #[] hg, ?_⟩⟩
  exact row_of_holds (r := List.replicate (d.size - (sortedT l).length) t0) (holdsK_sortWorldK tc 6 w g 0 q d _ #[] hg hH (by simp; omega))
set_option maxHeartbeats 1000000 in
theorem tsorted_any {w : World} {sv : Value} {l : List Tu} (h : TuSl w sv l) (hl : l.length ≤ 1000000) :
    Calls Tryz.prog 32 #[sv] w fun e w' => ∃ v', e = .returned v' ∧ Below w.heap.size w w' ∧ TuSl w' v' (sortedT l) := by
  have HC := Lib.hid (clone_any h hl)
  have HLN := Lib.hid hl
  clear h hl
  go_enter Tryz.func32, Tryz.ntmps32
  go_wp2_with fail
  refine HC.out.mono ?_
  rintro e w1 ⟨v', rfl, hb, hv⟩
  have HB := Lib.hid hb
  clear HC hb
  rcases hv with ⟨rfl, rfl⟩ | ⟨g, c, rfl, h1, h2, h3, h4⟩
  · go_wp2_with fail
    refine (sortNone _ none 0 _).mono ?_
    rintro e w2 ⟨rfl, rfl⟩
    go_wp2_with fail
    refine (tcompact_nil none 0 _).mono ?_
    rintro e w2 ⟨rfl, rfl⟩
    go_wp2_with fail
    go_ret
    exact ⟨_, rfl, HB.out, .inl ⟨rfl, rfl⟩⟩
  · have HS := Lib.hid (sortT_any (c := c) h4 h3 HLN.out)
    have H1 := Lib.hid h1
    have H2 := Lib.hid h2
    have H3 := Lib.hid h3
    clear h1 h2 h3 h4
    go_wp2_with fail
    refine HS.out.mono ?_
    rintro e w2 ⟨rfl, hg, hg2, d, hd1, hd2, hd3⟩
    have HB2 := Lib.hid (HB.out.trans (grown_below' hg H2.out HB.out.size))
    have HK := Lib.hid (compT_any hd1 hd2 hg2 hd3 HLN.out H1.out)
    have HZ := Lib.hid (Nat.le_trans HB.out.size hg.size)
    clear HS hg hg2 hd1 hd2 hd3
    go_wp2_with fail
    refine HK.out.mono ?_
    rintro e w3 ⟨v3, rfl, hg3, hsl⟩
    have HB3 := Lib.hid (HB2.out.trans (grown_below' hg3 H2.out HZ.out))
    have HV := Lib.hid hsl
    clear HK hg3 hsl
    go_wp2_with fail
    go_ret
    exact ⟨_, rfl, HB3.out, HV.out⟩
end Go.Proofs.YtnnebfcggdbgpaaGreatDoor
/-
  tuple.Put.
-/
namespace Go.Proofs.YtnnebfcggdbgpaaGreatDoor
open Go.ChangeShapes Go.WideShapes Go.ChangeAt Go.RowKit
set_option linter.unusedVariables false

theorem Held.setCell {base : Nat} {w : World} {v : Value} {l : List UInt8} (h : Held base w v l) {p : Addr} (hk : p.block < base) (x : Value) : Held base (w.setCell p x) v l := by
  rcases h with h | ⟨g, off, cap, hv, h1, h2, h3, h4, h5, h6⟩
  · exact .inl h
  · have hb : ∀ o, (w.setCell p x).heap[(⟨g, o, none⟩ : Addr).block]? = w.heap[(⟨g, o, none⟩ : Addr).block]? := fun o => Below.heap_setCell w p x g (by omega)
    exact .inr ⟨g, off, cap, hv, h1, h2, h3, by simpa [World.setCell] using h4, fun i hi => (World.cell?_of_block (hb _)).trans (h5 i hi), fun i hi => by
      rw [World.cell?_of_block (hb _), World.frozen?_of_block (hb _)]; exact h6 i hi⟩
theorem held_sl {base : Nat} {w : World} {v : Value} {l : List UInt8} (h : Held base w v l) : ∃ q n c, v = .slice q n c := by
  obtain ⟨q, c, hv, _⟩ := h.form
  exact ⟨q, _, c, hv⟩
set_option maxRecDepth 100000 in
set_option maxHeartbeats 2000000 in
theorem putC_any {W : World} {bt i bb base : Nat} {s : ByteArray} {l : List UInt8} {v x : Value} {m : Int} (hs : W.cell? ⟨bt, i, none⟩ = some (.string s)) (hb : Arr W 30 bb [v]) (hh : Held base W v l) (hbb : bb < base) (hbt : bt < bb) (hbase : base ≤ W.heap.size) (hsz : s.size ≤ 1000) (hl : l.length ≤ 1000000) :
    Calls Tryz.prog 56 #[.pointer (some ⟨bt, i, none⟩), .int .i64 m, x, .pointer (some ⟨bb, 0, none⟩)] W fun e W' => e = .returned (.tuple #[]) ∧ ∃ v', Arr W' 30 bb [v'] ∧ Held base W' v' (l ++ putS s) ∧ Below bb W W' := by
  have HT := Lib.hid (fun W' => text_any s (by omega) W')
  have HH := Lib.hid hh
  have HB := Lib.hid hb
  have HP := Lib.hid (putS_len s (by unfold lim64; omega))
  have HLE : Hid (l.length + (putS s).length ≤ 140737488355328) := by have := HP.out; show _ ≤ _; omega
  have HBB : Hid (bt < bb ∧ bb < base ∧ base ≤ W.heap.size) := ⟨hbt, hbb, hbase⟩
  have HS := Lib.hid hs
  have c0 := hb.cell 0
  have f0 := hb.free 0
  simp only [List.getElem?_cons_zero] at c0
  clear hh hb hbb hbt hbase hsz hl
  go_enter Tryz.func56, Tryz.ntmps56
  go_wp2_with fail
  have HD : Hid (Below W.heap.size W W.drew) := (Below.refl _ _).drew
  go_region_law (first
    | (refine step_held rfl (.tmp 7) (.tmp 11) rfl rfl HH2.out rfl HO2.out HLE.out HBS2.out ?_; intro v3 w3 hA bA; have hb3 := HB2.out.below bA HBB.out.2.1; have HB3 := Lib.hid hb3; have c3 := hb3.cell 0; have f3 := hb3.free 0; simp only [List.getElem?_cons_zero] at c3; have HA3 := Lib.hid hA; obtain ⟨q3, n3, p3, hv3⟩ := held_sl hA; subst hv3; have HW3 := Lib.hid ((HW2.out.mono (Nat.le_of_lt (Nat.lt_of_lt_of_le HBB.out.2.1 HBB.out.2.2))).trans (bA.mono (Nat.le_of_lt HBB.out.2.1))); clear hA bA hb3)
    | (go_simp; go_at_call 57; (with_reducible refine (HT.out _).mono ?_); rintro e w2 ⟨v2, rfl, o2, b2⟩; (try simp only []); have HW2 : Hid (Below W.heap.size W w2) := HD.out.trans b2; have hb2 := HB.out.later HW2.out; have HB2 := Lib.hid hb2; have c2 := hb2.cell 0; have f2 := hb2.free 0; simp only [List.getElem?_cons_zero] at c2; have HH2 := Lib.hid (HH.out.later HW2.out); have HO2 := Lib.hid (Rd.of_own o2); have HBS2 := Lib.hid (Nat.le_trans HBB.out.2.2 HW2.out.size); clear o2 b2 hb2))
  all_goals
    go_wp2_with fail
    go_end0
    exact ⟨rfl, _, HB3.out.set 0 _, HA3.out.setCell (p := ⟨bb, 0, none⟩) HBB.out.2.1 _, HW3.out.setCell (p := ⟨bb, 0, none⟩) (Nat.le_refl _) _⟩

/-- What Put's visitor keeps: the tuple in block bt, the slice in block bb, its bytes behind them. -/
def PI (w0 : World) (bt bb : Nat) (t : Tu) (l : List UInt8) (W : World) : Prop :=
  TuAt W bt t ∧ Below w0.heap.size w0 W ∧ bb + 1 ≤ W.heap.size ∧ w0.heap.size ≤ bt ∧ bt < bb ∧ ∃ v, Arr W 30 bb [v] ∧ Held (bb + 1) W v l
theorem PI.step {w0 W W' : World} {bt bb : Nat} {t : Tu} {l m : List UInt8} (h : PI w0 bt bb t l W) (hb : Below bb W W') {v' : Value} (h1 : Arr W' 30 bb [v']) (h2 : Held (bb + 1) W' v' m) : PI w0 bt bb t m W' := by
  obtain ⟨a, b, c, d, e, _⟩ := h
  exact ⟨a.below hb e, b.trans (hb.mono (by omega)), Nat.le_trans c hb.size, d, e, v', h1, h2⟩
def accP (t : Tu) : Nat → List UInt8
  | 0 => []
  | 1 => ([] ++ putS t.ot)
  | 2 => (([] ++ putS t.ot) ++ putS t.oi)
  | 3 => ((([] ++ putS t.ot) ++ putS t.oi) ++ putS t.re)
  | 4 => (((([] ++ putS t.ot) ++ putS t.oi) ++ putS t.re) ++ putS t.st)
  | 5 => ((((([] ++ putS t.ot) ++ putS t.oi) ++ putS t.re) ++ putS t.st) ++ putS t.si)
  | _ => (((((([] ++ putS t.ot) ++ putS t.oi) ++ putS t.re) ++ putS t.st) ++ putS t.si) ++ putS t.us)
theorem accP0 (t : Tu) : accP t 1 = accP t 0 ++ putS t.ot := rfl
theorem accP1 (t : Tu) : accP t 2 = accP t 1 ++ putS t.oi := rfl
theorem accP2 (t : Tu) : accP t 3 = accP t 2 ++ putS t.re := rfl
theorem accP3 (t : Tu) : accP t 4 = accP t 3 ++ putS t.st := rfl
theorem accP4 (t : Tu) : accP t 5 = accP t 4 ++ putS t.si := rfl
theorem accP5 (t : Tu) : accP t 6 = accP t 5 ++ putS t.us := rfl
theorem accP_all (t : Tu) : accP t 6 = putT t := by
  simp only [accP, putT, List.nil_append, List.append_assoc]
theorem putS_small (s : ByteArray) (h : s.size ≤ 1000) : (putS s).length ≤ 1010 := by
  have := putS_len s (by unfold lim64; omega)
  omega
set_option maxRecDepth 100000 in
set_option maxHeartbeats 1000000 in
theorem accP_len (t : Tu) (ht : rightT t = true) (n : Nat) : (accP t n).length ≤ 1000000 := by
  obtain ⟨h1, h2, h3, h4, h5, h6⟩ := rightT_all ht
  have a1 := putS_small t.ot (by have := name_size h1; omega)
  have a2 := putS_small t.oi (by have := id_size h2; omega)
  have a3 := putS_small t.re (by have := name_size h3; omega)
  have a4 := putS_small t.st (by have := name_size h4; omega)
  have a5 := putS_small t.si (by have := id_size h5; omega)
  have a6 := putS_small t.us (by have := us_size h6; omega)
  unfold accP
  split <;> simp only [List.length_append, List.length_nil] <;> omega
set_option maxRecDepth 100000 in
set_option maxHeartbeats 1000000 in
theorem put_yes (t : Tu) (ht : rightT t = true) (w : World) (hr : ResT w) : Calls Tryz.prog 16 #[tuV t] w fun e w' => ∃ v, e = .returned (.tuple #[v, .bool true]) ∧ Held w.heap.size w' v (putT t) ∧ Below w.heap.size w w' := by
  have b0 : Below w.heap.size w (w.alloc (.cells (tc t).toArray 25)) := (Below.refl _ _).alloc (Nat.le_refl _) _
  have HB0 := Lib.hid b0
  have HA0 := Lib.hid (tu_new w t)
  have HR := Lib.hid (hr.below b0 hr.lt)
  have HSZ := Lib.hid (rightT_all ht)
  have HLN := Lib.hid (accP_len t ht)
  have HY := Lib.hid ht
  have HG : Hid (w.heap.size < (w.alloc (.cells (tc t).toArray 25)).heap.size) := by show _ < _; simp
  clear b0 hr ht
  go_enter Tryz.func16, Tryz.ntmps16
  go_wp2_with ((with_reducible refine loadT (x := .tmp 1) (o := ⟨some _, _, _, _, _, _⟩) HA0.out ?_ ?_); exact ⟨rfl, rfl, rfl⟩)
  refine (right_any' t _ HR.out).mono ?_
  rintro e w1 ⟨rfl, b1⟩
  rw [HY.out]
  have HI : Hid (PI w w.heap.size w1.heap.size t [] (w1.alloc (.cells #[.slice none 0 0] 30))) := by
    have hb := (Below.refl w1.heap.size w1).alloc (Nat.le_refl _) (.cells #[.slice none 0 0] 30)
    exact ⟨(HA0.out.later b1).alloc _, (HB0.out.trans (b1.mono HB0.out.size)).trans (hb.mono (Nat.le_trans HB0.out.size b1.size)), by simp, Nat.le_refl _, Nat.lt_of_lt_of_le HG.out b1.size, _, Arr.new' w1 _ _ _ rfl, .inl ⟨rfl, rfl⟩⟩
  have HV := Lib.hid (visitP (fun i W => PI w w.heap.size w1.heap.size t (accP t i) W) (bt := w.heap.size) (x := .pointer (some ⟨w1.heap.size, 0, none⟩)) HI.out
    (fun W h => (putC_any (TuAt.cells h.1).1 h.2.2.2.2.2.choose_spec.1 h.2.2.2.2.2.choose_spec.2 (Nat.lt_succ_self _) h.2.2.2.2.1 h.2.2.1 (by have := name_size HSZ.out.1; omega) (HLN.out 0)).mono fun e W' ⟨he, v', k1, k2, k3⟩ => ⟨he, by show PI _ _ _ t (accP t 1) W'; rw [accP0]; exact h.step k3 k1 k2⟩)
    (fun W h => (putC_any (TuAt.cells h.1).2.1 h.2.2.2.2.2.choose_spec.1 h.2.2.2.2.2.choose_spec.2 (Nat.lt_succ_self _) h.2.2.2.2.1 h.2.2.1 (by have := id_size HSZ.out.2.1; omega) (HLN.out 1)).mono fun e W' ⟨he, v', k1, k2, k3⟩ => ⟨he, by show PI _ _ _ t (accP t 2) W'; rw [accP1]; exact h.step k3 k1 k2⟩)
    (fun W h => (putC_any (TuAt.cells h.1).2.2.1 h.2.2.2.2.2.choose_spec.1 h.2.2.2.2.2.choose_spec.2 (Nat.lt_succ_self _) h.2.2.2.2.1 h.2.2.1 (by have := name_size HSZ.out.2.2.1; omega) (HLN.out 2)).mono fun e W' ⟨he, v', k1, k2, k3⟩ => ⟨he, by show PI _ _ _ t (accP t 3) W'; rw [accP2]; exact h.step k3 k1 k2⟩)
    (fun W h => (putC_any (TuAt.cells h.1).2.2.2.1 h.2.2.2.2.2.choose_spec.1 h.2.2.2.2.2.choose_spec.2 (Nat.lt_succ_self _) h.2.2.2.2.1 h.2.2.1 (by have := name_size HSZ.out.2.2.2.1; omega) (HLN.out 3)).mono fun e W' ⟨he, v', k1, k2, k3⟩ => ⟨he, by show PI _ _ _ t (accP t 4) W'; rw [accP3]; exact h.step k3 k1 k2⟩)
    (fun W h => (putC_any (TuAt.cells h.1).2.2.2.2.1 h.2.2.2.2.2.choose_spec.1 h.2.2.2.2.2.choose_spec.2 (Nat.lt_succ_self _) h.2.2.2.2.1 h.2.2.1 (by have := id_size HSZ.out.2.2.2.2.1; omega) (HLN.out 4)).mono fun e W' ⟨he, v', k1, k2, k3⟩ => ⟨he, by show PI _ _ _ t (accP t 5) W'; rw [accP4]; exact h.step k3 k1 k2⟩)
    (fun W h => (putC_any (TuAt.cells h.1).2.2.2.2.2 h.2.2.2.2.2.choose_spec.1 h.2.2.2.2.2.choose_spec.2 (Nat.lt_succ_self _) h.2.2.2.2.1 h.2.2.1 (by have := us_size HSZ.out.2.2.2.2.2; omega) (HLN.out 5)).mono fun e W' ⟨he, v', k1, k2, k3⟩ => ⟨he, by show PI _ _ _ t (accP t 6) W'; rw [accP5]; exact h.step k3 k1 k2⟩))
  clear b1 HI HR HB0 HA0 HG
  go_wp2_with fail
  generalize w1.alloc (.cells #[.slice none 0 0] 30) = w1a at HV ⊢
  generalize w1.heap.size = bb at HV ⊢
  refine HV.out.mono ?_
  rintro e w2 ⟨rfl, h6⟩
  rw [accP_all] at h6
  obtain ⟨h1, h2, h3, h4, h5, v, h7, h8⟩ := h6
  have c2 := h7.cell 0
  simp only [List.getElem?_cons_zero] at c2
  have HB2 := Lib.hid h2
  have HH2 := Lib.hid (h8.mono (show w.heap.size ≤ bb + 1 by omega))
  obtain ⟨q, c, hv, _, _⟩ := h8.form
  obtain ⟨n, hn⟩ : ∃ n, n = (putT t).length := ⟨_, rfl⟩
  rw [← hn] at hv
  subst hv
  clear h1 h2 h3 h4 h5 h7 h8 hn HV
  go_wp2_with fail
  go_ret2
  exact ⟨_, rfl, HH2.out, HB2.out⟩
set_option maxRecDepth 100000 in
theorem put_no (t : Tu) (ht : rightT t = false) (w : World) (hr : ResT w) : Calls Tryz.prog 16 #[tuV t] w fun e w' => e = .returned (.tuple #[.slice none 0 0, .bool false]) ∧ Below w.heap.size w w' := by
  have b0 : Below w.heap.size w (w.alloc (.cells (tc t).toArray 25)) := (Below.refl _ _).alloc (Nat.le_refl _) _
  have HB0 := Lib.hid b0
  have HA0 := Lib.hid (tu_new w t)
  have HR := Lib.hid (hr.below b0 hr.lt)
  have HY := Lib.hid ht
  clear b0 hr ht
  go_enter Tryz.func16, Tryz.ntmps16
  go_wp2_with ((with_reducible refine loadT (x := .tmp 1) (o := ⟨some _, _, _, _, _, _⟩) HA0.out ?_ ?_); exact ⟨rfl, rfl, rfl⟩)
  refine (right_any' t _ HR.out).mono ?_
  rintro e w1 ⟨rfl, b1⟩
  rw [HY.out]
  have HB1 := Lib.hid (HB0.out.trans (b1.mono HB0.out.size))
  clear b1
  go_wp2_with fail
  go_ret2
  exact ⟨rfl, HB1.out⟩
end Go.Proofs.YtnnebfcggdbgpaaGreatDoor
/-
  tuple.Parse.
-/
namespace Go.Proofs.YtnnebfcggdbgpaaGreatDoor
open Go.ChangeShapes Go.WideShapes Go.ChangeAt Go.RowKit
open errAs (ErrT)
set_option linter.unusedVariables false

set_option maxRecDepth 100000 in
theorem shift_F (c n m : Nat) (w : World) (hg : ErrT w) (hn : n ≤ 1000000000000) (hm : m ≤ 1000000000000) :
    Calls Tryz.prog 65 #[faultN c n, .int .i64 m] w fun e w' => e = .returned (faultN c (n + m)) ∧ Below w.heap.size w w' := by
  have HE := Lib.hid hg
  have h0 : -9223372036854775808 ≤ (n : Int) + m := by omega
  have h1 : (n : Int) + m ≤ 9223372036854775807 := by omega
  clear hg
  unfold faultN
  go_enter Tryz.func65, Tryz.ntmps65
  go_wp2_with fail
  refine (errAs.code_F c n _ HE.out).mono ?_
  rintro e w1 ⟨rfl, b1⟩
  have HE1 := Lib.hid (errT_below HE.out b1)
  have HB1 := Lib.hid b1
  clear b1
  go_wp2_with fail
  refine (errAs.at_F c n _ HE1.out).mono ?_
  rintro e w2 ⟨rfl, b2⟩
  have HB2 := Lib.hid (HB1.out.trans (b2.mono HB1.out.size))
  clear b2
  go_wp2_with fail
  refine (fnew_any _ _ _).mono ?_
  rintro e w3 ⟨rfl, rfl⟩
  go_wp2_with fail
  go_ret
  exact ⟨by rw [Int.natCast_add]; rfl, HB2.out⟩
theorem errOr_F {c n : Nat} (h : c ≠ 0) : errOr c n = .iface 141 (.agg #[.int .i64 c, .int .i64 n]) := by unfold errOr; rw [if_neg h]; rfl
theorem errOr_0 (n : Nat) : errOr 0 n = .nilIface := rfl
theorem parseW_1 {n : Nat} {f ob re sub us : ByteArray} {k1 k2 k3 : Bool} (h : k1 = false ∨ k2 = false) : parseW n f k1 ob re k2 sub us k3 = (t0, 6, n) := by unfold parseW; rw [if_pos h]
theorem parseW_2 {n : Nat} {f ob re sub us : ByteArray} {k3 : Bool} (h : (parseObj ob).2.2.1 ≠ 0) : parseW n f true ob re true sub us k3 = (t0, (parseObj ob).2.2.1, (parseObj ob).2.2.2) := by unfold parseW; rw [if_neg (by simp), if_pos h]
theorem parseW_3 {n : Nat} {f ob re sub us : ByteArray} {k3 : Bool} (h : (parseObj ob).2.2.1 = 0) (h2 : isName re = false) : parseW n f true ob re true sub us k3 = (t0, 5, ob.size + 1) := by unfold parseW; rw [if_neg (by simp), if_neg (by omega), if_pos h2]
theorem parseW_4 {n : Nat} {f ob re sub us : ByteArray} {k3 : Bool} (h : (parseObj ob).2.2.1 = 0) (h2 : isName re = true) (h3 : (parseObj sub).2.2.1 ≠ 0) : parseW n f true ob re true sub us k3 = (t0, (parseObj sub).2.2.1, (parseObj sub).2.2.2 + (f.size + 1)) := by
  unfold parseW; rw [if_neg (by simp), if_neg (by omega), if_neg (by rw [h2]; simp), if_pos h3]
theorem parseW_5 {n : Nat} {f ob re sub us : ByteArray} (h : (parseObj ob).2.2.1 = 0) (h2 : isName re = true) (h3 : (parseObj sub).2.2.1 = 0) (h4 : isName us = false) : parseW n f true ob re true sub us true = (t0, 5, f.size + 1 + sub.size + 1) := by
  unfold parseW; rw [if_neg (by simp), if_neg (by omega), if_neg (by rw [h2]; simp), if_neg (by omega), if_pos ⟨rfl, h4⟩]
theorem parseW_6 {n : Nat} {f ob re sub us : ByteArray} {k3 : Bool} (h : (parseObj ob).2.2.1 = 0) (h2 : isName re = true) (h3 : (parseObj sub).2.2.1 = 0) (h4 : ¬ (k3 = true ∧ isName us = false)) : parseW n f true ob re true sub us k3 = (⟨(parseObj ob).1, (parseObj ob).2.1, re, (parseObj sub).1, (parseObj sub).2.1, us⟩, 0, 0) := by
  unfold parseW; rw [if_neg (by simp), if_neg (by omega), if_neg (by rw [h2]; simp), if_neg (by omega), if_neg h4]
set_option maxRecDepth 100000 in
set_option maxHeartbeats 4000000 in
theorem tparse_any (s : ByteArray) (w : World) (h : Env w) (hs : s.size ≤ 1000000) : Calls Tryz.prog 19 #[.string s] w fun e w' => e = .returned (.tuple #[tuV (parseT s).1, errF (parseT s).2.1 (parseT s).2.2]) ∧ Below w.heap.size w w' := by
  have b0 : Below w.heap.size w (w.alloc (.cells (tc t0).toArray 25)) := (Below.refl _ _).alloc (Nat.le_refl _) _
  have HB0 := Lib.hid b0
  have HX0 := Lib.hid (tu_new w t0)
  have HE0 := Lib.hid (h.below b0)
  have hsz := Lib.hid hs
  obtain ⟨f, bk, k1, hc1⟩ : ∃ a b c, cut3 s atA = (a, b, c) := ⟨_, _, _, rfl⟩
  obtain ⟨ob, re, k2, hc2⟩ : ∃ a b c, cut3 f hashA = (a, b, c) := ⟨_, _, _, rfl⟩
  obtain ⟨sub, us, k3, hc3⟩ : ∃ a b c, cut3 bk hashA = (a, b, c) := ⟨_, _, _, rfl⟩
  have HP : Hid (parseT s = parseW s.size f k1 ob re k2 sub us k3) := by show _ = _; unfold parseT; rw [hc1]; simp only []; rw [hc2, hc3]
  have zf : f.size ≤ 1000000 := by have := cut_size s atA; rw [hc1] at this; simp only [] at this; omega
  have zb : bk.size ≤ 1000000 := by have := cut_size2 s atA; rw [hc1] at this; simp only [] at this; omega
  have zo : ob.size ≤ 1000000 := by have := cut_size f hashA; rw [hc2] at this; simp only [] at this; omega
  have zs : sub.size ≤ 1000000 := by have := cut_size bk hashA; rw [hc3] at this; simp only [] at this; omega
  have H1 := Lib.hid hc1
  have H2 := Lib.hid hc2
  have H3 := Lib.hid hc3
  have HZ := Lib.hid (And.intro zf (And.intro zb (And.intro zo zs)))
  clear hc1 hc2 hc3 zf zb zo zs h b0 hs
  go_enter Tryz.func19, Tryz.ntmps19
  have HC := Lib.hid (cut_any s atA _ HE0.out hsz.out)
  rw [H1.out] at HC
  go_wp2_with fail
  refine HC.out.mono ?_
  rintro e w' ⟨rfl, n1, rfl⟩
  have b1 := below_drewN (Below.refl (w.alloc (.cells (tc t0).toArray 25)).heap.size (w.alloc (.cells (tc t0).toArray 25))) n1
  have HB1 := Lib.hid (HB0.out.trans (b1.mono HB0.out.size))
  have HX1 := Lib.hid (HX0.out.later b1)
  have HE1 := Lib.hid (HE0.out.below b1)
  clear b1 HB0 HX0 HE0
  clear HC
  generalize (w.alloc (.cells (tc t0).toArray 25)).drewN n1 = w1 at HB1 HX1 HE1 ⊢
  have HC2 := Lib.hid (cut_any f hashA w1 HE1.out (HZ.out.1))
  rw [H2.out] at HC2
  go_wp2_with fail
  refine HC2.out.mono ?_
  rintro e w' ⟨rfl, n2, rfl⟩
  clear HC2
  have b2 := below_drewN (Below.refl w1.heap.size w1) n2
  have HB2 := Lib.hid (HB1.out.trans (b2.mono HB1.out.size))
  have HX2 := Lib.hid (HX1.out.later b2)
  have HE2 := Lib.hid (HE1.out.below b2)
  clear b2 HB1 HX1 HE1
  generalize w1.drewN n2 = w2 at HB2 HX2 HE2 ⊢
  by_cases hk : k1 = false ∨ k2 = false
  · have HR : Hid (parseT s = (t0, 6, s.size)) := by show _ = _; rw [HP.out]; exact parseW_1 hk
    have zss : (s.size : Int) ≤ 1000000 := by have := hsz.out; omega
    rcases Bool.eq_false_or_eq_true k1 with rfl | rfl
    · obtain rfl : k2 = false := hk.resolve_left (by simp)
      clear hk
      go_wp2_with fail
      refine (fnew_any _ _ _).mono ?_
      rintro e w3 ⟨rfl, hw3⟩
      subst hw3
      have hA := HX2.out
      go_wp2_with ((with_reducible refine storeT (x := .tmp 2) (y := .tmp 35) (u := t0) (o := ⟨none, .store _ _ _, _, _, _, _⟩) hA ?_ ?_); exact ⟨rfl, rfl, rfl, rfl⟩)
      refine bodyPost_ret (resT rfl (hA.row _) rfl) rfl ⟨?_, below_row HB2.out (Nat.le_refl _) _⟩
      rw [HR.out]; rfl
    · clear hk
      go_wp2_with fail
      refine (fnew_any _ _ _).mono ?_
      rintro e w3 ⟨rfl, hw3⟩
      subst hw3
      have hA := HX2.out
      go_wp2_with ((with_reducible refine storeT (x := .tmp 2) (y := .tmp 35) (u := t0) (o := ⟨none, .store _ _ _, _, _, _, _⟩) hA ?_ ?_); exact ⟨rfl, rfl, rfl, rfl⟩)
      refine bodyPost_ret (resT rfl (hA.row _) rfl) rfl ⟨?_, below_row HB2.out (Nat.le_refl _) _⟩
      rw [HR.out]; rfl
  · obtain rfl : k1 = true := by cases k1; exact absurd (.inl rfl) hk; rfl
    obtain rfl : k2 = true := by cases k2; exact absurd (.inr rfl) hk; rfl
    clear hk
    have HC3 := Lib.hid (cut_any bk hashA w2 HE2.out (HZ.out.2.1))
    rw [H3.out] at HC3
    go_wp2_with fail
    refine HC3.out.mono ?_
    rintro e w' ⟨rfl, n3, rfl⟩
    clear HC3
    have b3 := below_drewN (Below.refl w2.heap.size w2) n3
    have HB3 := Lib.hid (HB2.out.trans (b3.mono HB2.out.size))
    have HX3 := Lib.hid (HX2.out.later b3)
    have HE3 := Lib.hid (HE2.out.below b3)
    clear b3 HB2 HX2 HE2
    generalize w2.drewN n3 = w3 at HB3 HX3 HE3 ⊢
    have HO := Lib.hid (parseObj_any ob w3 HE3.out HZ.out.2.2.1)
    have HZO := Lib.hid (parseObj_at ob)
    obtain ⟨Q, hQ⟩ : ∃ Q, Q = parseObj ob := ⟨_, rfl⟩
    rw [← hQ] at HO HZO
    have HQ := Lib.hid hQ
    clear hQ
    obtain ⟨oa, oi, oc, on⟩ := Q
    go_wp2_with fail
    refine HO.out.mono ?_
    rintro e w4 ⟨rfl, b4⟩
    have HB4 := Lib.hid (HB3.out.trans (b4.mono HB3.out.size))
    have HX4 := Lib.hid (HX3.out.later b4)
    have HE4 := Lib.hid (HE3.out.below b4)
    clear b4 HB3 HX3 HE3
    clear HO
    have b5 : Below w4.heap.size w4 (w4.alloc (.cells #[.string oa, .string oi] 23)) := (Below.refl _ _).alloc (Nat.le_refl _) _
    have HO5 := Lib.hid (Arr.new' w4 23 #[.string oa, .string oi] _ rfl)
    have HB5 := Lib.hid (HB4.out.trans (b5.mono HB4.out.size))
    have HX5 := Lib.hid (HX4.out.later b5)
    have HE5 := Lib.hid (HE4.out.below b5)
    clear b5 HB4 HX4 HE4
    by_cases hoc : oc = 0
    · subst hoc
      rw [errOr_0]
      have HQ0 : Hid ((parseObj ob).2.2.1 = 0) := by show _ = _; rw [← HQ.out]
      go_upto_region 7 with fail
      generalize w4.alloc (.cells #[.string oa, .string oi] 23) = w5 at HB5 HX5 HE5 HO5 ⊢
      generalize w4.heap.size = g5 at HO5 ⊢
      go_wp2_with fail
      refine (isName_any re w5 HE5.out.1).mono ?_
      rintro e w6 ⟨rfl, b6⟩
      have HO6 := Lib.hid (HO5.out.later b6)
      have HB6 := Lib.hid (HB5.out.trans (b6.mono HB5.out.size))
      have HX6 := Lib.hid (HX5.out.later b6)
      have HE6 := Lib.hid (HE5.out.below b6)
      clear b6 HB5 HX5 HE5
      clear HO5
      cases hre : isName re with
      | false =>
        have HR : Hid (parseT s = (t0, 5, ob.size + 1)) := by show _ = _; rw [HP.out, parseW_3 HQ0.out hre]
        have zo : (ob.size : Int) ≤ 1000000 := by have := HZ.out.2.2.1; omega
        clear hre
        go_wp2_with fail
        refine (fnew_any _ _ _).mono ?_
        rintro e w7 ⟨rfl, hw7⟩
        subst hw7
        have hA := HX6.out
        go_wp2_with ((with_reducible refine storeT (x := .tmp 2) (y := .tmp 57) (u := t0) (o := ⟨none, .store _ _ _, _, _, _, _⟩) hA ?_ ?_); exact ⟨rfl, rfl, rfl, rfl⟩)
        refine bodyPost_ret (resT rfl (hA.row _) rfl) rfl ⟨?_, below_row HB6.out (Nat.le_refl _) _⟩
        rw [HR.out]; rfl
      | true =>
        have HRE := Lib.hid hre
        have zf : (f.size : Int) ≤ 1000000 := by have := HZ.out.1; omega
        clear hre
        have HU := Lib.hid (parseObj_any sub w6 HE6.out HZ.out.2.2.2)
        have HZU := Lib.hid (parseObj_at sub)
        obtain ⟨Q2, hQ2⟩ : ∃ Q, Q = parseObj sub := ⟨_, rfl⟩
        rw [← hQ2] at HU HZU
        have HQ2 := Lib.hid hQ2
        clear hQ2
        obtain ⟨ua, ui, uc, un⟩ := Q2
        go_wp2_with fail
        refine HU.out.mono ?_
        rintro e w7 ⟨rfl, b7⟩
        have HO7 := Lib.hid (HO6.out.later b7)
        have HB7 := Lib.hid (HB6.out.trans (b7.mono HB6.out.size))
        have HX7 := Lib.hid (HX6.out.later b7)
        have HE7 := Lib.hid (HE6.out.below b7)
        clear b7 HB6 HX6 HE6
        clear HU HO6
        have b8 : Below w7.heap.size w7 (w7.alloc (.cells #[.string ua, .string ui] 23)) := (Below.refl _ _).alloc (Nat.le_refl _) _
        have HU8 := Lib.hid (Arr.new' w7 23 #[.string ua, .string ui] _ rfl)
        have HO8 := Lib.hid (HO7.out.later b8)
        have HB8 := Lib.hid (HB7.out.trans (b8.mono HB7.out.size))
        have HX8 := Lib.hid (HX7.out.later b8)
        have HE8 := Lib.hid (HE7.out.below b8)
        clear b8 HB7 HX7 HE7
        clear HO7
        by_cases huc : uc = 0
        · subst huc
          rw [errOr_0]
          have HQ20 : Hid ((parseObj sub).2.2.1 = 0) := by show _ = _; rw [← HQ2.out]
          have HT : Hid ((⟨(parseObj ob).1, (parseObj ob).2.1, re, (parseObj sub).1, (parseObj sub).2.1, us⟩ : Tu) = ⟨oa, oi, re, ua, ui, us⟩) := by show _ = _; rw [← HQ.out, ← HQ2.out]
          go_upto_region 13 with fail
          generalize w7.alloc (.cells #[.string ua, .string ui] 23) = w8 at HB8 HX8 HE8 HU8 HO8 ⊢
          generalize w7.heap.size = g8 at HU8 ⊢
          cases k3 with
          | false =>
            have HR : Hid (parseT s = (⟨oa, oi, re, ua, ui, us⟩, 0, 0)) := by show _ = _; rw [HP.out, parseW_6 HQ0.out HRE.out HQ20.out (by rintro ⟨h, _⟩; cases h), HT.out]
            have o0 := HO8.out.cell 0
            have o1 := HO8.out.cell 1
            have u0 := HU8.out.cell 0
            have u1 := HU8.out.cell 1
            simp only [List.getElem?_cons_zero, List.getElem?_cons_succ] at o0 o1 u0 u1
            have hA := HX8.out
            go_wp2_with ((with_reducible refine storeT (x := .tmp 2) (y := .tmp 93) (u := ⟨oa, oi, re, ua, ui, us⟩) (o := ⟨none, .store _ _ _, _, _, _, _⟩) hA ?_ ?_); exact ⟨rfl, rfl, rfl, rfl⟩)
            refine bodyPost_ret (resT rfl (hA.row _) rfl) rfl ⟨?_, below_row HB8.out (Nat.le_refl _) _⟩
            rw [HR.out]; rfl
          | true =>
            go_wp2_with fail
            refine (isName_any us w8 HE8.out.1).mono ?_
            rintro e w9 ⟨rfl, b9⟩
            have HU9 := Lib.hid (HU8.out.later b9)
            have HO9 := Lib.hid (HO8.out.later b9)
            have HB9 := Lib.hid (HB8.out.trans (b9.mono HB8.out.size))
            have HX9 := Lib.hid (HX8.out.later b9)
            have HE9 := Lib.hid (HE8.out.below b9)
            clear b9 HB8 HX8 HE8
            clear HU8 HO8
            cases hus : isName us with
            | false =>
              have HR : Hid (parseT s = (t0, 5, f.size + 1 + sub.size + 1)) := by show _ = _; rw [HP.out, parseW_5 HQ0.out HRE.out HQ20.out hus]
              have zsu : (sub.size : Int) ≤ 1000000 := by have := HZ.out.2.2.2; omega
              clear hus
              go_wp2_with fail
              refine (fnew_any _ _ _).mono ?_
              rintro e w10 ⟨rfl, hw10⟩
              subst hw10
              have hA := HX9.out
              go_wp2_with ((with_reducible refine storeT (x := .tmp 2) (y := .tmp 82) (u := t0) (o := ⟨none, .store _ _ _, _, _, _, _⟩) hA ?_ ?_); exact ⟨rfl, rfl, rfl, rfl⟩)
              refine bodyPost_ret (resT rfl (hA.row _) rfl) rfl ⟨?_, below_row HB9.out (Nat.le_refl _) _⟩
              rw [HR.out]; rfl
            | true =>
              have HR : Hid (parseT s = (⟨oa, oi, re, ua, ui, us⟩, 0, 0)) := by show _ = _; rw [HP.out, parseW_6 HQ0.out HRE.out HQ20.out (by rintro ⟨_, h⟩; rw [hus] at h; cases h), HT.out]
              clear hus
              have o0 := HO9.out.cell 0
              have o1 := HO9.out.cell 1
              have u0 := HU9.out.cell 0
              have u1 := HU9.out.cell 1
              simp only [List.getElem?_cons_zero, List.getElem?_cons_succ] at o0 o1 u0 u1
              have hA := HX9.out
              go_wp2_with ((with_reducible refine storeT (x := .tmp 2) (y := .tmp 93) (u := ⟨oa, oi, re, ua, ui, us⟩) (o := ⟨none, .store _ _ _, _, _, _, _⟩) hA ?_ ?_); exact ⟨rfl, rfl, rfl, rfl⟩)
              refine bodyPost_ret (resT rfl (hA.row _) rfl) rfl ⟨?_, below_row HB9.out (Nat.le_refl _) _⟩
              rw [HR.out]; rfl
        · have HR : Hid (parseT s = (t0, uc, un + (f.size + 1))) := by show _ = _; rw [HP.out, parseW_4 HQ0.out HRE.out (by rw [← HQ2.out]; exact huc), ← HQ2.out]
          have hE := errOr_F (n := un) huc
          rw [hE]
          have hq := eqNF uc un
          have HOC := Lib.hid huc
          clear hE huc
          go_upto_region 13 with fail
          generalize w7.alloc (.cells #[.string ua, .string ui] 23) = w8 at HB8 HX8 HE8 HU8 HO8 ⊢
          have HSH := Lib.hid (shift_F uc un (f.size + 1) w8 HE8.out.2.1 (by have := HZU.out.1; have := HZ.out.2.2.2; omega) (by have := HZ.out.1; omega))
          unfold faultN at HSH
          rw [show ((f.size + 1 : Nat) : Int) = (f.size : Int) + 1 by omega] at HSH
          go_wp2_with fail
          refine HSH.out.mono ?_
          rintro e w9 ⟨rfl, b9⟩
          have HB9 := Lib.hid (HB8.out.trans (b9.mono HB8.out.size))
          have HX9 := Lib.hid (HX8.out.later b9)
          have HE9 := Lib.hid (HE8.out.below b9)
          clear b9 HB8 HX8 HE8
          clear HSH
          have hA := HX9.out
          go_wp2_with ((with_reducible refine storeT (x := .tmp 2) (y := .tmp 72) (u := t0) (o := ⟨none, .store _ _ _, _, _, _, _⟩) hA ?_ ?_); exact ⟨rfl, rfl, rfl, rfl⟩)
          refine bodyPost_ret (resT rfl (hA.row _) rfl) rfl ⟨?_, below_row HB9.out (Nat.le_refl _) _⟩
          rw [HR.out]
          show _ = Ending.returned (.tuple #[tuV t0, errF uc (un + (f.size + 1))])
          unfold errF
          rw [if_neg HOC.out]; rfl
    · have HR : Hid (parseT s = (t0, oc, on)) := by show _ = _; rw [HP.out, parseW_2 (by rw [← HQ.out]; exact hoc), ← HQ.out]
      have hE := errOr_F (n := on) hoc
      rw [hE]
      have hq := eqNF oc on
      have HOC := Lib.hid hoc
      clear hE hoc
      go_upto_region 7 with fail
      generalize w4.alloc (.cells #[.string oa, .string oi] 23) = w5 at HB5 HX5 HE5 HO5 ⊢
      have hA := HX5.out
      go_wp2_with ((with_reducible refine storeT (x := .tmp 2) (y := .tmp 52) (u := t0) (o := ⟨none, .store _ _ _, _, _, _, _⟩) hA ?_ ?_); exact ⟨rfl, rfl, rfl, rfl⟩)
      refine bodyPost_ret (resT rfl (hA.row _) rfl) rfl ⟨?_, below_row HB5.out (Nat.le_refl _) _⟩
      rw [HR.out]
      show _ = Ending.returned (.tuple #[tuV t0, errF oc on])
      unfold errF
      rw [if_neg HOC.out]; rfl
end Go.Proofs.YtnnebfcggdbgpaaGreatDoor
/-
  vestrylaw18.awake.
-/
namespace Go.Proofs.YtnnebfcggdbgpaaGreatDoor
open Go.ChangeShapes Go.WideShapes Go.ChangeAt Go.RowKit
open errAs (ErrT)
set_option linter.unusedVariables false

theorem eqW {ops : Array Oper} {rest : List Oper} {o : Oper} {a : Act} {Q : Exit → Act → World → Prop} {w : World} {x y : Operand} {u v : Tu} {r : Bool} {t : TypeId} (he : eqT u v = r) (hs : Region.wanted o (yielded ops a.tmps) = true ∧ o.op = .binOp .eql 25 x y t ∧ a.eval x = tuV u ∧ a.eval y = tuV v)
    (hk : wpList Tryz.prog ops Q rest (a.put o.dst (.bool r)) w) : wpList Tryz.prog ops Q (o :: rest) a w :=
  wpList_step fun K hK => by
    have hg : Tryz.prog.eqGuardType Tryz.prog.depth 25 = false := by kernel_rfl
    subst he
    rw [if_pos hs.1]
    unfold Oper.wp execOp
    simp only [hs.2.1, hs.2.2.1, hs.2.2.2, Sem.run_bind, run_eqGuard_agg (hm := hg), Result.andThen_ok, eqlT, Sem.run_pure]
    exact hK _ _ hk
theorem neW {ops : Array Oper} {rest : List Oper} {o : Oper} {a : Act} {Q : Exit → Act → World → Prop} {w : World} {x y : Operand} {u v : Tu} {r : Bool} {t : TypeId} (he : eqT u v = !r) (hs : Region.wanted o (yielded ops a.tmps) = true ∧ o.op = .binOp .neq 25 x y t ∧ a.eval x = tuV u ∧ a.eval y = tuV v)
    (hk : wpList Tryz.prog ops Q rest (a.put o.dst (.bool r)) w) : wpList Tryz.prog ops Q (o :: rest) a w :=
  wpList_step fun K hK => by
    have hg : Tryz.prog.eqGuardType Tryz.prog.depth 25 = false := by kernel_rfl
    rw [if_pos hs.1]
    unfold Oper.wp execOp
    simp only [hs.2.1, hs.2.2.1, hs.2.2.2, Sem.run_bind, run_eqGuard_agg (hm := hg), Result.andThen_ok, neqT, he, Bool.not_not, Sem.run_pure]
    exact hK _ _ hk
theorem loadX {ops : Array Oper} {rest : List Oper} {o : Oper} {a : Act} {Q : Exit → Act → World → Prop} {w : World} {g : Nat} {x : Operand} {k : TypeId} {t : Tu} (hA : Arr w k g (tc t)) (hs : Region.wanted o (yielded ops a.tmps) = true ∧ o.op = .load 25 x ∧ a.eval x = .pointer (some ⟨g, 0, none⟩))
    (hk : wpList Tryz.prog ops Q rest (a.put o.dst (.agg #[.string t.ot, .string t.oi, .string t.re, .string t.st, .string t.si, .string t.us])) w) : wpList Tryz.prog ops Q (o :: rest) a w := loadT hA hs hk
theorem sorted_two (t : Tu) : sortedT [t, t] = [t] := by
  have h : Ris [t] := List.pairwise_singleton _ _
  refine ris_ext (sorted_ris _) h fun x => ?_
  rw [sorted_mem]; simp
theorem TuSl.one {w : World} {v : Value} {t : Tu} (h : TuSl w v [t]) : ∃ b off c, v = .slice (some ⟨b, off, none⟩) 1 c := by
  rcases h with ⟨_, h⟩ | ⟨b, off, c, rfl, _⟩
  · cases h
  · exact ⟨b, off, c, rfl⟩
theorem rightT_t0 : rightT t0 = false := by decide +kernel
theorem awake_text : ∃ t, parseT ⟨#[100, 111, 99, 117, 109, 101, 110, 116, 58, 97, 35, 118, 105, 101, 119, 101, 114, 64, 103, 114, 111, 117, 112, 58, 98, 35, 109, 101, 109, 98, 101, 114]⟩ = (t, 0, 0) ∧ rightT t = true ∧ textT t = ⟨#[100, 111, 99, 117, 109, 101, 110, 116, 58, 97, 35, 118, 105, 101, 119, 101, 114, 64, 103, 114, 111, 117, 112, 58, 98, 35, 109, 101, 109, 98, 101, 114]⟩ ∧ t.us = ⟨#[109, 101, 109, 98, 101, 114]⟩ := by
  have h0 : (parseT ⟨#[100, 111, 99, 117, 109, 101, 110, 116, 58, 97, 35, 118, 105, 101, 119, 101, 114, 64, 103, 114, 111, 117, 112, 58, 98, 35, 109, 101, 109, 98, 101, 114]⟩).2.1 = 0 := by decide +kernel
  have hu : (parseT ⟨#[100, 111, 99, 117, 109, 101, 110, 116, 58, 97, 35, 118, 105, 101, 119, 101, 114, 64, 103, 114, 111, 117, 112, 58, 98, 35, 109, 101, 109, 98, 101, 114]⟩).1.us = ⟨#[109, 101, 109, 98, 101, 114]⟩ := by decide +kernel
  obtain ⟨h1, h2, h3⟩ := parseT_back h0
  exact ⟨_, Prod.ext rfl (Prod.ext h0 h3), h1, h2, hu⟩
theorem awake_fault : ∃ u, parseT ⟨#[97, 58, 98]⟩ = (u, 6, 3) := ⟨(parseT ⟨#[97, 58, 98]⟩).1, Prod.ext rfl (by decide +kernel)⟩
set_option maxRecDepth 100000 in
set_option maxHeartbeats 4000000 in
theorem tawake_any (w : World) (hE : Env w) : Calls Tryz.prog 13 #[] w fun e w' => e = .returned (.bool true) ∧ Below w.heap.size w w' := by
  obtain ⟨t, hp, hr, ht, hu⟩ := awake_text
  obtain ⟨u, hq⟩ := awake_fault
  have HE := Lib.hid hE
  have HR := Lib.hid hr
  have HQ := Lib.hid hq
  have HTX := Lib.hid ht
  have HU := Lib.hid hu
  have HP : Hid (Calls Tryz.prog 19 #[.string ⟨#[100, 111, 99, 117, 109, 101, 110, 116, 58, 97, 35, 118, 105, 101, 119, 101, 114, 64, 103, 114, 111, 117, 112, 58, 98, 35, 109, 101, 109, 98, 101, 114]⟩] w fun e w' => e = .returned (.tuple #[tuV t, .nilIface]) ∧ Below w.heap.size w w') := by
    have h := tparse_any ⟨#[100, 111, 99, 117, 109, 101, 110, 116, 58, 97, 35, 118, 105, 101, 119, 101, 114, 64, 103, 114, 111, 117, 112, 58, 98, 35, 109, 101, 109, 98, 101, 114]⟩ w hE (by decide)
    rw [hp] at h
    exact h
  clear hE hr hq ht hu hp
  go_enter Tryz.func13, Tryz.ntmps13
  go_wp2_with fail
  refine HP.out.mono ?_
  rintro e w1 ⟨rfl, b1⟩
  have hb2 : Below w1.heap.size w1 (w1.alloc (.cells (tc t).toArray 25)) := (Below.refl _ _).alloc (Nat.le_refl _) _
  have HB2 := Lib.hid (b1.trans (hb2.mono b1.size))
  have HE2 := Lib.hid ((HE.out.below b1).below hb2)
  have HA2 := Lib.hid (tu_new w1 t)
  clear b1 hb2 HP HE
  go_upto_region 3 with ((with_reducible refine atT w1.heap.size (x := .tmp 2) (y := .tmp 15) (u := t) (o := ⟨none, .store _ _ _, _, _, _, _⟩) ?_ ?_); exact ⟨rfl, rfl, rfl, rfl, rfl, rfl⟩)
  generalize w1.alloc (.cells (tc t).toArray 25) = w2 at HB2 HE2 HA2 ⊢
  generalize w1.heap.size = g2 at HA2 ⊢
  have HT := Lib.hid (text_yes t HR.out w2 HE2.out)
  rw [HTX.out] at HT
  go_wp2_with ((with_reducible refine loadT (x := .tmp 2) (u := t) (o := ⟨some 18, _, _, _, _, _⟩) HA2.out ?_ ?_); exact ⟨rfl, rfl, rfl⟩)
  refine HT.out.mono ?_
  rintro e w3 ⟨rfl, b3⟩
  have HB3 := Lib.hid (HB2.out.trans (b3.mono HB2.out.size))
  have HE3 := Lib.hid (HE2.out.below b3)
  have HA3 := Lib.hid (HA2.out.later b3)
  have HPU := Lib.hid (put_yes t HR.out w3 HE3.out.1)
  clear b3 HT HB2 HE2 HA2
  go_wp2_with ((with_reducible refine loadT (x := .tmp 2) (u := t) (o := ⟨some 23, _, _, _, _, _⟩) HA3.out ?_ ?_); exact ⟨rfl, rfl, rfl⟩)
  refine HPU.out.mono ?_
  rintro e w4 ⟨v, rfl, hh, b4⟩
  have HB4 := Lib.hid (HB3.out.trans (b4.mono HB3.out.size))
  have HE4 := Lib.hid (HE3.out.below b4)
  have HA4 := Lib.hid (HA3.out.later b4)
  have HPB : Hid (Calls Tryz.prog 20 #[v] w4 fun e w' => e = .returned (.tuple #[tuV t, .nilIface]) ∧ Below w4.heap.size w4 w') := by
    have h := tparseB_any hh.rd (Nat.le_refl _) (Nat.le_trans (putT_len HR.out) (by decide)) HE4.out
    rw [parseB_put HR.out] at h
    exact h
  obtain ⟨pv, cv, rfl⟩ := rd_form hh.rd
  clear hh b4 HPU HB3 HE3 HA3
  go_wp2_with fail
  refine HPB.out.mono ?_
  rintro e w5 ⟨rfl, b5⟩
  have hb6 : Below w5.heap.size w5 (w5.alloc (.cells (tc t).toArray 25)) := (Below.refl _ _).alloc (Nat.le_refl _) _
  have HB6 := Lib.hid ((HB4.out.trans (b5.mono HB4.out.size)).trans (hb6.mono (HB4.out.trans (b5.mono HB4.out.size)).size))
  have HE6 := Lib.hid ((HE4.out.below b5).below hb6)
  have HA6 := Lib.hid ((HA4.out.later b5).later hb6)
  have HX6 := Lib.hid (tu_new w5 t)
  clear b5 hb6 HPB HB4 HE4 HA4
  go_upto_region 6 with ((with_reducible refine atT w5.heap.size (x := .tmp 8) (y := .tmp 30) (u := t) (o := ⟨none, .store _ _ _, _, _, _, _⟩) ?_ ?_); exact ⟨rfl, rfl, rfl, rfl, rfl, rfl⟩)
  generalize w5.alloc (.cells (tc t).toArray 25) = w6 at HB6 HE6 HA6 HX6 ⊢
  generalize w5.heap.size = g6 at HX6 ⊢
  have HPC : Hid (Calls Tryz.prog 19 #[.string ⟨#[97, 58, 98]⟩] w6 fun e w' => e = .returned (.tuple #[tuV u, errF 6 3]) ∧ Below w6.heap.size w6 w') := by
    have h := tparse_any ⟨#[97, 58, 98]⟩ w6 HE6.out (by decide)
    rw [HQ.out] at h
    exact h
  go_wp2_with fail
  refine HPC.out.mono ?_
  rintro e w7 ⟨rfl, b7⟩
  have hb8 : Below w7.heap.size w7 (w7.alloc (.cells (tc u).toArray 25)) := (Below.refl _ _).alloc (Nat.le_refl _) _
  have HB8 := Lib.hid ((HB6.out.trans (b7.mono HB6.out.size)).trans (hb8.mono (HB6.out.trans (b7.mono HB6.out.size)).size))
  have HE8 := Lib.hid ((HE6.out.below b7).below hb8)
  have HA8 := Lib.hid ((HA6.out.later b7).later hb8)
  have HX8 := Lib.hid ((HX6.out.later b7).later hb8)
  clear b7 hb8 HPC HB6 HE6 HA6 HX6
  go_upto_region 7 with ((with_reducible refine atT w7.heap.size (x := .tmp 10) (y := .tmp 34) (u := u) (o := ⟨none, .store _ _ _, _, _, _, _⟩) ?_ ?_); exact ⟨rfl, rfl, rfl, rfl, rfl, rfl⟩)
  generalize w7.alloc (.cells (tc u).toArray 25) = w8 at HB8 HE8 HA8 HX8 ⊢
  generalize w7.heap.size = g7 at ⊢
  obtain ⟨_, _, _, _, _, c5⟩ := TuAt.cells HA8.out
  rw [HU.out] at c5
  have HTO := Lib.hid (told_any 6 3 w8 HE8.out.2.1)
  have hee : Hid (eqT t t = true) := eqT_refl t
  go_wp2_with (first
    | ((with_reducible refine loadT (x := .tmp 2) (u := t) (o := ⟨some 56, _, _, _, _, _⟩) HA8.out ?_ ?_); exact ⟨rfl, rfl, rfl⟩)
    | ((with_reducible refine loadT (x := .tmp 8) (u := t) (o := ⟨some 55, _, _, _, _, _⟩) HX8.out ?_ ?_); exact ⟨rfl, rfl, rfl⟩)
    | ((with_reducible refine eqW hee.out (t := 25) (x := .tmp 55) (y := .tmp 56) (o := ⟨some 57, _, _, _, _, _⟩) ?_ ?_); exact ⟨rfl, rfl, rfl, rfl⟩))
  refine HTO.out.mono ?_
  rintro e w9 ⟨rfl, b9⟩
  have HB9 := Lib.hid (HB8.out.trans (b9.mono HB8.out.size))
  have HE9 := Lib.hid (HE8.out.below b9)
  have HA9 := Lib.hid (HA8.out.later b9)
  have HRT := Lib.hid (right_any' t w9 HE9.out.1)
  rw [HR.out] at HRT
  clear b9 HTO HB8 HE8 HA8 HX8 c5
  go_wp2_with ((with_reducible refine loadT (x := .tmp 2) (u := t) (o := ⟨some 68, _, _, _, _, _⟩) HA9.out ?_ ?_); exact ⟨rfl, rfl, rfl⟩)
  refine HRT.out.mono ?_
  rintro e w10 ⟨rfl, b10⟩
  have HB10 := Lib.hid (HB9.out.trans (b10.mono HB9.out.size))
  have HE10 := Lib.hid (HE9.out.below b10)
  have HA10 := Lib.hid (HA9.out.later b10)
  have HR0 := Lib.hid (right_any' t0 w10 HE10.out.1)
  rw [rightT_t0] at HR0
  clear b10 HRT HB9 HE9 HA9
  go_wp2_with fail
  refine HR0.out.mono ?_
  rintro e w11 ⟨rfl, b11⟩
  have HB11 := Lib.hid (HB10.out.trans (b11.mono HB10.out.size))
  have HA11 := Lib.hid (HA10.out.later b11)
  have HCM := Lib.hid (tcompare_below t t w11)
  rw [ordT_self] at HCM
  clear b11 HR0 HB10 HE10 HA10
  go_wp2_with (first
    | ((with_reducible refine loadT (x := .tmp 2) (u := t) (o := ⟨some 77, _, _, _, _, _⟩) HA11.out ?_ ?_); exact ⟨rfl, rfl, rfl⟩)
    | ((with_reducible refine loadT (x := .tmp 2) (u := t) (o := ⟨some 78, _, _, _, _, _⟩) HA11.out ?_ ?_); exact ⟨rfl, rfl, rfl⟩))
  refine HCM.out.mono ?_
  rintro e w12 ⟨rfl, b12⟩
  have HB12 := Lib.hid (HB11.out.trans (b12.mono HB11.out.size))
  have HA12 := Lib.hid (HA11.out.later b12)
  clear b12 HCM HB11 HA11
  have hb13 : Below w12.heap.size w12 (w12.alloc (.cells #[.string t.ot, .string t.oi, .string t.re, .string t.st, .string t.si, .string t.us, .string t.ot, .string t.oi, .string t.re, .string t.st, .string t.si, .string t.us] 25)) := (Below.refl _ _).alloc (Nat.le_refl _) _
  have HSO : Hid (Calls Tryz.prog 32 #[.slice (some ⟨w12.heap.size, 0, none⟩) 2 2] (w12.alloc (.cells #[.string t.ot, .string t.oi, .string t.re, .string t.st, .string t.si, .string t.us, .string t.ot, .string t.oi, .string t.re, .string t.st, .string t.si, .string t.us] 25)) fun e w' => ∃ v', e = .returned v' ∧ Below (w12.alloc (.cells #[.string t.ot, .string t.oi, .string t.re, .string t.st, .string t.si, .string t.us, .string t.ot, .string t.oi, .string t.re, .string t.st, .string t.si, .string t.us] 25)).heap.size (w12.alloc (.cells #[.string t.ot, .string t.oi, .string t.re, .string t.st, .string t.si, .string t.us, .string t.ot, .string t.oi, .string t.re, .string t.st, .string t.si, .string t.us] 25)) w' ∧ TuSl w' v' [t]) := by
    have h := tsorted_any (w := w12.alloc (.cells #[.string t.ot, .string t.oi, .string t.re, .string t.st, .string t.si, .string t.us, .string t.ot, .string t.oi, .string t.re, .string t.st, .string t.si, .string t.us] 25)) (sv := .slice (some ⟨w12.heap.size, 0, none⟩) 2 2) (l := [t, t]) (.inr ⟨w12.heap.size, 0, 2, rfl, Nat.le_refl _, by simp, Arr.range (Arr.new' w12 25 _ _ rfl)⟩) (by show 2 ≤ 1000000; decide)
    rw [sorted_two] at h
    exact h
  have HB13 := Lib.hid (HB12.out.trans (hb13.mono HB12.out.size))
  clear hb13
  go_wp2_with (first
    | ((with_reducible refine loadX (x := .tmp 2) (t := t) (o := ⟨some 83, _, _, _, _, _⟩) HA12.out ?_ ?_); exact ⟨rfl, rfl, rfl⟩)
    | ((with_reducible refine loadX (x := .tmp 2) (t := t) (o := ⟨some 84, _, _, _, _, _⟩) HA12.out ?_ ?_); exact ⟨rfl, rfl, rfl⟩))
  refine HSO.out.mono ?_
  rintro e w14 ⟨v, rfl, b14, hsl⟩
  have HB14 := Lib.hid (HB13.out.trans (b14.mono HB13.out.size))
  obtain ⟨bb, oo, cc, rfl⟩ := hsl.one
  clear b14 hsl HSO HB13
  go_wp2_with fail
  go_ret
  exact ⟨rfl, HB14.out⟩
end Go.Proofs.YtnnebfcggdbgpaaGreatDoor
/-
  vestryref18.Parse.
-/
namespace Go.Proofs.YtnnebfcggdbgpaaGreatDoor
open Go.ChangeShapes Go.WideShapes Go.ChangeAt Go.RowKit
set_option linter.unusedVariables false

theorem ext_mid (s : ByteArray) (i k : Nat) : s.extract i k = bstr ((s.data.toList.take k).drop i) := by
  apply bytes_inj
  rw [bstr_data, ByteArray.data_extract, Array.toList_extract, List.extract_eq_take_drop, List.drop_take]
theorem ext_all (s : ByteArray) : s.extract 0 s.size = s := by
  rw [ext_mid, ← size_len s, List.take_length, List.drop_zero]; rfl
/-- The two blocks that hold objects. -/
def OO (g : Nat) (oa oi : ByteArray) (g2 : Nat) (ua ui : ByteArray) (W : World) : Prop := Arr W 23 g [.string oa, .string oi] ∧ Arr W 23 g2 [.string ua, .string ui]
theorem OO.later {g g2 : Nat} {oa oi ua ui : ByteArray} {W W' : World} (h : OO g oa oi g2 ua ui W) (hb : Below W.heap.size W W') : OO g oa oi g2 ua ui W' := ⟨h.1.later hb, h.2.later hb⟩
theorem stepw_storeT {ops : Array Oper} {o : Oper} {a : Act} {w : World} {K : Act → World → Prop} {Q : Exit → Act → World → Prop} {E : Prop} {g : Nat} {u v : Tu} (hw : Region.wanted o (yielded ops a.tmps) = true) (x y : Operand) (ho : o.op = .store 25 x y) (hx : a.eval x = .pointer (some ⟨g, 0, none⟩)) (hy : a.eval y = tuV u) (hA : TuAt w g v)
    (hK : K (a.put o.dst undef) (w.setRow g (tc u).toArray)) : if Region.wanted o (yielded ops a.tmps) = true then Oper.wp Tryz.prog o a w K Q else E := by
  rw [if_pos hw]
  exact wp_store_row _ x y ho g (tc u).toArray hx hy _ (tc v).toArray hA (by kernel_rfl) rfl (Array.all_eq_true_iff_forall_mem.2 (fun v hv => tc_one u v (by simpa using hv))) hK
/-- The cut at a sign, as the reference finds it. -/
theorem cut_yes {s : ByteArray} {c : UInt8} {n : Nat} (hn : n = fnd s.data.toList c) (h : n < s.size) : cut3 s ⟨#[c]⟩ = (s.extract 0 n, s.extract (n + 1) s.size, true) := by
  rw [cut_fnd, ← hn, if_pos h, ext_take, ext_drop]
theorem cut_nay {s : ByteArray} {c : UInt8} {n : Nat} (hn : n = fnd s.data.toList c) (h : ¬ n < s.size) : cut3 s ⟨#[c]⟩ = (s, e0, false) := by
  rw [cut_fnd, ← hn, if_neg h]; rfl
theorem ext_size {s : ByteArray} {n : Nat} (h : n ≤ s.size) : (s.extract 0 n).size = n := by rw [ByteArray.size_extract]; omega
theorem ext_size2 (s : ByteArray) (i k : Nat) : (s.extract i k).size ≤ s.size := by rw [ByteArray.size_extract]; omega
theorem ext_ext {s : ByteArray} {n i : Nat} (h : n ≤ s.size) : (s.extract 0 n).extract i (s.extract 0 n).size = s.extract i n ∧ (i ≤ n → (s.extract 0 n).extract 0 i = s.extract 0 i) := by
  rw [ext_size h]
  constructor
  · rw [ext_mid, ext_mid s i n, ext_mid s 0 n, List.drop_zero, bstr_data, List.take_take, Nat.min_self]
  · intro hi
    rw [ext_mid, ext_mid s 0 i, ext_mid s 0 n, List.drop_zero, List.drop_zero, List.drop_zero, bstr_data, List.take_take, Nat.min_eq_left hi]
set_option maxRecDepth 100000 in
set_option maxHeartbeats 4000000 in
theorem rtparse_any (s : ByteArray) (w : World) (hs : s.size ≤ 1000000) : Calls Tryz.prog 24 #[.string s] w fun e w' => e = .returned (.tuple #[tuV (parseT s).1, .int .i64 ((parseT s).2.1 : Nat), .int .i64 ((parseT s).2.2 : Nat)]) ∧ Below w.heap.size w w' := by
  obtain ⟨w0, hw0⟩ : ∃ w0, w0 = (w.alloc (.cells (tc t0).toArray 25)) := ⟨_, rfl⟩
  have b0 : Below w.heap.size w w0 := by rw [hw0]; exact (Below.refl _ _).alloc (Nat.le_refl _) _
  have HB0 := Lib.hid b0
  have HX0 : Hid (TuAt w0 w.heap.size t0) := by show TuAt w0 _ _; rw [hw0]; exact tu_new w t0
  have HW := Lib.hid hw0
  have zs : (s.size : Int) ≤ 1000000 := by omega
  have HZS : Hid (s.size ≤ 1000000) := hs
  obtain ⟨A, hA⟩ : ∃ A, A = fnd s.data.toList 64 := ⟨_, rfl⟩
  have HF := Lib.hid (find_any s 64 hs w0)
  rw [← hA] at HF
  clear b0 hw0 hs
  by_cases hlt : A < s.size
  · have hcut := cut_yes hA hlt
    rw [if_pos hlt] at HF
    obtain ⟨f, hf⟩ : ∃ f, f = s.extract 0 A := ⟨_, rfl⟩
    obtain ⟨bk, hbk⟩ : ∃ bk, bk = s.extract (A + 1) s.size := ⟨_, rfl⟩
    have zfs : f.size = A := by rw [hf]; exact ext_size (by omega)
    have zbk : bk.size ≤ s.size := by rw [hbk]; exact ext_size2 _ _ _
    rw [← hf, ← hbk] at hcut
    have hext := fun i => ext_ext (s := s) (n := A) (i := i) (Nat.le_of_lt hlt)
    simp only [← hf] at hext
    obtain ⟨h, hh⟩ : ∃ h, h = fnd f.data.toList 35 := ⟨_, rfl⟩
    have HF2 := Lib.hid (find_any f 35 (by have := HZS.out; omega) w0)
    rw [← hh] at HF2
    have HCUT : Hid (cut3 s atA = (f, bk, true)) := hcut
    have HXF : Hid (s.extract 0 A = f) := hf.symm
    have HXB : Hid (s.extract (A + 1) s.size = bk) := hbk.symm
    have HZF := Lib.hid zfs
    have HZB := Lib.hid zbk
    have a1 : (A : Int) < s.size := by omega
    have a0 : (0 : Int) ≤ A := by omega
    have a2 : A ≤ s.size := by omega
    have a3 : (A : Int) + 1 ≤ s.size := by omega
    have zfI : (f.size : Int) ≤ 1000000 := by omega
    clear hcut hA hf hbk zbk hlt
    by_cases hlt2 : h < f.size
    · have hcut2 := cut_yes hh hlt2
      rw [if_pos hlt2] at HF2
      have hx1 := (hext h).2 (by omega)
      have hx2 := (hext (h + 1)).1
      obtain ⟨ob, hob⟩ : ∃ ob, ob = s.extract 0 h := ⟨_, rfl⟩
      obtain ⟨re, hre⟩ : ∃ re, re = s.extract (h + 1) A := ⟨_, rfl⟩
      rw [← hob] at hx1
      rw [← hre] at hx2
      rw [hx1, hx2] at hcut2
      have zob : ob.size ≤ s.size := by rw [hob]; exact ext_size2 _ _ _
      have zre : re.size ≤ s.size := by rw [hre]; exact ext_size2 _ _ _
      have zobe : ob.size = h := by rw [hob]; exact ext_size (by omega)
      have HXO : Hid (s.extract 0 h = ob) := hob.symm
      have HXR : Hid (s.extract (h + 1) A = re) := hre.symm
      have HCUT2 : Hid (cut3 f hashA = (ob, re, true)) := hcut2
      have HZO := Lib.hid zob
      have HZR := Lib.hid zre
      have HZOE := Lib.hid zobe
      have p1 : (h : Int) < s.size := by omega
      have p0 : (0 : Int) ≤ h := by omega
      have p2 : (h : Int) + 1 ≤ A := by omega
      have p3 : h ≤ s.size := by omega
      have p4 : h + 1 ≤ A := by omega
      clear hext hx1 hx2 hob hre hcut2 zob zre zobe hh hlt2
      obtain ⟨Q, hQ⟩ : ∃ Q, Q = parseObj ob := ⟨_, rfl⟩
      have HO := Lib.hid (rparseObj_any ob w0 (by have := HZO.out; have := HZS.out; omega))
      rw [← hQ] at HO
      have HQ := Lib.hid hQ
      clear hQ
      obtain ⟨oa, oi, oc, on⟩ := Q
      obtain ⟨sub, us, k3, hc3⟩ : ∃ a b c, cut3 bk hashA = (a, b, c) := ⟨_, _, _, rfl⟩
      have HP : Hid (parseT s = parseW s.size f true ob re true sub us k3) := by show _ = _; unfold parseT; rw [HCUT.out]; simp only []; rw [HCUT2.out, hc3]
      have HC3 := Lib.hid hc3
      clear hc3
      go_enter Tryz.func24, Tryz.ntmps24
      go_wp2_with fail
      rw [show (w.alloc (.cells #[.string ⟨#[]⟩, .string ⟨#[]⟩, .string ⟨#[]⟩, .string ⟨#[]⟩, .string ⟨#[]⟩, .string ⟨#[]⟩] 25)) = w0 from HW.out.symm]
      refine HF.out.mono ?_
      rintro e w1 ⟨rfl, hw1⟩
      subst hw1
      go_wp2_with fail
      rw [HXF.out]
      refine HF2.out.mono ?_
      rintro e w1 ⟨rfl, hw1⟩
      subst hw1
      clear zfs
      go_wp2_with fail
      rw [HXO.out]
      refine HO.out.mono ?_
      rintro e w4 ⟨rfl, b4⟩
      have HB4 := Lib.hid (HB0.out.trans (b4.mono HB0.out.size))
      have HX4 := Lib.hid (HX0.out.later b4)
      clear b4 HB0 HX0
      clear HO HF HF2 HW
      have b5 : Below w4.heap.size w4 (w4.alloc (.cells #[.string oa, .string oi] 23)) := (Below.refl _ _).alloc (Nat.le_refl _) _
      have HO5 := Lib.hid (Arr.new' w4 23 #[.string oa, .string oi] _ rfl)
      have HB5 := Lib.hid (HB4.out.trans (b5.mono HB4.out.size))
      have HX5 := Lib.hid (HX4.out.later b5)
      clear b5 HB4 HX4
      go_upto_region 8 with fail
      generalize w4.alloc (.cells #[.string oa, .string oi] 23) = w5 at HB5 HX5 HO5 ⊢
      generalize w4.heap.size = g5 at HO5 ⊢
      by_cases hoc : oc = 0
      · have HQ0 : Hid ((parseObj ob).2.2.1 = 0) := by show _ = _; rw [← HQ.out]; exact hoc
        have HRI := Lib.hid (risName_any re (by have := HZR.out; have := HZS.out; omega) w5)
        subst hoc
        rw [show ((0 : Nat) : Int) = 0 from rfl]
        go_wp2_with fail
        rw [HXR.out]
        refine HRI.out.mono ?_
        rintro e w6 ⟨rfl, hw6⟩
        subst hw6
        clear HRI
        cases hre : isName re with
        | false =>
          have HR : Hid (parseT s = (t0, 5, h + 1)) := by show _ = _; rw [HP.out, parseW_3 HQ0.out hre, HZOE.out]
          clear hre
          have hA := HX5.out
          go_wp2_with ((with_reducible refine storeT (x := .tmp 2) (y := .tmp 51) (u := t0) (o := ⟨none, .store _ _ _, _, _, _, _⟩) hA ?_ ?_); exact ⟨rfl, rfl, rfl, rfl⟩)
          refine bodyPost_ret (resT2 rfl (hA.row _) rfl) rfl ⟨?_, below_row HB5.out (Nat.le_refl _) _⟩
          rw [HR.out]; rfl
        | true =>
          have HRE := Lib.hid hre
          clear hre
          obtain ⟨k, hk⟩ : ∃ k, k = fnd bk.data.toList 35 := ⟨_, rfl⟩
          have HF3 := Lib.hid (find_any bk 35 (by have := HZB.out; have := HZS.out; omega) w5)
          rw [← hk] at HF3
          have zbI : (bk.size : Int) ≤ 1000000 := by have := HZB.out; have := HZS.out; omega
          by_cases hlt3 : k < bk.size
          · have hcut3 := cut_yes hk hlt3
            rw [show (⟨#[35]⟩ : ByteArray) = hashA from rfl, HC3.out] at hcut3
            obtain ⟨rfl, e2⟩ := Prod.mk.inj hcut3
            obtain ⟨rfl, rfl⟩ := Prod.mk.inj e2
            obtain ⟨sub, hsub⟩ : ∃ sub, sub = bk.extract 0 k := ⟨_, rfl⟩
            obtain ⟨us, hus⟩ : ∃ us, us = bk.extract (k + 1) bk.size := ⟨_, rfl⟩
            rw [← hsub, ← hus] at HP
            have zsub : sub.size = k := by rw [hsub]; exact ext_size (by omega)
            have zus : us.size ≤ bk.size := by rw [hus]; exact ext_size2 _ _ _
            have HXS : Hid (bk.extract 0 k = sub) := hsub.symm
            have HXU : Hid (bk.extract (k + 1) bk.size = us) := hus.symm
            rw [if_pos hlt3] at HF3
            have q0 : (0 : Int) ≤ k := by omega
            have q1 : (k : Int) ≤ bk.size := by omega
            have q2 : (k : Int) + 1 ≤ bk.size := by omega
            have q3 : k ≤ bk.size := by omega
            have HZSUB := Lib.hid zsub
            have HZUS := Lib.hid zus
            clear hcut3 e2 hk hsub hus zsub zus hlt3 HC3
            obtain ⟨Q2, hQ2⟩ : ∃ Q, Q = parseObj sub := ⟨_, rfl⟩
            have HU := Lib.hid (rparseObj_any sub w5 (by have := HZSUB.out; omega))
            rw [← hQ2] at HU
            have HQ2 := Lib.hid hQ2
            clear hQ2
            obtain ⟨ua, ui, uc, un⟩ := Q2
            go_wp2_with fail
            rw [HXB.out]
            refine HF3.out.mono ?_
            rintro e w6 ⟨rfl, hw6⟩
            subst hw6
            go_wp2_with fail
            rw [HXS.out]
            refine HU.out.mono ?_
            rintro e w7 ⟨rfl, b7⟩
            have HO7 := Lib.hid (HO5.out.later b7)
            have HB7 := Lib.hid (HB5.out.trans (b7.mono HB5.out.size))
            have HX7 := Lib.hid (HX5.out.later b7)
            clear b7 HB5 HX5
            clear HU HF3 HO5
            have b8 : Below w7.heap.size w7 (w7.alloc (.cells #[.string ua, .string ui] 23)) := (Below.refl _ _).alloc (Nat.le_refl _) _
            have HU8 := Lib.hid (Arr.new' w7 23 #[.string ua, .string ui] _ rfl)
            have HO8 := Lib.hid (HO7.out.later b8)
            have HB8 := Lib.hid (HB7.out.trans (b8.mono HB7.out.size))
            have HX8 := Lib.hid (HX7.out.later b8)
            clear b8 HB7 HX7
            clear HO7
            go_upto_region 18 with fail
            generalize w7.alloc (.cells #[.string ua, .string ui] 23) = w8 at HB8 HX8 HU8 HO8 ⊢
            generalize w7.heap.size = g8 at HU8 ⊢
            by_cases huc : uc = 0
            · have HQ20 : Hid ((parseObj sub).2.2.1 = 0) := by show _ = _; rw [← HQ2.out]; exact huc
              subst huc
              rw [show ((0 : Nat) : Int) = 0 from rfl]
              have HT : Hid (∀ u, (⟨(parseObj ob).1, (parseObj ob).2.1, re, (parseObj sub).1, (parseObj sub).2.1, u⟩ : Tu) = ⟨oa, oi, re, ua, ui, u⟩) := by intro u; rw [← HQ.out, ← HQ2.out]
              have HOO : Hid (OO g5 oa oi g8 ua ui w8) := ⟨HO8.out, HU8.out⟩
              clear HO8 HU8
              go_upto_region 20 with fail
              refine wp_region_noPanic ?_
              refine wp_region_held_drew (S := OO g5 oa oi g8 ua ui) (by kernel_rfl) (HOO.out.later (Below.refl _ _).drew) (fun hHeld => ?_)
              try simp only [Act.put]
              have HB9 := Lib.hid (HB8.out.drew)
              have HX9 := Lib.hid (HX8.out.drew)
              generalize w8.drew = w9 at hHeld HB9 HX9 ⊢
              clear HOO HB8 HX8
              refine wpAnyH_take (i := 0) (oi := ⟨some 81, _, _, _, _, _⟩) (v := .agg #[.string oa, .string oi]) rfl (by kernel_rfl) (by kernel_rfl) (by kernel_rfl) (fun _ _ _ h => h) (.inl ⟨by rfl, fun w' hSw => ?_⟩) hHeld ?_
              focus ((have q0 := hSw.1.cell 0; have q1 := hSw.1.cell 1; simp only [List.getElem?_cons_zero, List.getElem?_cons_succ] at q0 q1); clear hHeld; go_simp)
              try simp only [Act.put, List.setIfInBounds_toArray, List.set_cons_zero, List.set_cons_succ]
              refine wpAnyH_take (i := 1) (oi := ⟨some 82, _, _, _, _, _⟩) (v := .string s) rfl (by kernel_rfl) (by kernel_rfl) (by kernel_rfl) (fun _ _ _ h => h) (.inl ⟨by rfl, fun w' hSw => ?_⟩) hHeld ?_
              focus (skip; clear hHeld; go_simp)
              try simp only [Act.put, List.setIfInBounds_toArray, List.set_cons_zero, List.set_cons_succ]
              refine wpAnyH_take (i := 2) (oi := ⟨some 83, _, _, _, _, _⟩) (v := .int .i64 h) rfl (by kernel_rfl) (by kernel_rfl) (by kernel_rfl) (fun _ _ _ h => h) (.inl ⟨by rfl, fun w' hSw => ?_⟩) hHeld ?_
              focus (skip; clear hHeld; go_simp)
              try simp only [Act.put, List.setIfInBounds_toArray, List.set_cons_zero, List.set_cons_succ]
              refine wpAnyH_take (i := 3) (oi := ⟨some 84, _, _, _, _, _⟩) (v := .int .i64 ((h : Int) + 1)) rfl (by kernel_rfl) (by kernel_rfl) (by kernel_rfl) (fun _ _ _ h => h) (.inl ⟨by rfl, fun w' hSw => ?_⟩) hHeld ?_
              focus (skip; clear hHeld; go_simp; rw [IntKind.wrap_i64]; omega)
              try simp only [Act.put, List.setIfInBounds_toArray, List.set_cons_zero, List.set_cons_succ]
              refine wpAnyH_take (i := 4) (oi := ⟨some 85, _, _, _, _, _⟩) (v := .int .i64 A) rfl (by kernel_rfl) (by kernel_rfl) (by kernel_rfl) (fun _ _ _ h => h) (.inl ⟨by rfl, fun w' hSw => ?_⟩) hHeld ?_
              focus (skip; clear hHeld; go_simp)
              try simp only [Act.put, List.setIfInBounds_toArray, List.set_cons_zero, List.set_cons_succ]
              refine wpAnyH_take (i := 5) (oi := ⟨some 86, _, _, _, _, _⟩) (v := .string re) rfl (by kernel_rfl) (by kernel_rfl) (by kernel_rfl) (fun _ _ _ h => h) (.inl ⟨by rfl, fun w' hSw => ?_⟩) hHeld ?_
              focus (have hxr := HXR.out; clear hHeld; go_simp; intro hneg; exfalso; omega)
              try simp only [Act.put, List.setIfInBounds_toArray, List.set_cons_zero, List.set_cons_succ]
              refine wpAnyH_take (i := 6) (oi := ⟨some 87, _, _, _, _, _⟩) (v := .agg #[.string ua, .string ui]) rfl (by kernel_rfl) (by kernel_rfl) (by kernel_rfl) (fun _ _ _ h => h) (.inl ⟨by rfl, fun w' hSw => ?_⟩) hHeld ?_
              focus ((have q0 := hSw.2.cell 0; have q1 := hSw.2.cell 1; simp only [List.getElem?_cons_zero, List.getElem?_cons_succ] at q0 q1); clear hHeld; go_simp)
              try simp only [Act.put, List.setIfInBounds_toArray, List.set_cons_zero, List.set_cons_succ]
              refine wpAnyH_take (i := 7) (oi := ⟨some 88, _, _, _, _, _⟩) (v := .agg #[.string oa, .string oi, .string re, .string ua, .string ui, .string ⟨#[]⟩]) rfl (by kernel_rfl) (by kernel_rfl) (by kernel_rfl) (fun _ _ _ h => h) (.inl ⟨by rfl, fun w' hSw => ?_⟩) hHeld ?_
              focus (skip; clear hHeld; go_simp)
              try simp only [Act.put, List.setIfInBounds_toArray, List.set_cons_zero, List.set_cons_succ]
              refine wpAnyH_ready (rs := [8]) (by kernel_rfl) (by simp) ?_
              refine AllReadyH.cons (o := ⟨some 14, _, _, _, _, _⟩) rfl (fun K' hK' => ?_) AllReadyH.nil
              go_simp
              have hb0 : Below w9.heap.size w9 (w9.alloc (.cells (tc t0).toArray 25)) := (Below.refl _ _).alloc (Nat.le_refl _) _
              have HGO : Hid (g5 ≠ w9.heap.size ∧ g8 ≠ w9.heap.size) := ⟨Nat.ne_of_lt hHeld.1.lt, Nat.ne_of_lt hHeld.2.lt⟩
              have hkn := hHeld.later hb0
              have HN := Lib.hid (tu_new w9 t0)
              refine hK'.out _ (w9.alloc (.cells (tc t0).toArray 25)) hkn (fun _ => ?_)
              clear hK' K' hHeld
              have hHeld := hkn
              clear hkn
              have HB10 := Lib.hid (HB9.out.trans (hb0.mono HB9.out.size))
              have HX10 := Lib.hid (HX9.out.later hb0)
              have HGL : Hid (w.heap.size < w9.heap.size) := HX9.out.lt
              generalize w9.alloc (.cells (tc t0).toArray 25) = w10 at hHeld HN HB10 HX10 ⊢
              generalize w9.heap.size = n at HN HGL HGO ⊢
              clear hb0 HB9 HX9
              try simp only [Act.put, List.setIfInBounds_toArray, List.set_cons_zero, List.set_cons_succ]
              refine wpAnyH_ready (rs := [9]) (by kernel_rfl) (by simp) ?_
              refine AllReadyH.cons (o := ⟨none, _, _, _, _, _⟩) rfl (fun K' hK' => ?_) AllReadyH.nil
              refine stepw_storeT (u := ⟨oa, oi, re, ua, ui, ⟨#[]⟩⟩) (by rfl) (.tmp 14) (.tmp 88) rfl rfl rfl HN.out ?_
              have hkn : OO g5 oa oi g8 ua ui (w10.setRow n (tc ⟨oa, oi, re, ua, ui, ⟨#[]⟩⟩).toArray) := ⟨hHeld.1.row_other HGO.out.1 _, hHeld.2.row_other HGO.out.2 _⟩
              refine hK'.out _ _ hkn (fun _ => ?_)
              clear hK' K' hHeld
              have hHeld := hkn
              clear hkn
              try simp only [Act.put]
              refine wpAnyH_done (by kernel_rfl) ?_ _
              refine NoPanic.normal ?_
              have HT11 : Hid (TuAt (w10.setRow n (tc ⟨oa, oi, re, ua, ui, ⟨#[]⟩⟩).toArray) n ⟨oa, oi, re, ua, ui, ⟨#[]⟩⟩) := HN.out.row _
              have HX11 := Lib.hid (HX10.out.row_other (Nat.ne_of_lt HGL.out) (tc ⟨oa, oi, re, ua, ui, ⟨#[]⟩⟩).toArray)
              have HB11 := Lib.hid (below_row HB10.out (Nat.le_of_lt HGL.out) (tc ⟨oa, oi, re, ua, ui, ⟨#[]⟩⟩).toArray)
              clear hHeld HN HX10 HB10 HGO
              generalize w10.setRow n (tc ⟨oa, oi, re, ua, ui, ⟨#[]⟩⟩).toArray = w11 at HT11 HX11 HB11 ⊢
              have c5 := HT11.out.cells.2.2.2.2.2
              have f5 := Arr.free HT11.out 5
              have HT12 : Hid (TuAt (w11.setCell ⟨n, 5, none⟩ (.string us)) n ⟨oa, oi, re, ua, ui, us⟩) := Arr.set HT11.out 5 (.string us)
              have HX12 : Hid (TuAt (w11.setCell ⟨n, 5, none⟩ (.string us)) w.heap.size t0) := HX11.out.setCell (a := ⟨n, 5, none⟩) (Nat.ne_of_lt HGL.out) _
              have HB12 : Hid (Below w.heap.size w (w11.setCell ⟨n, 5, none⟩ (.string us))) := HB11.out.setCell (p := ⟨n, 5, none⟩) (Nat.le_of_lt HGL.out) _
              have hxu := HXU.out
              clear HT11 HX11 HB11
              go_wp2_with fail
              generalize w11.setCell ⟨n, 5, none⟩ (.string us) = w12 at HT12 HX12 HB12 ⊢
              refine (risName_any us (by have := HZUS.out; have := HZB.out; have := HZS.out; omega) w12).mono ?_
              rintro e w13 ⟨rfl, hw13⟩
              subst hw13
              clear hxu c5 f5
              cases hus : isName us with
              | false =>
                have HR : Hid (parseT s = (t0, 5, f.size + 1 + sub.size + 1)) := by show _ = _; rw [HP.out, parseW_5 HQ0.out HRE.out HQ20.out hus]
                clear hus
                have hA := HX12.out
                go_wp2_with ((with_reducible refine storeT (x := .tmp 2) (y := .tmp 100) (u := t0) (o := ⟨none, .store _ _ _, _, _, _, _⟩) hA ?_ ?_); exact ⟨rfl, rfl, rfl, rfl⟩)
                refine bodyPost_ret (resT2 rfl (hA.row _) rfl) rfl ⟨?_, below_row HB12.out (Nat.le_refl _) _⟩
                rw [HR.out, HZF.out, HZSUB.out]; rfl
              | true =>
                have HR : Hid (parseT s = (⟨oa, oi, re, ua, ui, us⟩, 0, 0)) := by show _ = _; rw [HP.out, parseW_6 HQ0.out HRE.out HQ20.out (by rintro ⟨_, h⟩; rw [hus] at h; cases h), HT.out]
                clear hus
                have hA := HX12.out
                go_wp2_with (first
                  | ((with_reducible refine loadT (x := .tmp 14) (o := ⟨some 106, _, _, _, _, _⟩) HT12.out ?_ ?_); exact ⟨rfl, rfl, rfl⟩)
                  | ((with_reducible refine storeT (x := .tmp 2) (y := .tmp 106) (u := ⟨oa, oi, re, ua, ui, us⟩) (o := ⟨none, .store _ _ _, _, _, _, _⟩) hA ?_ ?_); exact ⟨rfl, rfl, rfl, rfl⟩))
                refine bodyPost_ret (resT2 rfl (hA.row _) rfl) rfl ⟨?_, below_row HB12.out (Nat.le_refl _) _⟩
                rw [HR.out]; rfl
            · have HR : Hid (parseT s = (t0, uc, un + (f.size + 1))) := by show _ = _; rw [HP.out, parseW_4 HQ0.out HRE.out (by rw [← HQ2.out]; exact huc), ← HQ2.out]
              have HUN : Hid (un ≤ 1000001) := by
                have := (parseObj_at sub).1
                rw [← HQ2.out] at this
                simp only [] at this
                have := HZSUB.out
                show _ ≤ _
                omega
              have hun : (un : Int) ≤ 1000001 := by have := HUN.out; omega
              have hun0 : (0 : Int) ≤ un := by omega
              have h1 : ¬ (uc : Int) = 0 := by omega
              have h2 : ((uc : Int) != 0) = true := by rw [bne_iff_ne]; exact h1
              clear huc
              have hA := HX8.out
              go_wp2_with ((with_reducible refine storeT (x := .tmp 2) (y := .tmp 75) (u := t0) (o := ⟨none, .store _ _ _, _, _, _, _⟩) hA ?_ ?_); exact ⟨rfl, rfl, rfl, rfl⟩)
              refine bodyPost_ret (resT2 rfl (hA.row _) rfl) rfl ⟨?_, below_row HB8.out (Nat.le_refl _) _⟩
              rw [HR.out, HZF.out, show un + (A + 1) = A + 1 + un by omega]; rfl
          · have hcut3 := cut_nay hk hlt3
            rw [show (⟨#[35]⟩ : ByteArray) = hashA from rfl, HC3.out] at hcut3
            obtain ⟨rfl, e2⟩ := Prod.mk.inj hcut3
            obtain ⟨rfl, rfl⟩ := Prod.mk.inj e2
            rw [if_neg hlt3] at HF3
            have HXS : Hid (sub.extract 0 sub.size = sub) := ext_all sub
            clear hcut3 e2 hk hlt3 HC3
            obtain ⟨Q2, hQ2⟩ : ∃ Q, Q = parseObj sub := ⟨_, rfl⟩
            have HU := Lib.hid (rparseObj_any sub w5 (by omega))
            rw [← hQ2] at HU
            have HQ2 := Lib.hid hQ2
            clear hQ2
            obtain ⟨ua, ui, uc, un⟩ := Q2
            go_wp2_with fail
            rw [HXB.out]
            refine HF3.out.mono ?_
            rintro e w6 ⟨rfl, hw6⟩
            subst hw6
            go_wp2_with fail
            skip
            refine HU.out.mono ?_
            rintro e w7 ⟨rfl, b7⟩
            have HO7 := Lib.hid (HO5.out.later b7)
            have HB7 := Lib.hid (HB5.out.trans (b7.mono HB5.out.size))
            have HX7 := Lib.hid (HX5.out.later b7)
            clear b7 HB5 HX5
            clear HU HF3 HO5
            have b8 : Below w7.heap.size w7 (w7.alloc (.cells #[.string ua, .string ui] 23)) := (Below.refl _ _).alloc (Nat.le_refl _) _
            have HU8 := Lib.hid (Arr.new' w7 23 #[.string ua, .string ui] _ rfl)
            have HO8 := Lib.hid (HO7.out.later b8)
            have HB8 := Lib.hid (HB7.out.trans (b8.mono HB7.out.size))
            have HX8 := Lib.hid (HX7.out.later b8)
            clear b8 HB7 HX7
            clear HO7
            go_upto_region 18 with fail
            generalize w7.alloc (.cells #[.string ua, .string ui] 23) = w8 at HB8 HX8 HU8 HO8 ⊢
            generalize w7.heap.size = g8 at HU8 ⊢
            by_cases huc : uc = 0
            · have HQ20 : Hid ((parseObj sub).2.2.1 = 0) := by show _ = _; rw [← HQ2.out]; exact huc
              subst huc
              rw [show ((0 : Nat) : Int) = 0 from rfl]
              have HT : Hid (∀ u, (⟨(parseObj ob).1, (parseObj ob).2.1, re, (parseObj sub).1, (parseObj sub).2.1, u⟩ : Tu) = ⟨oa, oi, re, ua, ui, u⟩) := by intro u; rw [← HQ.out, ← HQ2.out]
              have HOO : Hid (OO g5 oa oi g8 ua ui w8) := ⟨HO8.out, HU8.out⟩
              clear HO8 HU8
              go_upto_region 20 with fail
              refine wp_region_noPanic ?_
              refine wp_region_held_drew (S := OO g5 oa oi g8 ua ui) (by kernel_rfl) (HOO.out.later (Below.refl _ _).drew) (fun hHeld => ?_)
              try simp only [Act.put]
              have HB9 := Lib.hid (HB8.out.drew)
              have HX9 := Lib.hid (HX8.out.drew)
              generalize w8.drew = w9 at hHeld HB9 HX9 ⊢
              clear HOO HB8 HX8
              refine wpAnyH_take (i := 0) (oi := ⟨some 81, _, _, _, _, _⟩) (v := .agg #[.string oa, .string oi]) rfl (by kernel_rfl) (by kernel_rfl) (by kernel_rfl) (fun _ _ _ h => h) (.inl ⟨by rfl, fun w' hSw => ?_⟩) hHeld ?_
              focus ((have q0 := hSw.1.cell 0; have q1 := hSw.1.cell 1; simp only [List.getElem?_cons_zero, List.getElem?_cons_succ] at q0 q1); clear hHeld; go_simp)
              try simp only [Act.put, List.setIfInBounds_toArray, List.set_cons_zero, List.set_cons_succ]
              refine wpAnyH_take (i := 1) (oi := ⟨some 82, _, _, _, _, _⟩) (v := .string s) rfl (by kernel_rfl) (by kernel_rfl) (by kernel_rfl) (fun _ _ _ h => h) (.inl ⟨by rfl, fun w' hSw => ?_⟩) hHeld ?_
              focus (skip; clear hHeld; go_simp)
              try simp only [Act.put, List.setIfInBounds_toArray, List.set_cons_zero, List.set_cons_succ]
              refine wpAnyH_take (i := 2) (oi := ⟨some 83, _, _, _, _, _⟩) (v := .int .i64 h) rfl (by kernel_rfl) (by kernel_rfl) (by kernel_rfl) (fun _ _ _ h => h) (.inl ⟨by rfl, fun w' hSw => ?_⟩) hHeld ?_
              focus (skip; clear hHeld; go_simp)
              try simp only [Act.put, List.setIfInBounds_toArray, List.set_cons_zero, List.set_cons_succ]
              refine wpAnyH_take (i := 3) (oi := ⟨some 84, _, _, _, _, _⟩) (v := .int .i64 ((h : Int) + 1)) rfl (by kernel_rfl) (by kernel_rfl) (by kernel_rfl) (fun _ _ _ h => h) (.inl ⟨by rfl, fun w' hSw => ?_⟩) hHeld ?_
              focus (skip; clear hHeld; go_simp; rw [IntKind.wrap_i64]; omega)
              try simp only [Act.put, List.setIfInBounds_toArray, List.set_cons_zero, List.set_cons_succ]
              refine wpAnyH_take (i := 4) (oi := ⟨some 85, _, _, _, _, _⟩) (v := .int .i64 A) rfl (by kernel_rfl) (by kernel_rfl) (by kernel_rfl) (fun _ _ _ h => h) (.inl ⟨by rfl, fun w' hSw => ?_⟩) hHeld ?_
              focus (skip; clear hHeld; go_simp)
              try simp only [Act.put, List.setIfInBounds_toArray, List.set_cons_zero, List.set_cons_succ]
              refine wpAnyH_take (i := 5) (oi := ⟨some 86, _, _, _, _, _⟩) (v := .string re) rfl (by kernel_rfl) (by kernel_rfl) (by kernel_rfl) (fun _ _ _ h => h) (.inl ⟨by rfl, fun w' hSw => ?_⟩) hHeld ?_
              focus (have hxr := HXR.out; clear hHeld; go_simp; intro hneg; exfalso; omega)
              try simp only [Act.put, List.setIfInBounds_toArray, List.set_cons_zero, List.set_cons_succ]
              refine wpAnyH_take (i := 6) (oi := ⟨some 87, _, _, _, _, _⟩) (v := .agg #[.string ua, .string ui]) rfl (by kernel_rfl) (by kernel_rfl) (by kernel_rfl) (fun _ _ _ h => h) (.inl ⟨by rfl, fun w' hSw => ?_⟩) hHeld ?_
              focus ((have q0 := hSw.2.cell 0; have q1 := hSw.2.cell 1; simp only [List.getElem?_cons_zero, List.getElem?_cons_succ] at q0 q1); clear hHeld; go_simp)
              try simp only [Act.put, List.setIfInBounds_toArray, List.set_cons_zero, List.set_cons_succ]
              refine wpAnyH_take (i := 7) (oi := ⟨some 88, _, _, _, _, _⟩) (v := .agg #[.string oa, .string oi, .string re, .string ua, .string ui, .string ⟨#[]⟩]) rfl (by kernel_rfl) (by kernel_rfl) (by kernel_rfl) (fun _ _ _ h => h) (.inl ⟨by rfl, fun w' hSw => ?_⟩) hHeld ?_
              focus (skip; clear hHeld; go_simp)
              try simp only [Act.put, List.setIfInBounds_toArray, List.set_cons_zero, List.set_cons_succ]
              refine wpAnyH_ready (rs := [8]) (by kernel_rfl) (by simp) ?_
              refine AllReadyH.cons (o := ⟨some 14, _, _, _, _, _⟩) rfl (fun K' hK' => ?_) AllReadyH.nil
              go_simp
              have hb0 : Below w9.heap.size w9 (w9.alloc (.cells (tc t0).toArray 25)) := (Below.refl _ _).alloc (Nat.le_refl _) _
              have HGO : Hid (g5 ≠ w9.heap.size ∧ g8 ≠ w9.heap.size) := ⟨Nat.ne_of_lt hHeld.1.lt, Nat.ne_of_lt hHeld.2.lt⟩
              have hkn := hHeld.later hb0
              have HN := Lib.hid (tu_new w9 t0)
              refine hK'.out _ (w9.alloc (.cells (tc t0).toArray 25)) hkn (fun _ => ?_)
              clear hK' K' hHeld
              have hHeld := hkn
              clear hkn
              have HB10 := Lib.hid (HB9.out.trans (hb0.mono HB9.out.size))
              have HX10 := Lib.hid (HX9.out.later hb0)
              have HGL : Hid (w.heap.size < w9.heap.size) := HX9.out.lt
              generalize w9.alloc (.cells (tc t0).toArray 25) = w10 at hHeld HN HB10 HX10 ⊢
              generalize w9.heap.size = n at HN HGL HGO ⊢
              clear hb0 HB9 HX9
              try simp only [Act.put, List.setIfInBounds_toArray, List.set_cons_zero, List.set_cons_succ]
              refine wpAnyH_ready (rs := [9]) (by kernel_rfl) (by simp) ?_
              refine AllReadyH.cons (o := ⟨none, _, _, _, _, _⟩) rfl (fun K' hK' => ?_) AllReadyH.nil
              refine stepw_storeT (u := ⟨oa, oi, re, ua, ui, ⟨#[]⟩⟩) (by rfl) (.tmp 14) (.tmp 88) rfl rfl rfl HN.out ?_
              have hkn : OO g5 oa oi g8 ua ui (w10.setRow n (tc ⟨oa, oi, re, ua, ui, ⟨#[]⟩⟩).toArray) := ⟨hHeld.1.row_other HGO.out.1 _, hHeld.2.row_other HGO.out.2 _⟩
              refine hK'.out _ _ hkn (fun _ => ?_)
              clear hK' K' hHeld
              have hHeld := hkn
              clear hkn
              try simp only [Act.put]
              refine wpAnyH_done (by kernel_rfl) ?_ _
              refine NoPanic.normal ?_
              have HT11 : Hid (TuAt (w10.setRow n (tc ⟨oa, oi, re, ua, ui, ⟨#[]⟩⟩).toArray) n ⟨oa, oi, re, ua, ui, ⟨#[]⟩⟩) := HN.out.row _
              have HX11 := Lib.hid (HX10.out.row_other (Nat.ne_of_lt HGL.out) (tc ⟨oa, oi, re, ua, ui, ⟨#[]⟩⟩).toArray)
              have HB11 := Lib.hid (below_row HB10.out (Nat.le_of_lt HGL.out) (tc ⟨oa, oi, re, ua, ui, ⟨#[]⟩⟩).toArray)
              clear hHeld HN HX10 HB10 HGO
              generalize w10.setRow n (tc ⟨oa, oi, re, ua, ui, ⟨#[]⟩⟩).toArray = w11 at HT11 HX11 HB11 ⊢
              have HR : Hid (parseT s = (⟨oa, oi, re, ua, ui, ⟨#[]⟩⟩, 0, 0)) := by show _ = _; rw [HP.out, parseW_6 HQ0.out HRE.out HQ20.out (by rintro ⟨h, _⟩; cases h), HT.out]; rfl
              have hA := HX11.out
              go_wp2_with (first
                | ((with_reducible refine loadT (x := .tmp 14) (o := ⟨some 106, _, _, _, _, _⟩) HT11.out ?_ ?_); exact ⟨rfl, rfl, rfl⟩)
                | ((with_reducible refine storeT (x := .tmp 2) (y := .tmp 106) (u := ⟨oa, oi, re, ua, ui, ⟨#[]⟩⟩) (o := ⟨none, .store _ _ _, _, _, _, _⟩) hA ?_ ?_); exact ⟨rfl, rfl, rfl, rfl⟩))
              refine bodyPost_ret (resT2 rfl (hA.row _) rfl) rfl ⟨?_, below_row HB11.out (Nat.le_refl _) _⟩
              rw [HR.out]; rfl
            · have HR : Hid (parseT s = (t0, uc, un + (f.size + 1))) := by show _ = _; rw [HP.out, parseW_4 HQ0.out HRE.out (by rw [← HQ2.out]; exact huc), ← HQ2.out]
              have HUN : Hid (un ≤ 1000001) := by
                have := (parseObj_at sub).1
                rw [← HQ2.out] at this
                simp only [] at this
                skip
                show _ ≤ _
                omega
              have hun : (un : Int) ≤ 1000001 := by have := HUN.out; omega
              have hun0 : (0 : Int) ≤ un := by omega
              have h1 : ¬ (uc : Int) = 0 := by omega
              have h2 : ((uc : Int) != 0) = true := by rw [bne_iff_ne]; exact h1
              clear huc
              have hA := HX8.out
              go_wp2_with ((with_reducible refine storeT (x := .tmp 2) (y := .tmp 75) (u := t0) (o := ⟨none, .store _ _ _, _, _, _, _⟩) hA ?_ ?_); exact ⟨rfl, rfl, rfl, rfl⟩)
              refine bodyPost_ret (resT2 rfl (hA.row _) rfl) rfl ⟨?_, below_row HB8.out (Nat.le_refl _) _⟩
              rw [HR.out, HZF.out, show un + (A + 1) = A + 1 + un by omega]; rfl
      · have HR : Hid (parseT s = (t0, oc, on)) := by show _ = _; rw [HP.out, parseW_2 (by rw [← HQ.out]; exact hoc), ← HQ.out]
        have h1 : ¬ (oc : Int) = 0 := by omega
        have h2 : ((oc : Int) != 0) = true := by rw [bne_iff_ne]; exact h1
        clear hoc
        have hA := HX5.out
        go_wp2_with ((with_reducible refine storeT (x := .tmp 2) (y := .tmp 41) (u := t0) (o := ⟨none, .store _ _ _, _, _, _, _⟩) hA ?_ ?_); exact ⟨rfl, rfl, rfl, rfl⟩)
        refine bodyPost_ret (resT2 rfl (hA.row _) rfl) rfl ⟨?_, below_row HB5.out (Nat.le_refl _) _⟩
        rw [HR.out]; rfl
    · have hcut2 := cut_nay hh hlt2
      rw [if_neg hlt2] at HF2
      have HR : Hid (parseT s = (t0, 6, s.size)) := by
        show _ = _
        unfold parseT
        refine parseW_1 (.inr ?_)
        rw [HCUT.out, show hashA = ⟨#[35]⟩ from rfl, hcut2]
      clear hcut2 hh hlt2 hext zfs
      go_enter Tryz.func24, Tryz.ntmps24
      go_wp2_with fail
      rw [show (w.alloc (.cells #[.string ⟨#[]⟩, .string ⟨#[]⟩, .string ⟨#[]⟩, .string ⟨#[]⟩, .string ⟨#[]⟩, .string ⟨#[]⟩] 25)) = w0 from HW.out.symm]
      refine HF.out.mono ?_
      rintro e w1 ⟨rfl, hw1⟩
      subst hw1
      go_wp2_with fail
      rw [HXF.out]
      refine HF2.out.mono ?_
      rintro e w1 ⟨rfl, hw1⟩
      subst hw1
      have hA := HX0.out
      go_wp2_with ((with_reducible refine storeT (x := .tmp 2) (y := .tmp 28) (u := t0) (o := ⟨none, .store _ _ _, _, _, _, _⟩) hA ?_ ?_); exact ⟨rfl, rfl, rfl, rfl⟩)
      refine bodyPost_ret (resT2 rfl (hA.row _) rfl) rfl ⟨?_, below_row HB0.out (Nat.le_refl _) _⟩
      rw [HR.out]; rfl
  · have hcut := cut_nay hA hlt
    rw [if_neg hlt] at HF
    have HR : Hid (parseT s = (t0, 6, s.size)) := by
      show _ = _
      unfold parseT
      exact parseW_1 (.inl (by rw [show atA = ⟨#[64]⟩ from rfl, hcut]))
    clear hcut hA hlt
    go_enter Tryz.func24, Tryz.ntmps24
    go_wp2_with fail
    rw [show (w.alloc (.cells #[.string ⟨#[]⟩, .string ⟨#[]⟩, .string ⟨#[]⟩, .string ⟨#[]⟩, .string ⟨#[]⟩, .string ⟨#[]⟩] 25)) = w0 from HW.out.symm]
    refine HF.out.mono ?_
    rintro e w1 ⟨rfl, hw1⟩
    subst hw1
    have hA := HX0.out
    go_wp2_with ((with_reducible refine storeT (x := .tmp 2) (y := .tmp 19) (u := t0) (o := ⟨none, .store _ _ _, _, _, _, _⟩) hA ?_ ?_); exact ⟨rfl, rfl, rfl, rfl⟩)
    refine bodyPost_ret (resT2 rfl (hA.row _) rfl) rfl ⟨?_, below_row HB0.out (Nat.le_refl _) _⟩
    rw [HR.out]; rfl
end Go.Proofs.YtnnebfcggdbgpaaGreatDoor
/-
  vestrylaw18.TupleParses: the walk.
-/
namespace Go.Proofs.YtnnebfcggdbgpaaGreatDoor
open Go.ChangeShapes Go.WideShapes Go.ChangeAt Go.RowKit
open errAs (ErrT)
set_option linter.unusedVariables false

theorem text_some (t : Tu) (w : World) (h : Env w) : Calls Tryz.prog 15 #[tuV t] w fun e w' => (∃ s ok, e = .returned (.tuple #[.string s, .bool ok])) ∧ Below w.heap.size w w' := by
  rcases hr : rightT t with _ | _
  · exact (text_no t hr w h).mono fun e w' ⟨h1, h2⟩ => ⟨⟨_, _, h1⟩, h2⟩
  · exact (text_yes t hr w h).mono fun e w' ⟨h1, h2⟩ => ⟨⟨_, _, h1⟩, h2⟩
set_option maxRecDepth 100000 in
set_option maxHeartbeats 4000000 in
theorem tparses_law (s : ByteArray) (w : World) (hE : Env w) : Calls Tryz.prog 4 #[.string s] w fun e w' => e = .returned (.bool true) ∧ Below w.heap.size w w' := by
  have HE := Lib.hid hE
  have HAW := Lib.hid (tawake_any w hE)
  clear hE
  by_cases hbig : 1000 < s.size
  · have h1 : (1000 : Int) < s.size := by omega
    go_enter Tryz.func4, Tryz.ntmps4
    go_wp2_with fail
    refine HAW.out.mono ?_
    rintro e w1 ⟨rfl, b1⟩
    have HB1 := Lib.hid b1
    have HAW2 := Lib.hid (tawake_any _ (HE.out.below b1))
    clear b1
    go_wp2_with fail
    refine HAW2.out.mono ?_
    rintro e w2 ⟨rfl, b2⟩
    have HB2 := Lib.hid (HB1.out.trans (b2.mono HB1.out.size))
    clear b2
    go_wp2_with fail
    go_ret
    exact ⟨rfl, HB2.out⟩
  · have h1 : ¬ (1000 : Int) < s.size := by omega
    have HSZ : Hid (s.size ≤ 1000000) := by show s.size ≤ 1000000; omega
    obtain ⟨t, c, n, hpz⟩ : ∃ t c n, parseT s = (t, c, n) := ⟨_, _, _, rfl⟩
    have HPZ := Lib.hid hpz
    clear hpz
    go_enter Tryz.func4, Tryz.ntmps4
    go_wp2_with fail
    refine HAW.out.mono ?_
    rintro e w1 ⟨rfl, b1⟩
    have HB1 := Lib.hid b1
    have HE1 := Lib.hid (HE.out.below b1)
    have HPA : Hid (Calls Tryz.prog 19 #[.string s] w1 fun e w' => e = .returned (.tuple #[tuV t, errF c n]) ∧ Below w1.heap.size w1 w') := by
      have h := tparse_any s w1 HE1.out HSZ.out
      rw [HPZ.out] at h
      exact h
    clear b1 HAW HE
    go_wp2_with fail
    refine HPA.out.mono ?_
    rintro e w2 ⟨rfl, b2⟩
    have hb3 : Below w2.heap.size w2 (w2.alloc (.cells (tc t).toArray 25)) := (Below.refl _ _).alloc (Nat.le_refl _) _
    have HB3 := Lib.hid ((HB1.out.trans (b2.mono HB1.out.size)).trans (hb3.mono (HB1.out.trans (b2.mono HB1.out.size)).size))
    have HE3 := Lib.hid ((HE1.out.below b2).below hb3)
    have HA3 := Lib.hid (tu_new w2 t)
    clear b2 hb3 HPA HB1 HE1
    go_upto_region 4 with ((with_reducible refine atT w2.heap.size (x := .tmp 3) (y := .tmp 21) (u := t) (o := ⟨none, .store _ _ _, _, _, _, _⟩) ?_ ?_); exact ⟨rfl, rfl, rfl, rfl, rfl, rfl⟩)
    generalize w2.alloc (.cells (tc t).toArray 25) = w3 at HB3 HE3 HA3 ⊢
    generalize w2.heap.size = g3 at HA3 ⊢
    have HRP : Hid (Calls Tryz.prog 24 #[.string s] w3 fun e w' => e = .returned (.tuple #[tuV t, .int .i64 (c : Nat), .int .i64 (n : Nat)]) ∧ Below w3.heap.size w3 w') := by
      have h := rtparse_any s w3 HSZ.out
      rw [HPZ.out] at h
      exact h
    go_wp2_with fail
    refine HRP.out.mono ?_
    rintro e w4 ⟨rfl, b4⟩
    have hb5 : Below w4.heap.size w4 (w4.alloc (.cells (tc t).toArray 25)) := (Below.refl _ _).alloc (Nat.le_refl _) _
    have HB5 := Lib.hid ((HB3.out.trans (b4.mono HB3.out.size)).trans (hb5.mono (HB3.out.trans (b4.mono HB3.out.size)).size))
    have HE5 := Lib.hid ((HE3.out.below b4).below hb5)
    have HA5 := Lib.hid ((HA3.out.later b4).later hb5)
    have HX5 := Lib.hid (tu_new w4 t)
    clear b4 hb5 HRP HB3 HE3 HA3
    go_upto_region 5 with ((with_reducible refine atT w4.heap.size (x := .tmp 5) (y := .tmp 26) (u := t) (o := ⟨none, .store _ _ _, _, _, _, _⟩) ?_ ?_); exact ⟨rfl, rfl, rfl, rfl, rfl, rfl⟩)
    generalize w4.alloc (.cells (tc t).toArray 25) = w5 at HB5 HE5 HA5 HX5 ⊢
    generalize w4.heap.size = g5 at HX5 ⊢
    have hee : Hid (eqT t t = !false) := eqT_refl t
    have HTO := Lib.hid (told_any c n w5 HE5.out.2.1)
    go_wp2_with (first
      | ((with_reducible refine loadT (x := .tmp 3) (u := t) (o := ⟨some 29, _, _, _, _, _⟩) HA5.out ?_ ?_); exact ⟨rfl, rfl, rfl⟩)
      | ((with_reducible refine loadT (x := .tmp 5) (u := t) (o := ⟨some 30, _, _, _, _, _⟩) HX5.out ?_ ?_); exact ⟨rfl, rfl, rfl⟩)
      | ((with_reducible refine neW hee.out (t := 25) (x := .tmp 29) (y := .tmp 30) (o := ⟨some 31, _, _, _, _, _⟩) ?_ ?_); exact ⟨rfl, rfl, rfl, rfl⟩))
    refine HTO.out.mono ?_
    rintro e w6 ⟨rfl, b6⟩
    have HB6 := Lib.hid (HB5.out.trans (b6.mono HB5.out.size))
    have HE6 := Lib.hid (HE5.out.below b6)
    have HA6 := Lib.hid (HA5.out.later b6)
    clear b6 HTO HB5 HE5 HA5 HX5
    by_cases hc : c = 0
    · subst hc
      obtain ⟨hr, ht, _⟩ := parseT_back (s := s) (by rw [HPZ.out])
      rw [HPZ.out] at hr ht
      have HR := Lib.hid hr
      have HTT : Hid (textT t = s) := ht
      clear hr ht
      have HTX := Lib.hid (text_yes t HR.out w6 HE6.out)
      rw [HTT.out] at HTX
      go_wp2_with ((with_reducible refine loadT (x := .tmp 3) (u := t) (o := ⟨some 40, _, _, _, _, _⟩) HA6.out ?_ ?_); exact ⟨rfl, rfl, rfl⟩)
      refine HTX.out.mono ?_
      rintro e w7 ⟨rfl, b7⟩
      have HB7 := Lib.hid (HB6.out.trans (b7.mono HB6.out.size))
      clear b7 HTX HB6 HE6 HA6
      go_wp2_with fail
      go_ret
      exact ⟨rfl, HB7.out⟩
    · have hc1 : ¬ (c : Int) = 0 := by omega
      have hc2 : ((c : Int) != 0) = true := by rw [bne_iff_ne]; exact hc1
      have HTX := Lib.hid (text_some t w6 HE6.out)
      go_wp2_with ((with_reducible refine loadT (x := .tmp 3) (u := t) (o := ⟨some 40, _, _, _, _, _⟩) HA6.out ?_ ?_); exact ⟨rfl, rfl, rfl⟩)
      refine HTX.out.mono ?_
      rintro e w7 ⟨⟨s', ok, rfl⟩, b7⟩
      have HB7 := Lib.hid (HB6.out.trans (b7.mono HB6.out.size))
      clear b7 HTX HB6 HE6 HA6
      go_wp2_with fail
      go_ret
      exact ⟨rfl, HB7.out⟩
end Go.Proofs.YtnnebfcggdbgpaaGreatDoor
/-
  What the rows' condition on package-level variables gives the walks, and that a world meets it.
-/
namespace Go.Proofs.YtnnebfcggdbgpaaGreatDoor
open Go.ChangeShapes Go.WideShapes Go.ChangeAt Go.RowKit
set_option linter.unusedVariables false

def laidL : List (String × DataW Unit) := [("errors.errorType", Rows.laid_errors_errorType), ("vestry/name.reserved", Rows.laid_vestry_name_reserved)]

theorem own : ownKnob Tryz.prog.godebug = none := by kernel_rfl
theorem laidOut : laidOutB Tryz.prog = true := by kernel_rfl
theorem gErr : Tryz.prog.globalNamed "errors.errorType" = some 2 := by kernel_rfl
theorem gRes : Tryz.prog.globalNamed "vestry/name.reserved" = some 0 := by kernel_rfl
theorem tRes : (Tryz.prog.globals[0]?).map (·.type) = some 158 := by kernel_rfl
theorem rtyp : (Tryz.prog.cutTypes.find? (·.1 == "internal/reflectlite.rtype")).map (·.2) = some 211 := by kernel_rfl
theorem nTypes : ∃ n, Tryz.prog.types.size = n ∧ ((List.range n).filter fun t => Tryz.prog.rowNamed t [101, 114, 114, 111, 114]) = [34] := ⟨_, rfl, by kernel_rfl⟩
theorem errHandle : typeHandle Tryz.prog 34 = .pointer (some ⟨8, 34, none⟩) := by kernel_rfl
theorem cells9 : Tryz.prog.cellsOf 9 = 1 := by kernel_rfl

/-- The heap that the door's own run leaves meets the condition. -/
theorem door_met (os : Os) (args : Array Value) : laidMetH Tryz.prog laidL ((World.doorLaid Tryz.prog 400 os).forCall (fun _ _ => 0) ⟨#[], args, []⟩).memory :=
  laidMetH_of_parts3 (fuel := 8) (laidMet_of_run' 8 (by kernel_rfl) (by kernel_rfl)) (by kernel_rfl) (by kernel_rfl)

set_option maxRecDepth 100000 in
theorem env_of_laid {W : World} (h : laidMetH Tryz.prog laidL W) (hsh : W.ShapedOpen Tryz.prog) : Env W := by
  have h' : laidMet Tryz.prog [("vestry/name.reserved", Rows.laid_vestry_name_reserved)] W ∧ handlesMet Tryz.prog [("errors.errorType", Rows.laid_errors_errorType)] W := h
  obtain ⟨h1, h2⟩ := h'
  refine ⟨?_, ?_, Tryz.laysM145.s1_3 W hsh⟩
  · obtain ⟨ps, ⟨g0, t0, cs0, f0, p0, q0, hg0, ht0, hv0, hd0, _, _⟩, _, _⟩ := h1
    obtain rfl := Option.some.inj (gRes.symm.trans hg0)
    obtain rfl := Option.some.inj (tRes.symm.trans ht0)
    obtain ⟨xs, m1, rfl, hx1, hlen, hn3, hel⟩ := DataW.trod_array Tryz.underlying158 hd0
    have e0 := hel 0 (by decide)
    have e1 := hel 1 (by decide)
    have e2 := hel 2 (by decide)
    rw [cells9] at e0 e1 e2
    simp only [Prod.mk.injEq, Rows.laid_vestry_name_reserved, DataW.agg.injEq] at hx1
    match xs, hn3, hx1, e0, e1, e2 with
    | [x0, x1, x2], _, hx1, e0, e1, e2 =>
      simp only [List.map_cons, List.map_nil, List.cons.injEq] at hx1
      obtain ⟨s0, a0, b0, _⟩ := DataW.trod_string Tryz.underlying9 (show DataW.trod _ Tryz.prog W 0 _ false m1 9 _ = some x0 from e0)
      obtain ⟨s1, a1, b1, _⟩ := DataW.trod_string Tryz.underlying9 (show DataW.trod _ Tryz.prog W 0 _ false m1 9 _ = some x1 from e1)
      obtain ⟨s2, a2, b2, _⟩ := DataW.trod_string Tryz.underlying9 (show DataW.trod _ Tryz.prog W 0 _ false m1 9 _ = some x2 from e2)
      rw [b0, b1, b2] at hx1
      simp at hx1
      obtain ⟨⟨y0, y1, y2⟩, _⟩ := hx1
      have z0 : s0 = wDef := bytes_inj y0.symm
      have z1 : s1 = wRel := bytes_inj y1.symm
      have z2 : s2 = wPerm := bytes_inj y2.symm
      subst z0 z1 z2
      have v0 := World.var?_cell hg0 hv0 0
      have v1 := World.var?_cell hg0 hv0 1
      have v2 := World.var?_cell hg0 hv0 2
      obtain ⟨l⟩ := cs0
      match l, a0, a1, a2 with
      | [c0, c1, c2], a0, a1, a2 =>
        simp at a0 a1 a2
        subst a0 a1 a2
        exact ⟨by simpa using v0, by simpa using v1, by simpa using v2⟩
  · obtain ⟨name, u, ty, k1, k2, k3, k4, k5⟩ := h2 _ (List.mem_singleton.2 rfl)
    have en : name = [101, 114, 114, 111, 114] := (Option.some.inj k1).symm
    subst en
    obtain rfl := Option.some.inj (rtyp.symm.trans k2)
    obtain ⟨n, hn, hone⟩ := nTypes
    have hm : ty ∈ (List.range n).filter fun t => Tryz.prog.rowNamed t [101, 114, 114, 111, 114] := List.mem_filter.2 ⟨List.mem_range.2 (by rw [← hn]; exact k3), k4⟩
    rw [hone] at hm
    obtain rfl := List.mem_singleton.1 hm
    rw [errHandle] at k5
    have k6 := World.var?_cell gErr k5 0
    show errAs.ErrT W
    unfold errAs.ErrT
    simpa using k6

section
variable {H : Type} {enc : TypeId × Value → H}
/-- The wrap of a row with a condition on memory, the world's shape kept. -/
theorem wrap_and {a : Assume} {C : Checked} {os : Os} {f : FuncId} {fn : Func} {s : ChangeSpec} {conds : List PathCond} {apart fresh handsOn again : Bool} {X : World → Array Value → Prop}
    (hX : ∀ (w w' : World) (args : Array Value), w.heap = w'.heap → X w args → X w' args)
    (own : ownKnob C.prog.godebug = none) (started : os.Started) (noInit : C.prog.inits.idxOf? f = none) (hfn : C.prog.funcs[f]? = some fn)
    (witness : ∃ (w : World) (tape : Tape) (i : Input), w.os = os ∧ (w.forCall tape i).Shaped C.prog ∧ i.vars = [] ∧ Input.okWide C.prog (w.forCall tape i) .any w.heap.size f i ∧
      ((s.pre enc C.prog fn conds apart (w.forCall tape i).memory i.args ∧ X (w.forCall tape i).memory i.args) ∧ sizedMet enc C.prog fn (OpenSpec.ofChange s) apart (w.forCall tape i).memory i.args) ∧ a.holds C.prog (lone (Frame.enter C.prog f i.args .normal) [] (w.forCall tape i)))
    (contract : ∀ (W : World) (base : Nat) (args : Array Value) (ds gs : List (DataW H)) (before : List MemPlace),
      (∀ (j : Nat) t v, fn.params[j]? = some t → args[j]? = some v → Value.okWide C.prog W .any base t v) →
      DataW.Whole enc C.prog fn.params.toList s.vars apart W args.toList ds gs before →
      W.ShapedOpen C.prog → X W args →
      Calls C.prog f args W fun e W' => ∃ v, e = .returned v ∧ s.post enc C.prog fn apart fresh handsOn again W args v W') :
    ReturnsInHanded a C os f .any (fun w args => (s.pre enc C.prog fn conds apart w args ∧ X w args) ∧ sizedMet enc C.prog fn (OpenSpec.ofChange s) apart w args) (s.post enc C.prog fn apart fresh handsOn again) := by
  refine returnsInHanded_of_calls own started noInit witness ?_
  intro w tape i _ hsh _ hok hpre _
  obtain ⟨_, _, _, fn', hfn', _, _, _, _, hval⟩ := hok
  have e : fn' = fn := Option.some.inj (hfn'.symm.trans hfn)
  subst e
  obtain ⟨⟨⟨ds, gs, before, hw, _⟩, hx⟩, _⟩ := hpre
  have hw' := DataW.Whole.of_heap (w' := w.forCall tape i) (by rfl) hw
  refine (contract (w.forCall tape i) w.heap.size i.args ds gs before hval hw' hsh (hX _ _ _ (by rfl) hx)).mono fun e W' ⟨v, he, hp⟩ => ?_
  subst he
  exact ChangeSpec.post_blind hp
/-- .. with the arguments' sizes. -/
theorem wrap_sized {a : Assume} {C : Checked} {os : Os} {f : FuncId} {fn : Func} {s : ChangeSpec} {conds : List PathCond} {apart fresh handsOn again : Bool} {X : World → Array Value → Prop}
    (hX : ∀ (w w' : World) (args : Array Value), w.heap = w'.heap → X w args → X w' args)
    (own : ownKnob C.prog.godebug = none) (started : os.Started) (noInit : C.prog.inits.idxOf? f = none) (hfn : C.prog.funcs[f]? = some fn)
    (witness : ∃ (w : World) (tape : Tape) (i : Input), w.os = os ∧ (w.forCall tape i).Shaped C.prog ∧ i.vars = [] ∧ Input.okWide C.prog (w.forCall tape i) .any w.heap.size f i ∧
      ((s.pre enc C.prog fn conds apart (w.forCall tape i).memory i.args ∧ X (w.forCall tape i).memory i.args) ∧ sizedMet enc C.prog fn (OpenSpec.ofChange s) apart (w.forCall tape i).memory i.args) ∧ a.holds C.prog (lone (Frame.enter C.prog f i.args .normal) [] (w.forCall tape i)))
    (contract : ∀ (W : World) (base : Nat) (args : Array Value) (ds gs : List (DataW H)) (before : List MemPlace),
      (∀ (j : Nat) t v, fn.params[j]? = some t → args[j]? = some v → Value.okWide C.prog W .any base t v) →
      DataW.Whole enc C.prog fn.params.toList s.vars apart W args.toList ds gs before →
      W.ShapedOpen C.prog → X W args →
      (DataW.weightsEach C.prog (fn.params.toList ++ (OpenSpec.ofChange s).bare.plain.varTypes C.prog) (ds ++ gs)).all (· ≤ reachBytes) = true →
      Calls C.prog f args W fun e W' => ∃ v, e = .returned v ∧ s.post enc C.prog fn apart fresh handsOn again W args v W') :
    ReturnsInHanded a C os f .any (fun w args => (s.pre enc C.prog fn conds apart w args ∧ X w args) ∧ sizedMet enc C.prog fn (OpenSpec.ofChange s) apart w args) (s.post enc C.prog fn apart fresh handsOn again) := by
  refine returnsInHanded_of_calls own started noInit witness ?_
  intro w tape i _ hsh _ hok hpre _
  obtain ⟨_, _, _, fn', hfn', _, _, _, _, hval⟩ := hok
  have e : fn' = fn := Option.some.inj (hfn'.symm.trans hfn)
  subst e
  obtain ⟨⟨⟨ds, gs, before, hw, _⟩, hx⟩, hz⟩ := hpre
  have hw' := DataW.Whole.of_heap (w' := w.forCall tape i) (by rfl) hw
  refine (contract (w.forCall tape i) w.heap.size i.args ds gs before hval hw' hsh (hX _ _ _ (by rfl) hx) (hz.weights hw)).mono fun e W' ⟨v, he, hp⟩ => ?_
  subst he
  exact ChangeSpec.post_blind hp
end
end Go.Proofs.YtnnebfcggdbgpaaGreatDoor
/-
  A tuple among the arguments, opened.
-/
namespace Go.Proofs.YtnnebfcggdbgpaaGreatDoor
open Go.ChangeShapes Go.WideShapes Go.ChangeAt Go.RowKit
set_option linter.unusedVariables false
section
variable {H : Type} {enc : TypeId × Value → H}
theorem cellsTu : Tryz.prog.cellsOf 25 = 6 := by kernel_rfl
theorem list4 {α : Type} {l : List α} (h : l.length = 4) : ∃ a b c d, l = [a, b, c, d] := by
  match l, h with
  | [a, b, c, d], _ => exact ⟨a, b, c, d, rfl⟩
set_option maxRecDepth 100000 in
theorem tu_open {w : World} {base : Nat} {v : Value} {d : DataW H} {p : List MemPlace} (hv : Value.okWide Tryz.prog w .any base 25 v) (h : DataW.Trod enc Tryz.prog w 0 (fun _ => true) true 25 v d p) :
    ∃ t : Tu, v = tuV t ∧ ((∀ n ∈ d.weights Tryz.prog 25, n ≤ reachBytes) → sizesT t 140737488355328) := by
  obtain ⟨cs, rfl, hsz⟩ := okWide_struct Tryz.underlying25 hv
  obtain ⟨fuel, hf⟩ := h
  have hf' : DataW.trod enc Tryz.prog w 0 (fun _ => true) true fuel 25 cs.toList = some (d, p) := hf
  obtain ⟨xs, n, _, hx, _, hlen, hel⟩ := DataW.trod_struct Tryz.underlying25 hf'
  rw [cellsTu] at hsz
  have hl : cs.toList.length = 6 := by simpa using hsz
  obtain ⟨c0, c1, c2, c3, c4, c5, hcs⟩ : ∃ c0 c1 c2 c3 c4 c5, cs.toList = [c0, c1, c2, c3, c4, c5] := by
    match cs.toList, hl with
    | [c0, c1, c2, c3, c4, c5], _ => exact ⟨c0, c1, c2, c3, c4, c5, rfl⟩
  rw [hcs] at hel
  obtain ⟨x0, x1, x2, x3, rfl⟩ := list4 (show xs.length = 4 from hlen)
  have k0 := hel 0 _ rfl
  have k1 := hel 1 _ rfl
  have k2 := hel 2 _ rfl
  have k3 := hel 3 _ rfl
  obtain ⟨y0, y1, m0, hx0, _, q0, q1⟩ := trod_struct2 Tryz.underlying23 (show DataW.trod enc Tryz.prog w 0 (fun _ => true) true n 23 [c0, c1] = some x0 from k0)
  obtain ⟨s2, e2, rfl, _⟩ := DataW.trod_string Tryz.underlying9 (show DataW.trod enc Tryz.prog w 0 (fun _ => true) true n 9 [c2] = some x1 from k1)
  obtain ⟨y3, y4, m2, hx2, _, q3, q4⟩ := trod_struct2 Tryz.underlying23 (show DataW.trod enc Tryz.prog w 0 (fun _ => true) true n 23 [c3, c4] = some x2 from k2)
  obtain ⟨s5, e5, rfl, _⟩ := DataW.trod_string Tryz.underlying9 (show DataW.trod enc Tryz.prog w 0 (fun _ => true) true n 9 [c5] = some x3 from k3)
  obtain ⟨s0, e0, rfl, _⟩ := DataW.trod_string Tryz.underlying9 (show DataW.trod enc Tryz.prog w 0 (fun _ => true) true m0 9 [c0] = some y0 from q0)
  obtain ⟨s1, e1, rfl, _⟩ := DataW.trod_string Tryz.underlying9 (show DataW.trod enc Tryz.prog w 0 (fun _ => true) true m0 9 [c1] = some y1 from q1)
  obtain ⟨s3, e3, rfl, _⟩ := DataW.trod_string Tryz.underlying9 (show DataW.trod enc Tryz.prog w 0 (fun _ => true) true m2 9 [c3] = some y3 from q3)
  obtain ⟨s4, e4, rfl, _⟩ := DataW.trod_string Tryz.underlying9 (show DataW.trod enc Tryz.prog w 0 (fun _ => true) true m2 9 [c4] = some y4 from q4)
  subst hx0 hx2
  obtain rfl : c0 = .string s0 := by simpa using e0
  obtain rfl : c1 = .string s1 := by simpa using e1
  obtain rfl : c2 = .string s2 := by simpa using e2
  obtain rfl : c3 = .string s3 := by simpa using e3
  obtain rfl : c4 = .string s4 := by simpa using e4
  obtain rfl : c5 = .string s5 := by simpa using e5
  refine ⟨⟨s0, s1, s2, s3, s4, s5⟩, ?_, fun hw => ?_⟩
  · have : cs = (tc ⟨s0, s1, s2, s3, s4, s5⟩).toArray := by rw [← Array.toArray_toList (xs := cs), hcs]; rfl
    rw [this]
  · have hd := congrArg Prod.fst hx
    simp only [List.map_cons, List.map_nil] at hd
    subst hd
    have hr : reachBytes ≤ 140737488355328 := Nat.le_of_lt reachBytes_lt
    simp only [DataW.weights, Tryz.underlying25, Tryz.underlying23, DataW.weightsEach, List.map_cons, List.map_nil, List.append_nil, List.mem_cons, List.not_mem_nil, or_false, List.cons_append, List.nil_append] at hw
    refine ⟨?_, ?_, ?_, ?_, ?_, ?_⟩
    · exact Nat.le_trans (hw s0.data.toList.length (by simp)) hr
    · exact Nat.le_trans (hw s1.data.toList.length (by simp)) hr
    · exact Nat.le_trans (hw s2.data.toList.length (by simp)) hr
    · exact Nat.le_trans (hw s3.data.toList.length (by simp)) hr
    · exact Nat.le_trans (hw s4.data.toList.length (by simp)) hr
    · exact Nat.le_trans (hw s5.data.toList.length (by simp)) hr
end
end Go.Proofs.YtnnebfcggdbgpaaGreatDoor
/-
  TupleParses' walk and what its card wants: a top to merge under.
-/
namespace Go.Proofs.YtnnebfcggdbgpaaGreatDoor
end Go.Proofs.YtnnebfcggdbgpaaGreatDoor
