/-
  Steps of a region that draws its order, of operations that may be guarded: a call, an append that leaves what was there, a load of a whole array.
-/
import Derived.Test.YtlngicddojoogaaGreatDoorShaL
import Derived.Test.YtlngicddojoogaaGreatDoorStep
import Derived.Deep.RegionHeld3
namespace Go.Proofs.YtlngicddojoogaaGreatDoor
open Go.ChangeShapes Go.WideShapes Go.ChangeAt Go.RowKit
set_option linter.unusedVariables false
theorem arr_setCells {t : TypeId} {g k : Nat} {cs : List Value} (hk : k ≠ g) : ∀ (vs : List Value) (o : Nat) (w : World), Arr w t k cs → Arr (w.setCells g o vs) t k cs
  | [], _, _, h => h
  | v :: r, o, w, h => arr_setCells hk r (o + 1) _ (h.setCell (a := ⟨g, o, none⟩) hk v)
/-- append to a slice of the call's own: what it read it still reads; no other block is touched. -/
theorem run_held2 {w : World} {base C g off cap : Nat} {vx : Value} {l m : List UInt8} (hh : Held base w (.slice (some ⟨g, off, none⟩) l.length cap) l) (hr : Rd C w vx m) (hlen : l.length + m.length ≤ 140737488355328) (hbase : base ≤ w.heap.size) (ty : TypeId) :
    ∃ v' w', (Builtin.append_ #[27, 27] ty #[.slice (some ⟨g, off, none⟩) l.length cap, vx]).run Tryz.prog w = .ok v' w' ∧ Held base w' v' (l ++ m) ∧ Held base w' (.slice (some ⟨g, off, none⟩) l.length cap) l ∧ Below base w w' ∧ ∀ t k cs, k ≠ g → Arr w t k cs → Arr w' t k cs := by
  obtain ⟨i0, hi, hz0, hz1, hz2⟩ := info_parts Tryz.info5
  have hh' := hh
  rcases src_of_rd hr with ⟨rfl, rfl⟩ | ⟨ad, c, rfl, hc⟩
  · obtain ⟨v', w', h1, h2, h3⟩ := run_held hh hr hlen hbase ty
    rw [List.append_nil]
    rcases hh with ⟨h, _⟩ | ⟨g', off', cap', hv, h1, h2, h3, h4, h5, h6⟩
    · cases h
    · simp only [Value.slice.injEq, Option.some.injEq, Addr.mk.injEq] at hv
      obtain ⟨⟨rfl, rfl, _⟩, _, rfl⟩ := hv
      have hs := Src.ofNil (P := Tryz.prog) (size := i0.size) w Tryz.underlying27 0
      have h := run_append_room_src (P := Tryz.prog) w 27 27 ty 5 i0 Tryz.underlying27 hi g off l.length cap _ 0 [] hs (by omega) (fun j hj => by simp at hj) (fun j hj => by simp at hj)
      exact ⟨_, _, h, hh', hh', Below.refl _ _, fun _ _ _ _ h => h⟩
  · rcases hh with ⟨h, _⟩ | ⟨g', off', cap', hv, h1, h2, h3, h4, h5, h6⟩
    · cases h
    simp only [Value.slice.injEq, Option.some.injEq, Addr.mk.injEq] at hv
    obtain ⟨⟨rfl, rfl, _⟩, _, rfl⟩ := hv
    by_cases hroom : l.length + m.length ≤ cap
    · have h := run_append_room_cells (P := Tryz.prog) w 27 ty 5 i0 Tryz.underlying27 hi g off l.length cap ad m.length c (bvs m) (by rw [hz1]; simp [bvs]) hc (bvs_one m) hroom
        (fun j hj => by rw [hz1, Nat.mul_one, Nat.add_assoc]; exact (h6 (l.length + j) (by rw [bvs_length] at hj; omega)).1) (fun j hj => by rw [hz1, Nat.mul_one, Nat.add_assoc]; exact (h6 (l.length + j) (by rw [bvs_length] at hj; omega)).2)
      rw [hz1, Nat.mul_one] at h
      have hbel : Below base w (w.setCells g (off + l.length) (bvs m)) := Lib.below_setCells g h3 (bvs m) _ (Below.refl _ _)
      have hll : (l ++ m).length = l.length + m.length := List.length_append
      have hold : ∀ i, i < l.length → (w.setCells g (off + l.length) (bvs m)).cell? ⟨g, off + i, none⟩ = some (bv (l.getD i 0)) := fun i hil => by
        rw [World.cell?_setCells_out g (bvs m) _ w _ (fun _ _ => .inl (by show off + i < off + l.length; omega))]
        exact h5 i hil
      refine ⟨_, _, h, .inr ⟨g, off, cap, by rw [hll], by omega, h2, h3, Nat.lt_of_lt_of_le h4 hbel.size, fun i hi => ?_, fun i hi => ?_⟩, .inr ⟨g, off, cap, rfl, h1, h2, h3, Nat.lt_of_lt_of_le h4 hbel.size, hold, fun i hi => ?_⟩, hbel, fun t k cs hk ha => arr_setCells hk _ _ _ ha⟩
      · rw [getD_app]
        by_cases hil : i < l.length
        · rw [if_pos hil]; exact hold i hil
        · rw [if_neg hil]
          have := World.cell?_setCells_in g (bvs m) (off + l.length) w (fun j hj => by rw [Nat.add_assoc]; exact (h6 (l.length + j) (by rw [bvs_length] at hj; omega)).1) (i - l.length) (by rw [bvs_length]; omega)
          rw [show off + l.length + (i - l.length) = off + i by omega] at this
          rw [this]
          have hg := bvs_getElem m (i - l.length) (by omega)
          rw [List.getElem?_eq_getElem (by rw [bvs_length]; omega)] at hg
          exact hg
      all_goals exact ⟨World.isSome_setCells g (bvs m) _ w _ (h6 i hi).1, by rw [World.frozen?_setCells]; exact (h6 i hi).2⟩
    · obtain ⟨v', w', hrun, ho, hg⟩ := run_append_arg_grows (P := Tryz.prog) w 27 ty 5 i0 (.int .u8 0) 1 1 Tryz.underlying27 hi hz0 hz1 hz2 rfl (by decide) ⟨g, off, none⟩ l.length cap (bvs l) (by simp [bvs])
        (fun j u hj => by
          have hjl : j < l.length := by
            have := (List.getElem?_eq_some_iff.1 hj).1; simpa [bvs] using this
          rw [bvs_getElem l j hjl] at hj
          simp only [Option.some.injEq] at hj
          subst hj
          rw [Addr.add_mid]; exact h5 j hjl) ad m.length c (bvs m) (by simp [bvs]) hc (by omega) (by unfold maxLen; omega) (by omega)
      have hb2 : Below w.heap.size w w' := (Below.refl _ _).grown hg (Nat.le_refl _) (fun k hk => by cases hk)
      refine ⟨v', w', hrun, (Held.of_own (n := l.length + m.length) ?_).mono hbase, hh'.later hb2, (Below.refl _ _).grown hg hbase (fun k hk => by cases hk), fun t k cs _ ha => ha.later hb2⟩
      rw [bvs_append]; exact ho
section
variable {P : Program} {ops : Array Oper} {o : Oper} {a : Act} {w : World} {K : Act → World → Prop} {Q : Exit → Act → World → Prop} {E : Prop}
theorem stepw_call {f : FuncId} {args : Array Value} {R : Value → World → Prop}
    (hw : Region.wanted o (yielded ops a.tmps) = true) (hrun : (execOp a.eval o).run P w = .ok (.enter f args) w) (hc : Calls P f args w fun e w' => ∃ v, e = .returned v ∧ R v w')
    (hK : ∀ v w', R v w' → K (a.put o.dst v) w') : if Region.wanted o (yielded ops a.tmps) = true then Oper.wp P o a w K Q else E := by
  rw [if_pos hw]
  unfold Oper.wp
  rw [hrun]
  simp only [Oper.upon]
  refine hc.mono fun e w' ⟨v, he, hr⟩ => ?_
  subst he
  exact hK v w' hr
theorem stepw_held2 (hw : Region.wanted o (yielded ops a.tmps) = true) (s x : Operand)
    (ho : o.op = .call { callee := .builtin .append, args := #[s, x], argTypes := #[27, 27] })
    {base C g off cap : Nat} {vx : Value} {l m : List UInt8} (hs : a.eval s = .slice (some ⟨g, off, none⟩) l.length cap) (hh : Held base w (.slice (some ⟨g, off, none⟩) l.length cap) l) (hx : a.eval x = vx) (hr : Rd C w vx m) (hlen : l.length + m.length ≤ 140737488355328) (hbase : base ≤ w.heap.size)
    (hK : ∀ v' w', Held base w' v' (l ++ m) → Held base w' (.slice (some ⟨g, off, none⟩) l.length cap) l → Below base w w' → (∀ t k cs, k ≠ g → Arr w t k cs → Arr w' t k cs) → K (a.put o.dst v') w') : if Region.wanted o (yielded ops a.tmps) = true then Oper.wp Tryz.prog o a w K Q else E := by
  rw [if_pos hw]
  obtain ⟨v', w', hrun, r1, r2, r3, r4⟩ := run_held2 hh hr hlen hbase o.type
  unfold Oper.wp
  simp [execOp, ho, resolve, invoke, builtin, hs, hx, hrun, Result.andThen]
  exact hK v' w' r1 r2 r3 r4
variable {md : Region.Mode} {S : World → Prop}
/-- A whole array's load that is wanted, taken first. -/
theorem takew_arr {i : Nat} {o : Oper} {fuel : Nat} {listed : Array Bool} {a : Act} {w : World} (hi : ops[i]? = some o) (hs : Region.noSelect ops = true) (hf : Region.free md ops listed i = true) (hr : (Region.ready md ops listed).contains i = true)
    {v : Value} (hQ : ∀ c a w, Q (.panic c) (a.put o.dst v) w → Q (.panic c) a w) (hwt : Region.wanted o (yielded ops a.tmps) = true) {ty : TypeId} {x : Operand} {b : Nat} {cs : List Value} {d : TypeDesc} (hv : v = .agg cs.toArray) (ho : o.op = .load ty x ∧ a.eval x = .pointer (some ⟨b, 0, none⟩)) (hS : ∀ w, S w → w.rangeAt b 0 cs)
    (hu : P.underlying ty = some d) (hd : d.isRow = true) (hz : (P.info? ty).map (·.size) = some cs.length) (hw : S w)
    (h : wpAnyH P md ops Q S fuel (listed.setIfInBounds i true) (a.put o.dst (.agg cs.toArray)) w) : wpAnyH P md ops Q S (fuel + 1) listed a w := by
  subst hv
  exact wpAnyH_take hi hs hf hr hQ (yieldsIf_load_mid hwt ty x ho.1 b 0 ho.2 cs d hS hu hd hz) hw h
end
end Go.Proofs.YtlngicddojoogaaGreatDoor
