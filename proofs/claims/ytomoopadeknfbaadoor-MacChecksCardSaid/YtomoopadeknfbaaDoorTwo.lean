/-
  Two slices of bytes of the call's own that are appended to in turn.
-/
import Derived.Test.YtomoopadeknfbaaDoorHeld
namespace Go.Proofs.YtomoopadeknfbaaDoor
open Go.ChangeShapes Go.WideShapes Go.ChangeAt Go.RowKit
set_option linter.unusedVariables false

theorem heap_setCells {g k : Nat} (hk : k ≠ g) : ∀ (vs : List Value) (o : Nat) (w : World), (w.setCells g o vs).heap[k]? = w.heap[k]?
  | [], _, _ => rfl
  | v :: r, o, w => (heap_setCells hk r (o + 1) _).trans (Below.heap_setCell w ⟨g, o, none⟩ v k hk)
theorem Held.keep {base : Nat} {w w' : World} {v : Value} {l : List UInt8} (h : Held base w v l) (hk : ∀ a n c, v = .slice (some a) n c → w'.heap[a.block]? = w.heap[a.block]?) (hs : w.heap.size ≤ w'.heap.size) : Held base w' v l := by
  rcases h with h | ⟨g, off, cap, hv, h1, h2, h3, h4, h5, h6⟩
  · exact .inl h
  · have hg : w'.heap[g]? = w.heap[g]? := hk ⟨g, off, none⟩ _ _ hv
    exact .inr ⟨g, off, cap, hv, h1, h2, h3, by omega, fun i hi => (World.cell?_of_block hg).trans (h5 i hi), fun i hi => by
      rw [World.cell?_of_block (show w'.heap[(⟨g, off + i, none⟩ : Addr).block]? = _ from hg), World.frozen?_of_block (show w'.heap[(⟨g, off + i, none⟩ : Addr).block]? = _ from hg)]; exact h6 i hi⟩
/-- append, and what it leaves alone. -/
theorem run_held3 {w : World} {base C : Nat} {v vx : Value} {l m : List UInt8} (hh : Held base w v l) (hr : Rd C w vx m) (hlen : l.length + m.length ≤ 140737488355328) (hbase : base ≤ w.heap.size) (ty : TypeId) :
    ∃ v' w', (Builtin.append_ #[22, 22] ty #[v, vx]).run Tryd.prog w = .ok v' w' ∧ Held base w' v' (l ++ m) ∧ Below base w w' ∧
      (∀ k, k < w.heap.size → (∀ a n c, v = .slice (some a) n c → a.block ≠ k) → w'.heap[k]? = w.heap[k]?) ∧
      (∀ a n c, v' = .slice (some a) n c → (∃ a0 n0 c0, v = .slice (some a0) n0 c0 ∧ a.block = a0.block) ∨ w.heap.size ≤ a.block) := by
  obtain ⟨i0, hi, hz0, hz1, hz2⟩ := info_parts Tryd.info5
  have fresh : ∀ (v' : Value) (w' : World) (n : Nat) (xs : List Value), w'.ownsRow w.heap.size 5 1 v' n xs → ∀ a k c, v' = .slice (some a) k c → w.heap.size ≤ a.block := by
    intro v' w' n xs ho a k c e
    rcases ho.2 with ⟨h, _⟩ | ⟨g, cap, cur, h, hb, _⟩
    · rw [h] at e; cases e
    · rw [h] at e; cases e; exact hb
  rcases src_of_rd hr with ⟨rfl, rfl⟩ | ⟨ad, c, rfl, hc⟩
  · rw [List.append_nil]
    rcases hh with ⟨rfl, rfl⟩ | ⟨g, off, cap, rfl, h1, h2, h3, h4, h5, h6⟩
    · exact ⟨.slice none 0 0, w, by simp [Builtin.append_, run_underlying Tryd.underlying22, sizeOf, typeInfo, hi, Builtin.lenOf, Builtin.firstCells], .inl ⟨rfl, rfl⟩, Below.refl _ _, fun _ _ _ => rfl, fun _ _ _ h => by cases h⟩
    · have hs := Src.ofNil (P := Tryd.prog) (size := i0.size) w Tryd.underlying22 0
      have h := run_append_room_src (P := Tryd.prog) w 22 22 ty 5 i0 Tryd.underlying22 hi g off l.length cap _ 0 [] hs (by omega) (fun j hj => by simp at hj) (fun j hj => by simp at hj)
      exact ⟨_, _, h, .inr ⟨g, off, cap, rfl, h1, h2, h3, h4, h5, h6⟩, Below.refl _ _, fun _ _ _ => rfl, fun a n c e => .inl ⟨_, _, _, rfl, by cases e; rfl⟩⟩
  · rcases hh with ⟨rfl, rfl⟩ | ⟨g, off, cap, rfl, h1, h2, h3, h4, h5, h6⟩
    · obtain ⟨v', w', hrun, ho, hg, _⟩ := run_append_own (P := Tryd.prog) w w.heap.size 22 ty 5 i0 (.int .u8 0) 1 1 Tryd.underlying22 hi hz0 hz1 hz2 rfl (by decide) (.slice none 0 0) 0 [] (World.ownsRow_nil _ _ _ _) ad m.length c (bvs m) (by simp [bvs]) hc (bvs_one m) (by unfold maxLen; omega) (by omega) (Nat.le_refl _)
      have hb : Below w.heap.size w w' := (Below.refl _ _).grown hg (Nat.le_refl _) (fun k hk => by cases hk)
      exact ⟨v', w', hrun, (Held.of_own (n := 0 + m.length) (by simpa using ho)).mono hbase, hb.mono hbase, fun k hk _ => hb.block k hk, fun a n c e => .inr (fresh v' w' _ _ ho a n c e)⟩
    · by_cases hroom : l.length + m.length ≤ cap
      · obtain ⟨v', w', hrun, r1, r2⟩ := run_held (.inr ⟨g, off, cap, rfl, h1, h2, h3, h4, h5, h6⟩) hr hlen hbase ty
        have h := run_append_room_cells (P := Tryd.prog) w 22 ty 5 i0 Tryd.underlying22 hi g off l.length cap ad m.length c (bvs m) (by rw [hz1]; simp [bvs]) hc (bvs_one m) hroom
          (fun j hj => by rw [hz1, Nat.mul_one, Nat.add_assoc]; exact (h6 (l.length + j) (by rw [bvs_length] at hj; omega)).1) (fun j hj => by rw [hz1, Nat.mul_one, Nat.add_assoc]; exact (h6 (l.length + j) (by rw [bvs_length] at hj; omega)).2)
        rw [hz1, Nat.mul_one] at h
        rw [h] at hrun
        obtain ⟨rfl, rfl⟩ : _ ∧ _ := by simpa using hrun
        exact ⟨_, _, h, r1, r2, fun k hk hne => heap_setCells (fun e => hne ⟨g, off, none⟩ _ _ rfl e.symm) _ _ _, fun a n c e => .inl ⟨_, _, _, rfl, by cases e; rfl⟩⟩
      · obtain ⟨v', w', hrun, ho, hg⟩ := run_append_arg_grows (P := Tryd.prog) w 22 ty 5 i0 (.int .u8 0) 1 1 Tryd.underlying22 hi hz0 hz1 hz2 rfl (by decide) ⟨g, off, none⟩ l.length cap (bvs l) (by simp [bvs])
          (fun j u hj => by
            have hjl : j < l.length := by
              have := (List.getElem?_eq_some_iff.1 hj).1; simpa [bvs] using this
            rw [bvs_getElem l j hjl] at hj
            simp only [Option.some.injEq] at hj
            subst hj
            rw [Addr.add_mid]; exact h5 j hjl) ad m.length c (bvs m) (by simp [bvs]) hc (by omega) (by unfold maxLen; omega) (by omega)
        have hb : Below w.heap.size w w' := (Below.refl _ _).grown hg (Nat.le_refl _) (fun k hk => by cases hk)
        refine ⟨v', w', hrun, (Held.of_own (n := l.length + m.length) ?_).mono hbase, hb.mono hbase, fun k hk _ => hb.block k hk, fun a n c e => .inr (fresh v' w' _ _ ho a n c e)⟩
        rw [bvs_append]; exact ho
/-- Two slices of the call's own, in blocks of their own. -/
def Two (base : Nat) (w : World) (v1 : Value) (l1 : List UInt8) (v2 : Value) (l2 : List UInt8) : Prop :=
  Held base w v1 l1 ∧ Held base w v2 l2 ∧ ∀ a n c a' n' c', v1 = .slice (some a) n c → v2 = .slice (some a') n' c' → a.block ≠ a'.block
theorem Two.swap {base : Nat} {w : World} {v1 v2 : Value} {l1 l2 : List UInt8} (h : Two base w v1 l1 v2 l2) : Two base w v2 l2 v1 l1 :=
  ⟨h.2.1, h.1, fun a n c a' n' c' e1 e2 => Ne.symm (h.2.2 a' n' c' a n c e2 e1)⟩
theorem Two.later {base : Nat} {w w' : World} {v1 v2 : Value} {l1 l2 : List UInt8} (h : Two base w v1 l1 v2 l2) (hb : Below w.heap.size w w') : Two base w' v1 l1 v2 l2 :=
  ⟨h.1.later hb, h.2.1.later hb, h.2.2⟩
theorem Two.nil (base : Nat) (w : World) : Two base w (.slice none 0 0) [] (.slice none 0 0) [] := ⟨.inl ⟨rfl, rfl⟩, .inl ⟨rfl, rfl⟩, fun _ _ _ _ _ _ h => by cases h⟩
section
variable {ops : Array Oper} {rest : List Oper} {o : Oper} {a : Act} {Q : Exit → Act → World → Prop} {w : World}
theorem app_two (hgd : o.guard = none) (s x : Operand) (ho : o.op = .call { callee := .builtin .append, args := #[s, x], argTypes := #[22, 22] })
    {base C : Nat} {v v2 vx : Value} {l l2 m : List UInt8} (hs : a.eval s = v) (hh : Two base w v l v2 l2) (hx : a.eval x = vx) (hr : Rd C w vx m) (hlen : l.length + m.length ≤ 140737488355328) (hbase : base ≤ w.heap.size)
    (h : ∀ v' w', Two base w' v' (l ++ m) v2 l2 → Below base w w' → wpList Tryd.prog ops Q rest (a.put o.dst v') w') : wpList Tryd.prog ops Q (o :: rest) a w := by
  refine wpList_plain hgd fun K hK' => ?_
  obtain ⟨v', w', hrun, r1, r2, r3, r4⟩ := run_held3 hh.1 hr hlen hbase o.type
  unfold Oper.wp
  simp [execOp, ho, resolve, invoke, builtin, hs, hx, hrun, Result.andThen]
  refine hK' _ _ (h v' w' ⟨r1, hh.2.1.keep (fun a n c e => r3 _ (hh.2.1.lt a n c e) (fun a' n' c' e' => hh.2.2 a' n' c' a n c e' e)) r2.size, fun a n c a' n' c' e1 e2 => ?_⟩ r2)
  rcases r4 a n c e1 with ⟨a0, n0, c0, e0, hb⟩ | hb
  · rw [hb]; exact hh.2.2 a0 n0 c0 a' n' c' e0 e2
  · have := hh.2.1.lt a' n' c' e2; omega
end
end Go.Proofs.YtomoopadeknfbaaDoor
