/-
  Two rows of tuples of the call's own, appended to in turn; a change in memory.
-/
import Derived.Test.YtebbbiikphfjcaaMgM
namespace Go.Proofs.Ytebbbiikphfjcaa
open Go.ChangeShapes Go.WideShapes Go.ChangeAt Go.RowKit Go.Lib Go.Sort
set_option linter.unusedVariables false

/-- A change: its revision, and what it says. -/
abbrev Ce := Nat × Cg
def cc (x : Ce) : List Value := .int .u64 x.1 :: .bool x.2.1 :: tc x.2.2
theorem cc_length (x : Ce) : (cc x).length = 8 := rfl
theorem cc_tail {w : World} {g off : Nat} {x : Ce} (h : w.rangeAt g off (cc x)) : w.rangeAt g (off + 2) (tc x.2.2) := fun j v hv => by
  rw [Nat.add_assoc]
  exact h (2 + j) v (by rw [Nat.add_comm]; exact hv)
theorem loadCe {ops : Array Oper} {rest : List Oper} {o : Oper} {a : Act} {Q : Exit → Act → World → Prop} {w : World} {b off : Nat} {x : Operand} {n : Nat} {d : Bool} {u : Tu} (hr : w.rangeAt b off (cc (n, d, u))) (hs : o.guard = none ∧ o.op = .load 45 x ∧ a.eval x = .pointer (some ⟨b, off, none⟩))
    (hk : wpList Try.prog ops Q rest (a.put o.dst (.agg #[.int .u64 n, .bool d, .string u.ot, .string u.oi, .string u.re, .string u.st, .string u.si, .string u.us])) w) : wpList Try.prog ops Q (o :: rest) a w :=
  wpList_plain hs.1 fun K hK => wp_load_mid _ x hs.2.1 b off hs.2.2 (cc (n, d, u)) _ hr Try.underlying45 rfl (by kernel_rfl) (hK _ _ hk)
theorem ce_new (w : World) (n : Nat) (d : Bool) (u : Tu) : Arr (w.alloc (.cells #[.int .u64 n, .bool d, .string u.ot, .string u.oi, .string u.re, .string u.st, .string u.si, .string u.us] 45)) 45 w.heap.size (cc (n, d, u)) := Arr.new' w _ _ _ rfl

def Apt (v v2 : Value) : Prop := ∀ k, v.ownBlock = some k → v2.ownBlock ≠ some k
theorem Apt.swap {v v2 : Value} (h : Apt v v2) : Apt v2 v := fun k h1 h2 => h k h2 h1
theorem Apt.ne {v v2 : Value} (h : Apt v v2) : v2.ownBlock = none ∨ v2.ownBlock ≠ v.ownBlock := by
  cases e : v2.ownBlock with
  | none => exact .inl rfl
  | some k => exact .inr fun h2 => h k (h2 ▸ rfl) e
theorem own_lt {w : World} {base n : Nat} {v : Value} {xs : List Value} (h : w.ownsRow base 34 6 v n xs) {k : Nat} (hk : v.ownBlock = some k) : base ≤ k ∧ k < w.heap.size := h.lt k hk
theorem own_fresh {w : World} {base n : Nat} {v : Value} {xs : List Value} (h : w.ownsRow base 34 6 v n xs) : ∀ k, v.ownBlock = some k → base ≤ k := fun k hk => (h.lt k hk).1
theorem run_appTw {w : World} (ty : TypeId) {base n b : Nat} {v : Value} {xs : List Tu} {t : Tu} (hown : w.ownsRow base 34 6 v n (xs.flatMap tc)) (h3 : w.rangeAt b 0 (tc t)) (hlen : n + 1 ≤ 1000000) (hbase : base ≤ w.heap.size) :
    ∃ v' w', (Builtin.append_ #[24, 24] ty #[v, .slice (some ⟨b, 0, none⟩) 1 1]).run Try.prog w = .ok v' w' ∧ w'.ownsRow base 34 6 v' (n + 1) ((xs ++ [t]).flatMap tc) ∧ w.grownBy w' v.ownBlock ∧ ∀ k, v'.ownBlock = some k → v.ownBlock = some k ∨ w.heap.size ≤ k := by
  obtain ⟨i0, hi⟩ : ∃ i, Try.prog.info? 34 = some i := Option.isSome_iff_exists.1 (by kernel_rfl)
  have q1 : (Try.prog.info? 34).bind (·.zero) = some (tuV t0) := by kernel_rfl
  have q2 : (Try.prog.info? 34).map (·.size) = some 6 := by kernel_rfl
  have q3 : (Try.prog.info? 34).map (·.bytes) = some 96 := by kernel_rfl
  rw [hi] at q1 q2 q3
  have q2' : i0.size = 6 := Option.some.inj q2
  have hx : ∀ j u, (tc t)[j]? = some u → w.cell? ((⟨b, 0, none⟩ : Addr).add j) = some u := fun j u hj => by
    rw [show (Addr.add ⟨b, 0, none⟩ j) = ⟨b, 0 + j, none⟩ by cases j <;> simp [Addr.add]]
    exact h3 j u hj
  have hfl : (xs ++ [t]).flatMap tc = xs.flatMap tc ++ tc t := by rw [List.flatMap_append]; simp
  obtain ⟨v', w', hrun, r1, r2, _⟩ := run_append_own (P := Try.prog) w base 24 ty 34 i0 (tuV t0) 6 96 Try.underlying24 hi q1 q2' (Option.some.inj q3) (by kernel_rfl) (by decide) v n _ hown ⟨b, 0, none⟩ 1 1 (tc t) (by rw [tc_length]) hx (tc_one t) (by unfold maxLen; omega) (by omega) hbase
  refine ⟨v', w', hrun, by rw [hfl]; exact r1, r2, ?_⟩
  rcases hown.2 with ⟨rfl, rfl⟩ | ⟨g, cap, cur, rfl, hb, hg, hn, hc, hs, ht⟩
  · have hx0 : xs.flatMap tc = [] := List.eq_nil_of_length_eq_zero (by rw [hown.1])
    obtain ⟨v2, w2, hrun2, p1, _⟩ := run_append_own (P := Try.prog) w w.heap.size 24 ty 34 i0 (tuV t0) 6 96 Try.underlying24 hi q1 q2' (Option.some.inj q3) (by kernel_rfl) (by decide) (.slice none 0 0) 0 [] (World.ownsRow_nil _ _ _ _) ⟨b, 0, none⟩ 1 1 (tc t) (by rw [tc_length]) hx (tc_one t) (by unfold maxLen; omega) (by omega) (Nat.le_refl _)
    rw [hrun] at hrun2
    simp only [Result.ok.injEq] at hrun2
    obtain ⟨rfl, rfl⟩ := hrun2
    exact fun k hk => .inr (p1.lt k hk).1
  · by_cases hroom : n + 1 ≤ cap
    · have hcell : ∀ j, j < cur.size → (w.cell? ⟨g, j, none⟩).isSome = true := fun j hj => by
        simp [World.cell?, hg, hj]
      have h := run_append_room_cells (P := Try.prog) w 24 ty 34 i0 Try.underlying24 hi g 0 n cap ⟨b, 0, none⟩ 1 1 (tc t) (by rw [q2', tc_length]) hx (tc_one t) hroom
        (fun j hj => by rw [q2']; refine hcell _ ?_; rw [tc_length] at hj; omega) (fun j hj => by simp [World.frozen?, hg])
      rw [hrun] at h
      simp only [Result.ok.injEq] at h
      obtain ⟨rfl, _⟩ := h
      exact fun k hk => .inl hk
    · obtain ⟨v2, w2, hrun2, p1, _⟩ := run_append_arg_grows (P := Try.prog) w 24 ty 34 i0 (tuV t0) 6 96 Try.underlying24 hi q1 q2' (Option.some.inj q3) (by kernel_rfl) (by decide) ⟨g, 0, none⟩ n cap (xs.flatMap tc) hown.1 (fun j u hj => hown.cells rfl j u hj) ⟨b, 0, none⟩ 1 1 (tc t) (by rw [tc_length]) hx (by omega) (by unfold maxLen; omega) (by omega)
      rw [hrun] at hrun2
      simp only [Result.ok.injEq] at hrun2
      obtain ⟨rfl, rfl⟩ := hrun2
      exact fun k hk => .inr (p1.lt k hk).1
theorem appTw {ops : Array Oper} {rest : List Oper} {o : Oper} {a : Act} {Q : Exit → Act → World → Prop} {w : World} (hgd : o.guard = none) (s x : Operand) (ho : o.op = .call { callee := .builtin .append, args := #[s, x], argTypes := #[24, 24] })
    {base n n2 b : Nat} {v v2 : Value} {xs xs2 : List Tu} {t : Tu} (hs : a.eval s = v) (hown : w.ownsRow base 34 6 v n (xs.flatMap tc)) (hown2 : w.ownsRow base 34 6 v2 n2 (xs2.flatMap tc)) (hap : Apt v v2) (hx : a.eval x = .slice (some ⟨b, 0, none⟩) 1 1) (h3 : w.rangeAt b 0 (tc t))
    (hlen : n + 1 ≤ 1000000) (hbase : base ≤ w.heap.size)
    (h : ∀ v' w', w'.ownsRow base 34 6 v' (n + 1) ((xs ++ [t]).flatMap tc) → w'.ownsRow base 34 6 v2 n2 (xs2.flatMap tc) → Apt v' v2 → Hid (w.grownBy w' v.ownBlock) → wpList Try.prog ops Q rest (a.put o.dst v') w') : wpList Try.prog ops Q (o :: rest) a w := by
  refine wpList_plain hgd fun K hK' => ?_
  obtain ⟨v', w', hrun, r1, r2, r3⟩ := run_appTw o.type hown h3 hlen hbase
  unfold Oper.wp
  simp [execOp, ho, resolve, invoke, builtin, hs, hx, hrun, Result.andThen]
  refine hK' _ _ (h v' w' r1 (hown2.kept r2 hap.ne) (fun k hk h2 => ?_) (Lib.hid r2))
  rcases r3 k hk with e | e
  · exact hap k e h2
  · have := (hown2.lt k h2).2
    omega
theorem plainElem_bool_inv {H : Type} {P : Program} {e : TypeId} (he : P.underlying e = some .bool) {v : Value} {z : DataW H × List MemPlace} (h : plainElem P e v = some z) : ∃ a, v = .bool a ∧ z = (.lit (.bool a), []) := by
  unfold plainElem at h
  rw [he] at h
  cases v <;> simp at h
  exact ⟨_, rfl, h.symm⟩
theorem tuV_inj {a b : Tu} (e : tuV a = tuV b) : a = b := by
  obtain ⟨a1, a2, a3, a4, a5, a6⟩ := a
  obtain ⟨b1, b2, b3, b4, b5, b6⟩ := b
  simp [tuV, tc] at e
  simp [e]
end Go.Proofs.Ytebbbiikphfjcaa
