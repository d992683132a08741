/-
  What a law of tuples wants.
-/
import Derived.Test.YtebbbiikphfjcaaTuZe
import Derived.Test.YtebbbiikphfjcaaStepC
import Derived.RegionTactic
import Derived.BigRegion
namespace Go.Proofs.Ytebbbiikphfjcaa
open Go.ChangeShapes Go.WideShapes Go.ChangeAt Go.RowKit
set_option linter.unusedVariables false

theorem fewT_out {l : List Tu} (h : fewT l = true) : (∀ x ∈ l, sizesT x 1500) ∧ l.length ≤ 60 := by
  unfold fewT at h
  rw [Bool.and_eq_true, List.all_eq_true] at h
  exact ⟨fun x hx => shortT_sizes (h.1 x hx), of_decide_eq_true h.2⟩
theorem same_self (l : List Tu) : sameT l l = true := decide_eq_true rfl
theorem rcmpS {w W : World} (x y : Tu) (hx : sizesT x 1000000) (hy : sizesT y 1000000) (h : Below w.heap.size w W) : Calls Try.prog 37 #[tuV x, tuV y] W fun e W' => ∃ v, e = .returned v ∧ v = .int .i64 (ordT x y) ∧ Below w.heap.size w W' :=
  (rcompare_any x y hx hy W).mono fun _ _ ⟨he, hb⟩ => ⟨_, he, rfl, h.trans (hb.mono h.size)⟩
theorem appR {ops : Array Oper} {rest : List Oper} {o : Oper} {a : Act} {Q : Exit → Act → World → Prop} {w : World} (hgd : o.guard = none) (s x : Operand) (ho : o.op = .call { callee := .builtin .append, args := #[s, x], argTypes := #[24, 24] })
    {base n m c : Nat} {v : Value} {xs news : List Tu} {p : Option Addr} (hs : a.eval s = v) (hown : w.ownsRow base 34 6 v n (xs.flatMap tc)) (hx : a.eval x = .slice p m c) (h2 : TuRd w (.slice p m c) news) (hm : news.length = m)
    (hlen : n + m ≤ 1000000) (hbase : base ≤ w.heap.size)
    (h : ∀ v' w', w'.ownsRow base 34 6 v' (n + m) ((xs ++ news).flatMap tc) → Below base w w' → wpList Try.prog ops Q rest (a.put o.dst v') w') : wpList Try.prog ops Q (o :: rest) a w := by
  obtain ⟨i0, hi⟩ : ∃ i, Try.prog.info? 34 = some i := Option.isSome_iff_exists.1 (by kernel_rfl)
  have q1 : (Try.prog.info? 34).bind (·.zero) = some (tuV t0) := by kernel_rfl
  have q2 : (Try.prog.info? 34).map (·.size) = some 6 := by kernel_rfl
  have q3 : (Try.prog.info? 34).map (·.bytes) = some 96 := by kernel_rfl
  rw [hi] at q1 q2 q3
  rcases h2 with ⟨h1, h2⟩ | ⟨ad, cap, h1, h2, h3⟩
  · simp only [Value.slice.injEq] at h1
    obtain ⟨rfl, rfl, rfl⟩ := h1
    subst h2
    refine wpList_append_own_none hgd s x 24 ho base 34 i0 6 Try.underlying24 hi v n _ hs hown hx ?_
    exact h v w (by rw [List.append_nil]; exact hown) (Below.refl _ _)
  · simp only [Value.slice.injEq] at h1
    obtain ⟨rfl, _, rfl⟩ := h1
    refine wpList_append_own w hgd s x 24 ho base 34 i0 (tuV t0) 6 96 Try.underlying24 hi q1 (Option.some.inj q2) (Option.some.inj q3) (by kernel_rfl) (by decide) v n _ hs hown ad m c (news.flatMap tc) hx (by rw [flat_len, hm]) ?_ ?_ (by unfold maxLen; omega) (by omega) hbase ?_
    · intro j u hj
      have hj' := (List.getElem?_eq_some_iff.1 hj).1
      rw [flat_len] at hj'
      obtain ⟨b, off, rfl, _, hr⟩ := h3 (by omega)
      rw [show (Addr.add ⟨b, off, none⟩ j) = ⟨b, off + j, none⟩ by cases j <;> simp [Addr.add]]
      exact hr j u hj
    · intro u hu
      obtain ⟨y, _, hy⟩ := List.mem_flatMap.1 hu
      exact tc_one y u hy
    · intro v' w' r1 r2 _
      exact h v' w' (by rw [List.flatMap_append]; exact r1) ((Below.refl _ _).grown r2 hbase (fun k hk => (hown.lt k hk).1))
end Go.Proofs.Ytebbbiikphfjcaa
