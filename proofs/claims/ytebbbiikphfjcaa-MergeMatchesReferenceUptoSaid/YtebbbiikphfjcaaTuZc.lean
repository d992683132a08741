/-
  The reference's Put1.
-/
import Derived.Test.YtebbbiikphfjcaaTuZb
import Derived.Test.YtebbbiikphfjcaaTuU
import Derived.Deep.AppendSrc
import Derived.ArgAppend
import Derived.Laws.AppendOwnNone
import Derived.RegionTactic
import Derived.BigRegion
namespace Go.Proofs.Ytebbbiikphfjcaa
open Go.ChangeShapes Go.WideShapes Go.ChangeAt Go.RowKit
set_option linter.unusedVariables false

theorem put1_end : ∀ {l : List Tu} {t : Tu} {k : Nat}, k ≤ l.length → (∀ j, (hj : j < l.length) → j < k → ordT l[j] t < 0) → (∀ h : k < l.length, ¬ ordT l[k] t < 0 ∧ ¬ l[k] = t) → put1 t l = l.take k ++ t :: l.drop k
  | [], t, k, hk, _, _ => by
    obtain rfl : k = 0 := by simpa using hk
    rfl
  | a :: l, t, 0, hk, _, h => by
    obtain ⟨h1, h2⟩ := h (by simp)
    simp only [List.getElem_cons_zero] at h1 h2
    unfold put1
    rw [if_neg h1, if_neg (fun e => h2 (ordT_eq e))]
    rfl
  | a :: l, t, k + 1, hk, hb, h => by
    have h0 : ordT a t < 0 := hb 0 (by simp) (by omega)
    unfold put1
    rw [if_pos h0, put1_end (k := k) (by simpa using hk) (fun j hj hjk => hb (j + 1) (by simpa using hj) (by omega)) (fun hk' => h (by simpa using hk'))]
    rfl
theorem put1_there : ∀ {l : List Tu} {t : Tu} {k : Nat} (hk : k < l.length), (∀ j, (hj : j < l.length) → j < k → ordT l[j] t < 0) → l[k] = t → put1 t l = l
  | a :: l, t, 0, hk, _, h => by
    simp only [List.getElem_cons_zero] at h
    subst h
    unfold put1
    rw [if_neg (by rw [ordT_self]; omega), if_pos (ordT_self a)]
  | a :: l, t, k + 1, hk, hb, h => by
    have h0 : ordT a t < 0 := hb 0 (by simp) (by omega)
    unfold put1
    rw [if_pos h0, put1_there (k := k) (by simpa using hk) (fun j hj hjk => hb (j + 1) (by simpa using hj) (by omega)) (by simpa using h)]
/-- The tuples l lie where p points. -/
def SrcT (p : Option Addr) (c : Nat) (w : World) (l : List Tu) : Prop := (l = [] ∧ p = none ∧ c = 0) ∨ ∃ b off, p = some ⟨b, off, none⟩ ∧ b < w.heap.size ∧ w.rangeAt b off (l.flatMap tc)
theorem TuSl.src {w : World} {sv : Value} {l : List Tu} (h : TuSl w sv l) : ∃ p c, sv = .slice p l.length c ∧ l.length ≤ c ∧ SrcT p c w l := by
  rcases h with ⟨h1, h2⟩ | ⟨b, off, c, h1, h2, h3, h4⟩
  · subst h1 h2
    exact ⟨none, 0, rfl, by simp, .inl ⟨rfl, rfl, rfl⟩⟩
  · exact ⟨_, c, h1, h2, .inr ⟨b, off, rfl, h3, h4⟩⟩
theorem SrcT.below {p : Option Addr} {c : Nat} {w w' : World} {l : List Tu} (h : SrcT p c w l) (hb : Below w.heap.size w w') : SrcT p c w' l := by
  rcases h with h | ⟨b, off, h1, h2, h3⟩
  · exact .inl h
  · refine .inr ⟨b, off, h1, Nat.lt_of_lt_of_le h2 hb.size, fun j v hv => ?_⟩
    have := h3 j v hv
    unfold World.cell? at this ⊢
    rw [hb.block b h2]
    exact this
theorem SrcT.row {p : Option Addr} {c : Nat} {w : World} {l : List Tu} (h : SrcT p c w l) {i : Nat} (hi : i < l.length) : ∃ b off, p = some ⟨b, off, none⟩ ∧ b < w.heap.size ∧ w.rangeAt b (off + i * 6) (tc l[i]) := by
  rcases h with ⟨h, _⟩ | ⟨b, off, h1, h2, h3⟩
  · subst h; exact absurd hi (by simp)
  · exact ⟨b, off, h1, h2, flat_row h3 hi⟩
theorem SrcT.take {p : Option Addr} {c : Nat} {w : World} {l : List Tu} (h : SrcT p c w l) (k : Nat) : SrcT p c w (l.take k) := by
  rcases h with ⟨h1, h2⟩ | ⟨b, off, h1, h2, h3⟩
  · exact .inl ⟨by rw [h1]; simp, h2⟩
  · refine .inr ⟨b, off, h1, h2, fun j v hv => h3 j v ?_⟩
    rw [← List.take_append_drop k l, List.flatMap_append, List.getElem?_append_left (List.getElem?_eq_some_iff.1 hv).1]
    exact hv
theorem SrcT.drop {b off c c' : Nat} {w : World} {l : List Tu} (h : SrcT (some ⟨b, off, none⟩) c w l) {k : Nat} (hk : k ≤ l.length) : SrcT (some ⟨b, off + k * 6, none⟩) c' w (l.drop k) := by
  rcases h with ⟨h1, h2, _⟩ | ⟨b', off', h1, h2, h3⟩
  · cases h2
  · simp only [Option.some.injEq, Addr.mk.injEq, and_true] at h1
    obtain ⟨rfl, rfl⟩ := h1
    refine .inr ⟨b, off + k * 6, rfl, h2, fun j v hv => ?_⟩
    rw [Nat.add_assoc]
    refine h3 (k * 6 + j) v ?_
    have hl : ((l.take k).flatMap tc).length = k * 6 := by rw [flat_len, List.length_take]; congr 1; omega
    rw [← List.take_append_drop k l, List.flatMap_append, List.getElem?_append_right (by rw [hl]; omega), hl, Nat.add_sub_cancel_left]
    exact hv
theorem appT {ops : Array Oper} {rest : List Oper} {o : Oper} {a : Act} {Q : Exit → Act → World → Prop} {w : World} (hgd : o.guard = none) (s x : Operand) (ho : o.op = .call { callee := .builtin .append, args := #[s, x], argTypes := #[24, 24] })
    {base n m c : Nat} {v : Value} {xs news : List Tu} {p : Option Addr} (hs : a.eval s = v) (hown : w.ownsRow base 34 6 v n (xs.flatMap tc)) (hx : a.eval x = .slice p m c) (hm : news.length = m) (h2 : SrcT p c w news)
    (hlen : n + m ≤ 1000000) (hbase : base ≤ w.heap.size)
    (h : ∀ v' w', w'.ownsRow base 34 6 v' (n + m) ((xs ++ news).flatMap tc) → Below base w w' → wpList Try.prog ops Q rest (a.put o.dst v') w') : wpList Try.prog ops Q (o :: rest) a w := by
  obtain ⟨i0, hi⟩ : ∃ i, Try.prog.info? 34 = some i := Option.isSome_iff_exists.1 (by kernel_rfl)
  have q1 : (Try.prog.info? 34).bind (·.zero) = some (tuV t0) := by kernel_rfl
  have q2 : (Try.prog.info? 34).map (·.size) = some 6 := by kernel_rfl
  have q3 : (Try.prog.info? 34).map (·.bytes) = some 96 := by kernel_rfl
  rw [hi] at q1 q2 q3
  rcases h2 with ⟨h1, h2, h3⟩ | ⟨b, off, h1, h2, h3⟩
  · subst h1 h2 h3
    obtain rfl : m = 0 := by simpa using hm.symm
    refine wpList_append_own_none hgd s x 24 ho base 34 i0 6 Try.underlying24 hi v n _ hs hown hx ?_
    exact h v w (by rw [List.append_nil]; exact hown) (Below.refl _ _)
  · subst h1
    refine wpList_append_own w hgd s x 24 ho base 34 i0 (tuV t0) 6 96 Try.underlying24 hi q1 (Option.some.inj q2) (Option.some.inj q3) (by kernel_rfl) (by decide) v n _ hs hown ⟨b, off, none⟩ m c (news.flatMap tc) hx (by rw [flat_len, hm]) ?_ ?_ (by unfold maxLen; omega) (by omega) hbase ?_
    · intro j u hj
      rw [show (Addr.add ⟨b, off, none⟩ j) = ⟨b, off + j, none⟩ by cases j <;> simp [Addr.add]]
      exact h3 j u hj
    · intro u hu
      obtain ⟨y, _, hy⟩ := List.mem_flatMap.1 hu
      exact tc_one y u hy
    · intro v' w' r1 r2 _
      exact h v' w' (by rw [List.flatMap_append]; exact r1) ((Below.refl _ _).grown r2 hbase (fun k hk => (hown.lt k hk).1))
theorem ownsRow_sl {w : World} {base : Nat} {v : Value} {l : List Tu} (h : w.ownsRow base 34 6 v l.length (l.flatMap tc)) : TuSl w v l := by
  rcases h.2 with ⟨h1, h2⟩ | ⟨g, cap, cur, rfl, h1, h2, h3, _, h5, h6⟩
  · exact .inl ⟨h1, List.eq_nil_of_length_eq_zero h2⟩
  · refine .inr ⟨g, 0, cap, rfl, h3, (Array.getElem?_eq_some_iff.1 h2).1, ?_⟩
    have := holds_of_row h2 h6
    exact row_of_holds (r := []) (by rw [List.append_nil]; exact this)
theorem stillG {ops : Array Oper} {rest : List Oper} {o : Oper} {a : Act} {Q' : Act → Prop} {w : World} {b off : Nat} {x : Operand} {u : Tu} (hr : w.rangeAt b off (tc u)) (hs : Region.wanted o (yielded ops a.tmps) = true ∧ o.op = .load 34 x ∧ a.eval x = .pointer (some ⟨b, off, none⟩))
    (hk : wpStill Try.prog ops w Q' rest (a.put o.dst (tuV u))) : wpStill Try.prog ops w Q' (o :: rest) a := by
  refine wpStill_step (fun K hK => ?_)
  rw [if_pos hs.1]
  unfold Oper.still execOp
  simp only [hs.2.1, hs.2.2, Instr.loadAt, Instr.sureAddr, Sem.run_bind, Sem.run_pure, Result.andThen_ok, run_loadVar_mid w b off _ (tc u) _ hr Try.underlying34 rfl (by kernel_rfl)]
  exact ⟨rfl, hK _ hk⟩
def PS (w : World) (g : Nat) (t : Tu) (W : World) : Prop := Below w.heap.size w W ∧ Arr W 34 g (tc t)
theorem PS.later {w W W' : World} {g : Nat} {t : Tu} (h : PS w g t W) (hb : Below W.heap.size W W') : PS w g t W' := ⟨h.1.trans (hb.mono h.1.size), h.2.later hb⟩
end Go.Proofs.Ytebbbiikphfjcaa
