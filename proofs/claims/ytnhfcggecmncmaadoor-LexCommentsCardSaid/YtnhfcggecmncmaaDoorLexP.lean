/-
  The joined tokens of a text have the same tokens; comments and spaces around a text change nothing but offsets.
-/
import Derived.Test.YtnhfcggecmncmaaDoorLexG
namespace Go.Proofs.YtnhfcggecmncmaaDoor
set_option linter.unusedVariables false

theorem wd_len (c : UInt8) (r : List UInt8) (h : wdB c = true) : 1 ≤ ((c :: r).takeWhile wdB).length := by rw [List.takeWhile_cons, if_pos h]; simp
theorem ln_len (c : UInt8) (r : List UInt8) (h : c = 47) : 1 ≤ ((c :: r).takeWhile lnB).length := by subst h; rw [List.takeWhile_cons, if_pos (by decide)]; simp
theorem tw_le (p : UInt8 → Bool) (l : List UInt8) : (l.takeWhile p).length ≤ l.length := (List.takeWhile_sublist p (l := l)).length_le
/-- Enough fuel is enough. -/
theorem tokF_fuel : ∀ (n m i : Nat) (l : List UInt8), l.length < n → l.length < m → tokF n i l = tokF m i l
  | 0, _, _, _, h, _ => absurd h (by omega)
  | _ + 1, 0, _, _, _, h => absurd h (by omega)
  | n + 1, m + 1, i, [], _, _ => rfl
  | n + 1, m + 1, i, c :: r, h1, h2 => by
    simp only [List.length_cons] at h1 h2
    unfold tokF
    by_cases hw : wdB c = true
    · have := wd_len c r hw
      have h3 := tw_le wdB (c :: r)
      simp only [List.length_cons] at h3
      rw [if_pos hw, if_pos hw, tokF_fuel n m (i + ((c :: r).takeWhile wdB).length) _ (by rw [List.length_drop, List.length_cons]; omega) (by rw [List.length_drop, List.length_cons]; omega)]
    · rw [if_neg hw, if_neg hw]
      by_cases hs : spB c = true
      · rw [if_pos hs, if_pos hs, tokF_fuel n m _ r (by omega) (by omega)]
      · rw [if_neg hs, if_neg hs]
        by_cases hc : c = 47 ∧ r.head? = some 47
        · have := ln_len c r hc.1
          rw [if_pos hc, if_pos hc, tokF_fuel n m (i + ((c :: r).takeWhile lnB).length) _ (by rw [List.length_drop, List.length_cons]; omega) (by rw [List.length_drop, List.length_cons]; omega)]
        · rw [if_neg hc, if_neg hc, tokF_fuel n m _ (r.drop 1) (by rw [List.length_drop]; omega) (by rw [List.length_drop]; omega), tokF_fuel n m _ r (by omega) (by omega)]
/-- The tokens of l from offset i on. -/
def tkA (i : Nat) (l : List UInt8) : Toks := tokF (l.length + 1) i l
theorem tkA_of {n i : Nat} {l : List UInt8} (h : l.length < n) : tokF n i l = tkA i l := tokF_fuel _ _ _ _ h (by omega)
theorem tkA_nil (i : Nat) : tkA i [] = ([mkT 3 [] i], 0, 0) := rfl
theorem tkA_word (i : Nat) (c : UInt8) (r : List UInt8) (hw : wdB c = true) :
    tkA i (c :: r) = if okW ((c :: r).takeWhile wdB) = true then consT (mkT 1 ((c :: r).takeWhile wdB) i) (tkA (i + ((c :: r).takeWhile wdB).length) ((c :: r).drop ((c :: r).takeWhile wdB).length)) else ([], 5, i) := by
  have := wd_len c r hw
  conv => lhs; unfold tkA tokF
  rw [if_pos hw, tkA_of (by rw [List.length_drop, List.length_cons]; omega)]
theorem tkA_space (i : Nat) (c : UInt8) (r : List UInt8) (hs : spB c = true) : tkA i (c :: r) = tkA (i + 1) r := by
  conv => lhs; unfold tkA tokF
  rw [if_neg (by rw [sp_wd c hs]; simp), if_pos hs, tkA_of (by simp)]
theorem tkA_comment (i : Nat) (r : List UInt8) (h : r.head? = some 47) : tkA i (47 :: r) = tkA (i + ((47 :: r).takeWhile lnB).length) ((47 :: r).drop ((47 :: r).takeWhile lnB).length) := by
  have := ln_len 47 r rfl
  conv => lhs; unfold tkA tokF
  rw [if_neg (by decide), if_neg (by decide), if_pos ⟨rfl, h⟩, tkA_of (by rw [List.length_drop, List.length_cons]; omega)]
theorem tkA_arrow (i : Nat) (r : List UInt8) : tkA i (45 :: 62 :: r) = consT (mkT 2 [45, 62] i) (tkA (i + 2) r) := by
  conv => lhs; unfold tkA tokF
  rw [if_neg (by decide), if_neg (by decide), if_neg (by simp), if_pos ⟨rfl, rfl⟩, tkA_of (by simp; omega)]; rfl
theorem tkA_sign (i : Nat) (c : UInt8) (r : List UInt8) (hw : wdB c = false) (hs : spB c = false) (h1 : ¬ (c = 47 ∧ r.head? = some 47)) (h2 : ¬ (c = 45 ∧ r.head? = some 62)) :
    tkA i (c :: r) = if sgB c = true then consT (mkT 2 [c] i) (tkA (i + 1) r) else ([], 6, i) := by
  conv => lhs; unfold tkA tokF
  rw [if_neg (by rw [hw]; simp), if_neg (by rw [hs]; simp), if_neg h1, if_neg h2, tkA_of (by simp)]
theorem tokS_tkA (l : List UInt8) : tokS l = tkA 0 l := rfl

/-- A word or a sign. -/
def GoodT (u : Tok) : Prop := (u.1 = 1 ∧ u.2.1 ≠ [] ∧ (∀ c ∈ u.2.1, wdB c = true) ∧ okW u.2.1 = true) ∨ (u.1 = 2 ∧ (u.2.1 = [45, 62] ∨ ∃ c, u.2.1 = [c] ∧ sgB c = true))
theorem GoodT.kind {u : Tok} (h : GoodT u) : u.1 ≠ 3 := by
  rcases h with ⟨h, _⟩ | ⟨h, _⟩ <;> rw [h] <;> decide
/-- Words and signs, and the end. -/
def OkTs (ts : List Tok) : Prop := ∃ us e, ts = us ++ [e] ∧ kt e = (3, []) ∧ ∀ u ∈ us, GoodT u
theorem okTs_cons {t : Tok} {r : Toks} (ht : GoodT t) (h : r.2.1 = 0 → OkTs r.1) (h0 : (consT t r).2.1 = 0) : OkTs (consT t r).1 := by
  unfold consT at h0 ⊢
  by_cases hc : r.2.1 = 0
  · rw [if_pos hc]
    obtain ⟨us, e, h1, h2, h3⟩ := h hc
    exact ⟨t :: us, e, by rw [h1]; rfl, h2, fun u hu => by rcases List.mem_cons.1 hu with rfl | hu; exact ht; exact h3 u hu⟩
  · rw [if_neg hc] at h0; exact absurd h0 hc
theorem tokF_ok : ∀ (n i : Nat) (l : List UInt8), l.length < n → (tokF n i l).2.1 = 0 → OkTs (tokF n i l).1
  | 0, _, _, h, _ => absurd h (by omega)
  | n + 1, i, [], _, _ => ⟨[], mkT 3 [] i, rfl, rfl, fun u hu => by cases hu⟩
  | n + 1, i, c :: r, h, h0 => by
    simp only [List.length_cons] at h
    unfold tokF at h0 ⊢
    by_cases hw : wdB c = true
    · rw [if_pos hw] at h0 ⊢
      have h4 := wd_len c r hw
      by_cases ho : okW ((c :: r).takeWhile wdB) = true
      · rw [if_pos ho] at h0 ⊢
        refine okTs_cons (.inl ⟨rfl, ?_, ?_, ho⟩) (tokF_ok n _ _ (by rw [List.length_drop, List.length_cons]; omega)) h0
        · intro e; rw [show (mkT 1 ((c :: r).takeWhile wdB) i).2.1 = (c :: r).takeWhile wdB from rfl] at e; rw [e] at h4; simp at h4
        · exact fun x hx => List.all_eq_true.1 List.all_takeWhile _ hx
      · rw [if_neg ho] at h0; cases h0
    · rw [if_neg hw] at h0 ⊢
      by_cases hs : spB c = true
      · rw [if_pos hs] at h0 ⊢; exact tokF_ok n _ _ (by omega) h0
      · rw [if_neg hs] at h0 ⊢
        by_cases hc : c = 47 ∧ r.head? = some 47
        · rw [if_pos hc] at h0 ⊢
          have := ln_len c r hc.1
          exact tokF_ok n _ _ (by rw [List.length_drop, List.length_cons]; omega) h0
        · rw [if_neg hc] at h0 ⊢
          by_cases ha : c = 45 ∧ r.head? = some 62
          · rw [if_pos ha] at h0 ⊢
            exact okTs_cons (.inr ⟨rfl, .inl rfl⟩) (tokF_ok n _ _ (by rw [List.length_drop]; omega)) h0
          · rw [if_neg ha] at h0 ⊢
            by_cases hg : sgB c = true
            · rw [if_pos hg] at h0 ⊢
              exact okTs_cons (.inr ⟨rfl, .inr ⟨c, rfl, hg⟩⟩) (tokF_ok n _ _ (by omega)) h0
            · rw [if_neg hg] at h0; cases h0
theorem tw_app {p : UInt8 → Bool} : ∀ {a b : List UInt8}, (∀ c ∈ b.head?, p c = false) → (∀ c ∈ a, p c = true) → (a ++ b).takeWhile p = a
  | [], [], _, _ => rfl
  | [], d :: b, h, _ => by rw [List.nil_append, List.takeWhile_cons, if_neg (by rw [h d rfl]; simp)]
  | x :: a, b, h, ha => by rw [List.cons_append, List.takeWhile_cons, if_pos (ha x (List.mem_cons_self)), tw_app h (fun c hc => ha c (List.mem_cons_of_mem _ hc))]
theorem sg_wd : ∀ c : UInt8, sgB c = true → wdB c = false ∧ spB c = false ∧ c ≠ 47 := by
  have h : ∀ n : Fin 256, (!sgB (UInt8.ofNat n.val) || (!wdB (UInt8.ofNat n.val) && !spB (UInt8.ofNat n.val) && UInt8.ofNat n.val != 47)) = true := by decide +kernel
  intro c hc
  have hcc : UInt8.ofNat c.toNat = c := UInt8.ofNat_toNat
  have := h ⟨c.toNat, c.toNat_lt⟩
  simp only [hcc, hc] at this
  simpa [and_assoc] using this
/-- One token in front of a space, or of the end. -/
theorem tkA_tok {u : Tok} (hu : GoodT u) (i : Nat) (tail : List UInt8) (ht : tail = [] ∨ ∃ r, tail = 32 :: r) : ∃ k : Nat, tkA i (u.2.1 ++ tail) = consT (mkT k u.2.1 i) (tkA (i + u.2.1.length) tail) ∧ (k : Int) = u.1 := by
  have hh : ∀ c ∈ tail.head?, c = 32 := by
    rcases ht with rfl | ⟨r, rfl⟩
    · intro c hc; cases hc
    · intro c hc; exact (Option.some.inj hc).symm
  obtain ⟨uk, ut, uo⟩ := u
  rcases hu with ⟨h1, h2, h3, h4⟩ | ⟨h1, h2⟩
  · simp only at h1 h2 h3 h4 ⊢
    refine ⟨1, ?_, h1.symm⟩
    have e := tw_app (p := wdB) (a := ut) (b := tail) (fun c hc => by rw [hh c hc]; decide) h3
    cases ut with
    | nil => exact absurd rfl h2
    | cons c r =>
      rw [List.cons_append] at e ⊢
      rw [tkA_word i c _ (h3 c (List.mem_cons_self)), e, if_pos h4]
      congr 2
      rw [← List.cons_append, List.drop_left]
  · simp only at h1 h2 ⊢
    refine ⟨2, ?_, h1.symm⟩
    rcases h2 with rfl | ⟨c, rfl, hg⟩
    · exact tkA_arrow i tail
    · obtain ⟨g1, g2, g3⟩ := sg_wd c hg
      rw [List.cons_append, List.nil_append, tkA_sign i c tail g1 g2 (fun h => g3 h.1) (fun h => ?_), if_pos hg]
      · rfl
      · have := hh 62 (by rw [h.2]; rfl)
        exact absurd this (by decide)
theorem kt_consT {t : Tok} {r : Toks} (h : r.2.1 = 0) : (consT t r).2.1 = 0 ∧ (consT t r).1 = t :: r.1 := by unfold consT; rw [if_pos h]; exact ⟨rfl, rfl⟩
theorem tkA_join : ∀ (us : List Tok) (i : Nat), (∀ u ∈ us, GoodT u) → (tkA i (Lib.join (us.map (·.2.1)) [32])).2.1 = 0 ∧ (tkA i (Lib.join (us.map (·.2.1)) [32])).1.map kt = us.map kt ++ [(3, [])]
  | [], i, _ => by
    rw [List.map_nil, Lib.join_nil, tkA_nil]
    exact ⟨rfl, rfl⟩
  | [u], i, h => by
    obtain ⟨k, h1, h2⟩ := tkA_tok (h u (List.mem_cons_self)) i [] (.inl rfl)
    rw [List.append_nil, tkA_nil] at h1
    rw [List.map_cons, List.map_nil, Lib.join_one, h1]
    obtain ⟨g1, g2⟩ := kt_consT (t := mkT k u.2.1 i) (r := ([mkT 3 [] (i + u.2.1.length)], 0, 0)) rfl
    refine ⟨g1, ?_⟩
    rw [g2]
    show [((k : Int), u.2.1), (((3 : Nat) : Int), [])] = [kt u, (3, [])]
    rw [h2]; rfl
  | u :: v :: us, i, h => by
    have hj : Lib.join ((u :: v :: us).map (·.2.1)) [32] = u.2.1 ++ (32 :: Lib.join ((v :: us).map (·.2.1)) [32]) := by
      rw [List.map_cons, List.map_cons, Lib.join_cons, Lib.join_cons]
      simp [Lib.joinTail]
    obtain ⟨k, h1, h2⟩ := tkA_tok (h u (List.mem_cons_self)) i (32 :: Lib.join ((v :: us).map (·.2.1)) [32]) (.inr ⟨_, rfl⟩)
    obtain ⟨i1, i2⟩ := tkA_join (v :: us) (i + u.2.1.length + 1) (fun x hx => h x (List.mem_cons_of_mem _ hx))
    rw [tkA_space _ 32 _ (by decide)] at h1
    rw [hj, h1]
    obtain ⟨g1, g2⟩ := kt_consT (t := mkT k u.2.1 i) i1
    refine ⟨g1, ?_⟩
    rw [g2, List.map_cons, i2]
    show ((k : Int), u.2.1) :: _ = kt u :: _
    rw [h2]; rfl
theorem txts_ok {us : List Tok} {e : Tok} (h : ∀ u ∈ us, GoodT u) (he : kt e = (3, [])) : txts (us ++ [e]) = us.map (·.2.1) := by
  rw [txts_end _ _ (congrArg Prod.fst he)]
  unfold txts
  rw [List.filter_eq_self.2 (fun u hu => decide_eq_true (h u hu).kind)]
/-- The joined tokens of a text have the same tokens. -/
theorem joined {l : List UInt8} (h : (tokS l).2.1 = 0) : (tokS (joinT (tokS l).1)).2.1 = 0 ∧ sameT (tokS (joinT (tokS l).1)).1 (tokS l).1 = true := by
  obtain ⟨us, e, h1, h2, h3⟩ := tokF_ok (l.length + 1) 0 l (by omega) h
  have h4 : (tokS l).1 = us ++ [e] := h1
  rw [h4]
  unfold joinT
  rw [txts_ok h3 h2, tokS_tkA]
  obtain ⟨j1, j2⟩ := tkA_join us 0 h3
  refine ⟨j1, decide_eq_true ?_⟩
  rw [j2, List.map_append]
  show _ = _ ++ [kt e]
  rw [h2]
theorem tokF_fits : ∀ (n i : Nat) (l : List UInt8), l.length < n → ((tokF n i l).1.map fun t => t.2.1.length + 1).sum ≤ 2 * l.length + 1
  | 0, _, _, h => absurd h (by omega)
  | n + 1, i, [], _ => by simp [tokF]
  | n + 1, i, c :: r, h => by
    simp only [List.length_cons] at h ⊢
    have hc : ∀ (t : Tok) (R : Toks) (m : Nat), (R.1.map fun t => t.2.1.length + 1).sum ≤ m → ((consT t R).1.map fun t => t.2.1.length + 1).sum ≤ t.2.1.length + 1 + m := fun t R m hm => by
      unfold consT; split
      · rw [List.map_cons, List.sum_cons]; omega
      · simp
    unfold tokF
    by_cases hw : wdB c = true
    · have h4 := wd_len c r hw
      have h5 := tw_le wdB (c :: r)
      simp only [List.length_cons] at h5
      rw [if_pos hw]
      split
      · have h6 := tokF_fits n (i + ((c :: r).takeWhile wdB).length) ((c :: r).drop ((c :: r).takeWhile wdB).length) (by rw [List.length_drop, List.length_cons]; omega)
        rw [List.length_drop, List.length_cons] at h6
        have := hc (mkT 1 ((c :: r).takeWhile wdB) i) _ _ h6
        simp only at this
        omega
      · simp
    · rw [if_neg hw]
      split
      · have := tokF_fits n (i + 1) r (by omega); omega
      · split
        · rename_i hcc
          have := ln_len c r hcc.1
          have h6 := tokF_fits n (i + ((c :: r).takeWhile lnB).length) ((c :: r).drop ((c :: r).takeWhile lnB).length) (by rw [List.length_drop, List.length_cons]; omega)
          rw [List.length_drop, List.length_cons] at h6
          omega
        · split
          · rename_i ha
            have hr : 1 ≤ r.length := by
              cases r with
              | nil => cases ha.2
              | cons => simp
            have h6 := tokF_fits n (i + 2) (r.drop 1) (by rw [List.length_drop]; omega)
            rw [List.length_drop] at h6
            have := hc (mkT 2 [45, 62] i) _ _ h6
            simp only [List.length_cons, List.length_nil] at this
            omega
          · split
            · have h6 := tokF_fits n (i + 1) r (by omega)
              have := hc (mkT 2 [c] i) _ _ h6
              simp only [List.length_cons, List.length_nil] at this
              omega
            · simp
theorem tokS_fits (l : List UInt8) : Fits (tokS l).1 (2 * l.length + 1) := tokF_fits _ _ _ (by omega)
theorem Fits.mono {ts : List Tok} {m m' : Nat} (h : Fits ts m) (hm : m ≤ m') : Fits ts m' := Nat.le_trans h hm
end Go.Proofs.YtnhfcggecmncmaaDoor
