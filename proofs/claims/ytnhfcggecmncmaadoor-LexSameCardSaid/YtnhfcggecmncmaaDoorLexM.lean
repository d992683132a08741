/-
  What any text is divided into: tokens with their offsets, or the first error; where a walk over the text stands.
-/
import Derived.Test.YtnhfcggecmncmaaDoorNameR
namespace Go.Proofs.YtnhfcggecmncmaaDoor
set_option linter.unusedVariables false

def bstr (l : List UInt8) : ByteArray := ⟨l.toArray⟩
theorem bstr_data (l : List UInt8) : (bstr l).data.toList = l := rfl
theorem bstr_back (s : ByteArray) : bstr s.data.toList = s := rfl
theorem bstr_size (l : List UInt8) : (bstr l).size = l.length := by show l.toArray.size = _; simp
def spB (c : UInt8) : Bool := c == 32 || c == 9 || c == 10 || c == 13
def wdB (c : UInt8) : Bool := smallB c || upperB c || digitB c || c == 95
def lnB (c : UInt8) : Bool := c != 10
def sgL : List UInt8 := [123, 125, 40, 41, 58, 59, 61, 124, 35, 43, 38, 45]
def sgB (c : UInt8) : Bool := sgL.contains c
def okW (w : List UInt8) : Bool := isName (bstr w) || resB (bstr w)
/-- kind, text, offset -/
abbrev Tok := Int × List UInt8 × Int
abbrev mkT (k : Nat) (t : List UInt8) (i : Nat) : Tok := ((k : Int), t, (i : Int))
abbrev Toks := List Tok × Nat × Nat
def consT (t : Tok) (r : Toks) : Toks := if r.2.1 = 0 then (t :: r.1, 0, 0) else ([], r.2)
def preT (acc : List Tok) (r : Toks) : Toks := if r.2.1 = 0 then (acc ++ r.1, 0, 0) else ([], r.2)
def tokF : Nat → Nat → List UInt8 → Toks
  | 0, _, _ => ([], 0, 0)
  | n + 1, i, [] => ([mkT 3 [] i], 0, 0)
  | n + 1, i, c :: r =>
    if wdB c = true then
      if okW ((c :: r).takeWhile wdB) = true then consT (mkT 1 ((c :: r).takeWhile wdB) i) (tokF n (i + ((c :: r).takeWhile wdB).length) ((c :: r).drop ((c :: r).takeWhile wdB).length)) else ([], 5, i)
    else if spB c = true then tokF n (i + 1) r
    else if c = 47 ∧ r.head? = some 47 then tokF n (i + ((c :: r).takeWhile lnB).length) ((c :: r).drop ((c :: r).takeWhile lnB).length)
    else if c = 45 ∧ r.head? = some 62 then consT (mkT 2 [45, 62] i) (tokF n (i + 2) (r.drop 1))
    else if sgB c = true then consT (mkT 2 [c] i) (tokF n (i + 1) r)
    else ([], 6, i)
theorem preT_cons (acc : List Tok) (t : Tok) (r : Toks) : preT acc (consT t r) = preT (acc ++ [t]) r := by
  unfold preT consT
  by_cases h : r.2.1 = 0
  · simp [h]
  · simp [h]
def tokS (l : List UInt8) : Toks := tokF (l.length + 1) 0 l
/-- Where a walk over l stands: at i, acc behind it; R is what comes of all. -/
def LexAt (l : List UInt8) (R : Toks) (i : Nat) (acc : List Tok) : Prop := i ≤ l.length ∧ acc.length ≤ i ∧ ∃ n, l.length - i < n ∧ R = preT acc (tokF n i (l.drop i))
theorem tokF_code : ∀ (n i : Nat) (l : List UInt8), (tokF n i l).2.1 = 0 → (tokF n i l).2.2 = 0
  | 0, _, _, _ => rfl
  | n + 1, i, [], _ => rfl
  | n + 1, i, c :: r, h => by
    unfold tokF at h ⊢
    repeat' split
    all_goals first | rfl | skip
    · rename_i h1 h2; rw [if_pos h1, if_pos h2] at h; unfold consT at h ⊢; split at h <;> rename_i h3
      · rw [if_pos h3]
      · exact absurd h h3
    · rename_i h1 h2; rw [if_pos h1, if_neg h2] at h; cases h
    · rename_i h1 h2; rw [if_neg h1, if_pos h2] at h; exact tokF_code _ _ _ h
    · rename_i h1 h2 h3; rw [if_neg h1, if_neg h2, if_pos h3] at h; exact tokF_code _ _ _ h
    · rename_i h1 h2 h3 h4; rw [if_neg h1, if_neg h2, if_neg h3, if_pos h4] at h; unfold consT at h ⊢; split at h <;> rename_i h5
      · rw [if_pos h5]
      · exact absurd h h5
    · rename_i h1 h2 h3 h4 h5; rw [if_neg h1, if_neg h2, if_neg h3, if_neg h4, if_pos h5] at h; unfold consT at h ⊢; split at h <;> rename_i h6
      · rw [if_pos h6]
      · exact absurd h h6
    · rename_i h1 h2 h3 h4 h5; rw [if_neg h1, if_neg h2, if_neg h3, if_neg h4, if_neg h5] at h; cases h
theorem preT_nil (n i : Nat) (l : List UInt8) : preT [] (tokF n i l) = ((if (tokF n i l).2.1 = 0 then (tokF n i l).1 else []), (tokF n i l).2) := by
  unfold preT
  by_cases h : (tokF n i l).2.1 = 0
  · rw [if_pos h, if_pos h, List.nil_append]
    have h2 := tokF_code n i l h
    rw [show (tokF n i l).2 = (0, 0) from Prod.ext h h2]
  · rw [if_neg h, if_neg h]
theorem tokF_err : ∀ (n i : Nat) (l : List UInt8), (tokF n i l).2.1 ≠ 0 → (tokF n i l).1 = []
  | 0, _, _, _ => rfl
  | n + 1, i, [], h => absurd rfl h
  | n + 1, i, c :: r, h => by
    unfold tokF at h ⊢
    repeat' split
    all_goals first | rfl | skip
    · rename_i h1 h2; rw [if_pos h1, if_pos h2] at h; unfold consT at h ⊢; split at h <;> rename_i h3
      · exact absurd rfl h
      · rw [if_neg h3]
    · rename_i h1 h2; rw [if_neg h1, if_pos h2] at h; exact tokF_err _ _ _ h
    · rename_i h1 h2 h3; rw [if_neg h1, if_neg h2, if_pos h3] at h; exact tokF_err _ _ _ h
    · rename_i h1 h2 h3 h4; rw [if_neg h1, if_neg h2, if_neg h3, if_pos h4] at h; unfold consT at h ⊢; split at h <;> rename_i h5
      · exact absurd rfl h
      · rw [if_neg h5]
    · rename_i h1 h2 h3 h4 h5; rw [if_neg h1, if_neg h2, if_neg h3, if_neg h4, if_pos h5] at h; unfold consT at h ⊢; split at h <;> rename_i h6
      · exact absurd rfl h
      · rw [if_neg h6]
theorem lx_start (l : List UInt8) : LexAt l (tokS l) 0 [] := by
  refine ⟨Nat.zero_le _, Nat.le_refl _, l.length + 1, by omega, ?_⟩
  rw [List.drop_zero, preT_nil]
  show tokS l = _
  unfold tokS
  by_cases h : (tokF (l.length + 1) 0 l).2.1 = 0
  · rw [if_pos h]
  · rw [if_neg h, ← tokF_err _ _ _ h]
section
variable {l : List UInt8} {R : Toks} {i : Nat} {acc : List Tok}
theorem lx_end (h : LexAt l R i acc) (hi : ¬ i < l.length) : R = (acc ++ [mkT 3 [] l.length], 0, 0) ∧ i = l.length := by
  obtain ⟨h1, _, n, h2, rfl⟩ := h
  obtain rfl : i = l.length := by omega
  rw [List.drop_length]
  cases n with
  | zero => omega
  | succ n => exact ⟨by simp [tokF, preT], rfl⟩
theorem drop_cons' (hi : i < l.length) : l.drop i = l.getD i 0 :: l.drop (i + 1) := by
  rw [List.drop_eq_getElem_cons hi]
  congr 1
  simp [List.getD_eq_getElem?_getD, hi]
/-- The end of a run of p from i on. -/
def runL (p : UInt8 → Bool) (l : List UInt8) (i : Nat) : Nat := ((l.drop i).takeWhile p).length
theorem runL_le (p : UInt8 → Bool) (l : List UInt8) (i : Nat) (h : i ≤ l.length) : i + runL p l i ≤ l.length := by
  have h1 := (List.takeWhile_sublist p (l := l.drop i)).length_le
  rw [List.length_drop] at h1
  unfold runL
  omega
theorem takeWhile_eq_take (p : UInt8 → Bool) : ∀ l : List UInt8, l.takeWhile p = l.take (l.takeWhile p).length
  | [] => rfl
  | c :: r => by
    by_cases h : p c = true
    · simp only [List.takeWhile_cons, h, if_true, List.length_cons, List.take_succ_cons]
      rw [← takeWhile_eq_take p r]
    · simp [h]
theorem runL_eq {p : UInt8 → Bool} {k : Nat} (hk : i + k ≤ l.length) (h1 : ∀ j, i ≤ j → j < i + k → p (l.getD j 0) = true) (h2 : i + k < l.length → p (l.getD (i + k) 0) = false) : runL p l i = k := by
  induction k generalizing i with
  | zero =>
    unfold runL
    by_cases hi : i < l.length
    · have h3 := h2 (by omega)
      rw [Nat.add_zero] at h3
      rw [drop_cons' hi, List.takeWhile_cons, if_neg (by rw [h3]; simp)]; rfl
    · rw [List.drop_eq_nil_of_le (by omega)]; rfl
  | succ k ih =>
    have hi : i < l.length := by omega
    have h3 : runL p l (i + 1) = k := ih (by omega) (fun j a b => h1 j (by omega) (by omega)) (fun h => by
      have := h2 (by omega)
      rw [show i + 1 + k = i + (k + 1) by omega]; exact this)
    unfold runL at h3 ⊢
    rw [drop_cons' hi, List.takeWhile_cons, if_pos (h1 i (Nat.le_refl _) (by omega)), List.length_cons, h3]
theorem runL_all (p : UInt8 → Bool) (h : i ≤ l.length) (j : Nat) (h1 : i ≤ j) (h2 : j < i + runL p l i) : p (l.getD j 0) = true := by
  have h4 : l.getD j 0 ∈ (l.drop i).takeWhile p := by
    have h5 := runL_le p l i h
    rw [takeWhile_eq_take p, List.mem_iff_getElem]
    unfold runL at h2 h5
    refine ⟨j - i, by rw [List.length_take, List.length_drop]; omega, ?_⟩
    rw [List.getElem_take, List.getElem_drop]
    simp [List.getD_eq_getElem?_getD, show i + (j - i) = j by omega, show j < l.length by omega]
  exact List.all_eq_true.1 List.all_takeWhile _ h4
theorem runL_pos {p : UInt8 → Bool} (hi : i < l.length) (h : p (l.getD i 0) = true) : 1 ≤ runL p l i := by
  unfold runL
  rw [drop_cons' hi, List.takeWhile_cons, if_pos h]; simp
theorem lx_word (h : LexAt l R i acc) (hi : i < l.length) (hw : wdB (l.getD i 0) = true) (ho : okW ((l.drop i).take (runL wdB l i)) = true) : LexAt l R (i + runL wdB l i) (acc ++ [mkT 1 ((l.drop i).take (runL wdB l i)) i]) ∧ 1 ≤ runL wdB l i := by
  have hr1 : 1 ≤ runL wdB l i := by
    unfold runL
    rw [drop_cons' hi, List.takeWhile_cons, if_pos hw]; simp
  have hr2 := runL_le wdB l i (by omega)
  obtain ⟨h1, h0, n, h2, rfl⟩ := h
  refine ⟨⟨hr2, by simp; omega, ?_⟩, hr1⟩
  cases n with
  | zero => omega
  | succ n =>
    refine ⟨n, by omega, ?_⟩
    have e : (l.drop i).take (runL wdB l i) = (l.drop i).takeWhile wdB := (takeWhile_eq_take wdB _).symm
    rw [e] at ho ⊢
    rw [← List.drop_drop]
    unfold runL
    rw [drop_cons' hi] at ho ⊢
    rw [tokF, if_pos hw, if_pos ho, preT_cons]
theorem lx_word_err (h : LexAt l R i acc) (hi : i < l.length) (hw : wdB (l.getD i 0) = true) (ho : okW ((l.drop i).take (runL wdB l i)) = false) : R = ([], 5, i) := by
  obtain ⟨h1, h0, n, h2, rfl⟩ := h
  cases n with
  | zero => omega
  | succ n =>
    have e : (l.drop i).take (runL wdB l i) = (l.drop i).takeWhile wdB := (takeWhile_eq_take wdB _).symm
    rw [e] at ho
    rw [drop_cons' hi] at ho ⊢
    rw [tokF, if_pos hw, if_neg (by rw [ho]; simp)]
    simp [preT]
theorem lx_space (h : LexAt l R i acc) (hi : i < l.length) (hw : wdB (l.getD i 0) = false) (hs : spB (l.getD i 0) = true) : LexAt l R (i + 1) acc := by
  obtain ⟨h1, h0, n, h2, rfl⟩ := h
  refine ⟨by omega, by omega, ?_⟩
  cases n with
  | zero => omega
  | succ n =>
    refine ⟨n, by omega, ?_⟩
    rw [drop_cons' hi, tokF, if_neg (by rw [hw]; simp), if_pos hs]
theorem sp_wd : ∀ c : UInt8, spB c = true → wdB c = false := by
  have h : ∀ n : Fin 256, (!spB (UInt8.ofNat n.val) || !wdB (UInt8.ofNat n.val)) = true := by decide +kernel
  intro c hc
  have hcc : UInt8.ofNat c.toNat = c := UInt8.ofNat_toNat
  have := h ⟨c.toNat, c.toNat_lt⟩
  simp only [hcc, hc] at this
  simpa using this
theorem lx_spaces (k : Nat) (h : LexAt l R i acc) (hk : i + k ≤ l.length) (hs : ∀ j, i ≤ j → j < i + k → spB (l.getD j 0) = true) : LexAt l R (i + k) acc := by
  induction k generalizing i with
  | zero => exact h
  | succ k ih =>
    have h3 := lx_space h (by omega) (sp_wd _ (hs i (Nat.le_refl _) (by omega))) (hs i (Nat.le_refl _) (by omega))
    have := ih h3 (by omega) (fun j a b => hs j (by omega) (by omega))
    rwa [show i + 1 + k = i + (k + 1) by omega] at this
theorem head_drop (h : i + 1 < l.length) : (l.drop (i + 1)).head? = some (l.getD (i + 1) 0) := by rw [drop_cons' h]; rfl
theorem lx_comment (h : LexAt l R i acc) (hi : i + 1 < l.length) (h1 : l.getD i 0 = 47) (h2 : l.getD (i + 1) 0 = 47) : LexAt l R (i + runL lnB l i) acc ∧ 2 ≤ runL lnB l i := by
  have hr1 : 2 ≤ runL lnB l i := by
    unfold runL
    rw [drop_cons' (by omega), drop_cons' hi, h1, h2, List.takeWhile_cons, if_pos (by decide), List.takeWhile_cons, if_pos (by decide)]; simp
  have hr2 := runL_le lnB l i (by omega)
  obtain ⟨h3, h0, n, h4, rfl⟩ := h
  refine ⟨⟨hr2, by omega, ?_⟩, hr1⟩
  cases n with
  | zero => omega
  | succ n =>
    refine ⟨n, by omega, ?_⟩
    rw [← List.drop_drop]
    unfold runL
    rw [drop_cons' (i := i) (by omega), tokF, h1, if_neg (by decide), if_neg (by decide), if_pos ⟨rfl, by rw [head_drop hi, h2]⟩]
theorem lx_arrow (h : LexAt l R i acc) (hi : i + 1 < l.length) (h1 : l.getD i 0 = 45) (h2 : l.getD (i + 1) 0 = 62) : LexAt l R (i + 2) (acc ++ [mkT 2 [45, 62] i]) := by
  obtain ⟨h3, h0, n, h4, rfl⟩ := h
  refine ⟨by omega, by simp; omega, ?_⟩
  cases n with
  | zero => omega
  | succ n =>
    refine ⟨n, by omega, ?_⟩
    rw [drop_cons' (i := i) (by omega), tokF, h1, if_neg (by decide), if_neg (by decide), if_neg (by simp), if_pos ⟨rfl, by rw [head_drop hi, h2]⟩, preT_cons, List.drop_drop]
/-- The next byte is no y, or there is none. -/
def notNext (l : List UInt8) (i : Nat) (x y : UInt8) : Prop := l.getD i 0 = x → i + 1 < l.length → l.getD (i + 1) 0 ≠ y
theorem notNext_head (hi : i < l.length) {x y : UInt8} (h : notNext l i x y) : ¬ (l.getD i 0 = x ∧ (l.drop (i + 1)).head? = some y) := by
  rintro ⟨h1, h2⟩
  by_cases hl : i + 1 < l.length
  · rw [head_drop hl] at h2
    exact h h1 hl (Option.some.inj h2)
  · rw [List.drop_eq_nil_of_le (by omega)] at h2
    cases h2
theorem lx_sign (h : LexAt l R i acc) (hi : i < l.length) (hw : wdB (l.getD i 0) = false) (hs : spB (l.getD i 0) = false) (h1 : notNext l i 47 47) (h2 : notNext l i 45 62) (hg : sgB (l.getD i 0) = true) : LexAt l R (i + 1) (acc ++ [mkT 2 [l.getD i 0] i]) := by
  obtain ⟨h3, h0, n, h4, rfl⟩ := h
  refine ⟨by omega, by simp; omega, ?_⟩
  cases n with
  | zero => omega
  | succ n =>
    refine ⟨n, by omega, ?_⟩
    rw [drop_cons' hi, tokF, if_neg (by rw [hw]; simp), if_neg (by rw [hs]; simp), if_neg (notNext_head hi h1), if_neg (notNext_head hi h2), if_pos hg, preT_cons]
theorem lx_sign_err (h : LexAt l R i acc) (hi : i < l.length) (hw : wdB (l.getD i 0) = false) (hs : spB (l.getD i 0) = false) (h1 : notNext l i 47 47) (h2 : notNext l i 45 62) (hg : sgB (l.getD i 0) = false) : R = ([], 6, i) := by
  obtain ⟨h3, h0, n, h4, rfl⟩ := h
  cases n with
  | zero => omega
  | succ n =>
    rw [drop_cons' hi, tokF, if_neg (by rw [hw]; simp), if_neg (by rw [hs]; simp), if_neg (notNext_head hi h1), if_neg (notNext_head hi h2), if_neg (by rw [hg]; simp)]
    simp [preT]
end
end Go.Proofs.YtnhfcggecmncmaaDoor
