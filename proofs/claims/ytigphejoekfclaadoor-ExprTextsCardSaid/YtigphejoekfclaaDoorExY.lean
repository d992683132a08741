/-
  Two right expressions with one text are the same.
-/
import Derived.Test.YtigphejoekfclaaDoorExS
namespace Go.Proofs.YtigphejoekfclaaDoor
open Go.ChangeShapes Go.WideShapes Go.ChangeAt Go.RowKit
set_option linter.unusedVariables false

/-- Signs of names. -/
def nmB (c : UInt8) : Bool := decide (c ≠ 32 ∧ c ≠ 40 ∧ c ≠ 41 ∧ c ≠ 45)
/-- Signs of leaves. -/
def lfB (c : UInt8) : Bool := decide (c ≠ 32 ∧ c ≠ 40 ∧ c ≠ 41)
theorem name_signs {l : List UInt8} (h : isName (bstr l) = true) : l ≠ [] ∧ ∀ c ∈ l, nmB c = true := by
  unfold isName at h
  simp only [Bool.and_eq_true] at h
  obtain ⟨⟨h1, _⟩, _⟩ := h
  rw [bstr_data] at h1
  unfold consB at h1
  simp only [decide_eq_true_eq] at h1
  obtain ⟨h2, _, h3⟩ := h1
  refine ⟨fun e => by rw [e] at h2; simp at h2, fun c hc => ?_⟩
  have := h3 c hc
  unfold nmB
  rw [decide_eq_true_eq]
  refine ⟨?_, ?_, ?_, ?_⟩ <;> (rintro rfl; revert this; decide)
/-- What may stand behind a part's text. -/
def Bd (r : List UInt8) : Prop := r = [] ∨ ∃ c t, r = c :: t ∧ lfB c = false
/-- What may stand behind the last one. -/
def En (r : List UInt8) : Prop := r = [] ∨ ∃ t, r = 41 :: t
theorem En.bd {r : List UInt8} (h : En r) : Bd r := by
  rcases h with rfl | ⟨t, rfl⟩
  · exact .inl rfl
  · exact .inr ⟨41, t, rfl, by decide⟩
theorem span_eq {p : UInt8 → Bool} : ∀ {a b r1 r2 : List UInt8}, (∀ c ∈ a, p c = true) → (∀ c ∈ b, p c = true) → (r1 = [] ∨ ∃ c t, r1 = c :: t ∧ p c = false) → (r2 = [] ∨ ∃ c t, r2 = c :: t ∧ p c = false) → a ++ r1 = b ++ r2 → a = b ∧ r1 = r2
  | [], [], _, _, _, _, _, _, h => ⟨rfl, h⟩
  | [], y :: b, r1, r2, _, hb, h1, _, h => by
    simp only [List.nil_append, List.cons_append] at h
    rcases h1 with e | ⟨c, t, e, hc⟩
    · rw [e] at h; cases h
    · rw [e] at h
      injection h with e1 _
      have := hb y (List.mem_cons_self)
      rw [← e1, hc] at this; cases this
  | x :: a, [], r1, r2, ha, _, _, h2, h => by
    simp only [List.nil_append, List.cons_append] at h
    rcases h2 with e | ⟨c, t, e, hc⟩
    · rw [e] at h; cases h
    · rw [e] at h
      injection h with e1 _
      have := ha x (List.mem_cons_self)
      rw [e1, hc] at this; cases this
  | x :: a, y :: b, r1, r2, ha, hb, h1, h2, h => by
    simp only [List.cons_append] at h
    injection h with e1 e2
    obtain ⟨e3, e4⟩ := span_eq (fun c hc => ha c (List.mem_cons_of_mem _ hc)) (fun c hc => hb c (List.mem_cons_of_mem _ hc)) h1 h2 e2
    exact ⟨by rw [e1, e3], e4⟩
theorem nm_lf {c : UInt8} (h : nmB c = true) : lfB c = true := by
  unfold nmB at h; unfold lfB
  rw [decide_eq_true_eq] at h ⊢
  exact ⟨h.1, h.2.1, h.2.2.1⟩
/-- A leaf's form: a name, or two. -/
theorem leaf_form {k : Int} {v n : List UInt8} {ks : List Ex} (h : formE (.mk k v n ks) = true) (hl : leafK k = true) :
    ks = [] ∧ ((k = 1 ∧ v = [] ∧ isName (bstr n) = true) ∨ (k = 2 ∧ isName (bstr v) = true ∧ isName (bstr n) = true)) := by
  unfold formE partB at h
  simp only [Bool.and_eq_true] at h
  obtain ⟨h, _⟩ := h
  by_cases h1 : k = 1
  · rw [if_pos h1] at h
    simp only [Bool.and_eq_true, decide_eq_true_eq] at h
    exact ⟨List.eq_nil_of_length_eq_zero h.1.1, .inl ⟨h1, h.1.2, h.2⟩⟩
  rw [if_neg h1] at h
  by_cases h2 : k = 2
  · rw [if_pos h2] at h
    simp only [Bool.and_eq_true, decide_eq_true_eq] at h
    exact ⟨List.eq_nil_of_length_eq_zero h.1.1, .inr ⟨h2, h.1.2, h.2⟩⟩
  rw [if_neg h2] at h
  unfold leafK at hl
  by_cases h3 : k = 3 ∨ k = 4
  · rcases h3 with rfl | rfl <;> simp at hl
  rw [if_neg h3] at h
  by_cases h5 : k = 5
  · subst h5; simp at hl
  rw [if_neg h5] at h; cases h
theorem leaf_text {k : Int} {v n : List UInt8} {ks : List Ex} (h : formE (.mk k v n ks) = true) (hl : leafK k = true) :
    (∀ c ∈ textE (.mk k v n ks), lfB c = true) ∧ textE (.mk k v n ks) ≠ [] := by
  obtain ⟨rfl, ⟨h1, _, hn⟩ | ⟨h2, hv, hn⟩⟩ := leaf_form h hl
  · rw [textE_one h1]
    exact ⟨fun c hc => nm_lf ((name_signs hn).2 c hc), (name_signs hn).1⟩
  · rw [textE_two h2]
    refine ⟨fun c hc => ?_, by simp⟩
    rcases List.mem_append.1 hc with hc | hc
    · exact nm_lf ((name_signs hv).2 c hc)
    · rcases List.mem_cons.1 hc with rfl | hc
      · decide
      rcases List.mem_cons.1 hc with rfl | hc
      · decide
      exact nm_lf ((name_signs hn).2 c hc)
/-- Two leaves with one text. -/
theorem leaf_inj {k k2 : Int} {v n v2 n2 : List UInt8} {ks ls : List Ex} (h : formE (.mk k v n ks) = true) (hl : leafK k = true) (h2 : formE (.mk k2 v2 n2 ls) = true) (hl2 : leafK k2 = true)
    (e : textE (.mk k v n ks) = textE (.mk k2 v2 n2 ls)) : Ex.mk k v n ks = Ex.mk k2 v2 n2 ls := by
  obtain ⟨rfl, ⟨rfl, rfl, hn⟩ | ⟨rfl, hv, hn⟩⟩ := leaf_form h hl
  · obtain ⟨rfl, ⟨rfl, rfl, hn2⟩ | ⟨rfl, hv2, hn2⟩⟩ := leaf_form h2 hl2
    · rw [textE_one rfl, textE_one rfl] at e; rw [e]
    · rw [textE_one rfl, textE_two rfl] at e
      have : (45 : UInt8) ∈ n := by rw [e]; simp
      have := (name_signs hn).2 45 this
      exact absurd this (by decide)
  · obtain ⟨rfl, ⟨rfl, rfl, hn2⟩ | ⟨rfl, hv2, hn2⟩⟩ := leaf_form h2 hl2
    · rw [textE_one rfl, textE_two rfl] at e
      have : (45 : UInt8) ∈ n2 := by rw [← e]; simp
      have := (name_signs hn2).2 45 this
      exact absurd this (by decide)
    · rw [textE_two rfl, textE_two rfl] at e
      obtain ⟨e1, e2⟩ := span_eq (p := nmB) (name_signs hv).2 (name_signs hv2).2 (.inr ⟨45, 62 :: n, rfl, by decide⟩) (.inr ⟨45, 62 :: n2, rfl, by decide⟩) e
      simp only [List.cons.injEq, true_and] at e2
      rw [e1, e2]
/-- A part with kids has at least two; its kind; no texts of its own. -/
theorem more_form {k : Int} {v n : List UInt8} {ks : List Ex} (h : formE (.mk k v n ks) = true) (hl : ¬ leafK k = true) :
    (k = 3 ∨ k = 4 ∨ k = 5) ∧ v = [] ∧ n = [] ∧ 2 ≤ ks.length ∧ formL ks = true := by
  have hk := form_kids h
  unfold formE partB at h
  simp only [Bool.and_eq_true] at h
  obtain ⟨h, _⟩ := h
  have hk3 : k = 3 ∨ k = 4 ∨ k = 5 := by
    unfold leafK at hl
    simp only [Bool.and_eq_true, bne_iff_ne, ne_eq] at hl
    omega
  rw [if_neg (by omega), if_neg (by omega)] at h
  by_cases h3 : k = 3 ∨ k = 4
  · rw [if_pos h3] at h
    simp only [Bool.and_eq_true, decide_eq_true_eq] at h
    exact ⟨hk3, h.1.2, h.2, h.1.1, hk⟩
  · rw [if_neg h3, if_pos (by omega)] at h
    simp only [Bool.and_eq_true, decide_eq_true_eq] at h
    exact ⟨hk3, h.1.2, h.2, by omega, hk⟩
theorem sg_inj {k k2 : Int} (h : k = 3 ∨ k = 4 ∨ k = 5) (h2 : k2 = 3 ∨ k2 = 4 ∨ k2 = 5) (e : sgK k = sgK k2) : k = k2 := by
  rcases h with rfl | rfl | rfl <;> rcases h2 with rfl | rfl | rfl <;> first | rfl | (exact absurd e (by decide))
theorem sg_head (k : Int) : ∃ t, sgK k = 32 :: t := by
  unfold sgK; split
  · exact ⟨_, rfl⟩
  · split <;> exact ⟨_, rfl⟩
theorem tail_cons (s x : List UInt8) (l : List (List UInt8)) : Lib.joinTail s (x :: l) = s ++ (x ++ Lib.joinTail s l) := by simp [Lib.joinTail]
theorem tail_bd (k : Int) (ks : List Ex) {r : List UInt8} (hr : En r) : Bd (Lib.joinTail (sgK k) (textL ks) ++ r) := by
  cases ks with
  | nil => simpa [textL, Lib.joinTail] using hr.bd
  | cons e l =>
    unfold textL
    rw [tail_cons]
    obtain ⟨t, ht⟩ := sg_head k
    rw [ht]
    exact .inr ⟨32, _, rfl, by decide⟩
mutual
theorem wInj : ∀ (e e2 : Ex) (r1 r2 : List UInt8), formE e = true → formE e2 = true → Bd r1 → Bd r2 → wrapT e.kind (textE e) ++ r1 = wrapT e2.kind (textE e2) ++ r2 → e = e2 ∧ r1 = r2
  | .mk k v n [], .mk k2 v2 n2 ls, r1, r2, h, h2, b1, b2, e => by
    have hl : leafK k = true := by
      by_cases hl : leafK k = true
      · exact hl
      · have := (more_form h hl).2.2.2.1; simp at this
    simp only [Ex.kind] at e
    unfold wrapT at e
    rw [if_pos hl] at e
    by_cases hl2 : leafK k2 = true
    · rw [if_pos hl2] at e
      obtain ⟨e1, e2⟩ := span_eq (leaf_text h hl).1 (leaf_text h2 hl2).1 b1 b2 e
      exact ⟨leaf_inj h hl h2 hl2 e1, e2⟩
    · rw [if_neg hl2] at e
      obtain ⟨g1, g2⟩ := leaf_text h hl
      cases ht : textE (.mk k v n []) with
      | nil => exact absurd ht g2
      | cons c t =>
        rw [ht] at e g1
        simp only [List.cons_append] at e
        injection e with e1 _
        have := g1 c (List.mem_cons_self)
        rw [e1] at this; exact absurd this (by decide)
  | .mk k v n (a :: ks), .mk k2 v2 n2 ls, r1, r2, h, h2, b1, b2, e => by
    have ha := wInj a
    have hks := tInj ks
    have hl : ¬ leafK k = true := fun hl => by have := (leaf_form h hl).1; cases this
    simp only [Ex.kind] at e
    unfold wrapT at e
    rw [if_neg hl] at e
    by_cases hl2 : leafK k2 = true
    · rw [if_pos hl2] at e
      obtain ⟨g1, g2⟩ := leaf_text h2 hl2
      cases ht : textE (.mk k2 v2 n2 ls) with
      | nil => exact absurd ht g2
      | cons c t =>
        rw [ht] at e g1
        simp only [List.cons_append] at e
        injection e with e1 _
        have := g1 c (List.mem_cons_self)
        rw [← e1] at this; exact absurd this (by decide)
    · rw [if_neg hl2] at e
      obtain ⟨k3, rfl, rfl, m1, f1⟩ := more_form h hl
      obtain ⟨k4, rfl, rfl, m2, f2⟩ := more_form h2 hl2
      rw [textE_more (by omega) (by omega), textE_more (by omega) (by omega)] at e
      simp only [List.cons_append, List.append_assoc, List.nil_append, List.cons.injEq, true_and] at e
      cases ls with
      | nil => simp at m2
      | cons b ls =>
        unfold formL at f1 f2
        simp only [Bool.and_eq_true] at f1 f2
        unfold textL at e
        rw [Lib.join_cons, Lib.join_cons, List.append_assoc, List.append_assoc] at e
        have en1 : En (41 :: r1) := .inr ⟨_, rfl⟩
        have en2 : En (41 :: r2) := .inr ⟨_, rfl⟩
        obtain ⟨rfl, e2⟩ := ha b _ _ f1.1 f2.1 (tail_bd k ks en1) (tail_bd k2 ls en2) e
        obtain ⟨rfl, e3, e4⟩ := hks ls k k2 _ _ f1.2 f2.2 en1 en2 e2
        have hne : ks ≠ [] := fun e => by rw [e] at m1; simp at m1
        obtain rfl := sg_inj k3 k4 (e4 hne)
        simp only [List.cons.injEq, true_and] at e3
        exact ⟨rfl, e3⟩
theorem tInj : ∀ (ks ls : List Ex) (k k2 : Int) (r1 r2 : List UInt8), formL ks = true → formL ls = true → En r1 → En r2 → Lib.joinTail (sgK k) (textL ks) ++ r1 = Lib.joinTail (sgK k2) (textL ls) ++ r2 → ks = ls ∧ r1 = r2 ∧ (ks ≠ [] → sgK k = sgK k2)
  | [], [], k, k2, r1, r2, _, _, _, _, e => ⟨rfl, by simpa [textL, Lib.joinTail] using e, fun h => absurd rfl h⟩
  | [], b :: ls, k, k2, r1, r2, _, _, h1, _, e => by
    unfold textL at e
    rw [tail_cons] at e
    obtain ⟨t, ht⟩ := sg_head k2
    rw [ht] at e
    rcases h1 with rfl | ⟨u, rfl⟩ <;> simp [Lib.joinTail] at e
  | a :: ks, [], k, k2, r1, r2, _, _, _, h2, e => by
    unfold textL at e
    rw [tail_cons] at e
    obtain ⟨t, ht⟩ := sg_head k
    rw [ht] at e
    rcases h2 with rfl | ⟨u, rfl⟩ <;> simp [Lib.joinTail] at e
  | a :: ks, b :: ls, k, k2, r1, r2, f1, f2, h1, h2, e => by
    have ha := wInj a
    have hks := tInj ks
    unfold formL at f1 f2
    simp only [Bool.and_eq_true] at f1 f2
    unfold textL at e
    rw [tail_cons, tail_cons] at e
    simp only [List.append_assoc] at e
    have el : sgK k = sgK k2 := by
      have := congrArg (List.take 3) e
      rwa [List.take_left' (sgK_len k), List.take_left' (sgK_len k2)] at this
    rw [el] at e
    have e := List.append_cancel_left e
    obtain ⟨rfl, e2⟩ := ha b _ _ f1.1 f2.1 (tail_bd k2 ks h1) (tail_bd k2 ls h2) e
    obtain ⟨rfl, e3, _⟩ := hks ls k2 k2 _ _ f1.2 f2.2 h1 h2 e2
    exact ⟨rfl, e3, fun _ => el⟩
end
/-- One text, one expression. -/
theorem textE_inj {a b : Ex} (ha : formE a = true) (hb : formE b = true) (e : textE a = textE b) : a = b := by
  obtain ⟨k, v, n, ks⟩ := a
  obtain ⟨k2, v2, n2, ls⟩ := b
  have other : ∀ {k k2 : Int} {v n v2 n2 : List UInt8} {ks ls : List Ex}, formE (.mk k v n ks) = true → formE (.mk k2 v2 n2 ls) = true → leafK k = true → ¬ leafK k2 = true → textE (.mk k v n ks) = textE (.mk k2 v2 n2 ls) → False := by
    intro k k2 v n v2 n2 ks ls h h2 hl hl2 e
    obtain ⟨k4, rfl, rfl, m2, f2⟩ := more_form h2 hl2
    match ls, m2 with
    | b1 :: b2 :: ls, _ =>
      rw [textE_more (k := k2) (by omega) (by omega)] at e
      unfold textL at e
      rw [Lib.join_cons] at e
      unfold textL at e
      rw [tail_cons] at e
      obtain ⟨t, ht⟩ := sg_head k2
      rw [ht] at e
      have : (32 : UInt8) ∈ textE (.mk k v n ks) := by rw [e]; simp
      have := (leaf_text h hl).1 32 this
      exact absurd this (by decide)
  by_cases hl : leafK k = true
  · by_cases hl2 : leafK k2 = true
    · exact leaf_inj ha hl hb hl2 e
    · exact (other ha hb hl hl2 e).elim
  · by_cases hl2 : leafK k2 = true
    · exact (other hb ha hl2 hl e.symm).elim
    · have := wInj (.mk k v n ks) (.mk k2 v2 n2 ls) [] [] ha hb (.inl rfl) (.inl rfl) (by
        show wrapT k _ ++ [] = wrapT k2 _ ++ []
        unfold wrapT
        rw [if_neg hl, if_neg hl2, e])
      exact this.1
end Go.Proofs.YtigphejoekfclaaDoor
