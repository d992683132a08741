/-
  Canonical expressions over an order; no program is spoken of.
-/
import Derived.Test.YtdnmgemjhpkekaaGreatOrS
import Derived.Test.YtdnmgemjhpkekaaGreatCoB
namespace Go.Proofs.YtdnmgemjhpkekaaGreat
set_option linter.unusedVariables false

def flatK (k : Int) : List Ex → List Ex
  | [] => []
  | x :: r => (if x.kind = k then x.kids else [x]) ++ flatK k r
def finE (o : Ex → Ex → Int) (k : Int) (v n : List UInt8) (ks : List Ex) : Ex :=
  if k = 3 ∨ k = 4 then (match sortedO o (flatK k ks) with
    | [y] => y
    | l => .mk k v n l) else .mk k v n ks
mutual
def canE (o : Ex → Ex → Int) : Ex → Ex
  | .mk k v n ks => finE o k v n (canL o ks)
def canL (o : Ex → Ex → Int) : List Ex → List Ex
  | [] => []
  | e :: r => canE o e :: canL o r
end
mutual
def Can (o : Ex → Ex → Int) : Ex → Prop
  | .mk k v n ks => CanL o ks ∧ (k = 3 ∨ k = 4 → RisO o ks ∧ 2 ≤ ks.length ∧ ∀ x ∈ ks, x.kind ≠ k)
def CanL (o : Ex → Ex → Int) : List Ex → Prop
  | [] => True
  | e :: r => Can o e ∧ CanL o r
end
theorem canL_len (o : Ex → Ex → Int) : ∀ l : List Ex, (canL o l).length = l.length
  | [] => rfl
  | e :: r => by rw [canL, List.length_cons, canL_len o r, List.length_cons]
theorem canL_map (o : Ex → Ex → Int) : ∀ l : List Ex, canL o l = l.map (canE o)
  | [] => rfl
  | e :: r => by rw [canL, canL_map o r]; rfl
theorem canL_mem {o : Ex → Ex → Int} : ∀ {l : List Ex}, CanL o l → ∀ x ∈ l, Can o x
  | [], _, x, h => by simp at h
  | e :: r, hc, x, h => by
    unfold CanL at hc
    rcases List.mem_cons.1 h with rfl | h
    · exact hc.1
    · exact canL_mem hc.2 x h
theorem canL_all {o : Ex → Ex → Int} : ∀ {l : List Ex}, (∀ x ∈ l, Can o x) → CanL o l
  | [], _ => by unfold CanL; trivial
  | e :: r, h => by unfold CanL; exact ⟨h e (by simp), canL_all fun x hx => h x (by simp [hx])⟩
/-! ### canonical expressions stay -/
theorem flatK_self {k : Int} : ∀ {l : List Ex}, (∀ x ∈ l, x.kind ≠ k) → flatK k l = l
  | [], _ => rfl
  | x :: r, h => by rw [flatK, if_neg (h x (by simp)), flatK_self fun y hy => h y (by simp [hy])]; rfl
theorem fin_self {o : Ex → Ex → Int} (H : OrdL o) {k : Int} {v n : List UInt8} {ks : List Ex} (h : k = 3 ∨ k = 4 → RisO o ks ∧ 2 ≤ ks.length ∧ ∀ x ∈ ks, x.kind ≠ k) : finE o k v n ks = .mk k v n ks := by
  unfold finE
  by_cases hk : k = 3 ∨ k = 4
  · obtain ⟨h1, h2, h3⟩ := h hk
    rw [if_pos hk, flatK_self h3, sorted_of_risO H h1]
    match ks, h2 with
    | a :: b :: r, _ => rfl
  · rw [if_neg hk]
mutual
theorem can_self {o : Ex → Ex → Int} (H : OrdL o) : ∀ e : Ex, Can o e → canE o e = e
  | .mk k v n ks, h => by
    unfold Can at h
    unfold canE
    rw [cans_self H ks h.1]
    exact fin_self H h.2
theorem cans_self {o : Ex → Ex → Int} (H : OrdL o) : ∀ l : List Ex, CanL o l → canL o l = l
  | [], _ => rfl
  | e :: r, h => by
    unfold CanL at h
    unfold canL
    rw [can_self H e h.1, cans_self H r h.2]
end
/-! ### what is made is canonical -/
def nlv (e : Ex) : Nat := (leavesE e).length
theorem nlv_sum (l : List Ex) : (leavesL l).length = (l.map nlv).sum := (leaves_sum l).symm
theorem put1_sum {o : Ex → Ex → Int} (t : Ex) : ∀ l : List Ex, ((put1O o t l).map nlv).sum ≤ nlv t + (l.map nlv).sum
  | [] => by simp [put1O]
  | a :: l => by
    have ih := put1_sum (o := o) t l
    unfold put1O
    split
    · simp only [List.map_cons, List.sum_cons]; omega
    split
    · simp only [List.map_cons, List.sum_cons]; omega
    · simp only [List.map_cons, List.sum_cons]; omega
theorem srt_sum {o : Ex → Ex → Int} : ∀ (l out : List Ex), ((srtO o out l).map nlv).sum ≤ (out.map nlv).sum + (l.map nlv).sum
  | [], out => by simp [srtO]
  | t :: l, out => by
    have h1 := srt_sum (o := o) l (put1O o t out)
    have h2 := put1_sum (o := o) t out
    show ((srtO o (put1O o t out) l).map nlv).sum ≤ _
    simp only [List.map_cons, List.sum_cons]
    omega
theorem sorted_sum {o : Ex → Ex → Int} (l : List Ex) : ((sortedO o l).map nlv).sum ≤ (l.map nlv).sum := by
  have := srt_sum (o := o) l []
  simpa [sortedO] using this
theorem nlv_kids {x : Ex} {k : Int} (hk : k = 3 ∨ k = 4) (h : x.kind = k) : nlv x = (x.kids.map nlv).sum := by
  obtain ⟨k', v, n, ks⟩ := x
  have h : k' = k := h
  subst h
  show (leavesE (.mk k' v n ks)).length = (ks.map nlv).sum
  rw [leavesE, if_neg (by rcases hk with rfl | rfl <;> decide), nlv_sum]
theorem flat_sum {k : Int} (hk : k = 3 ∨ k = 4) : ∀ l : List Ex, ((flatK k l).map nlv).sum = (l.map nlv).sum
  | [] => rfl
  | x :: r => by
    rw [flatK, List.map_append, List.sum_append, flat_sum hk r, List.map_cons, List.sum_cons]
    by_cases h : x.kind = k
    · rw [if_pos h, nlv_kids hk h]
    · rw [if_neg h]; simp
theorem flat_mem {k : Int} : ∀ {l : List Ex} {x : Ex}, x ∈ flatK k l ↔ ∃ y ∈ l, if y.kind = k then x ∈ y.kids else x = y
  | [], x => by simp [flatK]
  | y :: r, x => by
    rw [flatK, List.mem_append, flat_mem (l := r)]
    constructor
    · rintro (h | ⟨z, hz, h⟩)
      · refine ⟨y, by simp, ?_⟩
        by_cases hy : y.kind = k
        · rw [if_pos hy] at h ⊢; exact h
        · rw [if_neg hy] at h ⊢; simpa using h
      · exact ⟨z, by simp [hz], h⟩
    · rintro ⟨z, hz, h⟩
      rcases List.mem_cons.1 hz with rfl | hz
      · left
        by_cases hy : z.kind = k
        · rw [if_pos hy] at h ⊢; exact h
        · rw [if_neg hy] at h ⊢; simpa using h
      · exact .inr ⟨z, hz, h⟩
/-- What is shown of a canonical expression, beside the expression that it is made of. -/
def CanOk (o : Ex → Ex → Int) (d m : Nat) (x : Ex) : Prop := Can o x ∧ formE x = true ∧ depthE x ≤ d ∧ nlv x ≤ m
theorem depth_kids (x : Ex) : depthL x.kids + 1 = depthE x := by
  obtain ⟨k, v, n, ks⟩ := x
  rw [depthE]; rfl
theorem form_kids {x : Ex} (h : formE x = true) : formL x.kids = true := by
  obtain ⟨k, v, n, ks⟩ := x
  unfold formE at h
  simp only [Bool.and_eq_true] at h
  exact h.2
theorem can_kids {o : Ex → Ex → Int} {x : Ex} (h : Can o x) : CanL o x.kids ∧ (x.kind = 3 ∨ x.kind = 4 → RisO o x.kids ∧ 2 ≤ x.kids.length ∧ ∀ y ∈ x.kids, y.kind ≠ x.kind) := by
  obtain ⟨k, v, n, ks⟩ := x
  unfold Can at h
  exact h
mutual
theorem can_ok {o : Ex → Ex → Int} (H : OrdL o) : ∀ e : Ex, formE e = true → CanOk o (depthE e) (nlv e) (canE o e)
  | .mk k v n ks, h => by
    unfold formE at h
    simp only [Bool.and_eq_true] at h
    obtain ⟨hp, hks⟩ := h
    obtain ⟨c1, c2, c3, c4⟩ := cans_ok H ks hks
    have hlen := canL_len o ks
    unfold canE
    obtain ⟨l, hl⟩ : ∃ l, l = canL o ks := ⟨_, rfl⟩
    rw [← hl] at c1 c2 c3 c4 hlen ⊢
    rw [show depthE (.mk k v n ks) = depthL ks + 1 from by rw [depthE]]
    by_cases hk : k = 3 ∨ k = 4
    · have hv : v = [] ∧ n = [] ∧ 2 ≤ ks.length := by
        unfold partB at hp
        rw [if_neg (by omega), if_neg (by omega), if_pos hk] at hp
        simp only [Bool.and_eq_true, decide_eq_true_eq] at hp
        exact ⟨hp.1.2, hp.2, hp.1.1⟩
      obtain ⟨rfl, rfl, h2⟩ := hv
      have hL : leafK k = false := by rcases hk with rfl | rfl <;> rfl
      have hn : nlv (.mk k [] [] ks) = (leavesL ks).length := by unfold nlv leavesE; rw [if_neg (by rw [hL]; simp)]
      rw [hn]
      unfold finE
      rw [if_pos hk]
      obtain ⟨s, hs⟩ : ∃ s, s = sortedO o (flatK k l) := ⟨_, rfl⟩
      have hmem : ∀ x ∈ s, (Can o x ∧ formE x = true ∧ x.kind ≠ k) ∧ depthE x ≤ depthL ks := by
        intro x hx
        rw [hs, sorted_memO H] at hx
        obtain ⟨y, hy, hxy⟩ := flat_mem.1 hx
        have cy := canL_mem c1 y hy
        have fy := formL_mem c2 y hy
        have dy := depthL_mem c3 y hy
        by_cases hyk : y.kind = k
        · rw [if_pos hyk] at hxy
          obtain ⟨k1, k2⟩ := can_kids cy
          obtain ⟨_, _, k5⟩ := k2 (hyk ▸ hk)
          refine ⟨⟨canL_mem k1 x hxy, formL_mem (form_kids fy) x hxy, hyk ▸ k5 x hxy⟩, ?_⟩
          have := depth_kids y
          have := depthL_mem (d := depthL y.kids) (Nat.le_refl _) x hxy
          omega
        · rw [if_neg hyk] at hxy
          subst hxy
          exact ⟨⟨cy, fy, hyk⟩, dy⟩
      have hris : RisO o s := hs ▸ sorted_risO H _
      have hsum : (s.map nlv).sum ≤ (leavesL ks).length := by
        have a1 := sorted_sum (o := o) (flatK k l)
        rw [flat_sum hk] at a1
        have a2 := nlv_sum l
        rw [hs]; omega
      rw [← hs]
      match hsm : s with
      | [] =>
        exfalso
        match l, hlen with
        | y :: r, _ =>
          have hy : ∃ x, x ∈ flatK k (y :: r) := by
            by_cases hyk : y.kind = k
            · obtain ⟨_, k2⟩ := can_kids (canL_mem c1 y (by simp))
              obtain ⟨_, k4, _⟩ := k2 (hyk ▸ hk)
              match hkk : y.kids, k4 with
              | z :: _, _ => exact ⟨z, flat_mem.2 ⟨y, by simp, by rw [if_pos hyk, hkk]; simp⟩⟩
            · exact ⟨y, flat_mem.2 ⟨y, by simp, by rw [if_neg hyk]⟩⟩
          obtain ⟨x, hx⟩ := hy
          have := (sorted_memO H _ x).2 hx
          rw [← hs] at this
          simp at this
        | [], h0 => simp at h0; omega
      | [y] =>
        obtain ⟨⟨m1, m2, m3⟩, m4⟩ := hmem y (by simp)
        show CanOk o _ _ y
        simp only [List.map_cons, List.map_nil, List.sum_cons, List.sum_nil] at hsum
        exact ⟨m1, m2, by omega, by omega⟩
      | a :: b :: r =>
        show CanOk o _ _ (.mk k [] [] (a :: b :: r))
        refine ⟨?_, ?_, ?_, ?_⟩
        · unfold Can
          exact ⟨canL_all fun x hx => (hmem x hx).1.1, fun _ => ⟨hris, by simp, fun x hx => (hmem x hx).1.2.2⟩⟩
        · unfold formE
          rw [formL_ofall fun x hx => (hmem x hx).1.2.1, Bool.and_true]
          unfold partB
          rw [if_neg (by omega), if_neg (by omega), if_pos hk]
          simp
        · rw [depthE]
          have := depthL_all fun x hx => (hmem x hx).2
          omega
        · unfold nlv leavesE
          rw [if_neg (by rw [hL]; simp), nlv_sum]
          exact hsum
    · unfold finE
      rw [if_neg hk]
      refine ⟨?_, ?_, ?_, ?_⟩
      · unfold Can; exact ⟨c1, fun h => absurd h hk⟩
      · unfold formE; rw [hlen, hp, c2]; rfl
      · rw [depthE]; omega
      · unfold nlv leavesE
        split
        · simp
        · exact c4
theorem cans_ok {o : Ex → Ex → Int} (H : OrdL o) : ∀ l : List Ex, formL l = true → CanL o (canL o l) ∧ formL (canL o l) = true ∧ depthL (canL o l) ≤ depthL l ∧ (leavesL (canL o l)).length ≤ (leavesL l).length
  | [], _ => by unfold canL; exact ⟨by unfold CanL; trivial, by unfold formL; rfl, Nat.le_refl _, Nat.le_refl _⟩
  | e :: r, h => by
    unfold formL at h
    simp only [Bool.and_eq_true] at h
    obtain ⟨a1, a2, a3, a4⟩ := can_ok H e h.1
    obtain ⟨b1, b2, b3, b4⟩ := cans_ok H r h.2
    unfold nlv at a4
    rw [canL]
    refine ⟨by unfold CanL; exact ⟨a1, b1⟩, by unfold formL; rw [a2, b2]; rfl, ?_, ?_⟩
    · rw [depthL, depthL]; omega
    · rw [leavesL, leavesL, List.length_append, List.length_append]; omega
end
theorem canE_right {o : Ex → Ex → Int} (H : OrdL o) {e : Ex} (h : rightE e = true) : rightE (canE o e) = true ∧ depthE (canE o e) ≤ depthE e ∧ canE o (canE o e) = canE o e := by
  obtain ⟨h1, h2, h3⟩ := right_all h
  obtain ⟨a1, a2, a3, a4⟩ := can_ok H e h1
  unfold nlv at a4
  refine ⟨?_, a3, can_self H _ a1⟩
  unfold rightE
  rw [a2, decide_eq_true (show depthE (canE o e) ≤ 16 by omega), decide_eq_true (show (leavesE (canE o e)).length ≤ 32 by omega)]; rfl
end Go.Proofs.YtdnmgemjhpkekaaGreat
