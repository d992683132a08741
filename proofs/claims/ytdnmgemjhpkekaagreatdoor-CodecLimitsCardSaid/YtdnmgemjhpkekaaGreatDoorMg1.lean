/-
  Schemas as bytes: what is read from bytes, and what is written; no program is spoken of.
-/
import Derived.Test.YtdnmgemjhpkekaaGreatDoorMg0
import Derived.Laws.OwnMore
import Derived.Deep.RegionLaw
import Derived.Lib.Hide
import Derived.Test.YtdnmgemjhpkekaaGreatDoorTuI
import Derived.Test.YtdnmgemjhpkekaaGreatDoorArr
import Derived.Test.YtdnmgemjhpkekaaGreatDoorShelf
import Derived.Lib.Small
import Derived.Lib.Bytealg
import Derived.Deep.CutBlock
import Derived.Test.YtdnmgemjhpkekaaGreatDoorOrd
import Derived.StillTailTactics
namespace Go.Proofs.YtdnmgemjhpkekaaGreatDoor
open Go.ChangeShapes Go.WideShapes Go.ChangeAt Go.RowKit
set_option linter.unusedVariables false
set_option linter.unusedSimpArgs false

abbrev AlB := List UInt8 × List UInt8
abbrev MemB := List UInt8 × Int × List AlB × Ex
abbrev DefB := List UInt8 × List MemB
def GoodA (a : AlB) : Prop := isName (bstr a.1) = true ∧ (a.2 = [] ∨ isName (bstr a.2) = true)
def FineE (e : Ex) : Prop := rightE e = true ∧ okE 64 e ∧ sizeE e ≤ 64
def GoodM (m : MemB) : Prop := isName (bstr m.1) = true ∧ ((m.2.1 = 1 ∧ 1 ≤ m.2.2.1.length ∧ m.2.2.1.length ≤ 32 ∧ (∀ a ∈ m.2.2.1, GoodA a) ∧ m.2.2.2 = ex0) ∨ (m.2.1 = 2 ∧ m.2.2.1 = [] ∧ FineE m.2.2.2))
def GoodD (d : DefB) : Prop := isName (bstr d.1) = true ∧ d.2.length ≤ 64 ∧ ∀ m ∈ d.2, GoodM m
def GoodS (l : List DefB) : Prop := l.length ≤ 64 ∧ ∀ d ∈ l, GoodD d

/-! ### expressions of the form are small -/
theorem partB_2 {k : Int} {v n : List UInt8} {m : Nat} (h : partB k v n m = true) : v.length ≤ 64 ∧ n.length ≤ 64 ∧ (leafK k = true ∧ m = 0 ∨ leafK k = false ∧ 2 ≤ m) := by
  unfold partB at h
  split at h
  · rename_i hk; subst hk
    simp only [Bool.and_eq_true, decide_eq_true_eq] at h
    obtain ⟨⟨rfl, rfl⟩, h3⟩ := h
    exact ⟨Nat.zero_le _, name_len h3, .inl ⟨rfl, rfl⟩⟩
  split at h
  · rename_i hk; subst hk
    simp only [Bool.and_eq_true, decide_eq_true_eq] at h
    obtain ⟨⟨rfl, h2⟩, h3⟩ := h
    exact ⟨name_len h2, name_len h3, .inl ⟨rfl, rfl⟩⟩
  split at h
  · rename_i hk
    simp only [Bool.and_eq_true, decide_eq_true_eq] at h
    obtain ⟨⟨h1, rfl⟩, rfl⟩ := h
    exact ⟨Nat.zero_le _, Nat.zero_le _, .inr ⟨by rcases hk with rfl | rfl <;> rfl, h1⟩⟩
  split at h
  · rename_i hk; subst hk
    simp only [Bool.and_eq_true, decide_eq_true_eq] at h
    obtain ⟨⟨h1, rfl⟩, rfl⟩ := h
    exact ⟨Nat.zero_le _, Nat.zero_le _, .inr ⟨rfl, by omega⟩⟩
  · cases h
mutual
theorem form_small : ∀ e : Ex, formE e = true → okE 64 e ∧ sizeE e + 1 ≤ 2 * (leavesE e).length
  | .mk k v n ks, h => by
    unfold formE at h
    simp only [Bool.and_eq_true] at h
    obtain ⟨a1, a2, a3⟩ := partB_2 h.1
    obtain ⟨b1, b2⟩ := forms_small ks h.2
    refine ⟨by unfold okE; exact ⟨a1, a2, b1⟩, ?_⟩
    unfold sizeE leavesE
    rcases a3 with ⟨hk, hm⟩ | ⟨hk, hm⟩
    · rw [if_pos hk]
      obtain rfl := List.length_eq_zero_iff.1 hm
      simp [sizeL]
    · rw [if_neg (by rw [hk]; simp)]
      omega
theorem forms_small : ∀ l : List Ex, formL l = true → okL 64 l ∧ sizeL l + l.length ≤ 2 * (leavesL l).length
  | [], _ => by unfold okL; exact ⟨trivial, by simp [sizeL]⟩
  | e :: r, h => by
    unfold formL at h
    simp only [Bool.and_eq_true] at h
    obtain ⟨a1, a2⟩ := form_small e h.1
    obtain ⟨b1, b2⟩ := forms_small r h.2
    refine ⟨by unfold okL; exact ⟨a1, b1⟩, ?_⟩
    rw [sizeL, leavesL, List.length_append, List.length_cons]
    omega
end
theorem fine_of {e : Ex} (hf : formE e = true) (hd : depthE e ≤ 16) (hl : (leavesE e).length ≤ 32) : FineE e := by
  obtain ⟨h1, h2⟩ := form_small e hf
  refine ⟨?_, h1, by omega⟩
  unfold rightE
  rw [hf, decide_eq_true hd, decide_eq_true hl]; rfl
theorem right_all {e : Ex} (h : rightE e = true) : formE e = true ∧ depthE e ≤ 16 ∧ (leavesE e).length ≤ 32 := by
  unfold rightE at h
  simp only [Bool.and_eq_true, decide_eq_true_eq] at h
  exact ⟨h.2.2, h.2.1, h.1⟩

/-! ### every error has a code -/
theorem ne_then {α β : Type} {r : Rs α} {f : α → Nat → Nat → Rs β} (h : ∀ c o, r = .bad c o → c ≠ 0) (hf : ∀ x o l c a, f x o l = .bad c a → c ≠ 0) : ∀ c a, r.then f = .bad c a → c ≠ 0 := by
  intro c a e
  cases r with
  | bad c' o' => cases e; exact h _ _ rfl
  | ok x o' l => exact hf x o' l c a e
theorem ne_ok {α : Type} (x : α) (o l : Nat) : ∀ c a, Rs.ok x o l = .bad c a → c ≠ 0 := fun _ _ e => by cases e
theorem numK_ne {b : List UInt8} {lo hi high o lv : Nat} (hh : high ≠ 0) : ∀ c a, numK b lo hi high o lv = .bad c a → c ≠ 0 := by
  intro c a e
  unfold numK at e
  split at e
  · rename_i h; cases e; exact h
  split at e
  · cases e; exact hh
  split at e
  · cases e; decide
  · cases e
theorem nameR_ne {b : List UInt8} {emp : Bool} {o lv : Nat} : ∀ c a, nameR b emp o lv = .bad c a → c ≠ 0 := by
  intro c a e
  unfold nameR at e
  split at e
  · rename_i h; cases e; exact h
  split at e
  · cases e
  · cases e; decide
theorem many_ne {α : Type} {f : Nat → Nat → Rs α} (hf : ∀ o l c a, f o l = .bad c a → c ≠ 0) : ∀ n o l c a, manyR f n o l = .bad c a → c ≠ 0
  | 0, o, l, c, a, e => by cases e
  | n + 1, o, l, c, a, e => ne_then (hf o l) (fun x o1 l1 => ne_then (many_ne hf n o1 l1) fun xs o2 l2 => ne_ok _ _ _) c a e
theorem leafR_ne {b : List UInt8} {k o lv : Nat} : ∀ c a, leafR b k o lv = .bad c a → c ≠ 0 := by
  intro c a e
  unfold leafR at e
  split at e
  · exact ne_then nameR_ne (fun x o1 l1 => ne_then nameR_ne fun y o2 l2 => ne_ok _ _ _) c a e
  · exact ne_then nameR_ne (fun x o1 l1 => ne_ok _ _ _) c a e
theorem readE_ne {b : List UInt8} : ∀ d o lv c a, readE b d o lv = .bad c a → c ≠ 0
  | 0, o, lv, c, a, e => ne_then (numK_ne (by decide)) (fun x o1 l1 c a e => by cases e; decide) c a e
  | d + 1, o, lv, c, a, e => by
    unfold readE at e
    refine ne_then (numK_ne (by decide)) (fun k o1 l1 c a e => ?_) c a e
    split at e
    · split at e
      · cases e; decide
      · exact leafR_ne c a e
    · refine ne_then ?_ (fun n o2 l2 => ne_then (many_ne (readE_ne d) n o2 l2) fun ks o3 l3 => ne_ok _ _ _) c a e
      intro c a e
      unfold kidsR at e
      split at e
      · exact numK_ne (by decide) c a e
      · cases e
/-! ### a whole expression -/
theorem parseEx_ok {b : List UInt8} (hc : (parseEx b).2.1 = 0) : FineE (parseEx b).1 ∧ b = putE (parseEx b).1 ∧ (parseEx b).2.2 = 0 := by
  unfold parseEx at hc ⊢
  cases hr : readE b 16 0 0 with
  | bad c o =>
    rw [hr] at hc
    exact absurd hc (readE_ne 16 0 0 c o hr)
  | ok x o l =>
    rw [hr] at hc
    simp only [] at hc ⊢
    obtain ⟨⟨h1, h2⟩, h3, h4, h5, h6, h7⟩ := readE_back 16 0 0 x o l (Nat.zero_le _) (by decide) hr
    by_cases ho : o < b.length
    · rw [if_pos ho] at hc; cases hc
    · rw [if_neg ho]
      refine ⟨fine_of h1 h2 (show (leavesE x).length ≤ 32 by omega), ?_, rfl⟩
      have : b.drop o = [] := List.drop_eq_nil_of_le (by omega)
      rwa [this, List.append_nil, List.drop_zero] at h7
theorem parseEx_put {e : Ex} (h : rightE e = true) : parseEx (putE e) = (e, 0, 0) := by
  obtain ⟨h1, h2, h3⟩ := right_all h
  unfold parseEx
  rw [readE_put (b := putE e) 16 e h1 h2 0 0 [] (by omega) (by simp)]
  simp only []
  rw [if_neg (by omega)]
theorem parseEx_fail {b : List UInt8} (hc : (parseEx b).2.1 ≠ 0) : (parseEx b).1 = ex0 := by
  unfold parseEx at hc ⊢
  cases hr : readE b 16 0 0 with
  | bad c o => rfl
  | ok x o l =>
    rw [hr] at hc
    simp only [] at hc ⊢
    by_cases ho : o < b.length
    · rw [if_pos ho]
    · rw [if_neg ho] at hc; exact absurd rfl hc

/-! ### schemas -/
def allR (b : List UInt8) (o lv : Nat) : Rs AlB := (nameR b false o lv).then fun a o1 l1 => (nameR b true o1 l1).then fun r o2 l2 => .ok (a, r) o2 l2
def relR (b n : List UInt8) (o lv : Nat) : Rs MemB := (numK b 1 32 15 o lv).then fun t o1 l1 => (manyR (allR b) t o1 l1).then fun ls o2 l2 => .ok (n, 1, ls, ex0) o2 0
def permR (b n : List UInt8) (o lv : Nat) : Rs MemB := (readE b 16 o 0).then fun e o1 l1 => .ok (n, 2, [], e) o1 0
def memR (b : List UInt8) (o lv : Nat) : Rs MemB := (nameR b false o lv).then fun n o1 l1 => (numK b 1 2 6 o1 l1).then fun k o2 l2 => if k = 2 then permR b n o2 l2 else relR b n o2 l2
def defR (b : List UInt8) (o lv : Nat) : Rs DefB := (nameR b false o lv).then fun n o1 l1 => (numK b 0 64 15 o1 l1).then fun k o2 l2 => (manyR (memR b) k o2 l2).then fun ms o3 l3 => .ok (n, ms) o3 l3
def schR (b : List UInt8) (o lv : Nat) : Rs (List DefB) := (numK b 0 64 15 o lv).then fun k o1 l1 => manyR (defR b) k o1 l1
def putA (a : AlB) : List UInt8 := putS (bstr a.1) ++ putS (bstr a.2)
def putM (m : MemB) : List UInt8 := putS (bstr m.1) ++ (put m.2.1.toNat ++ (if m.2.1 = 2 then putE m.2.2.2 else put m.2.2.1.length ++ (m.2.2.1.map putA).flatten))
def putD (d : DefB) : List UInt8 := putS (bstr d.1) ++ (put d.2.length ++ (d.2.map putM).flatten)
def putSc (l : List DefB) : List UInt8 := put l.length ++ (l.map putD).flatten
/-- A whole string of bytes as a schema. -/
def parseSc (b : List UInt8) : List DefB × Nat × Nat :=
  match schR b 0 0 with
  | .bad c o => ([], c, o)
  | .ok d o _ => if o < b.length then ([], 16, o) else (d, 0, 0)
theorem many_back0 {α : Type} {f : Nat → Nat → Rs α} {b : List UInt8} (R : α → Prop) (pt : α → List UInt8)
    (hf : ∀ o x o1 l1, o ≤ b.length → f o 0 = .ok x o1 l1 → R x ∧ l1 = 0 ∧ o ≤ o1 ∧ o1 ≤ b.length ∧ b.drop o = pt x ++ b.drop o1) :
    ∀ (n o : Nat) (xs : List α) (o1 l1 : Nat), o ≤ b.length → manyR f n o 0 = .ok xs o1 l1 → xs.length = n ∧ (∀ x ∈ xs, R x) ∧ l1 = 0 ∧ o ≤ o1 ∧ o1 ≤ b.length ∧ b.drop o = (xs.map pt).flatten ++ b.drop o1
  | 0, o, xs, o1, l1, ho, h => by
    cases h
    exact ⟨rfl, by simp, rfl, Nat.le_refl _, ho, by simp⟩
  | n + 1, o, xs, o1, l1, ho, h => by
    unfold manyR at h
    obtain ⟨x, oa, la, e1, h⟩ := then_ok h
    obtain ⟨ys, ob, lb, e2, h⟩ := then_ok h
    cases h
    obtain ⟨a1, rfl, a4, a5, a6⟩ := hf _ _ _ _ ho e1
    obtain ⟨c1, c2, c3, c5, c6, c7⟩ := many_back0 R pt hf n _ _ _ _ a5 e2
    refine ⟨by rw [List.length_cons, c1], ?_, c3, by omega, c6, ?_⟩
    · intro y hy
      rcases List.mem_cons.1 hy with rfl | hy
      · exact a1
      · exact c2 y hy
    · rw [a6, c7, List.map_cons, List.flatten_cons, List.append_assoc]
theorem many_put0 {α : Type} {f : Nat → Nat → Rs α} {b : List UInt8} {pt : α → List UInt8} : ∀ (xs : List α) (o : Nat) (r : List UInt8), (∀ x ∈ xs, ∀ o r, b.drop o = pt x ++ r → f o 0 = .ok x (o + (pt x).length) 0) → b.drop o = (xs.map pt).flatten ++ r → manyR f xs.length o 0 = .ok xs (o + (xs.map pt).flatten.length) 0
  | [], o, r, _, _ => by simp [manyR]
  | x :: xs, o, r, hf, h => by
    rw [List.map_cons, List.flatten_cons, List.append_assoc] at h
    rw [List.length_cons, manyR, hf x (by simp) o _ h]
    show Rs.then (manyR f xs.length _ _) _ = _
    rw [many_put0 xs _ r (fun y hy => hf y (by simp [hy])) (drop_next h)]
    show Rs.ok (x :: xs) _ _ = _
    rw [List.map_cons, List.flatten_cons, List.length_append, Nat.add_assoc]
theorem name_of {s : List UInt8} (h : isName (bstr s) = true ∨ false = true ∧ s = []) : isName (bstr s) = true := by
  rcases h with h | ⟨h, _⟩
  · exact h
  · cases h
theorem allR_back {b : List UInt8} (o : Nat) (x : AlB) (o1 l1 : Nat) (ho : o ≤ b.length) (h : allR b o 0 = .ok x o1 l1) : GoodA x ∧ l1 = 0 ∧ o ≤ o1 ∧ o1 ≤ b.length ∧ b.drop o = putA x ++ b.drop o1 := by
  unfold allR at h
  obtain ⟨v, oa, la, e1, h⟩ := then_ok h
  obtain ⟨n, ob, lb, e2, h⟩ := then_ok h
  cases h
  obtain ⟨a1, a2, rfl, a4, a5, a6⟩ := nameR_ok ho e1
  obtain ⟨c1, c2, rfl, c4, c5, c6⟩ := nameR_ok a5 e2
  refine ⟨⟨name_of a1, ?_⟩, rfl, by omega, c5, by rw [a6, c6, putA, List.append_assoc]⟩
  rcases c1 with h | ⟨_, h⟩
  · exact .inr h
  · exact .inl h
theorem memR_back {b : List UInt8} (o : Nat) (x : MemB) (o1 l1 : Nat) (ho : o ≤ b.length) (h : memR b o 0 = .ok x o1 l1) : GoodM x ∧ l1 = 0 ∧ o ≤ o1 ∧ o1 ≤ b.length ∧ b.drop o = putM x ++ b.drop o1 := by
  unfold memR at h
  obtain ⟨n, oa, la, e1, h⟩ := then_ok h
  obtain ⟨k, ob, lb, e2, h⟩ := then_ok h
  obtain ⟨a1, a2, rfl, a4, a5, a6⟩ := nameR_ok ho e1
  obtain ⟨c1, c2, rfl, c4, c5, c6⟩ := numK_ok a5 e2
  have hn := name_of a1
  by_cases hk : k = 2
  · rw [if_pos hk] at h; subst hk
    unfold permR at h
    obtain ⟨e, oc, lc, e3, h⟩ := then_ok h
    cases h
    obtain ⟨⟨d1, d2⟩, d3, d4, d5, d6, d7⟩ := readE_back 16 _ _ _ _ _ c5 (by decide) e3
    refine ⟨⟨hn, .inr ⟨rfl, rfl, fine_of d1 d2 (show (leavesE e).length ≤ 32 by omega)⟩⟩, rfl, by omega, d6, ?_⟩
    rw [a6, c6, d7]
    simp [putM]
  · rw [if_neg hk] at h
    have hk1 : k = 1 := by omega
    subst hk1
    unfold relR at h
    obtain ⟨t, oc, lc, e3, h⟩ := then_ok h
    obtain ⟨ls, od, ld, e4, h⟩ := then_ok h
    cases h
    obtain ⟨d1, d2, rfl, d4, d5, d6⟩ := numK_ok c5 e3
    obtain ⟨f1, f2, f3, f5, f6, f7⟩ := many_back0 GoodA putA allR_back _ _ _ _ _ d5 e4
    refine ⟨⟨hn, .inl ⟨rfl, by simp only []; omega, by simp only []; omega, f2, rfl⟩⟩, rfl, by omega, f6, ?_⟩
    rw [a6, c6, d6, f7]
    simp [putM, f1]
theorem defR_back {b : List UInt8} (o : Nat) (x : DefB) (o1 l1 : Nat) (ho : o ≤ b.length) (h : defR b o 0 = .ok x o1 l1) : GoodD x ∧ l1 = 0 ∧ o ≤ o1 ∧ o1 ≤ b.length ∧ b.drop o = putD x ++ b.drop o1 := by
  unfold defR at h
  obtain ⟨n, oa, la, e1, h⟩ := then_ok h
  obtain ⟨k, ob, lb, e2, h⟩ := then_ok h
  obtain ⟨ms, oc, lc, e3, h⟩ := then_ok h
  cases h
  obtain ⟨a1, a2, rfl, a4, a5, a6⟩ := nameR_ok ho e1
  obtain ⟨c1, c2, rfl, c4, c5, c6⟩ := numK_ok a5 e2
  obtain ⟨f1, f2, f3, f5, f6, f7⟩ := many_back0 GoodM putM memR_back _ _ _ _ _ c5 e3
  refine ⟨⟨name_of a1, by simp only []; omega, f2⟩, f3, by omega, f6, ?_⟩
  rw [a6, c6, f7]
  simp [putD, f1]
theorem schR_back {b : List UInt8} {d : List DefB} {o1 l1 : Nat} (h : schR b 0 0 = .ok d o1 l1) : GoodS d ∧ o1 ≤ b.length ∧ b = putSc d ++ b.drop o1 := by
  unfold schR at h
  obtain ⟨k, ob, lb, e2, h⟩ := then_ok h
  obtain ⟨c1, c2, rfl, c4, c5, c6⟩ := numK_ok (Nat.zero_le _) e2
  obtain ⟨f1, f2, f3, f5, f6, f7⟩ := many_back0 GoodD putD defR_back _ _ _ _ _ c5 h
  refine ⟨⟨by omega, f2⟩, f6, ?_⟩
  rw [List.drop_zero] at c6
  rw [putSc, f1, List.append_assoc, ← f7]; exact c6
theorem allR_put {b : List UInt8} {x : AlB} (hg : GoodA x) (o : Nat) (r : List UInt8) (h : b.drop o = putA x ++ r) : allR b o 0 = .ok x (o + (putA x).length) 0 := by
  unfold putA at h
  rw [List.append_assoc] at h
  have h2 : isName (bstr x.2) = true ∨ true = true ∧ x.2 = [] := by
    rcases hg.2 with h | h
    · exact .inr ⟨rfl, h⟩
    · exact .inl h
  have hl : x.2.length ≤ 64 := by
    rcases hg.2 with h | h
    · rw [h]; exact Nat.zero_le _
    · exact name_len h
  unfold allR
  rw [nameR_put (.inl hg.1) (name_len hg.1) h]
  simp only [Rs.then]
  rw [nameR_put h2 hl (drop_next h)]
  simp only [Rs.then, putA, List.length_append, Nat.add_assoc]
theorem memR_put {b : List UInt8} {x : MemB} (hg : GoodM x) (o : Nat) (r : List UInt8) (h : b.drop o = putM x ++ r) : memR b o 0 = .ok x (o + (putM x).length) 0 := by
  obtain ⟨n, k, ls, e⟩ := x
  obtain ⟨h1, hg⟩ := hg
  rcases hg with ⟨rfl, t1, t2, t3, rfl⟩ | ⟨rfl, rfl, he⟩
  · have ep : putM (n, 1, ls, ex0) = putS (bstr n) ++ (put 1 ++ (put ls.length ++ (ls.map putA).flatten)) := by simp [putM]
    rw [ep] at h ⊢
    simp only [List.append_assoc] at h
    unfold memR
    rw [nameR_put (.inl h1) (name_len h1) h]
    simp only [Rs.then]
    rw [numK_put (x := 1) (by decide) (by decide) (by decide) (drop_next h)]
    simp only [Rs.then]
    rw [if_neg (by decide)]
    unfold relR
    rw [numK_put (x := ls.length) (by unfold lim64; simp only [] at t2; omega) t1 t2 (drop_next (drop_next h))]
    simp only [Rs.then]
    rw [many_put0 (pt := putA) ls _ r (fun y hy => allR_put (t3 y hy)) (drop_next (drop_next (drop_next h)))]
    simp only [Rs.then, List.length_append, Nat.add_assoc]
  · have ep : putM (n, 2, [], e) = putS (bstr n) ++ (put 2 ++ putE e) := by simp [putM]
    rw [ep] at h ⊢
    simp only [List.append_assoc] at h
    obtain ⟨r1, r2, r3⟩ := right_all he.1
    unfold memR
    rw [nameR_put (.inl h1) (name_len h1) h]
    simp only [Rs.then]
    rw [numK_put (x := 2) (by decide) (by decide) (by decide) (drop_next h)]
    simp only [Rs.then]
    rw [if_pos trivial]
    unfold permR
    rw [readE_put 16 e r1 r2 _ 0 r (by simp only [] at r3; omega) (drop_next (drop_next h))]
    simp only [Rs.then, List.length_append, Nat.add_assoc]
theorem defR_put {b : List UInt8} {x : DefB} (hg : GoodD x) (o : Nat) (r : List UInt8) (h : b.drop o = putD x ++ r) : defR b o 0 = .ok x (o + (putD x).length) 0 := by
  obtain ⟨n, ms⟩ := x
  obtain ⟨h1, h2, h3⟩ := hg
  unfold putD at h ⊢
  simp only [List.append_assoc] at h
  unfold defR
  rw [nameR_put (.inl h1) (name_len h1) h]
  simp only [Rs.then]
  rw [numK_put (x := ms.length) (by unfold lim64; simp only [] at h2; omega) (Nat.zero_le _) h2 (drop_next h)]
  simp only [Rs.then]
  rw [many_put0 (pt := putM) ms _ r (fun y hy => memR_put (h3 y hy)) (drop_next (drop_next h))]
  simp only [Rs.then, List.length_append, Nat.add_assoc]
theorem parseSc_put {d : List DefB} (hg : GoodS d) : parseSc (putSc d) = (d, 0, 0) := by
  unfold parseSc schR
  have h : (putSc d).drop 0 = put d.length ++ ((d.map putD).flatten ++ []) := by simp [putSc]
  rw [numK_put (x := d.length) (by unfold lim64; have := hg.1; omega) (Nat.zero_le _) hg.1 h]
  simp only [Rs.then]
  rw [many_put0 (pt := putD) d _ [] (fun y hy => defR_put (hg.2 y hy)) (drop_next h)]
  simp only []
  rw [if_neg (by simp [putSc])]
theorem memR_ne {b : List UInt8} : ∀ o lv c a, memR b o lv = .bad c a → c ≠ 0 := by
  intro o lv c a e
  unfold memR at e
  refine ne_then nameR_ne (fun n o1 l1 => ne_then (numK_ne (by decide)) fun k o2 l2 c a e => ?_) c a e
  split at e
  · exact ne_then (readE_ne 16 _ _) (fun e o l => ne_ok _ _ _) c a e
  · exact ne_then (numK_ne (by decide)) (fun t o l => ne_then (many_ne (fun o l => ne_then nameR_ne fun x o1 l1 => ne_then nameR_ne fun y o2 l2 => ne_ok _ _ _) t o l) fun ls o l => ne_ok _ _ _) c a e
theorem schR_ne {b : List UInt8} : ∀ o lv c a, schR b o lv = .bad c a → c ≠ 0 := fun o lv =>
  ne_then (numK_ne (by decide)) fun k o l => many_ne (fun o l => ne_then nameR_ne fun n o1 l1 => ne_then (numK_ne (by decide)) fun k o2 l2 => ne_then (many_ne memR_ne k o2 l2) fun ms o3 l3 => ne_ok _ _ _) k o l
theorem parseSc_ok {b : List UInt8} (hc : (parseSc b).2.1 = 0) : GoodS (parseSc b).1 ∧ b = putSc (parseSc b).1 ∧ (parseSc b).2.2 = 0 := by
  unfold parseSc at hc ⊢
  cases hr : schR b 0 0 with
  | bad c o =>
    rw [hr] at hc
    exact absurd hc (schR_ne 0 0 c o hr)
  | ok x o l =>
    rw [hr] at hc
    simp only [] at hc ⊢
    obtain ⟨h1, h2, h3⟩ := schR_back hr
    by_cases ho : o < b.length
    · rw [if_pos ho] at hc; cases hc
    · rw [if_neg ho]
      refine ⟨h1, ?_, rfl⟩
      have : b.drop o = [] := List.drop_eq_nil_of_le (by omega)
      rwa [this, List.append_nil] at h3
theorem parseSc_fail {b : List UInt8} (hc : (parseSc b).2.1 ≠ 0) : (parseSc b).1 = [] := by
  unfold parseSc at hc ⊢
  cases hr : schR b 0 0 with
  | bad c o => rfl
  | ok x o l =>
    rw [hr] at hc
    simp only [] at hc ⊢
    by_cases ho : o < b.length
    · rw [if_pos ho]
    · rw [if_neg ho] at hc; exact absurd rfl hc
end Go.Proofs.YtdnmgemjhpkekaaGreatDoor
/-
  Rows of the call's own whose elements lead to memory: appended to while other blocks (a call's, a box) are written. For any element that tells how it is read.
-/
namespace Go.Proofs.YtdnmgemjhpkekaaGreatDoor
open Go.ChangeShapes Go.WideShapes Go.ChangeAt Go.RowKit
set_option linter.unusedVariables false

/-- How an element of a row lies in cells. -/
structure Kd (α : Type) where
  sty : TypeId
  ty : TypeId
  z : Value
  size : Nat
  bytes : Nat
  und : Tryz.prog.underlying sty = some (.slice ty)
  info : ∃ i, Tryz.prog.info? ty = some i ∧ i.zero = some z ∧ i.size = size ∧ i.bytes = bytes
  zs : z.cells.size = size
  pos : 0 < size
  small : bytes ≤ 1000
  rd : (Nat → Prop) → World → α → List Value → Prop
  len : ∀ {P w x cs}, rd P w x cs → cs.length = size
  ones : ∀ {P w x cs}, rd P w x cs → ∀ u ∈ cs, u.oneCell' = true
  keep : ∀ {P w w' x cs}, (∀ b, P b → ∀ n, w'.cell? ⟨b, n, none⟩ = w.cell? ⟨b, n, none⟩) → rd P w x cs → rd P w' x cs
  imp : ∀ {P Q w x cs}, (∀ b, P b → Q b) → rd P w x cs → rd Q w x cs
def CellsK {α : Type} (K : Kd α) (P : Nat → Prop) (w : World) : List α → List Value → Prop
  | [], cs => cs = []
  | x :: r, cs => ∃ a b, cs = a ++ b ∧ K.rd P w x a ∧ CellsK K P w r b
variable {α : Type} {K : Kd α}
theorem CellsK.keep {P : Nat → Prop} {w w' : World} (hk : ∀ b, P b → ∀ n, w'.cell? ⟨b, n, none⟩ = w.cell? ⟨b, n, none⟩) : ∀ {xs : List α} {cs : List Value}, CellsK K P w xs cs → CellsK K P w' xs cs
  | [], _, h => h
  | x :: r, _, ⟨a, b, e, h1, h2⟩ => ⟨a, b, e, K.keep hk h1, CellsK.keep hk h2⟩
theorem CellsK.imp {P Q : Nat → Prop} {w : World} (hPQ : ∀ b, P b → Q b) : ∀ {xs : List α} {cs : List Value}, CellsK K P w xs cs → CellsK K Q w xs cs
  | [], _, h => h
  | x :: r, _, ⟨a, b, e, h1, h2⟩ => ⟨a, b, e, K.imp hPQ h1, CellsK.imp hPQ h2⟩
theorem CellsK.snoc {P : Nat → Prop} {w : World} {x : α} {c : List Value} (hx : K.rd P w x c) : ∀ {xs : List α} {cs : List Value}, CellsK K P w xs cs → CellsK K P w (xs ++ [x]) (cs ++ c)
  | [], _, h => by
    obtain rfl : _ = [] := h
    exact ⟨c, [], by simp, hx, rfl⟩
  | y :: r, _, ⟨a, b, e, h1, h2⟩ => ⟨a, b ++ c, by rw [e, List.append_assoc], h1, CellsK.snoc hx h2⟩
/-- The blocks of what lies in a row: the row's own and those that are written apart. -/
def SubX (base : Nat) (X : Nat → Prop) (w : World) (v : Value) : Nat → Prop := fun b => base ≤ b ∧ b < w.heap.size ∧ some b ≠ v.ownBlock ∧ ¬ X b
/-- v is a slice of the call's own, from base on, of the elements xs; the blocks X are none of theirs. -/
def PRow (K : Kd α) (base : Nat) (X : Nat → Prop) (w : World) (v : Value) (xs : List α) : Prop := ∃ cs, w.ownsRow base K.ty K.size v xs.length cs ∧ CellsK K (SubX base X w v) w xs cs ∧ ∀ b, v.ownBlock = some b → ¬ X b
variable {base : Nat} {X : Nat → Prop} {w w' : World} {v : Value} {xs : List α}
theorem PRow.nil (K : Kd α) (base : Nat) (X : Nat → Prop) (w : World) : PRow K base X w (.slice none 0 0) [] := ⟨[], World.ownsRow_nil _ _ _ _, rfl, fun b h => by cases h⟩
theorem PRow.form (h : PRow K base X w v xs) : ∃ q c, v = .slice q xs.length c := by
  obtain ⟨cs, h1, _⟩ := h
  rcases h1.2 with ⟨h, hn⟩ | ⟨g, cap, cur, hv, _⟩
  · exact ⟨none, 0, by rw [hn]; exact h⟩
  · exact ⟨_, _, hv⟩
/-- A world in which other blocks alone have turned. -/
theorem PRow.turn (h : PRow K base X w v xs) (hs : w.heap.size ≤ w'.heap.size) (hk : ∀ b, base ≤ b → b < w.heap.size → ¬ X b → w'.heap[b]? = w.heap[b]?) : PRow K base X w' v xs := by
  obtain ⟨cs, h1, h2, h3⟩ := h
  refine ⟨cs, ⟨h1.1, ?_⟩, (h2.keep fun b hb n => World.cell?_of_block (hk b hb.1 hb.2.1 hb.2.2.2)).imp fun b hb => ⟨hb.1, Nat.lt_of_lt_of_le hb.2.1 hs, hb.2.2⟩, h3⟩
  rcases h1.2 with h | ⟨g, cap, cur, rfl, h0, hg, r⟩
  · exact .inl h
  · exact .inr ⟨g, cap, cur, rfl, h0, (hk g h0 (Array.getElem?_eq_some_iff.1 hg).1 (h3 g rfl)).trans hg, r⟩
theorem PRow.later (h : PRow K base X w v xs) (hb : Below w.heap.size w w') : PRow K base X w' v xs := h.turn hb.size fun b _ hl _ => hb.block b hl
theorem PRow.box (h : PRow K base X w v xs) {g : Nat} (hg : g < base ∨ X g) (i : Nat) (u : Value) : PRow K base X (w.setCell ⟨g, i, none⟩ u) v xs :=
  h.turn (by simp [World.setCell]) fun b h1 _ h2 => Below.heap_setCell w ⟨g, i, none⟩ u b (fun e => by have e' : b = g := e; subst e'; rcases hg with hg | hg; omega; exact h2 hg)
/-- Blocks that are none of theirs may be named anew. -/
theorem PRow.wk (h : PRow K base X w v xs) {Y : Nat → Prop} (hY : ∀ b, base ≤ b → b < w.heap.size → Y b → X b) : PRow K base Y w v xs := by
  obtain ⟨cs, h1, h2, h3⟩ := h
  refine ⟨cs, h1, h2.imp fun b hb => ⟨hb.1, hb.2.1, hb.2.2.1, fun h => hb.2.2.2 (hY b hb.1 hb.2.1 h)⟩, fun b hb h => h3 b hb (hY b (h1.lt b hb).1 (h1.lt b hb).2 h)⟩
theorem PRow.low (h : PRow K base X w v xs) {b0 : Nat} (hb : b0 ≤ base) : PRow K b0 (fun b => X b ∨ b < base) w v xs := by
  obtain ⟨cs, h1, h2, h3⟩ := h
  refine ⟨cs, ⟨h1.1, ?_⟩, h2.imp fun b hb' => ⟨Nat.le_trans hb hb'.1, hb'.2.1, hb'.2.2.1, fun h => h.elim hb'.2.2.2 (fun h => absurd hb'.1 (by omega))⟩, fun b hb' h => h.elim (h3 b hb') (fun h => absurd (h1.lt b hb').1 (by omega))⟩
  rcases h1.2 with h | ⟨g, cap, cur, rfl, h0, r⟩
  · exact .inl h
  · exact .inr ⟨g, cap, cur, rfl, Nat.le_trans hb h0, r⟩
/-- One element's row, as a literal makes it. -/
theorem PRow.lit {x : α} {cs : List Value} (hb : base ≤ w.heap.size) (hX : ∀ b, X b → b < w.heap.size) (hr : K.rd (fun b => base ≤ b ∧ b < w.heap.size ∧ ¬ X b) w x cs) : PRow K base X (w.alloc (.cells cs.toArray K.ty)) (.slice (some ⟨w.heap.size, 0, none⟩) 1 1) [x] := by
  have h1 := World.ownsRow_lit (base := base) (e := K.ty) (size := K.size) w cs.toArray 1 hb (by decide) (by simp [K.len hr])
  refine ⟨cs, h1, ⟨cs, [], by simp, ?_, rfl⟩, fun b hb' h => by cases hb'; exact absurd (hX _ h) (Nat.lt_irrefl _)⟩
  refine K.imp (fun b hb' => ⟨hb'.1, by simp; omega, fun e => by cases e; exact absurd hb'.2.1 (Nat.lt_irrefl _), hb'.2.2⟩) (K.keep (fun b hb' n => World.cell?_of_block (Below.heap_alloc w _ b hb'.2.1)) hr)
theorem PRow.app_run (h : PRow K base X w v xs) {n : Nat} {x : α} {cs : List Value} (hc : Arr w K.ty n cs) (hr : K.rd (SubX base X w v) w x cs) (hlen : xs.length + 1 ≤ 200000) (hbase : base ≤ w.heap.size) (hX : ∀ b, X b → b < w.heap.size) (ty : TypeId) :
    ∃ v' w', (Builtin.append_ #[K.sty, K.sty] ty #[v, .slice (some ⟨n, 0, none⟩) 1 1]).run Tryz.prog w = .ok v' w' ∧ PRow K base X w' v' (xs ++ [x]) ∧ w.grownBy w' v.ownBlock ∧ ∀ k, v.ownBlock = some k → base ≤ k ∧ ¬ X k := by
  obtain ⟨i0, hi, hz0, hz1, hz2⟩ := K.info
  obtain ⟨es, h1, h2, h3⟩ := h
  have hsm := K.small
  obtain ⟨v', w', hrun, r1, r2, _, r4⟩ := run_append_own_at (P := Tryz.prog) w base K.sty ty K.ty i0 K.z K.size K.bytes K.und hi hz0 hz1 hz2 K.zs K.pos v xs.length es h1 ⟨n, 0, none⟩ 1 1 cs (by rw [K.len hr, Nat.one_mul])
    (fun j u hu => by
      have := hc.cell j
      rw [hu] at this
      cases j <;> simpa [Addr.add] using this) (K.ones hr) (by unfold maxLen; omega) (Nat.le_trans (Nat.mul_le_mul hlen hsm) (by decide)) hbase
  refine ⟨v', w', hrun, ⟨es ++ cs, by rw [List.length_append]; exact r1, ?_, ?_⟩, r2, fun k hk => ⟨(h1.lt k hk).1, h3 k hk⟩⟩
  · have hk : ∀ b, SubX base X w v b → ∀ m, w'.cell? ⟨b, m, none⟩ = w.cell? ⟨b, m, none⟩ := fun b hb m => World.cell?_of_block (r2.block b hb.2.1 hb.2.2.1)
    have hS : ∀ b, SubX base X w v b → SubX base X w' v' b := fun b hb => ⟨hb.1, Nat.lt_of_lt_of_le hb.2.1 r2.size, by
      rcases r4 with r4 | r4
      · rw [r4]; exact hb.2.2.1
      · rw [r4]; intro e; have := Option.some.inj e; have := hb.2.1; omega, hb.2.2.2⟩
    exact CellsK.snoc (K.imp hS (K.keep hk hr)) ((h2.keep hk).imp hS)
  · intro b hb
    rcases r4 with r4 | r4
    · exact h3 b (r4 ▸ hb)
    · rw [r4] at hb; cases hb; exact fun h => absurd (hX _ h) (Nat.lt_irrefl _)
theorem app_row {ops : Array Oper} {rest : List Oper} {o : Oper} {a : Act} {Q : Exit → Act → World → Prop} (hgd : o.guard = none) (s y : Operand) (ho : o.op = .call { callee := .builtin .append, args := #[s, y], argTypes := #[K.sty, K.sty] })
    {n : Nat} {x : α} {cs : List Value} (hs : a.eval s = v) (h : PRow K base X w v xs) (hx : a.eval y = .slice (some ⟨n, 0, none⟩) 1 1) (hc : Arr w K.ty n cs) (hr : K.rd (SubX base X w v) w x cs) (hlen : xs.length + 1 ≤ 200000) (hbase : base ≤ w.heap.size) (hX : ∀ b, X b → b < w.heap.size)
    (hK : ∀ v' w', PRow K base X w' v' (xs ++ [x]) → w.grownBy w' v.ownBlock → (∀ k, v.ownBlock = some k → base ≤ k ∧ ¬ X k) → wpList Tryz.prog ops Q rest (a.put o.dst v') w') : wpList Tryz.prog ops Q (o :: rest) a w := by
  refine wpList_plain hgd fun K' hK' => ?_
  obtain ⟨v', w', hrun, r1, r2, r3⟩ := h.app_run hc hr hlen hbase hX o.type
  unfold Oper.wp execOp
  simp only [ho, resolve, invoke, builtin, Sem.run_bind, Sem.run_pure, Result.andThen_ok, List.map_toArray, List.map_cons, List.map_nil, hs, hx, hrun]
  exact hK' _ _ (hK v' w' r1 r2 r3)
theorem step_row {ops : Array Oper} {o : Oper} {a : Act} {K' : Act → World → Prop} {Q : Exit → Act → World → Prop} {E : Prop} (hgd : o.guard = none) (s y : Operand) (ho : o.op = .call { callee := .builtin .append, args := #[s, y], argTypes := #[K.sty, K.sty] })
    {n : Nat} {x : α} {cs : List Value} (hs : a.eval s = v) (h : PRow K base X w v xs) (hx : a.eval y = .slice (some ⟨n, 0, none⟩) 1 1) (hc : Arr w K.ty n cs) (hr : K.rd (SubX base X w v) w x cs) (hlen : xs.length + 1 ≤ 200000) (hbase : base ≤ w.heap.size) (hX : ∀ b, X b → b < w.heap.size)
    (hK : ∀ v' w', PRow K base X w' v' (xs ++ [x]) → w.grownBy w' v.ownBlock → (∀ k, v.ownBlock = some k → base ≤ k ∧ ¬ X k) → K' (a.put o.dst v') w') : if Region.wanted o (yielded ops a.tmps) = true then Oper.wp Tryz.prog o a w K' Q else E := by
  have hw : Region.wanted o (yielded ops a.tmps) = true := by simp [Region.wanted, hgd]
  rw [if_pos hw]
  obtain ⟨v', w', hrun, r1, r2, r3⟩ := h.app_run hc hr hlen hbase hX o.type
  unfold Oper.wp execOp
  simp only [ho, resolve, invoke, builtin, Sem.run_bind, Sem.run_pure, Result.andThen_ok, List.map_toArray, List.map_cons, List.map_nil, hs, hx, hrun, Oper.upon]
  exact hK v' w' r1 r2 r3
/-- Where the elements lie. -/
theorem PRow.cells {q : Option Addr} {n c : Nat} (h : PRow K base X w (.slice q n c) xs) : n = xs.length ∧ xs.length ≤ c ∧ (0 < xs.length → ∃ g, q = some ⟨g, 0, none⟩ ∧ base ≤ g ∧ g < w.heap.size ∧ ¬ X g ∧ ∃ cs, CellsK K (fun b => base ≤ b ∧ b < w.heap.size ∧ b ≠ g ∧ ¬ X b) w xs cs ∧ ∀ j u, cs[j]? = some u → w.cell? ⟨g, j, none⟩ = some u) := by
  obtain ⟨cs, h1, h2, h3⟩ := h
  rcases h1.2 with ⟨hv, hn⟩ | ⟨g, cap, cur, hv, h0, hg, hcap, _, hcz, htk⟩
  · simp only [Value.slice.injEq] at hv
    obtain ⟨rfl, rfl, rfl⟩ := hv
    exact ⟨hn.symm, by omega, fun h => by omega⟩
  · simp only [Value.slice.injEq] at hv
    obtain ⟨rfl, rfl, rfl⟩ := hv
    have hgl := (Array.getElem?_eq_some_iff.1 hg).1
    refine ⟨rfl, hcap, fun _ => ⟨g, rfl, h0, hgl, h3 g rfl, cs, h2.imp fun b hb => ⟨hb.1, hb.2.1, fun e => hb.2.2.1 (by rw [e]; rfl), hb.2.2.2⟩, fun j u hj => ?_⟩⟩
    have hjl : j < cs.length := (List.getElem?_eq_some_iff.1 hj).1
    rw [cell_of_row w g _ cur _ (0, 0) hg, ← Array.getElem?_toList]
    rw [← htk, List.getElem?_take, if_pos (by rw [h1.1] at hjl; exact hjl)] at hj
    exact hj

/-! ### expressions -/
def rdEx (P : Nat → Prop) (w : World) (e : Ex) (cs : List Value) : Prop := ∃ v0 v1 v2 v3, cs = [v0, v1, v2, v3] ∧ RdE P w e (.agg #[v0, v1, v2, v3])
def kdEx : Kd Ex where
  sty := 40
  ty := 42
  z := .agg #[.int .i64 0, .string ByteArray.empty, .string ByteArray.empty, .slice none 0 0]
  size := 4
  bytes := 64
  und := Tryz.underlying40
  info := info_parts Tryz.infoEx
  zs := rfl
  pos := by decide
  small := by decide
  rd := rdEx
  len := fun ⟨_, _, _, _, h, _⟩ => by rw [h]; rfl
  ones := fun {P w x cs} ⟨v0, v1, v2, v3, h, h1⟩ u hu => by
    obtain ⟨q, c, h2, _⟩ := h1.form
    unfold exv at h2
    simp only [Value.agg.injEq, Array.mk.injEq, List.cons.injEq, and_true] at h2
    obtain ⟨rfl, rfl, rfl, rfl⟩ := h2
    rw [h] at hu
    simp only [List.mem_cons, List.not_mem_nil, or_false] at hu
    rcases hu with rfl | rfl | rfl | rfl <;> rfl
  keep := fun hk ⟨v0, v1, v2, v3, h, h1⟩ => ⟨v0, v1, v2, v3, h, h1.keep hk⟩
  imp := fun hi ⟨v0, v1, v2, v3, h, h1⟩ => ⟨v0, v1, v2, v3, h, h1.imp hi⟩
theorem rdL_of {P : Nat → Prop} {w : World} {b : Nat} : ∀ {ks : List Ex} {cs : List Value} {o : Nat}, CellsK kdEx P w ks cs → (∀ j u, cs[j]? = some u → w.cell? ⟨b, o + j, none⟩ = some u) → RdL P w ks b o
  | [], _, _, _, _ => by unfold RdL; trivial
  | e :: r, _, o, ⟨a, d, rfl, ⟨v0, v1, v2, v3, h, h1⟩, h2⟩, hc => by
    subst h
    unfold RdL
    refine ⟨⟨v0, v1, v2, v3, hc 0 v0 rfl, hc 1 v1 rfl, hc 2 v2 rfl, hc 3 v3 rfl, h1⟩, rdL_of h2 fun j u hj => ?_⟩
    rw [show o + 4 + j = o + (j + 4) by omega]
    exact hc (j + 4) u hj
theorem PRow.rdE {q : Option Addr} {n c : Nat} {ks : List Ex} (h : PRow kdEx base X w (.slice q n c) ks) (k : Int) (via nm : List UInt8) : RdE (Bt base w.heap.size) w (.mk k via nm ks) (.agg #[.int .i64 k, .string (bstr via), .string (bstr nm), .slice q n c]) := by
  obtain ⟨rfl, hc, hk⟩ := h.cells
  unfold RdE
  refine ⟨q, c, rfl, hc, fun h0 => ?_⟩
  obtain ⟨g, rfl, h1, h2, _, cs, h3, h4⟩ := hk h0
  refine ⟨g, 0, rfl, ⟨h1, h2⟩, (rdL_of h3 fun j u hj => ?_).imp fun b hb => ⟨hb.1, hb.2.1⟩⟩
  rw [Nat.zero_add]
  exact h4 j u hj
end Go.Proofs.YtdnmgemjhpkekaaGreatDoor
/-
  Values in memory: expressions, types, members, definitions, schemas (of XPaP to XPbA).
-/
namespace Go.Proofs.YtdnmgemjhpkekaaGreatDoor
open Go.ChangeShapes Go.WideShapes Go.ChangeAt Go.RowKit
set_option linter.unusedVariables false

/-- What a call keeps that writes into the parser alone. -/
def Kp (pb : Nat) (W W' : World) : Prop := W'.os = W.os ∧ W'.tape = W.tape ∧ W'.output = W.output ∧ W.heap.size ≤ W'.heap.size ∧ ∀ k, k < W.heap.size → k ≠ pb → W'.heap[k]? = W.heap[k]?
theorem Kp.of {pb : Nat} {W W' : World} (h : Below W.heap.size W W') : Kp pb W W' := ⟨h.os, h.tape, h.output, h.size, fun k hk _ => h.block k hk⟩
theorem Kp.trans {pb : Nat} {W W' W2 : World} (h : Kp pb W W') (g : Kp pb W' W2) : Kp pb W W2 := ⟨g.1.trans h.1, g.2.1.trans h.2.1, g.2.2.1.trans h.2.2.1, Nat.le_trans h.2.2.2.1 g.2.2.2.1, fun k hk hn => (g.2.2.2.2 k (Nat.lt_of_lt_of_le hk h.2.2.2.1) hn).trans (h.2.2.2.2 k hk hn)⟩
theorem Kp.set {pb : Nat} {W W' : World} (h : Kp pb W W') (i : Nat) (v : Value) : Kp pb W (W'.setCell ⟨pb, i, none⟩ v) := h.trans ⟨rfl, rfl, rfl, by simp [World.setCell], fun k hk hn => Below.heap_setCell W' ⟨pb, i, none⟩ v k hn⟩
theorem Kp.below {pb B : Nat} {W W' : World} (h : Kp pb W W') (h1 : B ≤ pb) (h2 : B ≤ W.heap.size) : Below B W W' := ⟨h.1, h.2.1, h.2.2.1, h.2.2.2.1, fun k hk => h.2.2.2.2 k (Nat.lt_of_lt_of_le hk h2) (by omega)⟩
theorem Kp.arr {pb : Nat} {W W' : World} (h : Kp pb W W') {t : TypeId} {g : Nat} {cs : List Value} (hA : Arr W t g cs) (hg : g ≠ pb) : Arr W' t g cs := (h.2.2.2.2 g hA.lt hg).trans hA

theorem Kp.box {pb : Nat} {W W' : World} (h : Kp pb W W') {g : Nat} (hg : W.heap.size ≤ g) (i : Nat) (v : Value) : Kp pb W (W'.setCell ⟨g, i, none⟩ v) :=
  ⟨h.1, h.2.1, h.2.2.1, by simpa [World.setCell] using h.2.2.2.1, fun k hk hn => (Below.heap_setCell W' ⟨g, i, none⟩ v k (by simp only [ne_eq]; omega)).trans (h.2.2.2.2 k hk hn)⟩

def alv (a : AlB) : List Value := [.string (bstr a.1), .string (bstr a.2)]
def als (l : List AlB) : List Value := l.flatMap alv
theorem als_snoc (l : List AlB) (a : AlB) : als (l ++ [a]) = als l ++ alv a := by unfold als; rw [List.flatMap_append]; simp
theorem als_length (l : List AlB) : (als l).length = l.length * 2 := by
  induction l with
  | nil => rfl
  | cons t r ih => unfold als at ih ⊢; rw [List.flatMap_cons, List.length_append, ih]; simp [alv]; omega
/-- A row of types of the call's own. -/
def AlRow (base : Nat) (w : World) (v : Value) (l : List AlB) : Prop := w.ownsRow base 70 2 v l.length (als l)
theorem AlRow.form {base : Nat} {w : World} {v : Value} {l : List AlB} (h : AlRow base w v l) : ∃ q c, v = .slice q l.length c := by
  rcases h.2 with ⟨rfl, hn⟩ | ⟨g, cap, cur, rfl, _⟩
  · exact ⟨none, 0, by rw [hn]⟩
  · exact ⟨_, _, rfl⟩
theorem AlRow.kp {base pb : Nat} {w w' : World} {v : Value} {l : List AlB} (h : AlRow base w v l) (hk : Kp pb w w') (hb : pb < base) : AlRow base w' v l := by
  refine ⟨h.1, ?_⟩
  rcases h.2 with h | ⟨g, cap, cur, rfl, h0, h1, r⟩
  · exact .inl h
  · exact .inr ⟨g, cap, cur, rfl, h0, (hk.2.2.2.2 g (Array.getElem?_eq_some_iff.1 h1).1 (by omega)).trans h1, r⟩
theorem Kp.grown {pb : Nat} {W w w' : World} {row : Option Nat} (h : Kp pb W w) (hg : w.grownBy w' row) (hr : ∀ k, row = some k → W.heap.size ≤ k) : Kp pb W w' :=
  ⟨hg.os.trans h.1, hg.tape.trans h.2.1, hg.output.trans h.2.2.1, Nat.le_trans h.2.2.2.1 hg.size, fun k hk hn => (hg.block k (Nat.lt_of_lt_of_le hk h.2.2.2.1) (fun e => by have := hr k e.symm; omega)).trans (h.2.2.2.2 k hk hn)⟩
theorem Tryz.infoAl : (Tryz.prog.info? 70).map (fun i => (i.zero, i.size, i.bytes)) = some (some (.agg #[.string ByteArray.empty, .string ByteArray.empty]), 2, 32) := by kernel_rfl
theorem app_al {ops : Array Oper} {rest : List Oper} {o : Oper} {a : Act} {Q : Exit → Act → World → Prop} {w : World} (hgd : o.guard = none) (s x : Operand) (ho : o.op = .call { callee := .builtin .append, args := #[s, x], argTypes := #[64, 64] })
    {base n : Nat} {v : Value} {l : List AlB} {e : AlB} (hs : a.eval s = v) (hown : AlRow base w v l) (hx : a.eval x = .slice (some ⟨n, 0, none⟩) 1 1) (hc : Arr w 70 n [.string (bstr e.1), .string (bstr e.2)])
    (hlen : l.length + 1 ≤ 1000000) (hbase : base ≤ w.heap.size)
    (h : ∀ v' w', AlRow base w' v' (l ++ [e]) → w.grownBy w' v.ownBlock → (∀ k, v.ownBlock = some k → base ≤ k) → wpList Tryz.prog ops Q rest (a.put o.dst v') w') : wpList Tryz.prog ops Q (o :: rest) a w := by
  obtain ⟨i0, hi, hz0, hz1, hz2⟩ := info_parts Tryz.infoAl
  refine wpList_append_own_at w hgd s x 64 ho base 70 i0 _ 2 32 Tryz.underlying64 hi hz0 hz1 hz2 rfl (by decide) v l.length (als l) hs hown ⟨n, 0, none⟩ 1 1 (alv e) hx rfl ?_ ?_ (by unfold maxLen; omega) (by omega) hbase ?_
  · intro j u hu
    have := hc.cell j
    rw [show ([.string (bstr e.1), .string (bstr e.2)] : List Value) = alv e from rfl, hu] at this
    cases j <;> simpa [Addr.add] using this
  · intro u hu
    simp only [alv, List.mem_cons, List.not_mem_nil, or_false] at hu
    rcases hu with rfl | rfl <;> rfl
  · intro v' w' r1 r2 _ _
    refine h v' w' ?_ r2 fun k hk => (hown.lt k hk).1
    unfold AlRow
    rw [als_snoc, List.length_append]
    exact r1

/-- v reads as the expression; all that it leads to is new from B on. -/
def VE (B : Nat) (e : Ex) (w : World) (v : Value) : Prop := RdE (Bt B w.heap.size) w e v
theorem VE.kp {B g : Nat} {e : Ex} {w w' : World} {v : Value} (h : VE B e w v) (hk : Kp g w w') (hg : g < B) : VE B e w' v :=
  (RdE.keep (fun b hb n => World.cell?_of_block (hk.2.2.2.2 b hb.2 (by have := hb.1; omega))) h).imp fun b hb => ⟨hb.1, Nat.lt_of_lt_of_le hb.2 hk.2.2.2.1⟩
theorem VE.low {B B' : Nat} {e : Ex} {w : World} {v : Value} (h : VE B e w v) (hb : B' ≤ B) : VE B' e w v := RdE.imp (fun b hb' => ⟨Nat.le_trans hb hb'.1, hb'.2⟩) h
theorem VE.later {B : Nat} {e : Ex} {w w' : World} {v : Value} (h : VE B e w v) (hb : Below w.heap.size w w') : VE B e w' v := (RdE.below h hb fun b hb => hb.2).imp fun b hb' => ⟨hb'.1, Nat.lt_of_lt_of_le hb'.2 hb.size⟩
theorem VE.leaf (B : Nat) (w : World) (k : Int) (a b : List UInt8) : VE B (.mk k a b []) w (.agg #[.int .i64 k, .string (bstr a), .string (bstr b), .slice none 0 0]) := RdE.of (e := .mk k a b []) (q := none) (c := 0) (Nat.le_refl _) (fun h => absurd h (Nat.lt_irrefl _))
theorem kp_set4 (w : World) (g : Nat) (x0 x1 x2 x3 : Value) : Kp g w ((((w.setCell ⟨g, 0, none⟩ x0).setCell ⟨g, 1, none⟩ x1).setCell ⟨g, 2, none⟩ x2).setCell ⟨g, 3, none⟩ x3) := ((((Kp.of (pb := g) (Below.refl _ _)).set 0 x0).set 1 x1).set 2 x2).set 3 x3
theorem Kp.andThen {pb g : Nat} {W W' W2 : World} (h : Kp pb W W') (hk : Kp g W' W2) (hg : W.heap.size ≤ g) : Kp pb W W2 :=
  ⟨hk.1.trans h.1, hk.2.1.trans h.2.1, hk.2.2.1.trans h.2.2.1, Nat.le_trans h.2.2.2.1 hk.2.2.2.1, fun k hk' hn => (hk.2.2.2.2 k (Nat.lt_of_lt_of_le hk' h.2.2.2.1) (by omega)).trans (h.2.2.2.2 k hk' hn)⟩

/-- v is a slice that reads as the types. -/
def RdA (P : Nat → Prop) (w : World) (l : List AlB) (v : Value) : Prop := ∃ q c, v = .slice q l.length c ∧ l.length ≤ c ∧ (0 < l.length → ∃ b o, q = some ⟨b, o, none⟩ ∧ P b ∧ ∀ j u, (als l)[j]? = some u → w.cell? ⟨b, o + j, none⟩ = some u)
theorem RdA.keep {P : Nat → Prop} {w w' : World} {l : List AlB} {v : Value} (hk : ∀ b, P b → ∀ n, w'.cell? ⟨b, n, none⟩ = w.cell? ⟨b, n, none⟩) (h : RdA P w l v) : RdA P w' l v := by
  obtain ⟨q, c, h1, h2, h3⟩ := h
  refine ⟨q, c, h1, h2, fun h0 => ?_⟩
  obtain ⟨b, o, h4, h5, h6⟩ := h3 h0
  exact ⟨b, o, h4, h5, fun j u hj => (hk b h5 _).trans (h6 j u hj)⟩
theorem RdA.imp {P Q : Nat → Prop} {w : World} {l : List AlB} {v : Value} (hi : ∀ b, P b → Q b) (h : RdA P w l v) : RdA Q w l v := by
  obtain ⟨q, c, h1, h2, h3⟩ := h
  refine ⟨q, c, h1, h2, fun h0 => ?_⟩
  obtain ⟨b, o, h4, h5, h6⟩ := h3 h0
  exact ⟨b, o, h4, hi b h5, h6⟩
theorem RdA.nil (P : Nat → Prop) (w : World) : RdA P w [] (.slice none 0 0) := ⟨none, 0, rfl, Nat.le_refl _, fun h => absurd h (Nat.lt_irrefl _)⟩
theorem AlRow.rd {base : Nat} {w : World} {v : Value} {l : List AlB} (h : AlRow base w v l) : RdA (Bt base w.heap.size) w l v := by
  have h1 := h.1
  rcases h.2 with ⟨hv, hn⟩ | ⟨g, cap, cur, hv, h0, hg, hcap, _, hcz, htk⟩
  · have : l = [] := by cases l; rfl; simp at hn
    subst this
    rw [hv]
    exact RdA.nil _ _
  · refine ⟨_, _, hv, hcap, fun _ => ⟨g, 0, rfl, ⟨h0, (Array.getElem?_eq_some_iff.1 hg).1⟩, fun j u hj => ?_⟩⟩
    rw [Nat.zero_add]
    have hjl : j < (als l).length := (List.getElem?_eq_some_iff.1 hj).1
    rw [cell_of_row w g _ cur _ (0, 0) hg, ← Array.getElem?_toList]
    rw [← htk, List.getElem?_take, if_pos (by rw [h1] at hjl; exact hjl)] at hj
    exact hj
def rdMem (P : Nat → Prop) (w : World) (m : MemB) (cs : List Value) : Prop := ∃ vt v3 v4 v5 v6, cs = [.string (bstr m.1), .int .i64 m.2.1, vt, v3, v4, v5, v6] ∧ RdA P w m.2.2.1 vt ∧ RdE P w m.2.2.2 (.agg #[v3, v4, v5, v6])
theorem rdMem.keep {P : Nat → Prop} {w w' : World} {m : MemB} {cs : List Value} (hk : ∀ b, P b → ∀ n, w'.cell? ⟨b, n, none⟩ = w.cell? ⟨b, n, none⟩) (h : rdMem P w m cs) : rdMem P w' m cs := by
  obtain ⟨vt, v3, v4, v5, v6, h1, h2, h3⟩ := h
  exact ⟨vt, v3, v4, v5, v6, h1, h2.keep hk, h3.keep hk⟩
theorem rdMem.imp {P Q : Nat → Prop} {w : World} {m : MemB} {cs : List Value} (hi : ∀ b, P b → Q b) (h : rdMem P w m cs) : rdMem Q w m cs := by
  obtain ⟨vt, v3, v4, v5, v6, h1, h2, h3⟩ := h
  exact ⟨vt, v3, v4, v5, v6, h1, h2.imp hi, h3.imp hi⟩
theorem Tryz.infoMem : (Tryz.prog.info? 66).map (fun i => (i.zero, i.size, i.bytes)) = some (some (.agg #[.string ByteArray.empty, .int .i64 0, .slice none 0 0, .int .i64 0, .string ByteArray.empty, .string ByteArray.empty, .slice none 0 0]), 7, 112) := by kernel_rfl
def kdMem : Kd MemB where
  sty := 51
  ty := 66
  z := .agg #[.string ByteArray.empty, .int .i64 0, .slice none 0 0, .int .i64 0, .string ByteArray.empty, .string ByteArray.empty, .slice none 0 0]
  size := 7
  bytes := 112
  und := Tryz.underlying51
  info := info_parts Tryz.infoMem
  zs := rfl
  pos := by decide
  small := by decide
  rd := rdMem
  len := fun ⟨_, _, _, _, _, h, _⟩ => by rw [h]; rfl
  ones := fun {P w x cs} ⟨vt, v3, v4, v5, v6, h, h1, h2⟩ u hu => by
    obtain ⟨q, c, h3, _⟩ := h2.form
    unfold exv at h3
    simp only [Value.agg.injEq, Array.mk.injEq, List.cons.injEq, and_true] at h3
    obtain ⟨rfl, rfl, rfl, rfl⟩ := h3
    obtain ⟨q2, c2, rfl, _⟩ := h1
    rw [h] at hu
    simp only [List.mem_cons, List.not_mem_nil, or_false] at hu
    rcases hu with rfl | rfl | rfl | rfl | rfl | rfl | rfl <;> rfl
  keep := fun hk h => rdMem.keep hk h
  imp := fun hi h => rdMem.imp hi h
def VM (B : Nat) (m : MemB) (w : World) (v : Value) : Prop := ∃ cs, v = .agg cs.toArray ∧ rdMem (Bt B w.heap.size) w m cs
theorem VM.kp {B g : Nat} {m : MemB} {w w' : World} {v : Value} (h : VM B m w v) (hk : Kp g w w') (hg : g < B) : VM B m w' v := by
  obtain ⟨cs, h1, h2⟩ := h
  exact ⟨cs, h1, (h2.keep fun b hb n => World.cell?_of_block (hk.2.2.2.2 b hb.2 (by have := hb.1; omega))).imp fun b hb => ⟨hb.1, Nat.lt_of_lt_of_le hb.2 hk.2.2.2.1⟩⟩
theorem VM.low {B B' : Nat} {m : MemB} {w : World} {v : Value} (h : VM B m w v) (hb : B' ≤ B) : VM B' m w v := by
  obtain ⟨cs, h1, h2⟩ := h
  exact ⟨cs, h1, h2.imp fun b hb' => ⟨Nat.le_trans hb hb'.1, hb'.2⟩⟩
theorem RdA.kp {B g : Nat} {l : List AlB} {w w' : World} {v : Value} (h : RdA (Bt B w.heap.size) w l v) (hk : Kp g w w') (hg : g < B) : RdA (Bt B w'.heap.size) w' l v :=
  (h.keep fun b hb n => World.cell?_of_block (hk.2.2.2.2 b hb.2 (by have := hb.1; omega))).imp fun b hb => ⟨hb.1, Nat.lt_of_lt_of_le hb.2 hk.2.2.2.1⟩
theorem RdA.low {B B' N : Nat} {l : List AlB} {w : World} {v : Value} (h : RdA (Bt B N) w l v) (hb : B' ≤ B) : RdA (Bt B' N) w l v := h.imp fun b hb' => ⟨Nat.le_trans hb hb'.1, hb'.2⟩
theorem Arr.setM {w : World} {t : TypeId} {g : Nat} {y0 y1 y2 y3 y4 y5 y6 : Value} (h : Arr w t g [y0, y1, y2, y3, y4, y5, y6]) (x0 x1 x2 x3 x4 x5 x6 : Value) : Arr (((((((w.setCell ⟨g, 0, none⟩ x0).setCell ⟨g, 1, none⟩ x1).setCell ⟨g, 2, none⟩ x2).setCell ⟨g, 3, none⟩ x3).setCell ⟨g, 4, none⟩ x4).setCell ⟨g, 5, none⟩ x5).setCell ⟨g, 6, none⟩ x6) t g [x0, x1, x2, x3, x4, x5, x6] := (((((((h.set 0 x0).set 1 x1).set 2 x2).set 3 x3).set 4 x4).set 5 x5).set 6 x6)
theorem kp_setM (w : World) (g : Nat) (x0 x1 x2 x3 x4 x5 x6 : Value) : Kp g w (((((((w.setCell ⟨g, 0, none⟩ x0).setCell ⟨g, 1, none⟩ x1).setCell ⟨g, 2, none⟩ x2).setCell ⟨g, 3, none⟩ x3).setCell ⟨g, 4, none⟩ x4).setCell ⟨g, 5, none⟩ x5).setCell ⟨g, 6, none⟩ x6) := ((((((((Kp.of (pb := g) (Below.refl _ _)).set 0 x0).set 1 x1).set 2 x2).set 3 x3).set 4 x4).set 5 x5).set 6 x6)
theorem resM {fn : Func} {p : Tmp} (h : fn.results = #[.cell p 66]) {tmps : Array Value} {w : World} {g : Nat} {x0 x1 x2 x3 x4 x5 x6 : Value} (hA : Arr w 66 g [x0, x1, x2, x3, x4, x5, x6]) (hp : tmps.getD p undef = .pointer (some ⟨g, 0, none⟩)) :
    (results fn tmps).run Tryz.prog w = .ok (.agg #[x0, x1, x2, x3, x4, x5, x6]) w :=
  results_cell_row h tmps w g 66 #[x0, x1, x2, x3, x4, x5, x6] (0, 0) _ hp hA Tryz.underlying66 rfl (by kernel_rfl)
theorem kp_set43 (w : World) (g : Nat) (x0 x1 x2 x3 : Value) : Kp g w ((((w.setCell ⟨g, 3, none⟩ x0).setCell ⟨g, 4, none⟩ x1).setCell ⟨g, 5, none⟩ x2).setCell ⟨g, 6, none⟩ x3) := ((((Kp.of (pb := g) (Below.refl _ _)).set 3 x0).set 4 x1).set 5 x2).set 6 x3
end Go.Proofs.YtdnmgemjhpkekaaGreatDoor
/-
  Definitions in memory (of XPaZ).
-/
namespace Go.Proofs.YtdnmgemjhpkekaaGreatDoor
open Go.ChangeShapes Go.WideShapes Go.ChangeAt Go.RowKit
set_option linter.unusedVariables false

/-- v is a slice that reads as the elements. -/
def RdK {α : Type} (K : Kd α) (P : Nat → Prop) (w : World) (xs : List α) (v : Value) : Prop := ∃ q c, v = .slice q xs.length c ∧ xs.length ≤ c ∧ (0 < xs.length → ∃ b o, q = some ⟨b, o, none⟩ ∧ P b ∧ ∃ cs, CellsK K P w xs cs ∧ ∀ j u, cs[j]? = some u → w.cell? ⟨b, o + j, none⟩ = some u)
section
variable {α : Type} {K : Kd α}
theorem RdK.keep {P : Nat → Prop} {w w' : World} {xs : List α} {v : Value} (hk : ∀ b, P b → ∀ n, w'.cell? ⟨b, n, none⟩ = w.cell? ⟨b, n, none⟩) (h : RdK K P w xs v) : RdK K P w' xs v := by
  obtain ⟨q, c, h1, h2, h3⟩ := h
  refine ⟨q, c, h1, h2, fun h0 => ?_⟩
  obtain ⟨b, o, h4, h5, cs, h6, h7⟩ := h3 h0
  exact ⟨b, o, h4, h5, cs, h6.keep hk, fun j u hj => (hk b h5 _).trans (h7 j u hj)⟩
theorem RdK.imp {P Q : Nat → Prop} {w : World} {xs : List α} {v : Value} (hi : ∀ b, P b → Q b) (h : RdK K P w xs v) : RdK K Q w xs v := by
  obtain ⟨q, c, h1, h2, h3⟩ := h
  refine ⟨q, c, h1, h2, fun h0 => ?_⟩
  obtain ⟨b, o, h4, h5, cs, h6, h7⟩ := h3 h0
  exact ⟨b, o, h4, hi b h5, cs, h6.imp hi, h7⟩
theorem RdK.nil (K : Kd α) (P : Nat → Prop) (w : World) : RdK K P w [] (.slice none 0 0) := ⟨none, 0, rfl, Nat.le_refl _, fun h => absurd h (Nat.lt_irrefl _)⟩
theorem PRow.rdK {base : Nat} {X : Nat → Prop} {w : World} {v : Value} {xs : List α} (h : PRow K base X w v xs) : RdK K (Bt base w.heap.size) w xs v := by
  obtain ⟨q, c, rfl⟩ := h.form
  obtain ⟨_, hc, hk⟩ := h.cells
  refine ⟨q, c, rfl, hc, fun h0 => ?_⟩
  obtain ⟨g, rfl, h1, h2, _, cs, h3, h4⟩ := hk h0
  exact ⟨g, 0, rfl, ⟨h1, h2⟩, cs, h3.imp fun b hb => ⟨hb.1, hb.2.1⟩, fun j u hj => by rw [Nat.zero_add]; exact h4 j u hj⟩
theorem RdK.kp {B g : Nat} {xs : List α} {w w' : World} {v : Value} (h : RdK K (Bt B w.heap.size) w xs v) (hk : Kp g w w') (hg : g < B) : RdK K (Bt B w'.heap.size) w' xs v :=
  (h.keep fun b hb n => World.cell?_of_block (hk.2.2.2.2 b hb.2 (by have := hb.1; omega))).imp fun b hb => ⟨hb.1, Nat.lt_of_lt_of_le hb.2 hk.2.2.2.1⟩
end
def rdDef (P : Nat → Prop) (w : World) (d : DefB) (cs : List Value) : Prop := ∃ v, cs = [.string (bstr d.1), v] ∧ RdK kdMem P w d.2 v
theorem Tryz.infoDef : (Tryz.prog.info? 53).map (fun i => (i.zero, i.size, i.bytes)) = some (some (.agg #[.string ByteArray.empty, .slice none 0 0]), 2, 40) := by kernel_rfl
def kdDef : Kd DefB where
  sty := 24
  ty := 53
  z := .agg #[.string ByteArray.empty, .slice none 0 0]
  size := 2
  bytes := 40
  und := Tryz.underlying24
  info := info_parts Tryz.infoDef
  zs := rfl
  pos := by decide
  small := by decide
  rd := rdDef
  len := fun ⟨_, h, _⟩ => by rw [h]; rfl
  ones := fun {P w x cs} ⟨v, h, h1⟩ u hu => by
    obtain ⟨q, c, rfl, _⟩ := h1
    rw [h] at hu
    simp only [List.mem_cons, List.not_mem_nil, or_false] at hu
    rcases hu with rfl | rfl <;> rfl
  keep := fun hk ⟨v, h, h1⟩ => ⟨v, h, h1.keep hk⟩
  imp := fun hi ⟨v, h, h1⟩ => ⟨v, h, h1.imp hi⟩
def VD (B : Nat) (d : DefB) (w : World) (v : Value) : Prop := ∃ u, v = .agg #[.string (bstr d.1), u] ∧ RdK kdMem (Bt B w.heap.size) w d.2 u
theorem VD.kp {B g : Nat} {d : DefB} {w w' : World} {v : Value} (h : VD B d w v) (hk : Kp g w w') (hg : g < B) : VD B d w' v := by
  obtain ⟨u, h1, h2⟩ := h
  exact ⟨u, h1, h2.kp hk hg⟩
theorem VD.low {B B' : Nat} {d : DefB} {w : World} {v : Value} (h : VD B d w v) (hb : B' ≤ B) : VD B' d w v := by
  obtain ⟨u, h1, h2⟩ := h
  exact ⟨u, h1, h2.imp fun b hb' => ⟨Nat.le_trans hb hb'.1, hb'.2⟩⟩
theorem VD.form {B : Nat} {n : List UInt8} {l : List MemB} {w : World} {v : Value} (h : VD B (n, l) w v) : ∃ q c, v = .agg #[.string (bstr n), .slice q l.length c] ∧ rdDef (Bt B w.heap.size) w (n, l) [.string (bstr n), .slice q l.length c] := by
  obtain ⟨u, rfl, h2⟩ := h
  obtain ⟨q, c, rfl, h3⟩ := h2
  exact ⟨q, c, rfl, _, rfl, q, c, rfl, h3⟩
theorem VM.form {B : Nat} {n : List UInt8} {k : Int} {l : List AlB} {mk : Int} {mv mn : List UInt8} {ms : List Ex} {w : World} {v : Value} (h : VM B (n, k, l, .mk mk mv mn ms) w v) :
    ∃ q5 c5 q4 c4, v = .agg #[.string (bstr n), .int .i64 k, .slice q5 l.length c5, .int .i64 mk, .string (bstr mv), .string (bstr mn), .slice q4 ms.length c4] ∧ rdMem (Bt B w.heap.size) w (n, k, l, .mk mk mv mn ms) [.string (bstr n), .int .i64 k, .slice q5 l.length c5, .int .i64 mk, .string (bstr mv), .string (bstr mn), .slice q4 ms.length c4] := by
  obtain ⟨cs, rfl, vt, v3, v4, v5, v6, rfl, ra, re⟩ := h
  obtain ⟨q4, c4, h3, _, _⟩ := re.form
  unfold exv at h3
  dsimp only [Ex.kind, Ex.via, Ex.nm, Ex.kids] at h3
  simp only [Value.agg.injEq, Array.mk.injEq, List.cons.injEq, and_true] at h3
  obtain ⟨rfl, rfl, rfl, rfl⟩ := h3
  have ra2 := ra
  obtain ⟨q5, c5, rfl, _⟩ := ra
  exact ⟨q5, c5, q4, c4, rfl, _, _, _, _, _, rfl, ra2, re⟩
theorem Arr.setD {w : World} {t : TypeId} {g : Nat} {y0 y1 : Value} (h : Arr w t g [y0, y1]) (x0 x1 : Value) : Arr ((w.setCell ⟨g, 0, none⟩ x0).setCell ⟨g, 1, none⟩ x1) t g [x0, x1] := ((h.set 0 x0).set 1 x1)
theorem kp_setD (w : World) (g : Nat) (x0 x1 : Value) : Kp g w ((w.setCell ⟨g, 0, none⟩ x0).setCell ⟨g, 1, none⟩ x1) := (((Kp.of (pb := g) (Below.refl _ _)).set 0 x0).set 1 x1)
theorem resD {fn : Func} {p : Tmp} (h : fn.results = #[.cell p 53]) {tmps : Array Value} {w : World} {g : Nat} {x0 x1 : Value} (hA : Arr w 53 g [x0, x1]) (hp : tmps.getD p undef = .pointer (some ⟨g, 0, none⟩)) :
    (results fn tmps).run Tryz.prog w = .ok (.agg #[x0, x1]) w :=
  results_cell_row h tmps w g 53 #[x0, x1] (0, 0) _ hp hA Tryz.underlying53 rfl (by kernel_rfl)
end Go.Proofs.YtdnmgemjhpkekaaGreatDoor
/-
  Schemas in memory (of XPbA).
-/
namespace Go.Proofs.YtdnmgemjhpkekaaGreatDoor
open Go.ChangeShapes Go.WideShapes Go.ChangeAt Go.RowKit
set_option linter.unusedVariables false

def VS (B : Nat) (l : List DefB) (w : World) (v : Value) : Prop := ∃ u, v = .agg #[u] ∧ RdK kdDef (Bt B w.heap.size) w l u
theorem VS.kp {B g : Nat} {l : List DefB} {w w' : World} {v : Value} (h : VS B l w v) (hk : Kp g w w') (hg : g < B) : VS B l w' v := by
  obtain ⟨u, h1, h2⟩ := h
  exact ⟨u, h1, h2.kp hk hg⟩
theorem VS.low {B B' : Nat} {l : List DefB} {w : World} {v : Value} (h : VS B l w v) (hb : B' ≤ B) : VS B' l w v := by
  obtain ⟨u, h1, h2⟩ := h
  exact ⟨u, h1, h2.imp fun b hb' => ⟨Nat.le_trans hb hb'.1, hb'.2⟩⟩
theorem VS.form {B : Nat} {l : List DefB} {w : World} {v : Value} (h : VS B l w v) : ∃ q c, v = .agg #[.slice q l.length c] ∧ RdK kdDef (Bt B w.heap.size) w l (.slice q l.length c) := by
  obtain ⟨u, rfl, h2⟩ := h
  obtain ⟨q, c, rfl, h3⟩ := h2
  exact ⟨q, c, rfl, q, c, rfl, h3⟩
theorem Arr.setS {w : World} {t : TypeId} {g : Nat} {y0 : Value} (h : Arr w t g [y0]) (x0 : Value) : Arr (w.setCell ⟨g, 0, none⟩ x0) t g [x0] := (h.set 0 x0)
theorem kp_setS (w : World) (g : Nat) (x0 : Value) : Kp g w (w.setCell ⟨g, 0, none⟩ x0) := ((Kp.of (pb := g) (Below.refl _ _)).set 0 x0)
theorem resS {fn : Func} {p : Tmp} (h : fn.results = #[.cell p 26]) {tmps : Array Value} {w : World} {g : Nat} {x0 : Value} (hA : Arr w 26 g [x0]) (hp : tmps.getD p undef = .pointer (some ⟨g, 0, none⟩)) :
    (results fn tmps).run Tryz.prog w = .ok (.agg #[x0]) w :=
  results_cell_row h tmps w g 26 #[x0] (0, 0) _ hp hA Tryz.underlying26 rfl (by kernel_rfl)
end Go.Proofs.YtdnmgemjhpkekaaGreatDoor
/-
  The reader of the program as functions on data; its state in memory.
-/
namespace Go.Proofs.YtdnmgemjhpkekaaGreatDoor
open Go.ChangeShapes Go.WideShapes Go.ChangeAt Go.RowKit
open errAs (ErrT)
set_option linter.unusedVariables false

/-- The reader's state: the next offset, or the first error with its offset. -/
inductive St where
  | go (o : Nat)
  | er (c a : Nat)
def chkC (lo hi x : Nat) : Nat := if hi < x then 15 else if x < lo then 6 else 0
def chkM (x : Nat) : Nat := if x ≠ 1 ∧ x ≠ 2 then 6 else 0
def kindC (d lv x : Nat) : Nat := if x < 1 ∨ 5 < x then 6 else if d = 0 then 7 else if (x = 1 ∨ x = 2) ∧ 32 ≤ lv then 15 else 0
def numC (b : List UInt8) (chk : Nat → Nat) : St → Nat × St
  | .er c a => (0, .er c a)
  | .go o => if (num (b.drop o)).2.2 ≠ 0 then (0, .er (num (b.drop o)).2.2 o) else if chk (num (b.drop o)).1 ≠ 0 then (0, .er (chk (num (b.drop o)).1) o) else ((num (b.drop o)).1, .go (o + (num (b.drop o)).2.1))
def nameC (b : List UInt8) (emp : Bool) : St → List UInt8 × St
  | .er c a => ([], .er c a)
  | .go o => if (partP 64 (b.drop o)).2.2 ≠ 0 then ([], .er (partP 64 (b.drop o)).2.2 o)
    else if emp = true ∧ (partP 64 (b.drop o)).1 = [] then ([], .go (o + (partP 64 (b.drop o)).2.1))
    else if isName (bstr (partP 64 (b.drop o)).1) = false then ([], .er 5 o)
    else ((partP 64 (b.drop o)).1, .go (o + (partP 64 (b.drop o)).2.1))
def loopC {α : Type} (f : St → Nat → α × St × Nat) : Nat → List α → St → Nat → List α × St × Nat
  | 0, acc, s, lv => (acc, s, lv)
  | n + 1, acc, s, lv => loopC f n (acc ++ [(f s lv).1]) (f s lv).2.1 (f s lv).2.2
def leafC (b : List UInt8) (k : Nat) (s : St) (lv : Nat) : Ex × St × Nat :=
  if k = 2 then (.mk 2 (nameC b false s).1 (nameC b false (nameC b false s).2).1 [], (nameC b false (nameC b false s).2).2, lv + 1)
  else (.mk 1 [] (nameC b false s).1 [], (nameC b false s).2, lv + 1)
def kidsC (b : List UInt8) (k : Nat) (s : St) : Nat × St := if k = 3 ∨ k = 4 then numC b (chkC 2 32) s else (if k = 5 then 2 else 0, s)
def bodyC (b : List UInt8) (f : St → Nat → Ex × St × Nat) (k : Nat) (s : St) (lv : Nat) : Ex × St × Nat :=
  if k = 1 ∨ k = 2 then leafC b k s lv
  else (.mk (k : Nat) [] [] (loopC f (kidsC b k s).1 [] (kidsC b k s).2 lv).1, (loopC f (kidsC b k s).1 [] (kidsC b k s).2 lv).2)
def partC (b : List UInt8) : Nat → St → Nat → Ex × St × Nat
  | 0, s, lv => (ex0, (numC b (kindC 0 lv) s).2, lv)
  | d + 1, s, lv => bodyC b (partC b d) (numC b (kindC (d + 1) lv) s).1 (numC b (kindC (d + 1) lv) s).2 lv
def allC (b : List UInt8) (s : St) (lv : Nat) : AlB × St × Nat := (((nameC b false s).1, (nameC b true (nameC b false s).2).1), (nameC b true (nameC b false s).2).2, lv)
def typesC (b : List UInt8) (s : St) (lv : Nat) : List AlB × St × Nat := loopC (allC b) (numC b (chkC 1 32) s).1 [] (numC b (chkC 1 32) s).2 lv
def memK (b n : List UInt8) (k : Nat) (s : St) (lv : Nat) : MemB × St × Nat :=
  if k = 1 then ((n, 1, (typesC b s lv).1, ex0), (typesC b s lv).2)
  else if k = 2 then ((n, 2, [], (partC b 16 s 0).1), (partC b 16 s 0).2)
  else ((n, (k : Nat), [], ex0), s, lv)
def memC (b : List UInt8) (s : St) (lv : Nat) : MemB × St × Nat := memK b (nameC b false s).1 (numC b chkM (nameC b false s).2).1 (numC b chkM (nameC b false s).2).2 lv
def defC (b : List UInt8) (s : St) (lv : Nat) : DefB × St × Nat :=
  (((nameC b false s).1, (loopC (memC b) (numC b (chkC 0 64) (nameC b false s).2).1 [] (numC b (chkC 0 64) (nameC b false s).2).2 lv).1), (loopC (memC b) (numC b (chkC 0 64) (nameC b false s).2).1 [] (numC b (chkC 0 64) (nameC b false s).2).2 lv).2)
def schC (b : List UInt8) (s : St) (lv : Nat) : List DefB × St × Nat := loopC (defC b) (numC b (chkC 0 64) s).1 [] (numC b (chkC 0 64) s).2 lv
def finC (b : List UInt8) : St → Nat × Nat
  | .er c a => (c, a)
  | .go o => if o < b.length then (16, o) else (0, 0)

/-! ### the same as what is read -/
/-- What a state with a value says as a result. -/
def asR {α : Type} (r : α × St × Nat) : Rs α := match r.2.1 with
  | .er c a => .bad c a
  | .go o => .ok r.1 o r.2.2
theorem numC_er {b : List UInt8} {chk : Nat → Nat} {c a : Nat} : numC b chk (.er c a) = (0, .er c a) := rfl
theorem nameC_er {b : List UInt8} {emp : Bool} {c a : Nat} : nameC b emp (.er c a) = ([], .er c a) := rfl
theorem numC_1 {b : List UInt8} {chk : Nat → Nat} {o : Nat} (h : (num (b.drop o)).2.2 ≠ 0) : numC b chk (.go o) = (0, .er (num (b.drop o)).2.2 o) := if_pos h
theorem numC_2 {b : List UInt8} {chk : Nat → Nat} {o : Nat} (h : ¬ (num (b.drop o)).2.2 ≠ 0) (h2 : chk (num (b.drop o)).1 ≠ 0) : numC b chk (.go o) = (0, .er (chk (num (b.drop o)).1) o) := (if_neg h).trans (if_pos h2)
theorem numC_3 {b : List UInt8} {chk : Nat → Nat} {o : Nat} (h : ¬ (num (b.drop o)).2.2 ≠ 0) (h2 : ¬ chk (num (b.drop o)).1 ≠ 0) : numC b chk (.go o) = ((num (b.drop o)).1, .go (o + (num (b.drop o)).2.1)) := (if_neg h).trans (if_neg h2)
theorem numC_bad {b : List UInt8} {chk : Nat → Nat} {s : St} {c a : Nat} (h : (numC b chk s).2 = .er c a) : (numC b chk s).1 = 0 := by
  cases s with
  | er c a => rfl
  | go o =>
    by_cases h1 : (num (b.drop o)).2.2 ≠ 0
    · rw [numC_1 h1]
    · by_cases h2 : chk (num (b.drop o)).1 ≠ 0
      · rw [numC_2 h1 h2]
      · rw [numC_3 h1 h2] at h; cases h
theorem numC_num {b : List UInt8} {lo hi o lv : Nat} : asR ((numC b (chkC lo hi) (.go o)).1, (numC b (chkC lo hi) (.go o)).2, lv) = numK b lo hi 15 o lv := by
  unfold numK
  by_cases h1 : (num (b.drop o)).2.2 ≠ 0
  · rw [numC_1 h1, if_pos h1]; rfl
  · rw [if_neg h1]
    by_cases h2 : hi < (num (b.drop o)).1
    · have e : chkC lo hi (num (b.drop o)).1 = 15 := by unfold chkC; rw [if_pos h2]
      rw [numC_2 h1 (by rw [e]; decide), e, if_pos h2]; rfl
    · rw [if_neg h2]
      by_cases h3 : (num (b.drop o)).1 < lo
      · have e : chkC lo hi (num (b.drop o)).1 = 6 := by unfold chkC; rw [if_neg h2, if_pos h3]
        rw [numC_2 h1 (by rw [e]; decide), e, if_pos h3]; rfl
      · have e : chkC lo hi (num (b.drop o)).1 = 0 := by unfold chkC; rw [if_neg h2, if_neg h3]
        rw [numC_3 h1 (by rw [e]; decide), if_neg h3]; rfl
theorem nameC_name {b : List UInt8} {emp : Bool} {o lv : Nat} : asR ((nameC b emp (.go o)).1, (nameC b emp (.go o)).2, lv) = nameR b emp o lv := by
  unfold nameC nameR
  by_cases h1 : (partP 64 (b.drop o)).2.2 ≠ 0
  · simp only [if_pos h1]; rfl
  · simp only [if_neg h1]
    by_cases h2 : emp = true ∧ (partP 64 (b.drop o)).1 = []
    · simp only [if_pos h2, if_pos (Or.inr h2 : isName (bstr (partP 64 (b.drop o)).1) = true ∨ emp = true ∧ (partP 64 (b.drop o)).1 = [])]
      show Rs.ok _ _ _ = _
      rw [h2.2]
    · simp only [if_neg h2]
      by_cases h3 : isName (bstr (partP 64 (b.drop o)).1) = false
      · rw [if_pos h3, if_neg (by rintro (h | h); rw [h3] at h; cases h; exact h2 h)]; rfl
      · rw [if_neg h3, if_pos (.inl (by simpa using h3))]; rfl
theorem asR_er {α : Type} {r : α × St × Nat} {c a : Nat} (h : r.2.1 = .er c a) : asR r = .bad c a := by unfold asR; rw [h]
theorem asR_go {α : Type} {r : α × St × Nat} {o : Nat} (h : r.2.1 = .go o) : asR r = .ok r.1 o r.2.2 := by unfold asR; rw [h]
/-- After an error nothing more is read. -/
def Stays {α : Type} (f : St → Nat → α × St × Nat) : Prop := ∀ c a lv, (f (.er c a) lv).2.1 = .er c a
theorem loop_er {α : Type} {f : St → Nat → α × St × Nat} (hf : Stays f) : ∀ (n : Nat) (acc : List α) (c a lv : Nat), (loopC f n acc (.er c a) lv).2.1 = .er c a
  | 0, _, _, _, _ => rfl
  | n + 1, acc, c, a, lv => by rw [loopC, hf]; exact loop_er hf n _ c a _
/-- What follows a result. -/
theorem asR_then {α β : Type} (r : α × St × Nat) (g : α → St → Nat → β × St × Nat) (hg : ∀ x c a lv, (g x (.er c a) lv).2.1 = .er c a) : asR (g r.1 r.2.1 r.2.2) = (asR r).then fun x o lv => asR (g x (.go o) lv) := by
  obtain ⟨x, s, lv⟩ := r
  cases s with
  | er c a => rw [asR_er (hg x c a lv)]; rfl
  | go o => rfl
theorem loop_many {α : Type} {f : St → Nat → α × St × Nat} {g : Nat → Nat → Rs α} (hf : Stays f) (hg : ∀ o lv, asR (f (.go o) lv) = g o lv) : ∀ (n : Nat) (acc : List α) (o lv : Nat), asR (loopC f n acc (.go o) lv) = (manyR g n o lv).then fun xs o1 l1 => .ok (acc ++ xs) o1 l1
  | 0, acc, o, lv => by show Rs.ok acc o lv = Rs.ok (acc ++ []) o lv; rw [List.append_nil]
  | n + 1, acc, o, lv => by
    rw [loopC, manyR, asR_then (f (.go o) lv) (fun x s l => loopC f n (acc ++ [x]) s l) (fun x c a l => loop_er hf n _ c a l), hg]
    cases g o lv with
    | bad c a => rfl
    | ok x o1 l1 =>
      show asR (loopC f n (acc ++ [x]) (.go o1) l1) = _
      rw [loop_many hf hg n (acc ++ [x]) o1 l1]
      show _ = Rs.then (Rs.then (manyR g n o1 l1) _) _
      cases manyR g n o1 l1 with
      | bad c a => rfl
      | ok xs o2 l2 => show Rs.ok _ _ _ = Rs.ok _ _ _; rw [List.append_assoc]; rfl
theorem leaf_er (b : List UInt8) (k : Nat) (c a lv : Nat) : (leafC b k (.er c a) lv).2.1 = .er c a := by unfold leafC; split <;> rfl
theorem numC_stay {b : List UInt8} {chk : Nat → Nat} (c a : Nat) : (numC b chk (.er c a)).2 = .er c a := rfl
theorem part_er (b : List UInt8) : ∀ d, Stays (partC b d)
  | 0, c, a, lv => rfl
  | d + 1, c, a, lv => rfl
theorem all_er (b : List UInt8) : Stays (allC b) := fun c a lv => rfl
theorem types_er (b : List UInt8) : Stays (typesC b) := fun c a lv => rfl
theorem mem_er (b : List UInt8) : Stays (memC b) := fun c a lv => rfl
theorem def_er (b : List UInt8) : Stays (defC b) := fun c a lv => rfl
theorem sch_er (b : List UInt8) : Stays (schC b) := fun c a lv => rfl
theorem leaf_as (b : List UInt8) (k : Nat) (o lv : Nat) : asR (leafC b k (.go o) lv) = leafR b k o lv := by
  unfold leafC leafR
  split
  · rw [← nameC_name]
    generalize nameC b false (.go o) = r
    obtain ⟨v, s⟩ := r
    cases s with
    | er c a => rfl
    | go o1 =>
      show _ = Rs.then (nameR b false o1 lv) _
      rw [← nameC_name]
      generalize nameC b false (.go o1) = r2
      obtain ⟨n, s2⟩ := r2
      cases s2 <;> rfl
  · rw [← nameC_name]
    generalize nameC b false (.go o) = r
    obtain ⟨v, s⟩ := r
    cases s <;> rfl
theorem kids_as (b : List UInt8) (k : Nat) (hk : 3 ≤ k) (o lv : Nat) (h5 : k ≤ 5) : asR ((kidsC b k (.go o)).1, (kidsC b k (.go o)).2, lv) = kidsR b k o lv := by
  unfold kidsC kidsR
  by_cases h : k < 5
  · rw [if_pos (by omega), if_pos h]; exact numC_num
  · rw [if_neg (by omega), if_neg h, if_pos (by omega)]; rfl
theorem part_as (b : List UInt8) : ∀ d o lv, asR (partC b d (.go o) lv) = readE b d o lv
  | 0, o, lv => by
    unfold partC readE numK
    by_cases h1 : (num (b.drop o)).2.2 ≠ 0
    · rw [numC_1 h1, if_pos h1]; rfl
    · rw [if_neg h1]
      by_cases h2 : 5 < (num (b.drop o)).1
      · have e : kindC 0 lv (num (b.drop o)).1 = 6 := by unfold kindC; rw [if_pos (.inr h2)]
        rw [numC_2 h1 (by rw [e]; decide), e, if_pos h2]; rfl
      · rw [if_neg h2]
        by_cases h3 : (num (b.drop o)).1 < 1
        · have e : kindC 0 lv (num (b.drop o)).1 = 6 := by unfold kindC; rw [if_pos (.inl h3)]
          rw [numC_2 h1 (by rw [e]; decide), e, if_pos h3]; rfl
        · have e : kindC 0 lv (num (b.drop o)).1 = 7 := by unfold kindC; rw [if_neg (by omega), if_pos rfl]
          rw [numC_2 h1 (by rw [e]; decide), e, if_neg h3]; rfl
  | d + 1, o, lv => by
    unfold partC readE numK
    by_cases h1 : (num (b.drop o)).2.2 ≠ 0
    · rw [numC_1 h1, if_pos h1]; rfl
    · rw [if_neg h1]
      by_cases h2 : 5 < (num (b.drop o)).1
      · have e : kindC (d + 1) lv (num (b.drop o)).1 = 6 := by unfold kindC; rw [if_pos (.inr h2)]
        rw [numC_2 h1 (by rw [e]; decide), e, if_pos h2]; rfl
      · rw [if_neg h2]
        by_cases h3 : (num (b.drop o)).1 < 1
        · have e : kindC (d + 1) lv (num (b.drop o)).1 = 6 := by unfold kindC; rw [if_pos (.inl h3)]
          rw [numC_2 h1 (by rw [e]; decide), e, if_pos h3]; rfl
        · rw [if_neg h3]
          show _ = (if (num (b.drop o)).1 < 3 then _ else _)
          by_cases h4 : (num (b.drop o)).1 < 3
          · rw [if_pos h4]
            by_cases h5 : 32 ≤ lv
            · have e : kindC (d + 1) lv (num (b.drop o)).1 = 15 := by unfold kindC; rw [if_neg (by omega), if_neg (by omega), if_pos (by omega)]
              rw [numC_2 h1 (by rw [e]; decide), e, if_pos h5]; rfl
            · have e : kindC (d + 1) lv (num (b.drop o)).1 = 0 := by unfold kindC; rw [if_neg (by omega), if_neg (by omega), if_neg (by omega)]
              rw [numC_3 h1 (by rw [e]; decide), if_neg h5]
              show asR (bodyC b (partC b d) (num (b.drop o)).1 (.go (o + (num (b.drop o)).2.1)) lv) = _
              unfold bodyC
              rw [if_pos (by omega)]
              exact leaf_as _ _ _ _
          · rw [if_neg h4]
            have e : kindC (d + 1) lv (num (b.drop o)).1 = 0 := by unfold kindC; rw [if_neg (by omega), if_neg (by omega), if_neg (by omega)]
            rw [numC_3 h1 (by rw [e]; decide)]
            show asR (bodyC b (partC b d) (num (b.drop o)).1 (.go (o + (num (b.drop o)).2.1)) lv) = _
            unfold bodyC
            rw [if_neg (by omega), ← kids_as b _ (by omega) _ _ (by omega)]
            generalize kidsC b (num (b.drop o)).1 (.go (o + (num (b.drop o)).2.1)) = r
            obtain ⟨n, s⟩ := r
            cases s with
            | er c a => exact asR_er (loop_er (part_er b d) n [] c a lv)
            | go o1 =>
              show asR (Ex.mk _ [] [] (loopC (partC b d) n [] (.go o1) lv).1, (loopC (partC b d) n [] (.go o1) lv).2) = Rs.then (manyR (readE b d) n o1 lv) _
              have h := loop_many (part_er b d) (part_as b d) n [] o1 lv
              generalize loopC (partC b d) n [] (.go o1) lv = L at h ⊢
              obtain ⟨xs, s, l⟩ := L
              cases hm : manyR (readE b d) n o1 lv with
              | bad c a =>
                rw [hm] at h
                cases s with
                | er c a => cases h; rfl
                | go o => cases h
              | ok ys o2 l2 =>
                rw [hm] at h
                cases s with
                | er c a => cases h
                | go o => cases h; rfl
end Go.Proofs.YtdnmgemjhpkekaaGreatDoor
/-
  One element of a row in memory (of XPcN).
-/
namespace Go.Proofs.YtdnmgemjhpkekaaGreatDoor
open Go.ChangeShapes Go.WideShapes Go.ChangeAt Go.RowKit
set_option linter.unusedVariables false

theorem all_snoc {α : Type} {p : α → Prop} {l : List α} {x : α} (h : ∀ y ∈ l, p y) (hx : p x) : ∀ y ∈ l ++ [x], p y := by
  intro y hy
  rcases List.mem_append.1 hy with hy | hy
  · exact h y hy
  · rw [List.mem_singleton] at hy
    exact hy ▸ hx
/-- One element of a row. -/
theorem CellsK.at {α : Type} {K : Kd α} {P : Nat → Prop} {w : World} : ∀ {xs : List α} {cs : List Value} {i : Nat} {x : α}, CellsK K P w xs cs → xs[i]? = some x → ∃ a, K.rd P w x a ∧ ∀ j u, a[j]? = some u → cs[i * K.size + j]? = some u
  | [], _, i, x, _, hx => by simp at hx
  | y :: r, _, 0, x, ⟨a, b, rfl, h1, h2⟩, hx => by
    cases hx
    refine ⟨a, h1, fun j u hj => ?_⟩
    have hl : j < a.length := (List.getElem?_eq_some_iff.1 hj).1
    rw [Nat.zero_mul, Nat.zero_add, List.getElem?_append_left hl]
    exact hj
  | y :: r, _, i + 1, x, ⟨a, b, rfl, h1, h2⟩, hx => by
    obtain ⟨a2, h3, h4⟩ := CellsK.at h2 (by simpa using hx)
    refine ⟨a2, h3, fun j u hj => ?_⟩
    have hl := K.len h1
    rw [List.getElem?_append_right (by rw [hl, Nat.succ_mul]; omega), hl, show (i + 1) * K.size + j - K.size = i * K.size + j by rw [Nat.succ_mul]; omega]
    exact h4 j u hj
theorem RdK.at {α : Type} {K : Kd α} {P : Nat → Prop} {w : World} {xs : List α} {q : Option Addr} {n c i : Nat} {x : α} (h : RdK K P w xs (.slice q n c)) (hx : xs[i]? = some x) : ∃ b o a, q = some ⟨b, o, none⟩ ∧ P b ∧ K.rd P w x a ∧ ∀ j u, a[j]? = some u → w.cell? ⟨b, o + i * K.size + j, none⟩ = some u := by
  obtain ⟨q', c', e, _, h3⟩ := h
  simp only [Value.slice.injEq] at e
  obtain ⟨rfl, _, rfl⟩ := e
  have hl : i < xs.length := (List.getElem?_eq_some_iff.1 hx).1
  obtain ⟨b, o, rfl, hb, cs, h4, h5⟩ := h3 (by omega)
  obtain ⟨a, h6, h7⟩ := h4.at hx
  exact ⟨b, o, a, rfl, hb, h6, fun j u hj => by rw [Nat.add_assoc]; exact h5 _ _ (h7 j u hj)⟩
mutual
theorem okE_le {M N : Nat} (h : M ≤ N) : ∀ e : Ex, okE M e → okE N e
  | .mk k v n ks, he => by
    rw [okE] at he ⊢
    exact ⟨Nat.le_trans he.1 h, Nat.le_trans he.2.1 h, okL_le h ks he.2.2⟩
theorem okL_le {M N : Nat} (h : M ≤ N) : ∀ l : List Ex, okL M l → okL N l
  | [], he => by rw [okL]; trivial
  | e :: r, he => by
    rw [okL] at he ⊢
    exact ⟨okE_le h e he.1, okL_le h r he.2⟩
end
end Go.Proofs.YtdnmgemjhpkekaaGreatDoor
/-
  One of the types in a value.
-/
namespace Go.Proofs.YtdnmgemjhpkekaaGreatDoor
open Go.ChangeShapes Go.WideShapes Go.ChangeAt Go.RowKit
set_option linter.unusedVariables false

theorem als_at : ∀ (l : List AlB) (i : Nat), i < l.length → (als l)[i * 2]? = some (.string (bstr (l.getD i ([], [])).1)) ∧ (als l)[i * 2 + 1]? = some (.string (bstr (l.getD i ([], [])).2))
  | [], i, h => by simp at h
  | a :: r, 0, _ => ⟨rfl, rfl⟩
  | a :: r, i + 1, h => by
    have ih := als_at r i (by simpa using h)
    have e : als (a :: r) = alv a ++ als r := rfl
    rw [e, List.getElem?_append_right (by simp [alv]; omega), List.getElem?_append_right (by simp [alv]; omega)]
    simp only [alv, List.length_cons, List.length_nil, List.getD_cons_succ]
    rw [show (i + 1) * 2 - (0 + 1 + 1) = i * 2 by omega, show (i + 1) * 2 + 1 - (0 + 1 + 1) = i * 2 + 1 by omega]
    exact ih
theorem RdA.at {P : Nat → Prop} {w : World} {l : List AlB} {q : Option Addr} {n c : Nat} (h : RdA P w l (.slice q n c)) {i : Nat} (hi : i < l.length) : ∃ b o, q = some ⟨b, o, none⟩ ∧ P b ∧ w.cell? ⟨b, o + i * 2, none⟩ = some (.string (bstr (l.getD i ([], [])).1)) ∧ w.cell? ⟨b, o + i * 2 + 1, none⟩ = some (.string (bstr (l.getD i ([], [])).2)) := by
  obtain ⟨q', c', e, _, h3⟩ := h
  simp only [Value.slice.injEq] at e
  obtain ⟨rfl, _, rfl⟩ := e
  obtain ⟨b, o, rfl, hb, hx⟩ := h3 (by omega)
  have ha := als_at l i hi
  exact ⟨b, o, rfl, hb, hx _ _ ha.1, hx _ _ ha.2⟩
end Go.Proofs.YtdnmgemjhpkekaaGreatDoor
/-
  cmp.Compare and cmp.Or of ints.
-/
namespace Go.Proofs.YtdnmgemjhpkekaaGreatDoor
open Go.ChangeShapes Go.WideShapes Go.ChangeAt Go.RowKit
set_option linter.unusedVariables false

def cmpI (a b : Int) : Int := if a < b then -1 else if b < a then 1 else 0
set_option maxRecDepth 100000 in
theorem isNaN_any (x : Int) (w : World) : Calls Tryz.prog 127 #[.int .i64 x] w fun r w' => r = .returned (.bool false) ∧ w = w' := by
  go_enter Tryz.func127, Tryz.ntmps127
  go_wp2_with fail
  go_ret
  exact ⟨ret_b (by simp), rfl⟩
set_option maxRecDepth 100000 in
theorem cmpInt_any (a b : Int) (w : World) : Calls Tryz.prog 120 #[.int .i64 a, .int .i64 b] w fun r w' => r = .returned (.int .i64 (cmpI a b)) ∧ w = w' := by
  have HA := Lib.hid (fun W => isNaN_any a W)
  have HB := Lib.hid (fun W => isNaN_any b W)
  by_cases h1 : a < b
  · have H : Hid (cmpI a b = -1) := if_pos h1
    go_enter Tryz.func120, Tryz.ntmps120
    go_wp2_with fail
    refine (HA.out _).mono ?_
    rintro r w2 ⟨rfl, hw⟩
    subst hw
    go_wp2_with fail
    refine (HB.out _).mono ?_
    rintro r w2 ⟨rfl, hw⟩
    subst hw
    go_wp2_with fail
    go_ret
    exact ⟨by rw [H.out]; rfl, rfl⟩
  · by_cases h2 : b < a
    · have H : Hid (cmpI a b = 1) := by show _ = _; unfold cmpI; rw [if_neg h1, if_pos h2]
      go_enter Tryz.func120, Tryz.ntmps120
      go_wp2_with fail
      refine (HA.out _).mono ?_
      rintro r w2 ⟨rfl, hw⟩
      subst hw
      go_wp2_with fail
      refine (HB.out _).mono ?_
      rintro r w2 ⟨rfl, hw⟩
      subst hw
      go_wp2_with fail
      go_ret
      exact ⟨by rw [H.out]; rfl, rfl⟩
    · have H : Hid (cmpI a b = 0) := by show _ = _; unfold cmpI; rw [if_neg h1, if_neg h2]
      go_enter Tryz.func120, Tryz.ntmps120
      go_wp2_with fail
      refine (HA.out _).mono ?_
      rintro r w2 ⟨rfl, hw⟩
      subst hw
      go_wp2_with fail
      refine (HB.out _).mono ?_
      rintro r w2 ⟨rfl, hw⟩
      subst hw
      go_wp2_with fail
      go_ret
      exact ⟨by rw [H.out]; rfl, rfl⟩
/-- The first that is not zero. -/
def orL : List Int → Int
  | [] => 0
  | x :: r => if x = 0 then orL r else x
theorem orL_drop : ∀ {l : List Int} {i : Nat}, (∀ j, j < i → l.getD j 0 = 0) → orL l = orL (l.drop i)
  | l, 0, _ => rfl
  | [], i + 1, _ => rfl
  | x :: r, i + 1, h => by
    have h0 := h 0 (by omega)
    simp only [List.getD_cons_zero] at h0
    rw [List.drop_succ_cons, ← orL_drop (l := r) (i := i) (fun j hj => by have := h (j + 1) (by omega); simpa using this)]
    conv => lhs; unfold orL
    rw [if_pos h0]
theorem orL_at {l : List Int} {i : Nat} (hi : i < l.length) (h : ∀ j, j < i → l.getD j 0 = 0) (hx : ¬ l.getD i 0 = 0) : orL l = l.getD i 0 := by
  rw [orL_drop h, List.drop_eq_getElem_cons hi]
  have e : l.getD i 0 = l[i] := by rw [List.getD_eq_getElem?_getD, List.getElem?_eq_getElem hi]; rfl
  rw [e] at hx ⊢
  conv => lhs; unfold orL
  rw [if_neg hx]
set_option maxRecDepth 100000 in
set_option maxHeartbeats 1000000 in
theorem or_any (l : List Int) (hl : l.length ≤ 1000) (g : Nat) (w : World) (hA : Arr w 3 g (l.map fun x => .int .i64 x)) : Calls Tryz.prog 119 #[.slice (some ⟨g, 0, none⟩) l.length l.length] w fun r w' => r = .returned (.int .i64 (orL l)) ∧ w = w' := by
  have HA := Lib.hid hA
  clear hA
  go_enter Tryz.func119, Tryz.ntmps119
  go_wp2_with fail
  go_loop [8] (fun iv => ∃ i : Nat, i ≤ l.length ∧ iv = .int .i64 i ∧ Hid (∀ j, j < i → l.getD j 0 = 0)) (fun iv => l.length - (intOf iv).toNat)
  case atStart => exact ⟨0, Nat.zero_le _, rfl, fun j hj => absurd hj (Nat.not_lt_zero _)⟩
  case round =>
    obtain ⟨i, hi, rfl, HG⟩ := hrel
    have hi0 : (0 : Int) ≤ i := by omega
    by_cases hlt : i < l.length
    · have hi1 : (i : Int) < l.length := by omega
      have hx0 := HA.out.cell i
      rw [List.getElem?_map, List.getElem?_eq_getElem hlt] at hx0
      obtain ⟨x, hx⟩ : ∃ x, x = l.getD i 0 := ⟨_, rfl⟩
      have e : l.getD i 0 = l[i] := by rw [List.getD_eq_getElem?_getD, List.getElem?_eq_getElem hlt]; rfl
      have X0 : w.cell? ⟨g, i, none⟩ = some (.int .i64 x) := by rw [hx, e]; exact hx0
      have HX := Lib.hid hx
      have HLT : Hid (i < l.length) := hlt
      clear hx0 e hx
      by_cases hz : x = 0
      · have bz : (x != 0) = false := by rw [hz]; rfl
        have HZ := Lib.hid hz
        clear hz
        go_wp2_with fail
        go_round
        case rel =>
          refine ⟨i + 1, by omega, by go_num, fun j hj => ?_⟩
          by_cases e : j = i
          · subst e; rw [← HX.out]; exact HZ.out
          · exact HG.out j (by omega)
        case measure => simp [intOf]; omega
      · have bz : (x != 0) = true := by rw [bne_iff_ne]; exact hz
        have HR : Hid (orL l = x) := by show _ = _; rw [HX.out]; exact orL_at HLT.out HG.out (by rw [← HX.out]; exact hz)
        clear hz
        go_wp2_with fail
        go_ret
        exact ⟨by rw [HR.out]; rfl, rfl⟩
    · have hi1 : ¬ (i : Int) < l.length := by omega
      have HR : Hid (orL l = 0) := by
        show _ = _
        rw [orL_drop HG.out, List.drop_of_length_le (by omega)]; rfl
      go_wp2_with fail
      go_ret
      exact ⟨by rw [HR.out]; rfl, rfl⟩
end Go.Proofs.YtdnmgemjhpkekaaGreatDoor
/-
  The order of expressions; slices.CompareFunc over kids.
-/
namespace Go.Proofs.YtdnmgemjhpkekaaGreatDoor
open Go.ChangeShapes Go.WideShapes Go.ChangeAt Go.RowKit
set_option linter.unusedVariables false

mutual
def cmpE : Ex → Ex → Int
  | .mk k v n ks, e2 => orL [Lib.compareInt k e2.kind, Lib.compareBytes v e2.via, Lib.compareBytes n e2.nm, cmpL ks e2.kids]
def cmpL : List Ex → List Ex → Int
  | [], [] => 0
  | [], _ :: _ => -1
  | _ :: _, [] => 1
  | a :: r, b :: s => orL [cmpE a b, cmpL r s]
end
theorem cmpL_step {ks ls : List Ex} {i : Nat} (h1 : i < ks.length) (h2 : i < ls.length) : cmpL (ks.drop i) (ls.drop i) = orL [cmpE (ks.getD i ex0) (ls.getD i ex0), cmpL (ks.drop (i + 1)) (ls.drop (i + 1))] := by
  rw [List.drop_eq_getElem_cons h1, List.drop_eq_getElem_cons h2, List.getD_eq_getElem?_getD, List.getElem?_eq_getElem h1, List.getD_eq_getElem?_getD, List.getElem?_eq_getElem h2]
  conv => lhs; unfold cmpL
  rfl
theorem orL2 (a b : Int) : orL [a, b] = if a = 0 then b else a := by
  unfold orL
  split
  · unfold orL
    split
    · rename_i h; rw [h]; rfl
    · rfl
  · rfl
set_option maxRecDepth 100000 in
set_option maxHeartbeats 4000000 in
theorem cmpf_any (n : Nat) (HC : Hid (∀ (x y : Ex) (vx vy : Value) (P Q : Nat → Prop) (W : World), sizeE x ≤ n → sizeE y ≤ 900000 → RdE P W x vx → RdE Q W y vy → (∀ b, P b → b < W.heap.size) → (∀ b, Q b → b < W.heap.size) → Calls Tryz.prog 113 #[vx, vy] W fun r w' => r = .returned (.int .i64 (cmpE x y)) ∧ Below W.heap.size W w'))
    (ks ls : List Ex) (q ql : Option Addr) (c cl : Nat) (P Q : Nat → Prop) (w : World) (hks : sizeL ks ≤ n) (hkm : sizeL ks ≤ 900000) (hlm : sizeL ls ≤ 900000)
    (hk : 0 < ks.length → ∃ b o, q = some ⟨b, o, none⟩ ∧ P b ∧ RdL P w ks b o) (hl' : 0 < ls.length → ∃ b o, ql = some ⟨b, o, none⟩ ∧ Q b ∧ RdL Q w ls b o) (hP : ∀ b, P b → b < w.heap.size) (hQ : ∀ b, Q b → b < w.heap.size) :
    Calls Tryz.prog 122 #[.slice q ks.length c, .slice ql ls.length cl, .func (.func 113) #[] #[]] w fun r w' => r = .returned (.int .i64 (cmpL ks ls)) ∧ Below w.heap.size w w' := by
  have HK : Hid (0 < ks.length → ∃ b o, q = some ⟨b, o, none⟩ ∧ P b ∧ RdL P w ks b o) := hk
  have HL : Hid (0 < ls.length → ∃ b o, ql = some ⟨b, o, none⟩ ∧ Q b ∧ RdL Q w ls b o) := hl'
  have hlen := sizeL_len ks
  have hlen2 := sizeL_len ls
  clear hk hl'
  go_enter Tryz.func122, Tryz.ntmps122
  go_wp2_with fail
  go_loopw [13] (fun iv wr => ∃ i : Nat, i ≤ ks.length ∧ i ≤ ls.length ∧ iv = .int .i64 i ∧ Hid (cmpL (ks.drop i) (ls.drop i) = cmpL ks ls) ∧ Hid (Below w.heap.size w wr)) (fun iv _ => ks.length - (intOf iv).toNat)
  case atStart => exact ⟨0, Nat.zero_le _, Nat.zero_le _, rfl, rfl, Below.refl _ _⟩
  case round =>
    obtain ⟨i, hi, hil, rfl, HD, HI⟩ := hrel
    have hi0 : (0 : Int) ≤ i := by omega
    by_cases hlt : i < ks.length
    · have hi1 : (i : Int) < ks.length := by omega
      by_cases hlt2 : i < ls.length
      · have hi2 : (i : Int) < ls.length := by omega
        obtain ⟨ba, oa, rfl, hba, hl⟩ := HK.out (by omega)
        obtain ⟨x, hx⟩ : ∃ x, x = ks.getD i ex0 := ⟨_, rfl⟩
        obtain ⟨q2, c2, x0, x1, x2, x3, hr⟩ := hl.at hlt
        have hxs := sizeL_get ks i hlt
        have hxd := depthL_get ks i hlt
        rw [← hx] at x0 x1 x2 x3 hr hxs hxd
        have HX := Lib.hid hx
        obtain ⟨xk, xv2, xn2, xs⟩ := x
        have cc : ∀ n, wr.cell? ⟨ba, n, none⟩ = w.cell? ⟨ba, n, none⟩ := fun n => (HI.out).cell (p := ⟨ba, n, none⟩) (hP _ hba)
        have X0 : wr.cell? ⟨ba, oa + i * 4, none⟩ = some (.int .i64 xk) := (cc _).trans x0
        have X1 : wr.cell? ⟨ba, oa + i * 4 + 1, none⟩ = some (.string (bstr xv2)) := (cc _).trans x1
        have X2 : wr.cell? ⟨ba, oa + i * 4 + 2, none⟩ = some (.string (bstr xn2)) := (cc _).trans x2
        have X3 : wr.cell? ⟨ba, oa + i * 4 + 3, none⟩ = some (.slice q2 xs.length c2) := (cc _).trans x3
        clear x0 x1 x2 x3 cc hx
        have HBA : Hid (Below wr.heap.size wr (wr.alloc (.cells #[.int .i64 xk, .string (bstr xv2), .string (bstr xn2), .slice q2 xs.length c2] 42))) := (Below.refl _ _).alloc (Nat.le_refl _) _
        obtain ⟨bab, oab, rfl, hbab, hlb⟩ := HL.out (by omega)
        obtain ⟨x, hx⟩ : ∃ x, x = ls.getD i ex0 := ⟨_, rfl⟩
        obtain ⟨q2b, c2b, x0, x1, x2, x3, hrb⟩ := hlb.at hlt2
        have hxsb := sizeL_get ls i hlt2
        have hxdb := depthL_get ls i hlt2
        rw [← hx] at x0 x1 x2 x3 hrb hxsb hxdb
        have HXb := Lib.hid hx
        obtain ⟨xkb, xv2b, xn2b, xsb⟩ := x
        have cc : ∀ n, (wr.alloc (.cells #[.int .i64 xk, .string (bstr xv2), .string (bstr xn2), .slice q2 xs.length c2] 42)).cell? ⟨bab, n, none⟩ = w.cell? ⟨bab, n, none⟩ := fun n => (HI.out.trans (HBA.out.mono HI.out.size)).cell (p := ⟨bab, n, none⟩) (hQ _ hbab)
        have X0b : (wr.alloc (.cells #[.int .i64 xk, .string (bstr xv2), .string (bstr xn2), .slice q2 xs.length c2] 42)).cell? ⟨bab, oab + i * 4, none⟩ = some (.int .i64 xkb) := (cc _).trans x0
        have X1b : (wr.alloc (.cells #[.int .i64 xk, .string (bstr xv2), .string (bstr xn2), .slice q2 xs.length c2] 42)).cell? ⟨bab, oab + i * 4 + 1, none⟩ = some (.string (bstr xv2b)) := (cc _).trans x1
        have X2b : (wr.alloc (.cells #[.int .i64 xk, .string (bstr xv2), .string (bstr xn2), .slice q2 xs.length c2] 42)).cell? ⟨bab, oab + i * 4 + 2, none⟩ = some (.string (bstr xn2b)) := (cc _).trans x2
        have X3b : (wr.alloc (.cells #[.int .i64 xk, .string (bstr xv2), .string (bstr xn2), .slice q2 xs.length c2] 42)).cell? ⟨bab, oab + i * 4 + 3, none⟩ = some (.slice q2b xsb.length c2b) := (cc _).trans x3
        clear x0 x1 x2 x3 cc hx
        have HST := Lib.hid (cmpL_step hlt hlt2)
        have HBB : Hid (Below wr.heap.size wr ((wr.alloc (.cells #[.int .i64 xk, .string (bstr xv2), .string (bstr xn2), .slice q2 xs.length c2] 42)).alloc (.cells #[.int .i64 xkb, .string (bstr xv2b), .string (bstr xn2b), .slice q2b xsb.length c2b] 42))) := HBA.out.alloc HBA.out.size _
        have HRA : Hid (RdE P ((wr.alloc (.cells #[.int .i64 xk, .string (bstr xv2), .string (bstr xn2), .slice q2 xs.length c2] 42)).alloc (.cells #[.int .i64 xkb, .string (bstr xv2b), .string (bstr xn2b), .slice q2b xsb.length c2b] 42)) (.mk xk xv2 xn2 xs) (.agg #[.int .i64 xk, .string (bstr xv2), .string (bstr xn2), .slice q2 xs.length c2])) := (hr.below HI.out hP).below HBB.out (fun b hb => Nat.lt_of_lt_of_le (hP b hb) HI.out.size)
        have HRB : Hid (RdE Q ((wr.alloc (.cells #[.int .i64 xk, .string (bstr xv2), .string (bstr xn2), .slice q2 xs.length c2] 42)).alloc (.cells #[.int .i64 xkb, .string (bstr xv2b), .string (bstr xn2b), .slice q2b xsb.length c2b] 42)) (.mk xkb xv2b xn2b xsb) (.agg #[.int .i64 xkb, .string (bstr xv2b), .string (bstr xn2b), .slice q2b xsb.length c2b])) := (hrb.below HI.out hQ).below HBB.out (fun b hb => Nat.lt_of_lt_of_le (hQ b hb) HI.out.size)
        have HCC := HC.out (.mk xk xv2 xn2 xs) (.mk xkb xv2b xn2b xsb) _ _ P Q ((wr.alloc (.cells #[.int .i64 xk, .string (bstr xv2), .string (bstr xn2), .slice q2 xs.length c2] 42)).alloc (.cells #[.int .i64 xkb, .string (bstr xv2b), .string (bstr xn2b), .slice q2b xsb.length c2b] 42)) (by omega) (by omega) HRA.out HRB.out (fun b hb => Nat.lt_of_lt_of_le (hP b hb) (Nat.le_trans HI.out.size HBB.out.size)) (fun b hb => Nat.lt_of_lt_of_le (hQ b hb) (Nat.le_trans HI.out.size HBB.out.size))
        obtain ⟨E, hE⟩ : ∃ E, E = cmpE (.mk xk xv2 xn2 xs) (.mk xkb xv2b xn2b xsb) := ⟨_, rfl⟩
        rw [← hE] at HCC
        have HED := Lib.hid hE
        have HCC := Lib.hid HCC
        clear hl hlb hr hrb hxs hxd hxsb hxdb hE
        go_wp2_with fail
        refine HCC.out.mono ?_
        rintro r w5 ⟨rfl, b5⟩
        have HB5 := Lib.hid (HI.out.trans ((HBB.out.trans (b5.mono HBB.out.size)).mono HI.out.size))
        clear b5
        by_cases hz : E = 0
        · have bz : (E != 0) = false := by rw [hz]; rfl
          have HNX : Hid (cmpL (ks.drop (i + 1)) (ls.drop (i + 1)) = cmpL ks ls) := by show _ = _; rw [← HD.out, HST.out, ← HX.out, ← HXb.out, ← HED.out, orL2, if_pos hz]
          clear hz
          go_wp2_with fail
          go_roundw
          case rel => exact ⟨i + 1, by omega, by omega, by go_num, HNX.out, HB5.out⟩
          case measure => simp [intOf]; omega
        · have bz : (E != 0) = true := by rw [bne_iff_ne]; exact hz
          have HNX : Hid (cmpL ks ls = E) := by show _ = _; rw [← HD.out, HST.out, ← HX.out, ← HXb.out, ← HED.out, orL2, if_neg hz]
          clear hz
          go_wp2_with fail
          go_ret
          exact ⟨by rw [HNX.out]; rfl, HB5.out⟩
      · have hi2 : ¬ (i : Int) < ls.length := by omega
        have HNX : Hid (cmpL ks ls = 1) := by
          show _ = _
          rw [← HD.out, List.drop_eq_getElem_cons hlt, List.drop_of_length_le (show ls.length ≤ i by omega)]
          unfold cmpL; rfl
        have HK1 := HK.out (by omega)
        obtain ⟨ba, oa, rfl, hba, hl⟩ := HK1
        obtain ⟨q2, c2, x0, x1, x2, x3, hr⟩ := hl.at hlt
        have cc : ∀ n, wr.cell? ⟨ba, n, none⟩ = w.cell? ⟨ba, n, none⟩ := fun n => (HI.out).cell (p := ⟨ba, n, none⟩) (hP _ hba)
        have X0 := (cc _).trans x0
        have X1 := (cc _).trans x1
        have X2 := (cc _).trans x2
        have X3 := (cc _).trans x3
        clear x0 x1 x2 x3 cc hr hl
        go_wp2_with fail
        go_ret
        exact ⟨by rw [HNX.out]; rfl, HI.out.alloc HI.out.size _⟩
    · have hi1 : ¬ (i : Int) < ks.length := by omega
      by_cases hlt2 : ks.length < ls.length
      · have hi2 : (ks.length : Int) < ls.length := by omega
        have HNX : Hid (cmpL ks ls = -1) := by
          show _ = _
          rw [← HD.out, List.drop_of_length_le (show ks.length ≤ i by omega), List.drop_eq_getElem_cons (show i < ls.length by omega)]
          unfold cmpL; rfl
        go_wp2_with fail
        go_ret
        exact ⟨by rw [HNX.out]; rfl, HI.out⟩
      · have hi2 : ¬ (ks.length : Int) < ls.length := by omega
        have HNX : Hid (cmpL ks ls = 0) := by
          show _ = _
          rw [← HD.out, List.drop_of_length_le (show ks.length ≤ i by omega), List.drop_of_length_le (show ls.length ≤ i by omega)]
          unfold cmpL; rfl
        go_wp2_with fail
        go_ret
        exact ⟨by rw [HNX.out]; rfl, HI.out⟩
end Go.Proofs.YtdnmgemjhpkekaaGreatDoor
/-
  expr.Compare, Same.
-/
namespace Go.Proofs.YtdnmgemjhpkekaaGreatDoor
open Go.ChangeShapes Go.WideShapes Go.ChangeAt Go.RowKit
set_option linter.unusedVariables false

theorem orL4 (a b c d : Int) : orL [a, b, c, d] = if orL [a, b, c] = 0 then d else orL [a, b, c] := by
  by_cases ha : a = 0
  · by_cases hb : b = 0
    · by_cases hc : c = 0
      · by_cases hd : d = 0 <;> simp [orL, ha, hb, hc, hd]
      · simp [orL, ha, hb, hc]
    · simp [orL, ha, hb]
  · simp [orL, ha]
set_option maxRecDepth 100000 in
set_option maxHeartbeats 4000000 in
theorem ecompare_any : ∀ (n : Nat), n ≤ 900000 → ∀ (x y : Ex) (vx vy : Value) (P Q : Nat → Prop) (w : World), sizeE x ≤ n → sizeE y ≤ 900000 → RdE P w x vx → RdE Q w y vy → (∀ b, P b → b < w.heap.size) → (∀ b, Q b → b < w.heap.size) → Calls Tryz.prog 113 #[vx, vy] w fun r w' => r = .returned (.int .i64 (cmpE x y)) ∧ Below w.heap.size w w' := by
  intro n
  induction n with
  | zero => intro _ x y vx vy P Q w h; have := sizeE_pos x; omega
  | succ n ih =>
    intro hn x y vx vy P Q w hx hy h1 h2 hP hQ
    obtain ⟨q, c, rfl, _, hk⟩ := h1.form
    obtain ⟨q2, c2, rfl, _, hl⟩ := h2.form
    obtain ⟨k, xv, xn, ks⟩ := x
    obtain ⟨k2, yv, yn, ls⟩ := y
    unfold exv
    show Calls _ _ #[.agg #[.int .i64 k, .string (bstr xv), .string (bstr xn), .slice q ks.length c], .agg #[.int .i64 k2, .string (bstr yv), .string (bstr yn), .slice q2 ls.length c2]] _ _
    have hks : sizeL ks ≤ n := by unfold sizeE at hx; omega
    have hls : sizeL ls ≤ 900000 := by unfold sizeE at hy; omega
    have hb : Below w.heap.size w ((w.alloc (.cells #[.int .i64 k, .string (bstr xv), .string (bstr xn), .slice q ks.length c] 42)).alloc (.cells #[.int .i64 k2, .string (bstr yv), .string (bstr yn), .slice q2 ls.length c2] 42)) := ((Below.refl _ _).alloc (Nat.le_refl _) _).alloc (by simp) _
    have ha1 : Arr ((w.alloc (.cells #[.int .i64 k, .string (bstr xv), .string (bstr xn), .slice q ks.length c] 42)).alloc (.cells #[.int .i64 k2, .string (bstr yv), .string (bstr yn), .slice q2 ls.length c2] 42)) 42 w.heap.size [.int .i64 k, .string (bstr xv), .string (bstr xn), .slice q ks.length c] := (Arr.new' w _ _ _ rfl).alloc _
    have ha2 : Arr ((w.alloc (.cells #[.int .i64 k, .string (bstr xv), .string (bstr xn), .slice q ks.length c] 42)).alloc (.cells #[.int .i64 k2, .string (bstr yv), .string (bstr yn), .slice q2 ls.length c2] 42)) 42 (w.heap.size + 1) [.int .i64 k2, .string (bstr yv), .string (bstr yn), .slice q2 ls.length c2] := Arr.new2 w _ _ _ _ rfl
    obtain ⟨w0, hw0⟩ : ∃ w0, w0 = ((w.alloc (.cells #[.int .i64 k, .string (bstr xv), .string (bstr xn), .slice q ks.length c] 42)).alloc (.cells #[.int .i64 k2, .string (bstr yv), .string (bstr yn), .slice q2 ls.length c2] 42)) := ⟨_, rfl⟩
    rw [← hw0] at hb ha1 ha2
    have HW := Lib.hid hw0
    have HB := Lib.hid hb
    have HA1 := Lib.hid ha1
    have HA2 := Lib.hid ha2
    have HIH : Hid (∀ (x y : Ex) (vx vy : Value) (P Q : Nat → Prop) (W : World), sizeE x ≤ n → sizeE y ≤ 900000 → RdE P W x vx → RdE Q W y vy → (∀ b, P b → b < W.heap.size) → (∀ b, Q b → b < W.heap.size) → Calls Tryz.prog 113 #[vx, vy] W fun r w' => r = .returned (.int .i64 (cmpE x y)) ∧ Below W.heap.size W w') := ih (by omega)
    have HK : Hid (0 < ks.length → ∃ b o, q = some ⟨b, o, none⟩ ∧ P b ∧ RdL P w ks b o) := hk
    have HL : Hid (0 < ls.length → ∃ b o, q2 = some ⟨b, o, none⟩ ∧ Q b ∧ RdL Q w ls b o) := hl
    have H1 := Lib.hid (Tryz.cmp_Compare_int k k2)
    have H2 := Lib.hid (Tryz.strings_Compare (bstr xv) (bstr yv))
    have H3 := Lib.hid (Tryz.strings_Compare (bstr xn) (bstr yn))
    have HN := Lib.hid hn
    clear h1 h2 hk hl hx hy hb ha1 ha2 hw0 ih hn
    go_enter Tryz.func113, Tryz.ntmps113
    go_wp2_with fail
    rw [← HW.out]
    have a0 := HA1.out.cell 0
    have a1 := HA1.out.cell 1
    have a2 := HA1.out.cell 2
    have e0 := HA2.out.cell 0
    have e1 := HA2.out.cell 1
    have e2 := HA2.out.cell 2
    simp only [List.getElem?_cons_zero, List.getElem?_cons_succ] at a0 a1 a2 e0 e1 e2
    refine wp_region_still_tail 15 (by kernel_rfl) (by kernel_rfl) ?_
    simp only [List.take_succ_cons, List.take_zero, List.drop_succ_cons, List.drop_zero]
    repeat first | still_step | still_call (H1.out _) | still_call (H2.out _) | still_call (H3.out _)
    refine wpStill_nil ?_
    change wpList _ _ _ _ _ w0.drew
    have HBd : Hid (Below w0.heap.size w0 w0.drew) := (Below.refl _ _).drew
    have HB2 := Lib.hid (HB.out.trans (HBd.out.mono HB.out.size))
    have HA12 := Lib.hid (HA1.out.later HBd.out)
    have HA22 := Lib.hid (HA2.out.later HBd.out)
    rw [bstr_data, bstr_data, bstr_data, bstr_data]
    obtain ⟨A, hA⟩ : ∃ A, A = Lib.compareInt k k2 := ⟨_, rfl⟩
    obtain ⟨B, hB⟩ : ∃ B, B = Lib.compareBytes xv yv := ⟨_, rfl⟩
    obtain ⟨C, hC⟩ : ∃ C, C = Lib.compareBytes xn yn := ⟨_, rfl⟩
    rw [← hA, ← hB, ← hC]
    have HE : Hid (cmpE (.mk k xv xn ks) (.mk k2 yv yn ls) = if orL [A, B, C] = 0 then cmpL ks ls else orL [A, B, C]) := by show _ = _; rw [← orL4, hA, hB, hC]; unfold cmpE; rfl
    clear hA hB hC a0 a1 a2 e0 e1 e2 HA1 HA2 HW H1 H2 H3
    generalize w0.drew = w2 at HB2 HA12 HA22 ⊢
    clear HBd HB
    have HOR : Hid (Calls Tryz.prog 119 #[.slice (some ⟨w2.heap.size, 0, none⟩) 3 3] (w2.alloc (.cells #[.int .i64 A, .int .i64 B, .int .i64 C] 3)) fun r w' => r = .returned (.int .i64 (orL [A, B, C])) ∧ w2.alloc (.cells #[.int .i64 A, .int .i64 B, .int .i64 C] 3) = w') := or_any [A, B, C] (by simp) w2.heap.size _ (Arr.new' _ _ _ _ rfl)
    have HB3 : Hid (Below w2.heap.size w2 (w2.alloc (.cells #[.int .i64 A, .int .i64 B, .int .i64 C] 3))) := (Below.refl _ _).alloc (Nat.le_refl _) _
    obtain ⟨O, hO⟩ : ∃ O, O = orL [A, B, C] := ⟨_, rfl⟩
    rw [← hO] at HE HOR
    clear hO
    go_wp2_with fail
    refine HOR.out.mono ?_
    rintro r w3 ⟨rfl, hw3⟩
    have HA13 := Lib.hid (HA12.out.later HB3.out)
    have HA23 := Lib.hid (HA22.out.later HB3.out)
    have HB4 := Lib.hid (HB2.out.trans (HB3.out.mono HB2.out.size))
    rw [hw3] at HA13 HA23 HB4
    clear hw3 HB3 HOR HA12 HA22 HB2
    have a3 := HA13.out.cell 3
    have e3 := HA23.out.cell 3
    simp only [List.getElem?_cons_zero, List.getElem?_cons_succ] at a3 e3
    by_cases hz : O = 0
    · have bz : (O != 0) = false := by rw [hz]; rfl
      have HE2 : Hid (cmpE (.mk k xv xn ks) (.mk k2 yv yn ls) = cmpL ks ls) := by show _ = _; rw [HE.out, if_pos hz]
      have HCF := Lib.hid (cmpf_any n HIH ks ls q q2 c c2 P Q w3 hks (by have := HN.out; omega) hls
        (fun h => by
          obtain ⟨b, o, g1, g2, g3⟩ := HK.out h
          exact ⟨b, o, g1, g2, g3.keep (cells_below HB4.out hP) g2⟩)
        (fun h => by
          obtain ⟨b, o, g1, g2, g3⟩ := HL.out h
          exact ⟨b, o, g1, g2, g3.keep (cells_below HB4.out hQ) g2⟩)
        (fun b hb => Nat.lt_of_lt_of_le (hP b hb) HB4.out.size) (fun b hb => Nat.lt_of_lt_of_le (hQ b hb) HB4.out.size))
      clear hz
      go_wp2_with fail
      refine HCF.out.mono ?_
      rintro r w5 ⟨rfl, b5⟩
      have HB5 := Lib.hid (HB4.out.trans (b5.mono HB4.out.size))
      clear b5
      go_wp2_with fail
      go_ret
      exact ⟨by rw [HE2.out]; rfl, HB5.out⟩
    · have bz : (O != 0) = true := by rw [bne_iff_ne]; exact hz
      have HE2 : Hid (cmpE (.mk k xv xn ks) (.mk k2 yv yn ls) = O) := by show _ = _; rw [HE.out, if_neg hz]
      clear hz
      go_wp2_with fail
      go_ret
      exact ⟨by rw [HE2.out]; rfl, HB4.out⟩
set_option maxRecDepth 100000 in
set_option maxHeartbeats 1000000 in
theorem esame_any (x y : Ex) (vx vy : Value) (P Q : Nat → Prop) (w : World) (hx : sizeE x ≤ 900000) (hy : sizeE y ≤ 900000) (h1 : RdE P w x vx) (h2 : RdE Q w y vy) (hP : ∀ b, P b → b < w.heap.size) (hQ : ∀ b, Q b → b < w.heap.size) :
    Calls Tryz.prog 103 #[vx, vy] w fun r w' => r = .returned (.bool (cmpE x y == 0)) ∧ Below w.heap.size w w' := by
  have G1 := Lib.hid h1
  have G2 := Lib.hid h2
  obtain ⟨q, c, rfl, _, _⟩ := h1.form
  obtain ⟨q2, c2, rfl, _, _⟩ := h2.form
  obtain ⟨k, xv, xn, ks⟩ := x
  obtain ⟨k2, yv, yn, ls⟩ := y
  unfold exv
  show Calls _ _ #[.agg #[.int .i64 k, .string (bstr xv), .string (bstr xn), .slice q ks.length c], .agg #[.int .i64 k2, .string (bstr yv), .string (bstr yn), .slice q2 ls.length c2]] _ _
  have HB : Hid (Below w.heap.size w ((w.alloc (.cells #[.int .i64 k, .string (bstr xv), .string (bstr xn), .slice q ks.length c] 42)).alloc (.cells #[.int .i64 k2, .string (bstr yv), .string (bstr yn), .slice q2 ls.length c2] 42))) := ((Below.refl _ _).alloc (Nat.le_refl _) _).alloc (by simp) _
  have HC := ecompare_any 900000 (Nat.le_refl _) (.mk k xv xn ks) (.mk k2 yv yn ls) _ _ P Q ((w.alloc (.cells #[.int .i64 k, .string (bstr xv), .string (bstr xn), .slice q ks.length c] 42)).alloc (.cells #[.int .i64 k2, .string (bstr yv), .string (bstr yn), .slice q2 ls.length c2] 42)) hx hy (G1.out.below HB.out hP) (G2.out.below HB.out hQ) (fun b hb => Nat.lt_of_lt_of_le (hP b hb) HB.out.size) (fun b hb => Nat.lt_of_lt_of_le (hQ b hb) HB.out.size)
  obtain ⟨E, hE⟩ : ∃ E, E = cmpE (.mk k xv xn ks) (.mk k2 yv yn ls) := ⟨_, rfl⟩
  rw [← hE] at HC ⊢
  have HC := Lib.hid HC
  clear h1 h2 hx hy hE G1 G2
  go_enter Tryz.func103, Tryz.ntmps103
  go_wp2_with fail
  refine HC.out.mono ?_
  rintro r w5 ⟨rfl, b5⟩
  have HB5 := Lib.hid (HB.out.trans (b5.mono HB.out.size))
  clear b5
  go_wp2_with fail
  go_ret
  exact ⟨rfl, HB5.out⟩
end Go.Proofs.YtdnmgemjhpkekaaGreatDoor
/-
  vestryref10.Compare.
-/
namespace Go.Proofs.YtdnmgemjhpkekaaGreatDoor
open Go.ChangeShapes Go.WideShapes Go.ChangeAt Go.RowKit
set_option linter.unusedVariables false

theorem cmpE_lt {k k2 : Int} {v n v2 n2 : List UInt8} {ks ls : List Ex} (h : k < k2) : cmpE (.mk k v n ks) (.mk k2 v2 n2 ls) = -1 := by
  unfold cmpE
  simp [orL, Ex.kind, Lib.compareInt, h]
theorem cmpE_gt {k k2 : Int} {v n v2 n2 : List UInt8} {ks ls : List Ex} (h : k2 < k) : cmpE (.mk k v n ks) (.mk k2 v2 n2 ls) = 1 := by
  unfold cmpE
  have h2 : ¬ k < k2 := by omega
  simp [orL, Ex.kind, Lib.compareInt, h, h2]
theorem cmpE_via {k : Int} {v n v2 n2 : List UInt8} {ks ls : List Ex} (h : Lib.compareBytes v v2 ≠ 0) : cmpE (.mk k v n ks) (.mk k v2 n2 ls) = Lib.compareBytes v v2 := by
  unfold cmpE
  simp [orL, Ex.kind, Ex.via, Lib.compareInt, h]
theorem cmpE_nm {k : Int} {v n v2 n2 : List UInt8} {ks ls : List Ex} (h1 : Lib.compareBytes v v2 = 0) (h : Lib.compareBytes n n2 ≠ 0) : cmpE (.mk k v n ks) (.mk k v2 n2 ls) = Lib.compareBytes n n2 := by
  unfold cmpE
  simp [orL, Ex.kind, Ex.via, Ex.nm, Lib.compareInt, h, h1]
theorem cmpE_kids {k : Int} {v n v2 n2 : List UInt8} {ks ls : List Ex} (h1 : Lib.compareBytes v v2 = 0) (h : Lib.compareBytes n n2 = 0) : cmpE (.mk k v n ks) (.mk k v2 n2 ls) = cmpL ks ls := by
  rw [cmpE, show Lib.compareInt k (Ex.mk k v2 n2 ls).kind = 0 by simp [Ex.kind, Lib.compareInt]]
  simp only [orL, Ex.via, Ex.nm, Ex.kids, h1, h, if_true]
  by_cases h3 : cmpL ks ls = 0 <;> simp [h3]
theorem cmpL_end {ks ls : List Ex} {i : Nat} (h1 : i ≤ ks.length) (h2 : i ≤ ls.length) (h : ¬ (i < ks.length ∧ i < ls.length)) : cmpL (ks.drop i) (ls.drop i) = if ks.length < ls.length then -1 else if ls.length < ks.length then 1 else 0 := by
  by_cases h3 : i < ks.length
  · rw [List.drop_eq_getElem_cons h3, show ls.drop i = [] from List.drop_eq_nil_of_le (by omega), if_neg (by omega), if_pos (by omega)]
    unfold cmpL; rfl
  · rw [show ks.drop i = [] from List.drop_eq_nil_of_le (by omega)]
    by_cases h4 : i < ls.length
    · rw [List.drop_eq_getElem_cons h4, if_pos (by omega)]
      unfold cmpL; rfl
    · rw [show ls.drop i = [] from List.drop_eq_nil_of_le (by omega), if_neg (by omega), if_neg (by omega)]
      unfold cmpL; rfl

set_option maxRecDepth 100000 in
set_option maxHeartbeats 8000000 in
theorem rcompare_any : ∀ (n : Nat) (x y : Ex) (vx vy : Value) (P Q : Nat → Prop) (w : World), sizeE x ≤ n → sizeE x ≤ 900000 → sizeE y ≤ 900000 → okE 100000 x → okE 100000 y → RdE P w x vx → RdE Q w y vy → (∀ b, P b → b < w.heap.size) → (∀ b, Q b → b < w.heap.size) → Calls Tryz.prog 20 #[vx, vy] w fun r w' => r = .returned (.int .i64 (cmpE x y)) ∧ Below w.heap.size w w' := by
  intro n
  induction n with
  | zero => intro x y vx vy P Q w h; have := sizeE_pos x; omega
  | succ n ih =>
    intro x y vx vy P Q w hx hxm hy hox hoy h1 h2 hP hQ
    obtain ⟨q, c, rfl, _, hk⟩ := h1.form
    obtain ⟨q2, c2, rfl, _, hl⟩ := h2.form
    obtain ⟨k, xv, xn, ks⟩ := x
    obtain ⟨k2, yv, yn, ls⟩ := y
    unfold exv
    show Calls _ _ #[.agg #[.int .i64 k, .string (bstr xv), .string (bstr xn), .slice q ks.length c], .agg #[.int .i64 k2, .string (bstr yv), .string (bstr yn), .slice q2 ls.length c2]] _ _
    have hks : sizeL ks ≤ n := by unfold sizeE at hx; omega
    have hkm : sizeL ks ≤ 900000 := by unfold sizeE at hxm; omega
    have hls : sizeL ls ≤ 900000 := by unfold sizeE at hy; omega
    have hlen := sizeL_len ks
    have hlen2 := sizeL_len ls
    unfold okE at hox hoy
    have HOK := Lib.hid hox.2.2
    have HOL := Lib.hid hoy.2.2
    have HOV : Hid (∀ W, Calls Tryz.prog 44 #[.string (bstr xv), .string (bstr yv)] W fun e w' => e = .returned (.int .i64 (Lib.compareBytes xv yv)) ∧ Below W.heap.size W w') := fun W => order_any (bstr xv) (bstr yv) (by rw [bstr_size]; omega) (by rw [bstr_size]; omega) W
    have HON : Hid (∀ W, Calls Tryz.prog 44 #[.string (bstr xn), .string (bstr yn)] W fun e w' => e = .returned (.int .i64 (Lib.compareBytes xn yn)) ∧ Below W.heap.size W w') := fun W => order_any (bstr xn) (bstr yn) (by rw [bstr_size]; omega) (by rw [bstr_size]; omega) W
    have hb : Below w.heap.size w ((w.alloc (.cells #[.int .i64 k, .string (bstr xv), .string (bstr xn), .slice q ks.length c] 42)).alloc (.cells #[.int .i64 k2, .string (bstr yv), .string (bstr yn), .slice q2 ls.length c2] 42)) := ((Below.refl _ _).alloc (Nat.le_refl _) _).alloc (by simp) _
    have ha1 : Arr ((w.alloc (.cells #[.int .i64 k, .string (bstr xv), .string (bstr xn), .slice q ks.length c] 42)).alloc (.cells #[.int .i64 k2, .string (bstr yv), .string (bstr yn), .slice q2 ls.length c2] 42)) 42 w.heap.size [.int .i64 k, .string (bstr xv), .string (bstr xn), .slice q ks.length c] := (Arr.new' w _ _ _ rfl).alloc _
    have ha2 : Arr ((w.alloc (.cells #[.int .i64 k, .string (bstr xv), .string (bstr xn), .slice q ks.length c] 42)).alloc (.cells #[.int .i64 k2, .string (bstr yv), .string (bstr yn), .slice q2 ls.length c2] 42)) 42 (w.heap.size + 1) [.int .i64 k2, .string (bstr yv), .string (bstr yn), .slice q2 ls.length c2] := Arr.new2 w _ _ _ _ rfl
    have HB := Lib.hid hb
    have HA1 := Lib.hid ha1
    have HA2 := Lib.hid ha2
    have HIH := Lib.hid ih
    have HP := Lib.hid hP
    have HQ := Lib.hid hQ
    have HK : Hid (0 < ks.length → ∃ b o, q = some ⟨b, o, none⟩ ∧ P b ∧ RdL P w ks b o) := hk
    have HL : Hid (0 < ls.length → ∃ b o, q2 = some ⟨b, o, none⟩ ∧ Q b ∧ RdL Q w ls b o) := hl
    clear h1 h2 hk hl hx hy hxm hb ha1 ha2 ih hox hoy hP hQ
    by_cases hlt : k < k2
    · have HE : Hid (cmpE (.mk k xv xn ks) (.mk k2 yv yn ls) = -1) := cmpE_lt hlt
      go_enter Tryz.func20, Tryz.ntmps20
      go_wp2_with fail
      go_ret
      exact ⟨by rw [HE.out]; rfl, HB.out⟩
    by_cases hgt : k2 < k
    · have HE : Hid (cmpE (.mk k xv xn ks) (.mk k2 yv yn ls) = 1) := cmpE_gt hgt
      go_enter Tryz.func20, Tryz.ntmps20
      go_wp2_with fail
      go_ret
      exact ⟨by rw [HE.out]; rfl, HB.out⟩
    obtain rfl : k = k2 := by omega
    have HEV : Hid (Lib.compareBytes xv yv ≠ 0 → cmpE (.mk k xv xn ks) (.mk k yv yn ls) = Lib.compareBytes xv yv) := cmpE_via
    have HEN : Hid (Lib.compareBytes xv yv = 0 → Lib.compareBytes xn yn ≠ 0 → cmpE (.mk k xv xn ks) (.mk k yv yn ls) = Lib.compareBytes xn yn) := cmpE_nm
    have HEK : Hid (Lib.compareBytes xv yv = 0 → Lib.compareBytes xn yn = 0 → cmpE (.mk k xv xn ks) (.mk k yv yn ls) = cmpL ks ls) := cmpE_kids
    obtain ⟨A, hA⟩ : ∃ A, A = Lib.compareBytes xv yv := ⟨_, rfl⟩
    obtain ⟨B, hB⟩ : ∃ B, B = Lib.compareBytes xn yn := ⟨_, rfl⟩
    rw [← hA] at HOV HEV HEN HEK
    rw [← hB] at HON HEN HEK
    obtain ⟨CE, hCE⟩ : ∃ E, E = cmpE (.mk k xv xn ks) (.mk k yv yn ls) := ⟨_, rfl⟩
    rw [← hCE] at HEV HEN HEK ⊢
    clear hA hB hCE hlt hgt
    have hself : ¬ k < k := by omega
    go_enter Tryz.func20, Tryz.ntmps20
    go_wp2_with fail
    refine (HOV.out _).mono ?_
    rintro r w1 ⟨rfl, b1⟩
    have HA11 := Lib.hid (HA1.out.later b1)
    have HA21 := Lib.hid (HA2.out.later b1)
    have HB1 := Lib.hid (HB.out.trans (b1.mono HB.out.size))
    clear b1 HA1 HA2 HB
    have a1 := HA11.out.cell 1
    have a2 := HA11.out.cell 2
    have e1 := HA21.out.cell 1
    have e2 := HA21.out.cell 2
    simp only [List.getElem?_cons_zero, List.getElem?_cons_succ] at a1 a2 e1 e2
    by_cases hz : A = 0
    case neg =>
      have bz : (A != 0) = true := by rw [bne_iff_ne]; exact hz
      have HE2 := Lib.hid (HEV.out hz)
      clear hz
      go_wp2_with fail
      refine (HOV.out _).mono ?_
      rintro r w2 ⟨rfl, b2⟩
      have HB2 := Lib.hid (HB1.out.trans (b2.mono HB1.out.size))
      clear b2
      go_wp2_with fail
      go_ret
      exact ⟨by rw [HE2.out]; rfl, HB2.out⟩
    have bz : (A != 0) = false := by rw [hz]; rfl
    have HEN2 := Lib.hid (HEN.out hz)
    have HEK2 := Lib.hid (HEK.out hz)
    clear hz
    go_wp2_with fail
    refine (HON.out _).mono ?_
    rintro r w2 ⟨rfl, b2⟩
    have HA12 := Lib.hid (HA11.out.later b2)
    have HA22 := Lib.hid (HA21.out.later b2)
    have HB2 := Lib.hid (HB1.out.trans (b2.mono HB1.out.size))
    clear b2 a1 a2 e1 e2 HA11 HA21 HB1
    have a2 := HA12.out.cell 2
    have e2 := HA22.out.cell 2
    simp only [List.getElem?_cons_zero, List.getElem?_cons_succ] at a2 e2
    by_cases hz : B = 0
    case neg =>
      have bz2 : (B != 0) = true := by rw [bne_iff_ne]; exact hz
      have HE2 := Lib.hid (HEN2.out hz)
      clear hz
      go_wp2_with fail
      refine (HON.out _).mono ?_
      rintro r w3 ⟨rfl, b3⟩
      have HB3 := Lib.hid (HB2.out.trans (b3.mono HB2.out.size))
      clear b3
      go_wp2_with fail
      go_ret
      exact ⟨by rw [HE2.out]; rfl, HB3.out⟩
    have bz2 : (B != 0) = false := by rw [hz]; rfl
    have HE2 := Lib.hid (HEK2.out hz)
    clear hz a2 e2 HEV HEN HEK HEN2 HEK2 HOV HON
    go_wp2_with fail
    go_loopw [5] (fun iv wr => ∃ i : Nat, i ≤ ks.length ∧ i ≤ ls.length ∧ iv = .int .i64 i ∧ Hid (cmpL ks ls = cmpL (ks.drop i) (ls.drop i)) ∧ Hid (Below w.heap.size w wr ∧ Arr wr 42 w.heap.size [.int .i64 k, .string (bstr xv), .string (bstr xn), .slice q ks.length c] ∧ Arr wr 42 (w.heap.size + 1) [.int .i64 k, .string (bstr yv), .string (bstr yn), .slice q2 ls.length c2])) (fun iv _ => ks.length - (intOf iv).toNat)
    case atStart => exact ⟨0, Nat.zero_le _, Nat.zero_le _, rfl, rfl, HB2.out, HA12.out, HA22.out⟩
    case round =>
      obtain ⟨i, hi, hi2, rfl, HD, HI2⟩ := hrel
      have HI := Lib.hid HI2.out.1
      have HAI := Lib.hid HI2.out.2.1
      have HAJ := Lib.hid HI2.out.2.2
      clear HI2 HB2 HA12 HA22
      have hi0 : (0 : Int) ≤ i := by omega
      have a3 := HAI.out.cell 3
      have e3 := HAJ.out.cell 3
      simp only [List.getElem?_cons_zero, List.getElem?_cons_succ] at a3 e3
      by_cases hboth : i < ks.length ∧ i < ls.length
      · obtain ⟨hlt, hlt2⟩ := hboth
        have hi1 : (i : Int) < ks.length := by omega
        have hi3 : (i : Int) < ls.length := by omega
        have HST := Lib.hid (cmpL_step hlt hlt2)
        have hP := HP.out
        obtain ⟨ba, oa, rfl, hba, hl⟩ := HK.out (by omega)
        obtain ⟨x, hx⟩ : ∃ x, x = ks.getD i ex0 := ⟨_, rfl⟩
        obtain ⟨q2a, c2a, x0, x1, x2, x3, hr⟩ := hl.at hlt
        have hxs := sizeL_get ks i hlt
        have hxd := depthL_get ks i hlt
        rw [← hx] at x0 x1 x2 x3 hr hxs hxd
        have HX := Lib.hid hx
        obtain ⟨xk, xv2, xn2, xs⟩ := x
        have cc : ∀ n, wr.cell? ⟨ba, n, none⟩ = w.cell? ⟨ba, n, none⟩ := fun n => (HI.out).cell (p := ⟨ba, n, none⟩) (hP _ hba)
        have X0 : wr.cell? ⟨ba, oa + i * 4, none⟩ = some (.int .i64 xk) := (cc _).trans x0
        have X1 : wr.cell? ⟨ba, oa + i * 4 + 1, none⟩ = some (.string (bstr xv2)) := (cc _).trans x1
        have X2 : wr.cell? ⟨ba, oa + i * 4 + 2, none⟩ = some (.string (bstr xn2)) := (cc _).trans x2
        have X3 : wr.cell? ⟨ba, oa + i * 4 + 3, none⟩ = some (.slice q2a xs.length c2a) := (cc _).trans x3
        clear x0 x1 x2 x3 cc hx
        have hQ := HQ.out
        obtain ⟨bab, oab, rfl, hbab, hlb⟩ := HL.out (by omega)
        obtain ⟨x, hx⟩ : ∃ x, x = ls.getD i ex0 := ⟨_, rfl⟩
        obtain ⟨q2b, c2b, x0, x1, x2, x3, hrb⟩ := hlb.at hlt2
        have hxsb := sizeL_get ls i hlt2
        have hxdb := depthL_get ls i hlt2
        rw [← hx] at x0 x1 x2 x3 hrb hxsb hxdb
        have HXb := Lib.hid hx
        obtain ⟨xkb, xv2b, xn2b, xsb⟩ := x
        have cc : ∀ n, wr.cell? ⟨bab, n, none⟩ = w.cell? ⟨bab, n, none⟩ := fun n => (HI.out).cell (p := ⟨bab, n, none⟩) (hQ _ hbab)
        have X0b : wr.cell? ⟨bab, oab + i * 4, none⟩ = some (.int .i64 xkb) := (cc _).trans x0
        have X1b : wr.cell? ⟨bab, oab + i * 4 + 1, none⟩ = some (.string (bstr xv2b)) := (cc _).trans x1
        have X2b : wr.cell? ⟨bab, oab + i * 4 + 2, none⟩ = some (.string (bstr xn2b)) := (cc _).trans x2
        have X3b : wr.cell? ⟨bab, oab + i * 4 + 3, none⟩ = some (.slice q2b xsb.length c2b) := (cc _).trans x3
        clear x0 x1 x2 x3 cc hx
        have HR : Hid (RdE P wr (.mk xk xv2 xn2 xs) (.agg #[.int .i64 xk, .string (bstr xv2), .string (bstr xn2), .slice q2a xs.length c2a])) := hr.below HI.out hP
        have HR2 : Hid (RdE Q wr (.mk xkb xv2b xn2b xsb) (.agg #[.int .i64 xkb, .string (bstr xv2b), .string (bstr xn2b), .slice q2b xsb.length c2b])) := hrb.below HI.out hQ
        have HC : Hid (∀ W, Below wr.heap.size wr W → Calls Tryz.prog 20 #[.agg #[.int .i64 xk, .string (bstr xv2), .string (bstr xn2), .slice q2a xs.length c2a], .agg #[.int .i64 xkb, .string (bstr xv2b), .string (bstr xn2b), .slice q2b xsb.length c2b]] W fun r w' => r = .returned (.int .i64 (cmpE (.mk xk xv2 xn2 xs) (.mk xkb xv2b xn2b xsb))) ∧ Below W.heap.size W w') :=
          fun W hW => HIH.out (.mk xk xv2 xn2 xs) (.mk xkb xv2b xn2b xsb) _ _ P Q W (by omega) (by omega) (by omega) (HX.out ▸ okL_get HOK.out hlt) (HXb.out ▸ okL_get HOL.out hlt2) (HR.out.below hW (fun b hb => Nat.lt_of_lt_of_le (hP b hb) HI.out.size)) (HR2.out.below hW (fun b hb => Nat.lt_of_lt_of_le (hQ b hb) HI.out.size)) (fun b hb => Nat.lt_of_lt_of_le (hP b hb) (Nat.le_trans HI.out.size hW.size)) (fun b hb => Nat.lt_of_lt_of_le (hQ b hb) (Nat.le_trans HI.out.size hW.size))
        rw [← HX.out, ← HXb.out, orL2] at HST
        obtain ⟨E, hE⟩ : ∃ E, E = cmpE (.mk xk xv2 xn2 xs) (.mk xkb xv2b xn2b xsb) := ⟨_, rfl⟩
        rw [← hE] at HC HST
        clear hl hr hxs hxd hba hP hE hlb hrb hxsb hxdb hbab hQ
        go_upto_region 12 with (fail)
        refine wp_region_still_tail 10 (by kernel_rfl) (by kernel_rfl) ?_
        simp only [List.take_succ_cons, List.take_zero, List.drop_succ_cons, List.drop_zero]
        repeat still_step
        refine wpStill_nil ?_
        change wpList _ _ _ _ _ wr.drew
        have HBd : Hid (Below wr.heap.size wr wr.drew) := (Below.refl _ _).drew
        have HCd := Lib.hid (HC.out _ HBd.out)
        have HId := Lib.hid (HI.out.trans (HBd.out.mono HI.out.size))
        have HAd := Lib.hid (HAI.out.later HBd.out)
        have HAe := Lib.hid (HAJ.out.later HBd.out)
        clear a3 e3 X0 X1 X2 X3 X0b X1b X2b X3b HC HAI HAJ HR HR2 HI
        generalize wr.drew = wd at HBd HCd HId HAd HAe ⊢
        go_wp2_with fail
        refine HCd.out.mono ?_
        rintro r w5 ⟨rfl, b5⟩
        have HB5 := Lib.hid (HId.out.trans (b5.mono HId.out.size))
        have HA5 := Lib.hid (HAd.out.later b5)
        have HA6 := Lib.hid (HAe.out.later b5)
        clear b5
        by_cases hz : E = 0
        · have bz5 : (E != 0) = false := by rw [hz]; rfl
          have HST2 : Hid (cmpL ks ls = cmpL (ks.drop (i + 1)) (ls.drop (i + 1))) := by show _ = _; rw [HD.out, HST.out, if_pos hz]
          clear hz
          go_wp2_with fail
          go_roundw
          case rel => exact ⟨i + 1, by omega, by omega, by go_num, HST2.out, HB5.out, HA5.out, HA6.out⟩
          case measure => simp [intOf]; omega
        · have bz5 : (E != 0) = true := by rw [bne_iff_ne]; exact hz
          have HST2 : Hid (cmpL ks ls = E) := by show _ = _; rw [HD.out, HST.out, if_neg hz]
          clear hz
          go_wp2_with fail
          go_ret
          exact ⟨by rw [HE2.out, HST2.out]; rfl, HB5.out⟩
      · have HEN := Lib.hid (cmpL_end hi hi2 hboth)
        by_cases hlt : i < ks.length
        · have hi1 : (i : Int) < ks.length := by omega
          have hi3 : ¬ (i : Int) < ls.length := by omega
          have h4 : ¬ (ks.length : Int) < ls.length := by omega
          have h5 : (ls.length : Int) < ks.length := by omega
          have HRS : Hid (CE = 1) := by show _ = _; rw [HE2.out, HD.out, HEN.out, if_neg (by omega), if_pos (by omega)]
          clear hboth
          go_wp2_with fail
          go_ret
          exact ⟨by rw [HRS.out]; rfl, HI.out⟩
        · have hi1 : ¬ (i : Int) < ks.length := by omega
          by_cases hl2 : ks.length < ls.length
          · have h4 : (ks.length : Int) < ls.length := by omega
            have HRS : Hid (CE = -1) := by show _ = _; rw [HE2.out, HD.out, HEN.out, if_pos hl2]
            clear hboth
            go_wp2_with fail
            go_ret
            exact ⟨by rw [HRS.out]; rfl, HI.out⟩
          · have h4 : ¬ (ks.length : Int) < ls.length := by omega
            have h5 : ¬ (ls.length : Int) < ks.length := by omega
            have HRS : Hid (CE = 0) := by show _ = _; rw [HE2.out, HD.out, HEN.out, if_neg hl2, if_neg (by omega)]
            clear hboth
            go_wp2_with fail
            go_ret
            exact ⟨by rw [HRS.out]; rfl, HI.out⟩
end Go.Proofs.YtdnmgemjhpkekaaGreatDoor
/-
  The order of expressions: one order, in which only the same ones are equal.
-/
namespace Go.Proofs.YtdnmgemjhpkekaaGreatDoor
open Go.ChangeShapes Go.WideShapes Go.ChangeAt Go.RowKit
set_option linter.unusedVariables false

def T3 (x : Int) : Prop := x = -1 ∨ x = 0 ∨ x = 1
theorem ci_three (a b : Int) : T3 (Lib.compareInt a b) := by
  unfold T3 Lib.compareInt
  by_cases h : a < b
  · simp [h]
  · by_cases h2 : b < a
    · simp [h, h2]
    · have : a = b := by omega
      simp [this]
theorem ci_flip (a b : Int) : Lib.compareInt b a = - Lib.compareInt a b := by
  unfold Lib.compareInt
  by_cases h : a < b
  · have h2 : ¬ b < a := by omega
    simp [h, h2]
  · by_cases h2 : b < a
    · simp [h, h2]
    · have : a = b := by omega
      simp [this]
theorem orL_three : ∀ (l : List Int), (∀ x ∈ l, T3 x) → T3 (orL l)
  | [], _ => .inr (.inl rfl)
  | x :: r, h => by
    have hr := orL_three r fun y hy => h y (List.mem_cons_of_mem _ hy)
    have hx := h x (List.mem_cons_self)
    unfold orL
    split <;> assumption
theorem orL_flip : ∀ (l : List Int), orL (l.map fun x => -x) = - orL l
  | [] => rfl
  | x :: r => by
    have hr := orL_flip r
    simp only [List.map_cons]
    unfold orL
    by_cases h : x = 0
    · simp [h, hr]
    · have h2 : ¬ -x = 0 := by omega
      simp [h]
mutual
theorem cmpE_three : ∀ a b : Ex, T3 (cmpE a b)
  | .mk k v n ks, .mk k2 v2 n2 ls => by
    have := cmpL_three ks ls
    unfold cmpE
    refine orL_three _ fun x hx => ?_
    simp only [List.mem_cons, List.not_mem_nil, or_false] at hx
    rcases hx with rfl | rfl | rfl | rfl
    · exact ci_three _ _
    · exact cb_three _ _
    · exact cb_three _ _
    · exact this
theorem cmpL_three : ∀ a b : List Ex, T3 (cmpL a b)
  | [], [] => .inr (.inl (by unfold cmpL; rfl))
  | [], _ :: _ => .inl (by unfold cmpL; rfl)
  | _ :: _, [] => .inr (.inr (by unfold cmpL; rfl))
  | a :: r, b :: s => by
    have h1 := cmpE_three a b
    have h2 := cmpL_three r s
    unfold cmpL
    refine orL_three _ fun x hx => ?_
    simp only [List.mem_cons, List.not_mem_nil, or_false] at hx
    rcases hx with rfl | rfl
    · exact h1
    · exact h2
end
mutual
theorem cmpE_flip : ∀ a b : Ex, cmpE b a = - cmpE a b
  | .mk k v n ks, .mk k2 v2 n2 ls => by
    have h := cmpL_flip ks ls
    unfold cmpE
    simp only [Ex.kind, Ex.via, Ex.nm, Ex.kids]
    rw [ci_flip k k2, cb_flip v v2, cb_flip n n2, h, ← orL_flip]; rfl
theorem cmpL_flip : ∀ a b : List Ex, cmpL b a = - cmpL a b
  | [], [] => by unfold cmpL; rfl
  | [], _ :: _ => by unfold cmpL; rfl
  | _ :: _, [] => by unfold cmpL; rfl
  | a :: r, b :: s => by
    have h1 := cmpE_flip a b
    have h2 := cmpL_flip r s
    unfold cmpL
    rw [h1, h2, ← orL_flip]; rfl
end
mutual
theorem cmpE_self : ∀ a : Ex, cmpE a a = 0
  | .mk k v n ks => by
    rw [cmpE_kids (cb_self v) (cb_self n)]
    exact cmpL_self ks
theorem cmpL_self : ∀ a : List Ex, cmpL a a = 0
  | [] => by unfold cmpL; rfl
  | a :: r => by
    have h1 := cmpE_self a
    have h2 := cmpL_self r
    unfold cmpL
    rw [h1, h2]; rfl
end
theorem cmp_cases (k k2 : Int) (v n v2 n2 : List UInt8) (ks ls : List Ex) :
    (k < k2 ∧ cmpE (.mk k v n ks) (.mk k2 v2 n2 ls) = -1) ∨ (k2 < k ∧ cmpE (.mk k v n ks) (.mk k2 v2 n2 ls) = 1) ∨
    (k = k2 ∧ Lib.compareBytes v v2 ≠ 0 ∧ cmpE (.mk k v n ks) (.mk k2 v2 n2 ls) = Lib.compareBytes v v2) ∨
    (k = k2 ∧ v = v2 ∧ Lib.compareBytes n n2 ≠ 0 ∧ cmpE (.mk k v n ks) (.mk k2 v2 n2 ls) = Lib.compareBytes n n2) ∨
    (k = k2 ∧ v = v2 ∧ n = n2 ∧ cmpE (.mk k v n ks) (.mk k2 v2 n2 ls) = cmpL ks ls) := by
  by_cases h1 : k < k2
  · exact .inl ⟨h1, cmpE_lt h1⟩
  by_cases h2 : k2 < k
  · exact .inr (.inl ⟨h2, cmpE_gt h2⟩)
  obtain rfl : k = k2 := by omega
  by_cases h3 : Lib.compareBytes v v2 = 0
  · by_cases h4 : Lib.compareBytes n n2 = 0
    · exact .inr (.inr (.inr (.inr ⟨rfl, cb_eq _ _ h3, cb_eq _ _ h4, cmpE_kids h3 h4⟩)))
    · exact .inr (.inr (.inr (.inl ⟨rfl, cb_eq _ _ h3, h4, cmpE_nm h3 h4⟩)))
  · exact .inr (.inr (.inl ⟨rfl, h3, cmpE_via h3⟩))
mutual
theorem cmpE_eq : ∀ {a b : Ex}, cmpE a b = 0 → a = b
  | .mk k v n ks, .mk k2 v2 n2 ls, h => by
    have hl := @cmpL_eq ks ls
    rcases cmp_cases k k2 v n v2 n2 ks ls with ⟨_, e⟩ | ⟨_, e⟩ | ⟨_, g, e⟩ | ⟨_, _, g, e⟩ | ⟨rfl, rfl, rfl, e⟩
    · rw [e] at h; cases h
    · rw [e] at h; cases h
    · rw [e] at h; exact absurd h g
    · rw [e] at h; exact absurd h g
    · rw [e] at h; rw [hl h]
theorem cmpL_eq : ∀ {a b : List Ex}, cmpL a b = 0 → a = b
  | [], [], _ => rfl
  | [], _ :: _, h => by unfold cmpL at h; cases h
  | _ :: _, [], h => by unfold cmpL at h; cases h
  | a :: r, b :: s, h => by
    have h1 := @cmpE_eq a b
    have h2 := @cmpL_eq r s
    unfold cmpL at h
    rw [orL2] at h
    by_cases hz : cmpE a b = 0
    · rw [if_pos hz] at h; rw [h1 hz, h2 h]
    · rw [if_neg hz] at h; exact absurd h hz
end
mutual
theorem cmpE_up : ∀ {a b c : Ex}, cmpE a b < 0 → cmpE b c < 0 → cmpE a c < 0
  | .mk k v n ks, .mk k2 v2 n2 ls, .mk k3 v3 n3 ms, h1, h2 => by
    have hl := @cmpL_up ks ls ms
    rcases cmp_cases k k2 v n v2 n2 ks ls with ⟨g, e⟩ | ⟨_, e⟩ | ⟨rfl, g, e⟩ | ⟨rfl, rfl, g, e⟩ | ⟨rfl, rfl, rfl, e⟩
    · rcases cmp_cases k2 k3 v2 n2 v3 n3 ls ms with ⟨g2, e2⟩ | ⟨_, e2⟩ | ⟨rfl, g2, e2⟩ | ⟨rfl, rfl, g2, e2⟩ | ⟨rfl, rfl, rfl, e2⟩
      · rw [cmpE_lt (by omega)]; omega
      · rw [e2] at h2; omega
      · rw [cmpE_lt g]; omega
      · rw [cmpE_lt g]; omega
      · rw [cmpE_lt g]; omega
    · rw [e] at h1; omega
    · rw [e] at h1
      rcases cmp_cases k k3 v2 n2 v3 n3 ls ms with ⟨g2, e2⟩ | ⟨_, e2⟩ | ⟨rfl, g2, e2⟩ | ⟨rfl, rfl, g2, e2⟩ | ⟨rfl, rfl, rfl, e2⟩
      · rw [cmpE_lt g2]; omega
      · rw [e2] at h2; omega
      · rw [e2] at h2
        have h3 := cb_up _ _ _ h1 h2
        rw [cmpE_via (by omega)]; exact h3
      · rw [cmpE_via g]; exact h1
      · rw [cmpE_via g]; exact h1
    · rw [e] at h1
      rcases cmp_cases k k3 v n2 v3 n3 ls ms with ⟨g2, e2⟩ | ⟨_, e2⟩ | ⟨rfl, g2, e2⟩ | ⟨rfl, rfl, g2, e2⟩ | ⟨rfl, rfl, rfl, e2⟩
      · rw [cmpE_lt g2]; omega
      · rw [e2] at h2; omega
      · rw [e2] at h2
        rw [cmpE_via g2]; exact h2
      · rw [e2] at h2
        have h3 := cb_up _ _ _ h1 h2
        rw [cmpE_nm (cb_self _) (by omega)]; exact h3
      · rw [cmpE_nm (cb_self _) g]; exact h1
    · rw [e] at h1
      rcases cmp_cases k k3 v n v3 n3 ls ms with ⟨g2, e2⟩ | ⟨_, e2⟩ | ⟨rfl, g2, e2⟩ | ⟨rfl, rfl, g2, e2⟩ | ⟨rfl, rfl, rfl, e2⟩
      · rw [cmpE_lt g2]; omega
      · rw [e2] at h2; omega
      · rw [e2] at h2
        rw [cmpE_via g2]; exact h2
      · rw [e2] at h2
        rw [cmpE_nm (cb_self _) g2]; exact h2
      · rw [e2] at h2
        rw [cmpE_kids (cb_self _) (cb_self _)]; exact hl h1 h2
theorem cmpL_up : ∀ {a b c : List Ex}, cmpL a b < 0 → cmpL b c < 0 → cmpL a c < 0
  | [], [], _, h1, _ => by unfold cmpL at h1; omega
  | [], _ :: _, [], _, h2 => by unfold cmpL at h2; omega
  | [], _ :: _, _ :: _, _, _ => by unfold cmpL; omega
  | _ :: _, [], _, h1, _ => by unfold cmpL at h1; omega
  | _ :: _, _ :: _, [], _, h2 => by unfold cmpL at h2; omega
  | a :: r, b :: s, c :: u, h1, h2 => by
    have he := @cmpE_up a b c
    have hr := @cmpL_up r s u
    have q1 := @cmpE_eq a b
    have q2 := @cmpE_eq b c
    unfold cmpL at h1 h2 ⊢
    rw [orL2] at h1 h2 ⊢
    by_cases z1 : cmpE a b = 0
    · obtain rfl := q1 z1
      rw [if_pos z1] at h1
      by_cases z2 : cmpE a c = 0
      · rw [if_pos z2] at h2 ⊢; exact hr h1 h2
      · rw [if_neg z2] at h2 ⊢; exact h2
    · rw [if_neg z1] at h1
      by_cases z2 : cmpE b c = 0
      · obtain rfl := q2 z2
        rw [if_neg z1]; exact h1
      · rw [if_neg z2] at h2
        have := he h1 h2
        rw [if_neg (by omega)]; exact this
end
theorem cmpE_le {a b c : Ex} (h1 : ¬ 0 < cmpE a b) (h2 : ¬ 0 < cmpE b c) : cmpE a c ≤ 0 := by
  by_cases z1 : cmpE a b = 0
  · rw [cmpE_eq z1]; omega
  · by_cases z2 : cmpE b c = 0
    · rw [← cmpE_eq z2]; omega
    · have := cmpE_up (a := a) (b := b) (c := c) (by omega) (by omega); omega
end Go.Proofs.YtdnmgemjhpkekaaGreatDoor
