/-
  A tuple as a map's key; what a map of the last changes reads as.
-/
import Derived.Test.YtebbbiikphfjcaaMgL
import Derived.DeepKeys4
import Derived.Maps.RangeWalk
import Derived.Maps.OwnSet
namespace Go.Proofs.Ytebbbiikphfjcaa
open Go.ChangeShapes Go.WideShapes Go.ChangeAt Go.RowKit Go.Lib Go.Sort
open Go.Maps
set_option linter.unusedVariables false

theorem tRow : 34 < Try.prog.types.size := of_decide_eq_true (by kernel_rfl)
theorem Try.lawT : Go.Maps.Keyed Try.prog 34 := Go.Maps.Keyed.of_law (deep_law_laid (by kernel_rfl) (m := 4) (by omega) tRow (by kernel_rfl) (by rw [Try.underlying34]))
def sl (b : ByteArray) : Lit := .string b.data.toList
def klT (t : Tu) : Lit := .string (keyBytes [sl t.ot, sl t.oi, sl t.re, sl t.st, sl t.si, sl t.us])
theorem typesN : ∃ m, Try.prog.types.size + 1 = m + 4 := ⟨Try.prog.types.size - 3, by have : 3 ≤ Try.prog.types.size := of_decide_eq_true (by kernel_rfl); omega⟩
theorem kStr (d : Nat) (b : ByteArray) : Try.prog.keyLits (d + 1) 9 [.string b] = if b.size ≤ maxLen then some [sl b] else none := by
  unfold Program.keyLits
  simp only [Try.underlying9]
  rfl
theorem kObj (d : Nat) (a b : ByteArray) (ha : a.size ≤ maxLen) (hb : b.size ≤ maxLen) : Try.prog.keyLits (d + 2) 32 [.string a, .string b] = some [sl a, sl b] := by
  unfold Program.keyLits
  simp only [Try.underlying32]
  rw [if_pos ⟨by kernel_rfl, by kernel_rfl⟩]
  simp only [List.mapM_cons, List.mapM_nil]
  rw [show Try.prog.cellsOf 9 = 1 from by kernel_rfl]
  simp [kStr, ha, hb]
theorem kTup (d : Nat) (t : Tu) (h : sizesT t maxLen) : Try.prog.keyLits (d + 3) 34 (tc t) = some [sl t.ot, sl t.oi, sl t.re, sl t.st, sl t.si, sl t.us] := by
  obtain ⟨h1, h2, h3, h4, h5, h6⟩ := h
  unfold Program.keyLits
  simp only [Try.underlying34]
  rw [if_pos ⟨by rw [tc_length]; kernel_rfl, by kernel_rfl⟩]
  simp only [List.mapM_cons, List.mapM_nil]
  rw [show Try.prog.cellsOf 9 = 1 from by kernel_rfl, show Try.prog.cellsOf 32 = 2 from by kernel_rfl]
  simp [kStr, kObj, h1, h2, h3, h4, h5, h6, tc]
theorem tForm (cs : Array Value) : (Value.agg cs).formed Try.prog 34 = (cs.size == 6) := by
  unfold Value.formed
  simp only [Try.underlying34]
  rw [show Try.prog.cellsOf 34 = 6 from by kernel_rfl]
theorem keyT_of (t : Tu) (h : sizesT t maxLen) : keyOf Try.prog 34 (tuV t) = some (klT t) := by
  obtain ⟨m, hm⟩ := typesN
  unfold keyOf
  simp only [Try.underlying34]
  rw [if_pos (by rw [tForm, show Try.prog.keyType 34 = true from by kernel_rfl]; rfl), hm]
  show (Try.prog.keyLits (m + 1 + 3) 34 (tc t)).map _ = _
  rw [kTup _ t h]
  rfl
theorem kStr_inv {d : Nat} {cs : List Value} {ls : List Lit} (h : Try.prog.keyLits (d + 1) 9 cs = some ls) : ∃ b : ByteArray, cs = [.string b] ∧ b.size ≤ maxLen := by
  unfold Program.keyLits at h
  simp only [Try.underlying9] at h
  split at h <;> try (cases h; done)
  all_goals first
    | (rename_i e; cases e; done)
    | (split at h
       · rename_i b _ _ _; exact ⟨_, rfl, by assumption⟩
       · cases h)
theorem len2 : ∀ {cs : List Value}, cs.length = 2 → ∃ u v, cs = [u, v]
  | [u, v], _ => ⟨u, v, rfl⟩
theorem len6 : ∀ {cs : List Value}, cs.length = 6 → ∃ a b c d e f, cs = [a, b, c, d, e, f]
  | [a, b, c, d, e, f], _ => ⟨a, b, c, d, e, f, rfl⟩
theorem kObj_inv {d : Nat} {cs : List Value} {ls : List Lit} (h : Try.prog.keyLits (d + 2) 32 cs = some ls) : ∃ a b : ByteArray, cs = [.string a, .string b] ∧ a.size ≤ maxLen ∧ b.size ≤ maxLen := by
  unfold Program.keyLits at h
  simp only [Try.underlying32] at h
  split at h
  · rename_i hc
    rw [show Try.prog.cellsOf 32 = 2 from by kernel_rfl] at hc
    simp only [List.mapM_cons, List.mapM_nil] at h
    rw [show Try.prog.cellsOf 9 = 1 from by kernel_rfl] at h
    obtain ⟨u, v, rfl⟩ := len2 hc.1
    · cases h1 : Try.prog.keyLits (d + 1) 9 [u] with
      | none => simp [h1] at h
      | some l1 =>
        cases h2 : Try.prog.keyLits (d + 1) 9 [v] with
        | none => simp [h1, h2] at h
        | some l2 =>
          obtain ⟨a, e1, z1⟩ := kStr_inv h1
          obtain ⟨b, e2, z2⟩ := kStr_inv h2
          cases e1; cases e2
          exact ⟨a, b, rfl, z1, z2⟩
  · cases h
theorem kTup_inv {d : Nat} {cs : List Value} {ls : List Lit} (h : Try.prog.keyLits (d + 3) 34 cs = some ls) : ∃ t : Tu, cs = tc t ∧ sizesT t maxLen := by
  unfold Program.keyLits at h
  simp only [Try.underlying34] at h
  split at h
  · rename_i hc
    rw [show Try.prog.cellsOf 34 = 6 from by kernel_rfl] at hc
    simp only [List.mapM_cons, List.mapM_nil] at h
    rw [show Try.prog.cellsOf 9 = 1 from by kernel_rfl, show Try.prog.cellsOf 32 = 2 from by kernel_rfl] at h
    obtain ⟨u1, u2, u3, u4, u5, u6, rfl⟩ := len6 hc.1
    · cases h1 : Try.prog.keyLits (d + 2) 32 [u1, u2] with
      | none => simp [h1] at h
      | some l1 =>
        cases h2 : Try.prog.keyLits (d + 1 + 1) 9 [u3] with
        | none => simp [h1, h2] at h
        | some l2 =>
          cases h3 : Try.prog.keyLits (d + 2) 32 [u4, u5] with
          | none => simp [h1, h2, h3] at h
          | some l3 =>
            cases h4 : Try.prog.keyLits (d + 1 + 1) 9 [u6] with
            | none => simp [h1, h2, h3, h4] at h
            | some l4 =>
              obtain ⟨a, b, e1, z1, z1'⟩ := kObj_inv h1
              obtain ⟨c, e2, z2⟩ := kStr_inv h2
              obtain ⟨x, y, e3, z3, z3'⟩ := kObj_inv h3
              obtain ⟨v, e4, z4⟩ := kStr_inv h4
              cases e1; cases e2; cases e3; cases e4
              exact ⟨⟨a, b, c, x, y, v⟩, rfl, z1, z1', z2, z3, z3', z4⟩
  · cases h
theorem keyT_inv {key : Value} {kl : Lit} (h : keyOf Try.prog 34 key = some kl) : ∃ t : Tu, key = tuV t ∧ sizesT t maxLen ∧ kl = klT t := by
  have h0 := h
  obtain ⟨m, hm⟩ := typesN
  unfold keyOf at h
  simp only [Try.underlying34] at h
  split at h
  · rename_i hc
    simp only [Bool.and_eq_true] at hc
    cases key with
    | agg cs =>
      rw [hm] at h
      cases h1 : Try.prog.keyLits (m + 1 + 3) 34 cs.toList with
      | none => rw [show (Value.agg cs).cells.toList = cs.toList from rfl, show m + 4 = m + 1 + 3 from rfl, h1] at h; cases h
      | some ls =>
        obtain ⟨t, e, z⟩ := kTup_inv h1
        have e' : cs = (tc t).toArray := by rw [← e]
        rw [e'] at h0 ⊢
        refine ⟨t, rfl, z, ?_⟩
        rw [keyT_of t z] at h0
        exact (Option.some.inj h0).symm
    | _ => exfalso; have := hc.2; simp [Value.formed, Try.underlying34] at this
  · cases h
theorem klT_inj {a b : Tu} (ha : sizesT a maxLen) (hb : sizesT b maxLen) (h : klT a = klT b) : a = b := by
  have e := Try.lawT.inj (keyT_of a ha) (h ▸ keyT_of b hb)
  obtain ⟨a1, a2, a3, a4, a5, a6⟩ := a
  obtain ⟨b1, b2, b3, b4, b5, b6⟩ := b
  simp [tuV, tc] at e
  simp [e]
theorem klT_key (t : Tu) : WideAt.IsKeyLit (klT t) := trivial
def bl (d : Bool) : DataW Unit := .lit (.bool d)
/-- The map of what the last change of each tuple says. -/
def foldD (c : List Cg) : DataW Unit := c.foldl (fun m x => m.put (klT x.2) (bl x.1)) (.map [])
theorem foldD_map : ∀ (c : List Cg) (m : DataW Unit), IsMap m → IsMap (c.foldl (fun m x => m.put (klT x.2) (bl x.1)) m)
  | [], m, h => h
  | x :: r, m, h => foldD_map r _ (h.put _ _)
theorem foldD_isMap (c : List Cg) : IsMap (foldD c) := foldD_map c _ ⟨[], rfl⟩
theorem foldD_snoc (c : List Cg) (x : Cg) : foldD (c ++ [x]) = (foldD c).put (klT x.2) (bl x.1) := by unfold foldD; rw [List.foldl_append]; rfl
theorem eqT_eq {a b : Tu} : eqT a b = true ↔ a = b := by
  have := hasT_iff [a] b
  simp only [hasT, List.any_cons, List.any_nil, Bool.or_false, List.mem_singleton] at this
  rw [this]
  exact eq_comm
theorem foldD_at' (x : Tu) (hx : sizesT x maxLen) : ∀ (c : List Cg), (∀ y ∈ c, sizesT y.2 maxLen) → has (foldD c.reverse) (klT x) = (lastC x c.reverse).isSome ∧ ∀ d, lastC x c.reverse = some d → ∀ z, (foldD c.reverse).atKey (klT x) z = bl d
  | [], _ => ⟨rfl, fun d h => by cases h⟩
  | y :: c, hc => by
    have h1 := foldD_at' x hx c fun u hu => hc u (by simp [hu])
    rw [List.reverse_cons, foldD_snoc, lastC_snoc]
    by_cases e : eqT y.2 x = true
    · have e' := eqT_eq.1 e
      rw [if_pos e, ← e']
      exact ⟨by rw [has_put_same (foldD_isMap _) (klT_key _)]; rfl, fun d h z => by cases h; rw [atKey_put_same (foldD_isMap _) (klT_key _)]⟩
    · have e' : klT x ≠ klT y.2 := fun h => e (eqT_eq.2 (klT_inj hx (hc y (by simp)) h).symm)
      rw [if_neg e]
      exact ⟨by rw [has_put_other e']; exact h1.1, fun d h z => by rw [atKey_put_other e']; exact h1.2 d h z⟩
theorem foldD_at (x : Tu) (hx : sizesT x maxLen) (c : List Cg) (hc : ∀ y ∈ c, sizesT y.2 maxLen) : has (foldD c) (klT x) = (lastC x c).isSome ∧ ∀ d, lastC x c = some d → ∀ z, (foldD c).atKey (klT x) z = bl d := by
  have := foldD_at' x hx c.reverse fun y hy => hc y (by simpa using hy)
  rwa [List.reverse_reverse] at this
end Go.Proofs.Ytebbbiikphfjcaa
