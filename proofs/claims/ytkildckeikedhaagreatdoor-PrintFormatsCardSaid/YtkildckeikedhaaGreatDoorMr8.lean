/-
  A schema's text is no longer than its tokens, four bytes more for each. No program.
-/
import Derived.Test.YtkildckeikedhaaGreatDoorMr7
import Derived.Test.YtkildckeikedhaaGreatDoorMr5
import Derived.Test.YtkildckeikedhaaGreatDoorMr0
import Derived.WalkKit
import Derived.ProofKit
import Derived.Below
import Derived.Lib.Hide
import Derived.Deep.RegionHeld3
import Derived.Deep.RegionLaw
import Derived.Test.YtkildckeikedhaaGreatDoorMr1
import Derived.Test.YtkildckeikedhaaGreatDoorMr2
import Derived.Deep.Cut
import Derived.Deep.CutRange
namespace Go.Proofs.YtkildckeikedhaaGreatDoor
set_option linter.unusedVariables false

def cum (ts : List Tok) : Nat → Nat
 | 0 => 0
 | i + 1 => cum ts i + (txt ts i).length + 4
theorem cum_le (ts : List Tok) : ∀ {i j : Nat}, i ≤ j → cum ts i ≤ cum ts j := by
 intro i j h
 induction h with
 | refl => exact Nat.le_refl _
 | step _ ih => rw [cum]; omega
theorem cum_take (ts : List Tok) : ∀ i, i ≤ ts.length → cum ts i = ((ts.take i).map fun t => t.2.1.length + 4).sum
 | 0, _ => rfl
 | i + 1, h => by
  have hi : i < ts.length := h
  rw [cum, cum_take ts i (by omega), List.take_succ_eq_append_getElem hi, List.map_append, List.sum_append]
  unfold txt
  rw [List.getD_eq_getElem?_getD, List.getElem?_eq_getElem hi]
  simp
  omega
theorem cum_fits {ts : List Tok} {M : Nat} (h : (ts.map fun t => t.2.1.length + 1).sum ≤ M) : cum ts ts.length ≤ 4 * M := by
 rw [cum_take ts _ (Nat.le_refl _), List.take_length]
 have h2 : (ts.map fun t => t.2.1.length + 4).sum ≤ 4 * (ts.map fun t => t.2.1.length + 1).sum := by
  clear h
  induction ts with
  | nil => simp
  | cons t r ih => simp only [List.map_cons, List.sum_cons]; omega
 omega
def CostU (ts : List Tok) (f : PS → PR Ex) : Prop := ∀ s x s', f s = .ok x s' → (wrapT x.kind (textE x)).length + cum ts s.i ≤ cum ts s'.i
def CostN (ts : List Tok) (f : PS → PR Ex) : Prop := ∀ s x s', f s = .ok x s' → (textE x).length + cum ts s.i ≤ cum ts s'.i
theorem name_cost {ts : List Tok} {s : PS} {n : List UInt8} {s' : PS} (e : nameF ts s = .ok n s') : n.length + 4 + cum ts s.i = cum ts s'.i := by
 have hx : n = txt ts s.i ∧ s' = s.up := by
  unfold nameF at e
  split at e
  ·cases e; exact ⟨rfl, rfl⟩
  ·cases e
 rw [hx.2, hx.1]
 show _ = cum ts (s.i + 1)
 rw [cum]
 omega
theorem want_cost {ts : List Tok} {t : List UInt8} {s : PS} {u : Unit} {s' : PS} (e : wantF ts t s = .ok u s') : t.length + 4 + cum ts s.i = cum ts s'.i := by
 have hx : txt ts s.i = t ∧ s' = s.up := by
  unfold wantF at e
  split at e
  ·rename_i h; cases e; exact ⟨h, rfl⟩
  ·cases e
 rw [hx.2, ← hx.1]
 show _ = cum ts (s.i + 1)
 rw [cum]
 omega
theorem textE_le (x : Ex) : (textE x).length ≤ (wrapT x.kind (textE x)).length := by
 unfold wrapT
 split
 ·exact Nat.le_refl _
 ·simp; omega
theorem cost_unitW {ts : List Tok} {U : Option (PS → PR Ex)} (hU : ∀ u, U = some u → CostN ts u) : CostU ts (unitW ts U) := by
 intro s x s' e
 unfold unitW at e
 split at e
 ·rename_i hp
  cases U with
  | none => cases e
  | some u =>
   obtain ⟨y, s1, e1, e2⟩ := then_some e
   obtain ⟨_, s2, e3, e4⟩ := then_some e2
   have h3 := want_cost e3
   cases e4
   have h1 := hU u rfl _ _ _ e1
   have h2 := wrapT_len x.kind (textE x)
   have h4 : cum ts (s.i + 1) = cum ts s.i + 5 := by rw [cum, hp]; rfl
   have h1 : (textE x).length + cum ts (s.i + 1) ≤ cum ts s1.i := h1
   have h3 : 5 + cum ts s1.i = cum ts s2.i := h3
   show _ ≤ cum ts s2.i
   omega
 ·split at e
  ·split at e
   ·split at e
    ·rename_i ha
     obtain ⟨r, s2, e1, e2⟩ := then_some e
     have h1 := name_cost e1
     cases e2
     have h2 : cum ts (s.i + 2) = cum ts s.i + (txt ts s.i).length + 4 + 2 + 4 := by rw [cum, cum, ha]; rfl
     have h1 : r.length + 4 + cum ts (s.i + 2) = cum ts s'.i := h1
     show (wrapT 2 (textE (.mk 2 (txt ts s.i) r []))).length + _ ≤ _
     rw [textE_two rfl]
     unfold wrapT
     rw [if_pos (show leafK 2 = true from rfl), List.length_append]
     simp only [List.length_cons]
     omega
    ·cases e
     show (wrapT 1 (textE (.mk 1 [] (txt ts s.i) []))).length + cum ts s.i ≤ cum ts (s.i + 1)
     rw [textE_one rfl]
     unfold wrapT
     rw [if_pos (show leafK 1 = true from rfl), cum]
     omega
   ·cases e
  ·cases e
theorem cost_loopW {ts : List Tok} {U : PS → PR Ex} (hU : CostU ts U) {sg : List UInt8} (hs : sg.length = 1) (k : Int) : ∀ (n : Nat) (acc : List Ex) (s : PS) (ks : List Ex) (s' : PS), loopW ts U sg n acc s = .ok ks s' → ∃ r, ks = acc ++ r ∧ (Lib.joinTail (sgK k) (textL r)).length + cum ts s.i ≤ cum ts s'.i
 | 0, acc, s, ks, s', e => by cases e; exact ⟨[], by simp, by simp [textL, Lib.joinTail]⟩
 | n + 1, acc, s, ks, s', e => by
  rw [loopW] at e
  split at e
  ·rename_i ht
   obtain ⟨x, s1, e1, e2⟩ := then_some e
   have h1 := hU _ _ _ e1
   have h2 : cum ts (s.i + 1) = cum ts s.i + 5 := by rw [cum, ht, hs]
   have h1 : (wrapT x.kind (textE x)).length + cum ts (s.i + 1) ≤ cum ts s1.i := h1
   split at e2
   ·cases e2
    refine ⟨[x], rfl, ?_⟩
    unfold textL textL
    show ((sgK k ++ wrapT x.kind (textE x)) ++ []).length + _ ≤ _
    rw [List.append_nil, List.length_append, sgK_len]
    omega
   ·obtain ⟨r, h3, h4⟩ := cost_loopW hU hs k n _ _ _ _ e2
    refine ⟨x :: r, by rw [h3, List.append_assoc]; rfl, ?_⟩
    unfold textL
    show ((sgK k ++ wrapT x.kind (textE x)) ++ Lib.joinTail (sgK k) (textL r)).length + _ ≤ _
    rw [List.length_append, List.length_append, sgK_len]
    omega
  ·cases e; exact ⟨[], by simp, by simp [textL, Lib.joinTail]⟩
theorem cost_unitsW {ts : List Tok} {U : PS → PR Ex} (hU : CostU ts U) : CostN ts (unitsW ts U) := by
 intro s x s' e
 unfold unitsW at e
 obtain ⟨y, s1, e1, e2⟩ := then_some e
 have h1 := hU _ _ _ e1
 split at e2
 ·cases e2
  have := textE_le x
  omega
 ·rename_i h0
  obtain ⟨ks, s2, e3, e4⟩ := then_some e2
  have hk : opK (txt ts s1.i) = 3 ∨ opK (txt ts s1.i) = 4 ∨ opK (txt ts s1.i) = 5 := by
   unfold opK at h0 ⊢
   split
   ·exact .inl rfl
   ·split
    ·exact .inr (.inl rfl)
    ·split
     ·exact .inr (.inr rfl)
     ·rename_i a b c; rw [if_neg a, if_neg b, if_neg c] at h0; exact absurd rfl h0
  have hs : (txt ts s1.i).length = 1 := by
   unfold opK at h0
   split at h0
   ·rename_i a; rw [a]; rfl
   ·split at h0
    ·rename_i a; rw [a]; rfl
    ·split at h0
     ·rename_i a; rw [a]; rfl
     ·exact absurd rfl h0
  obtain ⟨r, h3, h4⟩ := cost_loopW hU hs (opK (txt ts s1.i)) _ _ _ _ _ e3
  cases e4
  subst h3
  rw [textE_more (by omega) (by omega)]
  show (Lib.join (textL (y :: r)) _).length + _ ≤ _
  unfold textL
  rw [Lib.join_cons, List.length_append]
  omega
theorem cost_units {ts : List Tok} : ∀ d : Nat, CostN ts (unitsF ts d)
 | 0 => cost_unitsW (cost_unitW (fun u h => by cases h))
 | d + 1 => cost_unitsW (cost_unitW (fun u h => by cases h; exact cost_units d))
theorem cost_expr {ts : List Tok} {s : PS} {x : Ex} {s' : PS} (e : exprF ts s = .ok x s') : (textE x).length + cum ts s.i ≤ cum ts s'.i := cost_units 14 { s with o := 0, l := 0 } x s' e
theorem cost_allowed {ts : List Tok} {s : PS} {a : AlB} {s' : PS} (e : allowedF ts s = .ok a s') : (allT a).length + 4 + cum ts s.i ≤ cum ts s'.i := by
 unfold allowedF at e
 obtain ⟨x, s1, e1, e⟩ := then_some e
 have h1 := name_cost e1
 split at e
 ·rename_i ht
  obtain ⟨y, s2, e2, e⟩ := then_some e
  have h2 := name_cost e2
  cases e
  have h3 : cum ts (s1.i + 1) = cum ts s1.i + 5 := by rw [cum, ht]; rfl
  have h2 : y.length + 4 + cum ts (s1.i + 1) = cum ts s'.i := h2
  unfold allT
  split
  ·show x.length + 4 + _ ≤ _; omega
  ·rw [List.length_append]; show x.length + (y.length + 1) + 4 + _ ≤ _; omega
 ·cases e
  unfold allT
  rw [if_pos rfl]
  show x.length + 4 + _ ≤ _
  omega
def sepsT (r : List AlB) : List UInt8 := (r.map fun x => [32, 124, 32] ++ allT x).flatten
theorem sepsT_snoc (r : List AlB) (a : AlB) : (sepsT (r ++ [a])).length = (sepsT r).length + 3 + (allT a).length := by
 unfold sepsT
 simp
 omega
theorem typesT_cons (a : AlB) (r : List AlB) : (typesT (a :: r)).length = (allT a).length + (sepsT r).length := by
 show (allT a ++ sepsT r).length = _
 rw [List.length_append]
theorem cost_types {ts : List Tok} : ∀ (n : Nat) (acc : List AlB) (s : PS) (l : List AlB) (s' : PS), typesF ts n acc s = .ok l s' → ∃ r, l = acc ++ r ∧ (sepsT r).length + cum ts s.i ≤ cum ts s'.i + 3
 | 0, acc, s, l, s', e => by cases e; exact ⟨[], by simp, by show 0 + _ ≤ _; omega⟩
 | n + 1, acc, s, l, s', e => by
  rw [typesF] at e
  split at e
  ·cases e
  ·obtain ⟨a, s1, e1, e2⟩ := then_some e
   have h1 := cost_allowed e1
   split at e2
   ·rename_i ht
    obtain ⟨r, h2, h3⟩ := cost_types n _ _ _ _ e2
    have h4 : cum ts (s1.i + 1) = cum ts s1.i + 5 := by rw [cum, ht]; rfl
    have h3 : (sepsT r).length + cum ts (s1.i + 1) ≤ cum ts s'.i + 3 := h3
    refine ⟨a :: r, by rw [h2, List.append_assoc]; rfl, ?_⟩
    show (([32, 124, 32] ++ allT a) ++ sepsT r).length + _ ≤ _
    simp only [List.length_append, List.length_cons, List.length_nil]
    omega
   ·cases e2
    refine ⟨[a], rfl, ?_⟩
    show (([32, 124, 32] ++ allT a) ++ []).length + _ ≤ _
    simp only [List.length_append, List.length_cons, List.length_nil]
    omega
theorem cost_member {ts : List Tok} {s : PS} {m : MemB} {s' : PS} (e : memberF ts s = .ok m s') : (memT m).length + 2 + cum ts s.i ≤ cum ts s'.i := by
 by_cases hr : txt ts s.i = wRelB
 ·rw [memberF_rel hr] at e
  obtain ⟨n, s1, e1, e⟩ := then_some e
  obtain ⟨_, s2, e2, e⟩ := then_some e
  obtain ⟨l, s3, e3, e⟩ := then_some e
  obtain ⟨_, s4, e4, e⟩ := then_some e
  cases e
  have h1 := name_cost e1
  have h2 := want_cost e2
  obtain ⟨r, h3, h5⟩ := cost_types 33 [] _ _ _ e3
  have h4 := want_cost e4
  rw [List.nil_append] at h3
  subst h3
  have h0 : cum ts (s.i + 1) = cum ts s.i + 8 + 4 := by rw [cum, hr]; rfl
  have h1 : n.length + 4 + cum ts (s.i + 1) = cum ts s1.i := h1
  simp only [List.length_cons, List.length_nil] at h2 h4
  have h6 : (typesT l).length ≤ (sepsT l).length := by
   cases l with
   | nil => exact Nat.le_refl _
   | cons a r =>
    rw [typesT_cons]
    show _ ≤ (([32, 124, 32] ++ allT a) ++ sepsT r).length
    simp only [List.length_append, List.length_cons, List.length_nil]
    omega
  have h7 : (memT (n, 1, l, ex0)).length = 9 + n.length + 2 + (typesT l).length + 1 := by
   unfold memT
   rw [if_neg (by show ¬ (1 : Int) = 2; decide)]
   simp only [List.length_append, List.length_cons, List.length_nil]
   rfl
  rw [h7]
  omega
 ·rw [memberF_perm hr] at e
  obtain ⟨_, s0, e0, e⟩ := then_some e
  obtain ⟨n, s1, e1, e⟩ := then_some e
  obtain ⟨_, s2, e2, e⟩ := then_some e
  obtain ⟨x, s3, e3, e⟩ := then_some e
  obtain ⟨_, s4, e4, e⟩ := then_some e
  cases e
  have h0 := want_cost e0
  have h1 := name_cost e1
  have h2 := want_cost e2
  have h3 := cost_expr e3
  have h4 := want_cost e4
  rw [show wPermB.length = 10 from rfl] at h0
  simp only [List.length_cons, List.length_nil] at h2 h4
  have h7 : (memT (n, 2, [], x)).length = 11 + n.length + 3 + (textE x).length + 1 := by
   unfold memT
   rw [if_pos rfl]
   simp only [List.length_append, List.length_cons, List.length_nil]
   rfl
  rw [h7]
  omega
theorem memsT_snoc (l : List MemB) (m : MemB) : (memsT (l ++ [m])).length = (memsT l).length + (memT m).length + 2 := by
 unfold memsT
 simp
 omega
theorem cost_members {ts : List Tok} : ∀ (n : Nat) (acc : List MemB) (s : PS) (l : List MemB) (s' : PS), membersF ts n acc s = .ok l s' → (memsT l).length + cum ts s.i ≤ (memsT acc).length + cum ts s'.i
 | 0, acc, s, l, s', e => by rw [membersF] at e; cases e; omega
 | n + 1, acc, s, l, s', e => by
  rw [membersF] at e
  split at e
  ·split at e
   ·obtain ⟨m, s1, e1, e⟩ := then_some e
    have h1 := cost_member e1
    have h2 := cost_members n _ _ _ _ e
    rw [memsT_snoc] at h2
    omega
   ·cases e
  ·cases e; omega
theorem cost_def {ts : List Tok} {s : PS} {d : DefB} {s' : PS} (e : defF ts s = .ok d s') : (defT d).length + cum ts s.i ≤ cum ts s'.i := by
 unfold defF at e
 obtain ⟨_, s0, e0, e⟩ := then_some e
 obtain ⟨n, s1, e1, e⟩ := then_some e
 obtain ⟨_, s2, e2, e⟩ := then_some e
 obtain ⟨l, s3, e3, e⟩ := then_some e
 obtain ⟨_, s4, e4, e⟩ := then_some e
 cases e
 have h0 := want_cost e0
 have h1 := name_cost e1
 have h2 := want_cost e2
 have h3 := cost_members _ _ _ _ _ e3
 have h4 := want_cost e4
 rw [show wDefB.length = 10 from rfl] at h0
 simp only [List.length_cons, List.length_nil] at h2 h4
 have h5 : (memsT []).length = 0 := rfl
 have h7 : (defT (n, l)).length = 11 + n.length + 3 + (memsT l).length + 2 := by
  unfold defT
  simp only [List.length_append, List.length_cons, List.length_nil]
  rfl
 rw [h7]
 omega
theorem schT_snoc (l : List DefB) (d : DefB) : (schT (l ++ [d])).length = (schT l).length + (defT d).length := by
 unfold schT
 simp
theorem cost_defs {ts : List Tok} : ∀ (n : Nat) (acc : List DefB) (s : PS) (l : List DefB) (s' : PS), defsF ts n acc s = .ok l s' → (schT l).length + cum ts s.i ≤ (schT acc).length + cum ts s'.i
 | 0, acc, s, l, s', e => by rw [defsF] at e; cases e; omega
 | n + 1, acc, s, l, s', e => by
  rw [defsF] at e
  split at e
  ·split at e
   ·obtain ⟨m, s1, e1, e⟩ := then_some e
    have h1 := cost_def e1
    have h2 := cost_defs n _ _ _ _ e
    rw [schT_snoc] at h2
    omega
   ·cases e
  ·cases e; omega
theorem tw_le (p : UInt8 → Bool) (l : List UInt8) : (l.takeWhile p).length ≤ l.length := (List.takeWhile_sublist p (l := l)).length_le
theorem tokF_fits : ∀ (n i : Nat) (l : List UInt8), l.length < n → ((tokF n i l).1.map fun t => t.2.1.length + 1).sum ≤ 2 * l.length + 1
 | 0, _, _, h => absurd h (by omega)
 | n + 1, i, [], _ => by simp [tokF]
 | n + 1, i, c :: r, h => by
  simp only [List.length_cons] at h ⊢
  have hc : ∀ (t : Tok) (R : Toks) (m : Nat), (R.1.map fun t => t.2.1.length + 1).sum ≤ m → ((consT t R).1.map fun t => t.2.1.length + 1).sum ≤ t.2.1.length + 1 + m := fun t R m hm => by
   unfold consT; split
   ·rw [List.map_cons, List.sum_cons]; omega
   ·simp
  unfold tokF
  by_cases hw : wdB c = true
  ·have h4 := wd_len c r hw
   have h5 := tw_le wdB (c :: r)
   simp only [List.length_cons] at h5
   rw [if_pos hw]
   split
   ·have h6 := tokF_fits n (i + ((c :: r).takeWhile wdB).length) ((c :: r).drop ((c :: r).takeWhile wdB).length) (by rw [List.length_drop, List.length_cons]; omega)
    rw [List.length_drop, List.length_cons] at h6
    have := hc (mkT 1 ((c :: r).takeWhile wdB) i) _ _ h6
    simp only at this
    omega
   ·simp
  ·rw [if_neg hw]
   split
   ·have := tokF_fits n (i + 1) r (by omega); omega
   ·split
    ·rename_i hcc
     have := ln_len c r hcc.1
     have h6 := tokF_fits n (i + ((c :: r).takeWhile lnB).length) ((c :: r).drop ((c :: r).takeWhile lnB).length) (by rw [List.length_drop, List.length_cons]; omega)
     rw [List.length_drop, List.length_cons] at h6
     omega
    ·split
     ·rename_i ha
      have hr : 1 ≤ r.length := by
       cases r with
       | nil => cases ha.2
       | cons => simp
      have h6 := tokF_fits n (i + 2) (r.drop 1) (by rw [List.length_drop]; omega)
      rw [List.length_drop] at h6
      have := hc (mkT 2 [45, 62] i) _ _ h6
      simp only [List.length_cons, List.length_nil] at this
      omega
     ·split
      ·have h6 := tokF_fits n (i + 1) r (by omega)
       have := hc (mkT 2 [c] i) _ _ h6
       simp only [List.length_cons, List.length_nil] at this
       omega
      ·simp
theorem sch_len {l : List UInt8} {d : List DefB} (h : readF schemaR l = .ok d) : (schT d).length ≤ 4 * (2 * l.length + 1) := by
 unfold readF at h
 split at h
 ·rename_i h0
  have ho : OkTs (tokS l).1 := tokF_ok _ _ _ (Nat.lt_succ_self _) h0
  cases hr : schemaR (tokS l).1 ps0 with
  | ok x s =>
   rw [hr] at h
   unfold endF at h
   rw [PR.then_ok] at h
   split at h
   ·cases h
    have h1 := cost_defs 65 [] ps0 _ _ hr
    have h2 := keeps_defs ho 65 [] ps0 _ _ (okTs_pos ho) hr
    have h3 := cum_le (tokS l).1 (Nat.le_of_lt h2)
    have h4 := cum_fits (tokF_fits (l.length + 1) 0 l (Nat.lt_succ_self _))
    have h5 : (schT []).length = 0 := rfl
    have h6 : cum (tokS l).1 ps0.i = 0 := rfl
    have h4 : cum (tokS l).1 (tokS l).1.length ≤ 4 * (2 * l.length + 1) := h4
    omega
   ·cases h
  | bad k i => rw [hr] at h; cases h
 ·cases h
end Go.Proofs.YtkildckeikedhaaGreatDoor
namespace Go.Proofs.YtkildckeikedhaaGreatDoor
open Go.ChangeShapes Go.WideShapes Go.ChangeAt Go.RowKit
set_option linter.unusedVariables false

theorem als_at : ∀ (l : List AlB) (i : Nat), i < l.length → (als l)[i * 2]? = some (.string (bstr (l.getD i ([], [])).1)) ∧ (als l)[i * 2 + 1]? = some (.string (bstr (l.getD i ([], [])).2))
 | [], i, h => by simp at h
 | a :: r, 0, _ => ⟨rfl, rfl⟩
 | a :: r, i + 1, h => by
  have ih := als_at r i (by simpa using h)
  have e : als (a :: r) = alv a ++ als r := rfl
  rw [e, List.getElem?_append_right (by simp [alv]; omega), List.getElem?_append_right (by simp [alv]; omega)]
  simp only [alv, List.length_cons, List.length_nil, List.getD_cons_succ]
  rw [show (i + 1) * 2 - (0 + 1 + 1) = i * 2 by omega, show (i + 1) * 2 + 1 - (0 + 1 + 1) = i * 2 + 1 by omega]
  exact ih
theorem RdA.at {P : Nat → Prop} {w : World} {l : List AlB} {q : Option Addr} {n c : Nat} (h : RdA P w l (.slice q n c)) {i : Nat} (hi : i < l.length) : ∃ b o, q = some ⟨b, o, none⟩ ∧ P b ∧ w.cell? ⟨b, o + i * 2, none⟩ = some (.string (bstr (l.getD i ([], [])).1)) ∧ w.cell? ⟨b, o + i * 2 + 1, none⟩ = some (.string (bstr (l.getD i ([], [])).2)) := by
 obtain ⟨q', c', e, _, h3⟩ := h
 simp only [Value.slice.injEq] at e
 obtain ⟨rfl, _, rfl⟩ := e
 obtain ⟨b, o, rfl, hb, hx⟩ := h3 (by omega)
 have ha := als_at l i hi
 exact ⟨b, o, rfl, hb, hx _ _ ha.1, hx _ _ ha.2⟩
def T3 (x : Int) : Prop := x = -1 ∨ x = 0 ∨ x = 1
theorem ci_three (a b : Int) : T3 (Lib.compareInt a b) := by
 unfold T3 Lib.compareInt
 by_cases h : a < b
 ·simp [h]
 ·by_cases h2 : b < a
  ·simp [h, h2]
  ·have : a = b := by omega
   simp [this]
theorem ci_flip (a b : Int) : Lib.compareInt b a = - Lib.compareInt a b := by
 unfold Lib.compareInt
 by_cases h : a < b
 ·have h2 : ¬ b < a := by omega
  simp [h, h2]
 ·by_cases h2 : b < a
  ·simp [h, h2]
  ·have : a = b := by omega
   simp [this]
theorem orL_three : ∀ (l : List Int), (∀ x ∈ l, T3 x) → T3 (orL l)
 | [], _ => .inr (.inl rfl)
 | x :: r, h => by
  have hr := orL_three r fun y hy => h y (List.mem_cons_of_mem _ hy)
  have hx := h x (List.mem_cons_self)
  unfold orL
  split <;> assumption
theorem orL_flip : ∀ (l : List Int), orL (l.map fun x => -x) = - orL l
 | [] => rfl
 | x :: r => by
  have hr := orL_flip r
  simp only [List.map_cons]
  unfold orL
  by_cases h : x = 0
  ·simp [h, hr]
  ·have h2 : ¬ -x = 0 := by omega
   simp [h]
mutual
theorem cmpE_three : ∀ a b : Ex, T3 (cmpE a b)
 | .mk k v n ks, .mk k2 v2 n2 ls => by
  have := cmpL_three ks ls
  unfold cmpE
  refine orL_three _ fun x hx => ?_
  simp only [List.mem_cons, List.not_mem_nil, or_false] at hx
  rcases hx with rfl | rfl | rfl | rfl
  ·exact ci_three _ _
  ·exact cb_three _ _
  ·exact cb_three _ _
  ·exact this
theorem cmpL_three : ∀ a b : List Ex, T3 (cmpL a b)
 | [], [] => .inr (.inl (by unfold cmpL; rfl))
 | [], _ :: _ => .inl (by unfold cmpL; rfl)
 | _ :: _, [] => .inr (.inr (by unfold cmpL; rfl))
 | a :: r, b :: s => by
  have h1 := cmpE_three a b
  have h2 := cmpL_three r s
  unfold cmpL
  refine orL_three _ fun x hx => ?_
  simp only [List.mem_cons, List.not_mem_nil, or_false] at hx
  rcases hx with rfl | rfl
  ·exact h1
  ·exact h2
end
mutual
theorem cmpE_flip : ∀ a b : Ex, cmpE b a = - cmpE a b
 | .mk k v n ks, .mk k2 v2 n2 ls => by
  have h := cmpL_flip ks ls
  unfold cmpE
  simp only [Ex.kind, Ex.via, Ex.nm, Ex.kids]
  rw [ci_flip k k2, cb_flip v v2, cb_flip n n2, h, ← orL_flip]; rfl
theorem cmpL_flip : ∀ a b : List Ex, cmpL b a = - cmpL a b
 | [], [] => by unfold cmpL; rfl
 | [], _ :: _ => by unfold cmpL; rfl
 | _ :: _, [] => by unfold cmpL; rfl
 | a :: r, b :: s => by
  have h1 := cmpE_flip a b
  have h2 := cmpL_flip r s
  unfold cmpL
  rw [h1, h2, ← orL_flip]; rfl
end
mutual
theorem cmpE_self : ∀ a : Ex, cmpE a a = 0
 | .mk k v n ks => by
  rw [cmpE_kids (cb_self v) (cb_self n)]
  exact cmpL_self ks
theorem cmpL_self : ∀ a : List Ex, cmpL a a = 0
 | [] => by unfold cmpL; rfl
 | a :: r => by
  have h1 := cmpE_self a
  have h2 := cmpL_self r
  unfold cmpL
  rw [h1, h2]; rfl
end
theorem cmp_cases (k k2 : Int) (v n v2 n2 : List UInt8) (ks ls : List Ex) :
  (k < k2 ∧ cmpE (.mk k v n ks) (.mk k2 v2 n2 ls) = -1) ∨ (k2 < k ∧ cmpE (.mk k v n ks) (.mk k2 v2 n2 ls) = 1) ∨
  (k = k2 ∧ Lib.compareBytes v v2 ≠ 0 ∧ cmpE (.mk k v n ks) (.mk k2 v2 n2 ls) = Lib.compareBytes v v2) ∨
  (k = k2 ∧ v = v2 ∧ Lib.compareBytes n n2 ≠ 0 ∧ cmpE (.mk k v n ks) (.mk k2 v2 n2 ls) = Lib.compareBytes n n2) ∨
  (k = k2 ∧ v = v2 ∧ n = n2 ∧ cmpE (.mk k v n ks) (.mk k2 v2 n2 ls) = cmpL ks ls) := by
 by_cases h1 : k < k2
 ·exact .inl ⟨h1, cmpE_lt h1⟩
 by_cases h2 : k2 < k
 ·exact .inr (.inl ⟨h2, cmpE_gt h2⟩)
 obtain rfl : k = k2 := by omega
 by_cases h3 : Lib.compareBytes v v2 = 0
 ·by_cases h4 : Lib.compareBytes n n2 = 0
  ·exact .inr (.inr (.inr (.inr ⟨rfl, cb_eq _ _ h3, cb_eq _ _ h4, cmpE_kids h3 h4⟩)))
  ·exact .inr (.inr (.inr (.inl ⟨rfl, cb_eq _ _ h3, h4, cmpE_nm h3 h4⟩)))
 ·exact .inr (.inr (.inl ⟨rfl, h3, cmpE_via h3⟩))
mutual
theorem cmpE_eq : ∀ {a b : Ex}, cmpE a b = 0 → a = b
 | .mk k v n ks, .mk k2 v2 n2 ls, h => by
  have hl := @cmpL_eq ks ls
  rcases cmp_cases k k2 v n v2 n2 ks ls with ⟨_, e⟩ | ⟨_, e⟩ | ⟨_, g, e⟩ | ⟨_, _, g, e⟩ | ⟨rfl, rfl, rfl, e⟩
  ·rw [e] at h; cases h
  ·rw [e] at h; cases h
  ·rw [e] at h; exact absurd h g
  ·rw [e] at h; exact absurd h g
  ·rw [e] at h; rw [hl h]
theorem cmpL_eq : ∀ {a b : List Ex}, cmpL a b = 0 → a = b
 | [], [], _ => rfl
 | [], _ :: _, h => by unfold cmpL at h; cases h
 | _ :: _, [], h => by unfold cmpL at h; cases h
 | a :: r, b :: s, h => by
  have h1 := @cmpE_eq a b
  have h2 := @cmpL_eq r s
  unfold cmpL at h
  rw [orL2] at h
  by_cases hz : cmpE a b = 0
  ·rw [if_pos hz] at h; rw [h1 hz, h2 h]
  ·rw [if_neg hz] at h; exact absurd h hz
end
mutual
theorem cmpE_up : ∀ {a b c : Ex}, cmpE a b < 0 → cmpE b c < 0 → cmpE a c < 0
 | .mk k v n ks, .mk k2 v2 n2 ls, .mk k3 v3 n3 ms, h1, h2 => by
  have hl := @cmpL_up ks ls ms
  rcases cmp_cases k k2 v n v2 n2 ks ls with ⟨g, e⟩ | ⟨_, e⟩ | ⟨rfl, g, e⟩ | ⟨rfl, rfl, g, e⟩ | ⟨rfl, rfl, rfl, e⟩
  ·rcases cmp_cases k2 k3 v2 n2 v3 n3 ls ms with ⟨g2, e2⟩ | ⟨_, e2⟩ | ⟨rfl, g2, e2⟩ | ⟨rfl, rfl, g2, e2⟩ | ⟨rfl, rfl, rfl, e2⟩
   ·rw [cmpE_lt (by omega)]; omega
   ·rw [e2] at h2; omega
   ·rw [cmpE_lt g]; omega
   ·rw [cmpE_lt g]; omega
   ·rw [cmpE_lt g]; omega
  ·rw [e] at h1; omega
  ·rw [e] at h1
   rcases cmp_cases k k3 v2 n2 v3 n3 ls ms with ⟨g2, e2⟩ | ⟨_, e2⟩ | ⟨rfl, g2, e2⟩ | ⟨rfl, rfl, g2, e2⟩ | ⟨rfl, rfl, rfl, e2⟩
   ·rw [cmpE_lt g2]; omega
   ·rw [e2] at h2; omega
   ·rw [e2] at h2
    have h3 := cb_up _ _ _ h1 h2
    rw [cmpE_via (by omega)]; exact h3
   ·rw [cmpE_via g]; exact h1
   ·rw [cmpE_via g]; exact h1
  ·rw [e] at h1
   rcases cmp_cases k k3 v n2 v3 n3 ls ms with ⟨g2, e2⟩ | ⟨_, e2⟩ | ⟨rfl, g2, e2⟩ | ⟨rfl, rfl, g2, e2⟩ | ⟨rfl, rfl, rfl, e2⟩
   ·rw [cmpE_lt g2]; omega
   ·rw [e2] at h2; omega
   ·rw [e2] at h2
    rw [cmpE_via g2]; exact h2
   ·rw [e2] at h2
    have h3 := cb_up _ _ _ h1 h2
    rw [cmpE_nm (cb_self _) (by omega)]; exact h3
   ·rw [cmpE_nm (cb_self _) g]; exact h1
  ·rw [e] at h1
   rcases cmp_cases k k3 v n v3 n3 ls ms with ⟨g2, e2⟩ | ⟨_, e2⟩ | ⟨rfl, g2, e2⟩ | ⟨rfl, rfl, g2, e2⟩ | ⟨rfl, rfl, rfl, e2⟩
   ·rw [cmpE_lt g2]; omega
   ·rw [e2] at h2; omega
   ·rw [e2] at h2
    rw [cmpE_via g2]; exact h2
   ·rw [e2] at h2
    rw [cmpE_nm (cb_self _) g2]; exact h2
   ·rw [e2] at h2
    rw [cmpE_kids (cb_self _) (cb_self _)]; exact hl h1 h2
theorem cmpL_up : ∀ {a b c : List Ex}, cmpL a b < 0 → cmpL b c < 0 → cmpL a c < 0
 | [], [], _, h1, _ => by unfold cmpL at h1; omega
 | [], _ :: _, [], _, h2 => by unfold cmpL at h2; omega
 | [], _ :: _, _ :: _, _, _ => by unfold cmpL; omega
 | _ :: _, [], _, h1, _ => by unfold cmpL at h1; omega
 | _ :: _, _ :: _, [], _, h2 => by unfold cmpL at h2; omega
 | a :: r, b :: s, c :: u, h1, h2 => by
  have he := @cmpE_up a b c
  have hr := @cmpL_up r s u
  have q1 := @cmpE_eq a b
  have q2 := @cmpE_eq b c
  unfold cmpL at h1 h2 ⊢
  rw [orL2] at h1 h2 ⊢
  by_cases z1 : cmpE a b = 0
  ·obtain rfl := q1 z1
   rw [if_pos z1] at h1
   by_cases z2 : cmpE a c = 0
   ·rw [if_pos z2] at h2 ⊢; exact hr h1 h2
   ·rw [if_neg z2] at h2 ⊢; exact h2
  ·rw [if_neg z1] at h1
   by_cases z2 : cmpE b c = 0
   ·obtain rfl := q2 z2
    rw [if_neg z1]; exact h1
   ·rw [if_neg z2] at h2
    have := he h1 h2
    rw [if_neg (by omega)]; exact this
end
theorem cmpE_le {a b c : Ex} (h1 : ¬ 0 < cmpE a b) (h2 : ¬ 0 < cmpE b c) : cmpE a c ≤ 0 := by
 by_cases z1 : cmpE a b = 0
 ·rw [cmpE_eq z1]; omega
 ·by_cases z2 : cmpE b c = 0
  ·rw [← cmpE_eq z2]; omega
  ·have := cmpE_up (a := a) (b := b) (c := c) (by omega) (by omega); omega
theorem stepw_call {P : Program} {ops : Array Oper} {o : Oper} {a : Act} {w : World} {K : Act → World → Prop} {Q : Exit → Act → World → Prop} {E : Prop} {f : FuncId} {args : Array Value} {R : Value → World → Prop}
  (hw : Region.wanted o (yielded ops a.tmps) = true) (hrun : (execOp a.eval o).run P w = .ok (.enter f args) w) (hc : Calls P f args w fun e w' => ∃ v, e = .returned v ∧ R v w')
  (hK : ∀ v w', R v w' → K (a.put o.dst v) w') : if Region.wanted o (yielded ops a.tmps) = true then Oper.wp P o a w K Q else E := by
 rw [if_pos hw]
 unfold Oper.wp
 rw [hrun]
 simp only [Oper.upon]
 refine hc.mono fun e w' ⟨v, he, hr⟩ => ?_
 subst he
 exact hK v w' hr
def AtC (w : World) (b o : Nat) (cs : List Value) : Prop := b < w.heap.size ∧ ∀ j u, cs[j]? = some u → w.cell? ⟨b, o + j, none⟩ = some u
theorem AtC.later {w w' : World} {b o : Nat} {cs : List Value} (h : AtC w b o cs) (hb : Below w.heap.size w w') : AtC w' b o cs := ⟨Nat.lt_of_lt_of_le h.1 hb.size, fun j u hj => (hb.cell (p := ⟨b, o + j, none⟩) h.1).trans (h.2 j u hj)⟩
theorem rdMem_form {P : Nat → Prop} {w : World} {n : List UInt8} {k : Int} {ls : List AlB} {mk : Int} {mv mn : List UInt8} {ms : List Ex} {cs : List Value} (h : rdMem P w (n, k, ls, .mk mk mv mn ms) cs) :
  ∃ qa ca q4 c4, cs = [.string (bstr n), .int .i64 k, .slice qa ls.length ca, .int .i64 mk, .string (bstr mv), .string (bstr mn), .slice q4 ms.length c4] ∧ RdA P w ls (.slice qa ls.length ca) ∧ RdE P w (.mk mk mv mn ms) (.agg #[.int .i64 mk, .string (bstr mv), .string (bstr mn), .slice q4 ms.length c4]) := by
 obtain ⟨vt, v3, v4, v5, v6, e, h1, h2⟩ := h
 obtain ⟨qa, ca, e1, hz1⟩ := id h1
 obtain ⟨q4, c4, e2, _, _⟩ := RdE.form h2
 unfold exv at e2
 dsimp only [Ex.kind, Ex.via, Ex.nm, Ex.kids] at e2
 simp only [Value.agg.injEq, Array.mk.injEq, List.cons.injEq, and_true] at e2
 obtain ⟨rfl, rfl, rfl, rfl⟩ := e2
 subst e1
 exact ⟨qa, ca, q4, c4, e, h1, h2⟩
def OkM (m : MemB) : Prop := okE 100000 m.2.2.2 ∧ sizeE m.2.2.2 ≤ 900000 ∧ m.2.2.1.length ≤ 100000
def OkD (d : DefB) : Prop := d.2.length ≤ 100000 ∧ ∀ m ∈ d.2, OkM m
def OkS (l : List DefB) : Prop := l.length ≤ 100000 ∧ ∀ d ∈ l, OkD d
theorem GoodM.ok {m : MemB} (h : GoodM m) : OkM m := by
 rcases h.2 with ⟨_, _, h1, _, h2⟩ | ⟨_, h1, h2, h3, h4⟩
 ·exact ⟨by rw [h2]; simp [ex0, okE, okL], by rw [h2]; decide, by omega⟩
 ·exact ⟨okE_le (by decide) _ h3, by omega, by rw [h1]; decide⟩
theorem GoodD.ok {d : DefB} (h : GoodD d) : OkD d := ⟨by have := h.2.1; omega, fun m hm => (h.2.2 m hm).ok⟩
theorem GoodS.ok {l : List DefB} (h : GoodS l) : OkS l := ⟨by have := h.1; omega, fun m hm => (h.2 m hm).ok⟩
theorem isName_at (s : ByteArray) {b : Bool} (hb : isName s = b) (w : World) (hr : ResT w) : Calls Tryz.prog 61 #[.string s] w fun e w' => e = .returned (.bool b) ∧ Below w.heap.size w w' := by subst hb; exact isName_any s w hr
theorem isName_small {s : ByteArray} (h : isName s = true) : s.size ≤ 64 := by
  unfold isName consB at h
  simp only [Bool.and_eq_true, decide_eq_true_eq] at h
  have := h.1.1.2.1
  rw [Array.length_toList] at this
  exact this
theorem isName_ne {s : ByteArray} (h : isName s = true) : ¬ s.toList = [] ∧ s.toList.isEmpty = false := by
  unfold isName consB at h
  simp only [Bool.and_eq_true, decide_eq_true_eq] at h
  have h1 := h.1.1.1
  rw [toList_data]
  constructor
  · intro e
    rw [e] at h1
    simp at h1
  · cases e : s.data.toList with
    | nil => rw [e] at h1; simp at h1
    | cons a b => rfl
set_option maxRecDepth 100000 in
set_option maxHeartbeats 2000000 in
theorem allowedG_any (t r : ByteArray) (w : World) (h : ResT w) (ht : isName t = true) (hr : r = ⟨#[]⟩ ∨ isName r = true) : Calls Tryz.prog 43 #[.agg #[.string t, .string r]] w fun e w' => ∃ x, e = .returned (.tuple #[.string x, .bool true]) ∧ Below w.heap.size w w' := by
  have hb0 : Below w.heap.size w (w.alloc (.cells #[.string t, .string r] 42)) := (Below.refl w.heap.size w).alloc (Nat.le_refl _) _
  have HE : Hid (ResT (w.alloc (.cells #[.string t, .string r] 42))) := h.below hb0 h.lt
  have HB0 := hiD hb0
  have HX0 : Hid (Arr (w.alloc (.cells #[.string t, .string r] 42)) 42 w.heap.size [.string t, .string r]) := Arr.new' _ _ _ _ rfl
  have HN := hiD (isName_at t ht _ HE.out)
  have g1 : (t.size : Int) ≤ 1000000 := by have := isName_small ht; omega
  clear h hb0 ht
  go_enter Tryz.func43, Tryz.ntmps43
  go_wp2_with fail
  refine HN.out.mono ?_
  rintro e w1 ⟨rfl, b1⟩
  have HB := hiD (HB0.out.trans (b1.mono HB0.out.size))
  have HX := hiD (HX0.out.later b1)
  have HE : Hid (ResT w1) := HE.out.below b1 HE.out.lt
  clear b1 HB0 HX0
  obtain ⟨x0, y0, x1, y1⟩ := HX.out.all2
  by_cases hz : r = ⟨#[]⟩
  · subst hz
    clear hr
    go_wp2_with fail
    refine bodyPost_ret (v := .tuple #[.string t, .bool true]) ?_ rfl ⟨_, rfl, HB.out⟩
    simp [results, Tryz.results43, go_sem]
  · have hn := hr.resolve_left hz
    have g2 : (r.size : Int) ≤ 1000000 := by have := isName_small hn; omega
    obtain ⟨hne, hne2⟩ := isName_ne hn
    have HN := hiD (isName_at r hn _ HE.out)
    clear hz hr hn
    go_wp2_with fail
    refine HN.out.mono ?_
    rintro e w2 ⟨rfl, b2⟩
    clear x0 y0 x1 y1
    have HX := hiD (HX.out.later b2)
    have HB := hiD (HB.out.trans (b2.mono HB.out.size))
    clear b2
    obtain ⟨x0, y0, x1, y1⟩ := HX.out.all2
    go_wp2_with fail
    refine bodyPost_ret (v := .tuple #[.string (t ++ ⟨#[35]⟩ ++ r), .bool true]) ?_ rfl ⟨_, rfl, HB.out⟩
    simp [results, Tryz.results43, go_sem]
set_option maxRecDepth 100000 in
set_option maxHeartbeats 2000000 in
theorem isRight_any (t r : ByteArray) (w : World) (h : ResT w) (ht : isName t = true) (hr : r = ⟨#[]⟩ ∨ isName r = true) : Calls Tryz.prog 90 #[.agg #[.string t, .string r]] w fun e w' => e = .returned (.bool true) ∧ Below w.heap.size w w' := by
  have HB0 : Hid (Below w.heap.size w (w.alloc (.cells #[.string t, .string r] 42))) := (Below.refl _ _).alloc (Nat.le_refl _) _
  have HN := hiD (allowedG_any t r _ (h.below HB0.out h.lt) ht hr)
  clear h ht hr
  go_enter Tryz.func90, Tryz.ntmps90
  go_wp2_with fail
  refine HN.out.mono ?_
  rintro e w1 ⟨x, rfl, b1⟩
  have HB := hiD (HB0.out.trans (b1.mono HB0.out.size))
  clear b1
  go_wp2_with fail
  go_ret
  exact ⟨rfl, HB.out⟩
set_option maxRecDepth 100000 in
set_option maxHeartbeats 2000000 in
theorem idxD {W : World} {p l c : Nat} {q : Option Addr} (hl : l ≤ 100000) (hE : ∀ i, i < l → ∃ (b o : Nat) (u0 u1 : Value), q = some ⟨b, o, none⟩ ∧ AtC W b (o + i * 2) [u0, u1] ∧ ∀ W', Below W.heap.size W W' → Calls Tryz.prog 60 #[.agg #[u0, u1], .pointer (some ⟨p, 0, none⟩)] W' fun r w' => r = .returned (.bool false) ∧ Below W'.heap.size W' w') :
    Calls Tryz.prog 83 #[.slice q l c, .func (.func 60) #[] #[.pointer (some ⟨p, 0, none⟩)]] W fun r w' => r = .returned (.int .i64 (-1)) ∧ Below W.heap.size W w' := by
  have HE := hiD hE
  have hz : (l : Int) ≤ 100000 := by omega
  clear hE hl
  go_enter Tryz.func83, Tryz.ntmps83
  go_wp2_with fail
  go_loopw [8] (fun iv wr => ∃ i : Nat, i ≤ l ∧ iv = .int .i64 i ∧ Hid (Below W.heap.size W wr)) (fun iv _ => l - (intOf iv).toNat)
  case atStart => exact ⟨0, Nat.zero_le _, rfl, Below.refl _ _⟩
  case round =>
    obtain ⟨i, hi, rfl, HB⟩ := hrel
    have hi0 : (0 : Int) ≤ i := by omega
    by_cases hlt : i < l
    · have hi1 : (i : Int) < l := by omega
      obtain ⟨b, o, u0, u1, rfl, hc, HC⟩ := HE.out i hlt
      have HCL := hiD (HC wr HB.out)
      have a0 := (hc.later HB.out).2 0 _ rfl
      have a1 := (hc.later HB.out).2 1 _ rfl
      simp only [Nat.add_zero] at a0
      clear HC hc hlt
      go_wp2_with fail
      refine HCL.out.mono ?_
      rintro r w1 ⟨rfl, b1⟩
      have HB := hiD (HB.out.trans (b1.mono HB.out.size))
      clear b1 a0 a1
      go_wp2_with fail
      go_roundw
      case rel => exact ⟨i + 1, by omega, by go_num, HB.out⟩
      case measure => simp [intOf]; omega
    · have hi1 : ¬ (i : Int) < l := by omega
      go_wp2_with fail
      go_ret
      exact ⟨rfl, HB.out⟩
set_option maxRecDepth 100000 in
set_option maxHeartbeats 2000000 in
theorem conD {W : World} {p l c : Nat} {q : Option Addr} (hl : l ≤ 100000) (hE : ∀ i, i < l → ∃ (b o : Nat) (u0 u1 : Value), q = some ⟨b, o, none⟩ ∧ AtC W b (o + i * 2) [u0, u1] ∧ ∀ W', Below W.heap.size W W' → Calls Tryz.prog 60 #[.agg #[u0, u1], .pointer (some ⟨p, 0, none⟩)] W' fun r w' => r = .returned (.bool false) ∧ Below W'.heap.size W' w') :
    Calls Tryz.prog 59 #[.slice q l c, .func (.func 60) #[] #[.pointer (some ⟨p, 0, none⟩)]] W fun r w' => r = .returned (.bool false) ∧ Below W.heap.size W w' := by
  have HI := hiD (idxD (c := c) hl hE)
  clear hE hl
  go_enter Tryz.func59, Tryz.ntmps59
  go_wp2_with fail
  refine HI.out.mono ?_
  rintro r w1 ⟨rfl, b1⟩
  have HB := hiD b1
  clear b1
  go_wp2_with fail
  go_ret
  exact ⟨rfl, HB.out⟩
set_option maxRecDepth 100000 in
set_option maxHeartbeats 2000000 in
theorem cloD {W : World} {p : Nat} {u0 u1 : Value} (hp : W.cell? ⟨p, 0, none⟩ = some (.func (.func 40) #[] #[])) (HS : ∀ W', Below W.heap.size W W' → Calls Tryz.prog 40 #[.agg #[u0, u1]] W' fun r w' => r = .returned (.bool true) ∧ Below W'.heap.size W' w') :
    Calls Tryz.prog 60 #[.agg #[u0, u1], .pointer (some ⟨p, 0, none⟩)] W fun r w' => r = .returned (.bool false) ∧ Below W.heap.size W w' := by
  have HB0 : Hid (Below W.heap.size W (W.alloc (.cells #[u0, u1] 39))) := (Below.refl _ _).alloc (Nat.le_refl _) _
  have HH := hiD (HS _ HB0.out)
  have hp1 := (HB0.out.cell (p := ⟨p, 0, none⟩) (World.block_lt_of_cell? W _ hp)).trans hp
  clear HS hp
  go_enter Tryz.func60, Tryz.ntmps60
  go_wp2_with fail
  refine HH.out.mono ?_
  rintro r w1 ⟨rfl, b1⟩
  have HB := hiD (HB0.out.trans (b1.mono HB0.out.size))
  clear b1
  go_wp2_with fail
  go_ret
  exact ⟨rfl, HB.out⟩
set_option maxRecDepth 100000 in
set_option maxHeartbeats 2000000 in
theorem allD {W : World} {l c : Nat} {q : Option Addr} (hl : l ≤ 100000) (hE : ∀ i, i < l → ∃ (b o : Nat) (u0 u1 : Value), q = some ⟨b, o, none⟩ ∧ AtC W b (o + i * 2) [u0, u1] ∧ ∀ W', Below W.heap.size W W' → Calls Tryz.prog 40 #[.agg #[u0, u1]] W' fun r w' => r = .returned (.bool true) ∧ Below W'.heap.size W' w') :
    Calls Tryz.prog 39 #[.slice q l c, .func (.func 40) #[] #[]] W fun r w' => r = .returned (.bool true) ∧ Below W.heap.size W w' := by
  have HB0 : Hid (Below W.heap.size W (W.alloc (.cells #[.func (.func 40) #[] #[]] 100))) := (Below.refl _ _).alloc (Nat.le_refl _) _
  have hbox : Arr (W.alloc (.cells #[.func (.func 40) #[] #[]] 100)) 100 W.heap.size [.func (.func 40) #[] #[]] := Arr.new' _ _ _ _ rfl
  have HI := hiD (conD (W := W.alloc (.cells #[.func (.func 40) #[] #[]] 100)) (p := W.heap.size) (q := q) (c := c) hl fun i hi => by
    obtain ⟨b, o, u0, u1, e, hc, HS⟩ := hE i hi
    exact ⟨b, o, u0, u1, e, hc.later HB0.out, fun W' hW => cloD ((hW.cell (p := ⟨W.heap.size, 0, none⟩) hbox.lt).trans (hbox.cell 0)) fun W2 h2 => HS W2 (HB0.out.trans ((hW.trans (h2.mono hW.size)).mono HB0.out.size))⟩)
  clear hE hbox hl
  go_enter Tryz.func39, Tryz.ntmps39
  go_wp2_with fail
  refine HI.out.mono ?_
  rintro r w1 ⟨rfl, b1⟩
  have HB := hiD (HB0.out.trans (b1.mono HB0.out.size))
  clear b1
  go_wp2_with fail
  go_ret
  exact ⟨rfl, HB.out⟩
set_option maxRecDepth 100000 in
set_option maxHeartbeats 2000000 in
theorem idxM {W : World} {p l c : Nat} {q : Option Addr} (hl : l ≤ 100000) (hE : ∀ i, i < l → ∃ (b o : Nat) (u0 u1 u2 u3 u4 u5 u6 : Value), q = some ⟨b, o, none⟩ ∧ AtC W b (o + i * 7) [u0, u1, u2, u3, u4, u5, u6] ∧ ∀ W', Below W.heap.size W W' → Calls Tryz.prog 88 #[.agg #[u0, u1, u2, u3, u4, u5, u6], .pointer (some ⟨p, 0, none⟩)] W' fun r w' => r = .returned (.bool false) ∧ Below W'.heap.size W' w') :
    Calls Tryz.prog 107 #[.slice q l c, .func (.func 88) #[] #[.pointer (some ⟨p, 0, none⟩)]] W fun r w' => r = .returned (.int .i64 (-1)) ∧ Below W.heap.size W w' := by
  have HE := hiD hE
  have hz : (l : Int) ≤ 100000 := by omega
  clear hE hl
  go_enter Tryz.func107, Tryz.ntmps107
  go_wp2_with fail
  go_loopw [8] (fun iv wr => ∃ i : Nat, i ≤ l ∧ iv = .int .i64 i ∧ Hid (Below W.heap.size W wr)) (fun iv _ => l - (intOf iv).toNat)
  case atStart => exact ⟨0, Nat.zero_le _, rfl, Below.refl _ _⟩
  case round =>
    obtain ⟨i, hi, rfl, HB⟩ := hrel
    have hi0 : (0 : Int) ≤ i := by omega
    by_cases hlt : i < l
    · have hi1 : (i : Int) < l := by omega
      obtain ⟨b, o, u0, u1, u2, u3, u4, u5, u6, rfl, hc, HC⟩ := HE.out i hlt
      have HCL := hiD (HC wr HB.out)
      have a0 := (hc.later HB.out).2 0 _ rfl
      have a1 := (hc.later HB.out).2 1 _ rfl
      have a2 := (hc.later HB.out).2 2 _ rfl
      have a3 := (hc.later HB.out).2 3 _ rfl
      have a4 := (hc.later HB.out).2 4 _ rfl
      have a5 := (hc.later HB.out).2 5 _ rfl
      have a6 := (hc.later HB.out).2 6 _ rfl
      simp only [Nat.add_zero] at a0
      clear HC hc hlt
      go_wp2_with fail
      refine HCL.out.mono ?_
      rintro r w1 ⟨rfl, b1⟩
      have HB := hiD (HB.out.trans (b1.mono HB.out.size))
      clear b1 a0 a1 a2 a3 a4 a5 a6
      go_wp2_with fail
      go_roundw
      case rel => exact ⟨i + 1, by omega, by go_num, HB.out⟩
      case measure => simp [intOf]; omega
    · have hi1 : ¬ (i : Int) < l := by omega
      go_wp2_with fail
      go_ret
      exact ⟨rfl, HB.out⟩
set_option maxRecDepth 100000 in
set_option maxHeartbeats 2000000 in
theorem conM {W : World} {p l c : Nat} {q : Option Addr} (hl : l ≤ 100000) (hE : ∀ i, i < l → ∃ (b o : Nat) (u0 u1 u2 u3 u4 u5 u6 : Value), q = some ⟨b, o, none⟩ ∧ AtC W b (o + i * 7) [u0, u1, u2, u3, u4, u5, u6] ∧ ∀ W', Below W.heap.size W W' → Calls Tryz.prog 88 #[.agg #[u0, u1, u2, u3, u4, u5, u6], .pointer (some ⟨p, 0, none⟩)] W' fun r w' => r = .returned (.bool false) ∧ Below W'.heap.size W' w') :
    Calls Tryz.prog 87 #[.slice q l c, .func (.func 88) #[] #[.pointer (some ⟨p, 0, none⟩)]] W fun r w' => r = .returned (.bool false) ∧ Below W.heap.size W w' := by
  have HI := hiD (idxM (c := c) hl hE)
  clear hE hl
  go_enter Tryz.func87, Tryz.ntmps87
  go_wp2_with fail
  refine HI.out.mono ?_
  rintro r w1 ⟨rfl, b1⟩
  have HB := hiD b1
  clear b1
  go_wp2_with fail
  go_ret
  exact ⟨rfl, HB.out⟩
set_option maxRecDepth 100000 in
set_option maxHeartbeats 2000000 in
theorem cloM {W : World} {p : Nat} {u0 u1 u2 u3 u4 u5 u6 : Value} (hp : W.cell? ⟨p, 0, none⟩ = some (.func (.func 63) #[] #[])) (HS : ∀ W', Below W.heap.size W W' → Calls Tryz.prog 63 #[.agg #[u0, u1, u2, u3, u4, u5, u6]] W' fun r w' => r = .returned (.bool true) ∧ Below W'.heap.size W' w') :
    Calls Tryz.prog 88 #[.agg #[u0, u1, u2, u3, u4, u5, u6], .pointer (some ⟨p, 0, none⟩)] W fun r w' => r = .returned (.bool false) ∧ Below W.heap.size W w' := by
  have HB0 : Hid (Below W.heap.size W (W.alloc (.cells #[u0, u1, u2, u3, u4, u5, u6] 48))) := (Below.refl _ _).alloc (Nat.le_refl _) _
  have HH := hiD (HS _ HB0.out)
  have hp1 := (HB0.out.cell (p := ⟨p, 0, none⟩) (World.block_lt_of_cell? W _ hp)).trans hp
  clear HS hp
  go_enter Tryz.func88, Tryz.ntmps88
  go_wp2_with fail
  refine HH.out.mono ?_
  rintro r w1 ⟨rfl, b1⟩
  have HB := hiD (HB0.out.trans (b1.mono HB0.out.size))
  clear b1
  go_wp2_with fail
  go_ret
  exact ⟨rfl, HB.out⟩
set_option maxRecDepth 100000 in
set_option maxHeartbeats 2000000 in
theorem allM {W : World} {l c : Nat} {q : Option Addr} (hl : l ≤ 100000) (hE : ∀ i, i < l → ∃ (b o : Nat) (u0 u1 u2 u3 u4 u5 u6 : Value), q = some ⟨b, o, none⟩ ∧ AtC W b (o + i * 7) [u0, u1, u2, u3, u4, u5, u6] ∧ ∀ W', Below W.heap.size W W' → Calls Tryz.prog 63 #[.agg #[u0, u1, u2, u3, u4, u5, u6]] W' fun r w' => r = .returned (.bool true) ∧ Below W'.heap.size W' w') :
    Calls Tryz.prog 62 #[.slice q l c, .func (.func 63) #[] #[]] W fun r w' => r = .returned (.bool true) ∧ Below W.heap.size W w' := by
  have HB0 : Hid (Below W.heap.size W (W.alloc (.cells #[.func (.func 63) #[] #[]] 120))) := (Below.refl _ _).alloc (Nat.le_refl _) _
  have hbox : Arr (W.alloc (.cells #[.func (.func 63) #[] #[]] 120)) 120 W.heap.size [.func (.func 63) #[] #[]] := Arr.new' _ _ _ _ rfl
  have HI := hiD (conM (W := W.alloc (.cells #[.func (.func 63) #[] #[]] 120)) (p := W.heap.size) (q := q) (c := c) hl fun i hi => by
    obtain ⟨b, o, u0, u1, u2, u3, u4, u5, u6, e, hc, HS⟩ := hE i hi
    exact ⟨b, o, u0, u1, u2, u3, u4, u5, u6, e, hc.later HB0.out, fun W' hW => cloM ((hW.cell (p := ⟨W.heap.size, 0, none⟩) hbox.lt).trans (hbox.cell 0)) fun W2 h2 => HS W2 (HB0.out.trans ((hW.trans (h2.mono hW.size)).mono HB0.out.size))⟩)
  clear hE hbox hl
  go_enter Tryz.func62, Tryz.ntmps62
  go_wp2_with fail
  refine HI.out.mono ?_
  rintro r w1 ⟨rfl, b1⟩
  have HB := hiD (HB0.out.trans (b1.mono HB0.out.size))
  clear b1
  go_wp2_with fail
  go_ret
  exact ⟨rfl, HB.out⟩
set_option maxRecDepth 100000 in
set_option maxHeartbeats 2000000 in
theorem idxA {W : World} {p l c : Nat} {q : Option Addr} (hl : l ≤ 100000) (hE : ∀ i, i < l → ∃ (b o : Nat) (u0 u1 : Value), q = some ⟨b, o, none⟩ ∧ AtC W b (o + i * 2) [u0, u1] ∧ ∀ W', Below W.heap.size W W' → Calls Tryz.prog 109 #[.agg #[u0, u1], .pointer (some ⟨p, 0, none⟩)] W' fun r w' => r = .returned (.bool false) ∧ Below W'.heap.size W' w') :
    Calls Tryz.prog 118 #[.slice q l c, .func (.func 109) #[] #[.pointer (some ⟨p, 0, none⟩)]] W fun r w' => r = .returned (.int .i64 (-1)) ∧ Below W.heap.size W w' := by
  have HE := hiD hE
  have hz : (l : Int) ≤ 100000 := by omega
  clear hE hl
  go_enter Tryz.func118, Tryz.ntmps118
  go_wp2_with fail
  go_loopw [8] (fun iv wr => ∃ i : Nat, i ≤ l ∧ iv = .int .i64 i ∧ Hid (Below W.heap.size W wr)) (fun iv _ => l - (intOf iv).toNat)
  case atStart => exact ⟨0, Nat.zero_le _, rfl, Below.refl _ _⟩
  case round =>
    obtain ⟨i, hi, rfl, HB⟩ := hrel
    have hi0 : (0 : Int) ≤ i := by omega
    by_cases hlt : i < l
    · have hi1 : (i : Int) < l := by omega
      obtain ⟨b, o, u0, u1, rfl, hc, HC⟩ := HE.out i hlt
      have HCL := hiD (HC wr HB.out)
      have a0 := (hc.later HB.out).2 0 _ rfl
      have a1 := (hc.later HB.out).2 1 _ rfl
      simp only [Nat.add_zero] at a0
      clear HC hc hlt
      go_wp2_with fail
      refine HCL.out.mono ?_
      rintro r w1 ⟨rfl, b1⟩
      have HB := hiD (HB.out.trans (b1.mono HB.out.size))
      clear b1 a0 a1
      go_wp2_with fail
      go_roundw
      case rel => exact ⟨i + 1, by omega, by go_num, HB.out⟩
      case measure => simp [intOf]; omega
    · have hi1 : ¬ (i : Int) < l := by omega
      go_wp2_with fail
      go_ret
      exact ⟨rfl, HB.out⟩
set_option maxRecDepth 100000 in
set_option maxHeartbeats 2000000 in
theorem conA {W : World} {p l c : Nat} {q : Option Addr} (hl : l ≤ 100000) (hE : ∀ i, i < l → ∃ (b o : Nat) (u0 u1 : Value), q = some ⟨b, o, none⟩ ∧ AtC W b (o + i * 2) [u0, u1] ∧ ∀ W', Below W.heap.size W W' → Calls Tryz.prog 109 #[.agg #[u0, u1], .pointer (some ⟨p, 0, none⟩)] W' fun r w' => r = .returned (.bool false) ∧ Below W'.heap.size W' w') :
    Calls Tryz.prog 108 #[.slice q l c, .func (.func 109) #[] #[.pointer (some ⟨p, 0, none⟩)]] W fun r w' => r = .returned (.bool false) ∧ Below W.heap.size W w' := by
  have HI := hiD (idxA (c := c) hl hE)
  clear hE hl
  go_enter Tryz.func108, Tryz.ntmps108
  go_wp2_with fail
  refine HI.out.mono ?_
  rintro r w1 ⟨rfl, b1⟩
  have HB := hiD b1
  clear b1
  go_wp2_with fail
  go_ret
  exact ⟨rfl, HB.out⟩
set_option maxRecDepth 100000 in
set_option maxHeartbeats 2000000 in
theorem cloA {W : World} {p : Nat} {u0 u1 : Value} (hp : W.cell? ⟨p, 0, none⟩ = some (.func (.func 90) #[] #[])) (HS : ∀ W', Below W.heap.size W W' → Calls Tryz.prog 90 #[.agg #[u0, u1]] W' fun r w' => r = .returned (.bool true) ∧ Below W'.heap.size W' w') :
    Calls Tryz.prog 109 #[.agg #[u0, u1], .pointer (some ⟨p, 0, none⟩)] W fun r w' => r = .returned (.bool false) ∧ Below W.heap.size W w' := by
  have HB0 : Hid (Below W.heap.size W (W.alloc (.cells #[u0, u1] 42))) := (Below.refl _ _).alloc (Nat.le_refl _) _
  have HH := hiD (HS _ HB0.out)
  have hp1 := (HB0.out.cell (p := ⟨p, 0, none⟩) (World.block_lt_of_cell? W _ hp)).trans hp
  clear HS hp
  go_enter Tryz.func109, Tryz.ntmps109
  go_wp2_with fail
  refine HH.out.mono ?_
  rintro r w1 ⟨rfl, b1⟩
  have HB := hiD (HB0.out.trans (b1.mono HB0.out.size))
  clear b1
  go_wp2_with fail
  go_ret
  exact ⟨rfl, HB.out⟩
set_option maxRecDepth 100000 in
set_option maxHeartbeats 2000000 in
theorem allA {W : World} {l c : Nat} {q : Option Addr} (hl : l ≤ 100000) (hE : ∀ i, i < l → ∃ (b o : Nat) (u0 u1 : Value), q = some ⟨b, o, none⟩ ∧ AtC W b (o + i * 2) [u0, u1] ∧ ∀ W', Below W.heap.size W W' → Calls Tryz.prog 90 #[.agg #[u0, u1]] W' fun r w' => r = .returned (.bool true) ∧ Below W'.heap.size W' w') :
    Calls Tryz.prog 89 #[.slice q l c, .func (.func 90) #[] #[]] W fun r w' => r = .returned (.bool true) ∧ Below W.heap.size W w' := by
  have HB0 : Hid (Below W.heap.size W (W.alloc (.cells #[.func (.func 90) #[] #[]] 146))) := (Below.refl _ _).alloc (Nat.le_refl _) _
  have hbox : Arr (W.alloc (.cells #[.func (.func 90) #[] #[]] 146)) 146 W.heap.size [.func (.func 90) #[] #[]] := Arr.new' _ _ _ _ rfl
  have HI := hiD (conA (W := W.alloc (.cells #[.func (.func 90) #[] #[]] 146)) (p := W.heap.size) (q := q) (c := c) hl fun i hi => by
    obtain ⟨b, o, u0, u1, e, hc, HS⟩ := hE i hi
    exact ⟨b, o, u0, u1, e, hc.later HB0.out, fun W' hW => cloA ((hW.cell (p := ⟨W.heap.size, 0, none⟩) hbox.lt).trans (hbox.cell 0)) fun W2 h2 => HS W2 (HB0.out.trans ((hW.trans (h2.mono hW.size)).mono HB0.out.size))⟩)
  clear hE hbox hl
  go_enter Tryz.func89, Tryz.ntmps89
  go_wp2_with fail
  refine HI.out.mono ?_
  rintro r w1 ⟨rfl, b1⟩
  have HB := hiD (HB0.out.trans (b1.mono HB0.out.size))
  clear b1
  go_wp2_with fail
  go_ret
  exact ⟨rfl, HB.out⟩
theorem alls_of {P : Nat → Prop} {w : World} {ls : List AlB} {q : Option Addr} {c : Nat} (h : RdA P w ls (.slice q ls.length c)) (hP : ∀ b, P b → b < w.heap.size) (ha : ∀ a ∈ ls, GoodA a) : ∀ i, i < ls.length → ∃ (b o : Nat) (t r : ByteArray), q = some ⟨b, o, none⟩ ∧ AtC w b (o + i * 2) [.string t, .string r] ∧ isName t = true ∧ (r = ⟨#[]⟩ ∨ isName r = true) := by
  intro i hi
  obtain ⟨b, o, e, hb, x0, x1⟩ := h.at hi
  have hg : GoodA (ls.getD i ([], [])) := ha _ (by rw [List.getD_eq_getElem?_getD, List.getElem?_eq_getElem hi]; exact List.getElem_mem hi)
  refine ⟨b, o, _, _, e, ⟨hP b hb, fun j u hj => ?_⟩, hg.1, hg.2.imp (fun e => by rw [e]; rfl) id⟩
  match j, hj with
  | 0, hj => cases hj; exact x0
  | 1, hj => cases hj; exact x1
theorem mems_of {P : Nat → Prop} {w : World} {l : List MemB} {q : Option Addr} {c : Nat} (h : RdK kdMem P w l (.slice q l.length c)) (hP : ∀ b, P b → b < w.heap.size) : ∀ i, i < l.length → ∃ (b o : Nat) (x : MemB) (u0 u1 u2 u3 u4 u5 u6 : Value), q = some ⟨b, o, none⟩ ∧ AtC w b (o + i * 7) [u0, u1, u2, u3, u4, u5, u6] ∧ x ∈ l ∧ rdMem P w x [u0, u1, u2, u3, u4, u5, u6] := by
  intro i hi
  obtain ⟨x, hx⟩ : ∃ x, l[i]? = some x := ⟨_, List.getElem?_eq_getElem hi⟩
  have hm := List.mem_of_getElem? hx
  obtain ⟨b, o, a, e, hb, r, x1⟩ := h.at hx
  rw [show kdMem.size = 7 from rfl] at x1
  obtain ⟨n, k, ls, mk, mv, mn, ms⟩ := x
  obtain ⟨qa, ca, q4, c4, rfl, _, _⟩ := rdMem_form r
  exact ⟨b, o, _, _, _, _, _, _, _, _, e, ⟨hP b hb, x1⟩, hm, r⟩
theorem defs_of {P : Nat → Prop} {w : World} {l : List DefB} {q : Option Addr} {c : Nat} (h : RdK kdDef P w l (.slice q l.length c)) (hP : ∀ b, P b → b < w.heap.size) : ∀ i, i < l.length → ∃ (b o : Nat) (n : List UInt8) (m : List MemB) (q2 : Option Addr) (c2 : Nat), q = some ⟨b, o, none⟩ ∧ AtC w b (o + i * 2) [.string (bstr n), .slice q2 m.length c2] ∧ (n, m) ∈ l ∧ RdK kdMem P w m (.slice q2 m.length c2) := by
  intro i hi
  obtain ⟨x, hx⟩ : ∃ x, l[i]? = some x := ⟨_, List.getElem?_eq_getElem hi⟩
  have hm := List.mem_of_getElem? hx
  obtain ⟨b, o, a, e, hb, r, x1⟩ := h.at hx
  rw [show kdDef.size = 2 from rfl] at x1
  obtain ⟨n, m⟩ := x
  obtain ⟨u, rfl, r⟩ := r
  have r2 := r
  obtain ⟨q2, c2, rfl, _⟩ := r
  exact ⟨b, o, n, m, q2, c2, e, ⟨hP b hb, x1⟩, hm, r2⟩
theorem rdA_keep {P : Nat → Prop} {w w' : World} {l : List AlB} {v : Value} (h : RdA P w l v) (hb : Below w.heap.size w w') (hP : ∀ b, P b → b < w.heap.size) : RdA P w' l v := h.keep fun b hb' n => hb.cell (p := ⟨b, n, none⟩) (hP b hb')
theorem rdMem_keep {P : Nat → Prop} {w w' : World} {m : MemB} {cs : List Value} (h : rdMem P w m cs) (hb : Below w.heap.size w w') (hP : ∀ b, P b → b < w.heap.size) : rdMem P w' m cs := h.keep fun b hb' n => hb.cell (p := ⟨b, n, none⟩) (hP b hb')
theorem rdK_keep {α : Type} {K : Kd α} {P : Nat → Prop} {w w' : World} {l : List α} {v : Value} (h : RdK K P w l v) (hb : Below w.heap.size w w') (hP : ∀ b, P b → b < w.heap.size) : RdK K P w' l v := h.keep fun b hb' n => hb.cell (p := ⟨b, n, none⟩) (hP b hb')
theorem lt_keep {P : Nat → Prop} {w w' : World} (hb : Below w.heap.size w w') (hP : ∀ b, P b → b < w.heap.size) : ∀ b, P b → b < w'.heap.size := fun b h => Nat.lt_of_lt_of_le (hP b h) hb.size
set_option maxRecDepth 100000 in
set_option maxHeartbeats 2000000 in
theorem mhf_rel {ls : List AlB} {tn : ByteArray} {qa q4 : Option Addr} {ca c4 : Nat} {P : Nat → Prop} {w : World} (hn : isName tn = true) (h1 : RdA P w ls (.slice qa ls.length ca)) (hP : ∀ b, P b → b < w.heap.size) (ha : ∀ a ∈ ls, GoodA a) (hl1 : 1 ≤ ls.length) (hl2 : ls.length ≤ 32) (hr : ResT w) :
    Calls Tryz.prog 63 #[.agg #[.string tn, .int .i64 1, .slice qa ls.length ca, .int .i64 0, .string ⟨#[]⟩, .string ⟨#[]⟩, .slice q4 0 c4]] w fun e w' => e = .returned (.bool true) ∧ Below w.heap.size w w' := by
  have hb0 : Below w.heap.size w (w.alloc (.cells #[.string tn, .int .i64 1, .slice qa ls.length ca, .int .i64 0, .string ⟨#[]⟩, .string ⟨#[]⟩, .slice q4 0 c4] 48)) := (Below.refl _ _).alloc (Nat.le_refl _) _
  have HB := hiD hb0
  have HX : Hid (Arr (w.alloc (.cells #[.string tn, .int .i64 1, .slice qa ls.length ca, .int .i64 0, .string ⟨#[]⟩, .string ⟨#[]⟩, .slice q4 0 c4] 48)) 48 w.heap.size [.string tn, .int .i64 1, .slice qa ls.length ca, .int .i64 0, .string ⟨#[]⟩, .string ⟨#[]⟩, .slice q4 0 c4]) := Arr.new' _ _ _ _ rfl
  have HR : Hid (ResT (w.alloc (.cells #[.string tn, .int .i64 1, .slice qa ls.length ca, .int .i64 0, .string ⟨#[]⟩, .string ⟨#[]⟩, .slice q4 0 c4] 48))) := hr.below hb0 hr.lt
  have HN := hiD (isName_at tn hn _ HR.out)
  have H1 := hiD (rdA_keep h1 hb0 hP)
  have HP := hiD (lt_keep hb0 hP)
  have HG := hiD ha
  have hz1 : (0 : Int) < ls.length := by omega
  have hz2 : (ls.length : Int) ≤ 32 := by omega
  have HL : Hid (ls.length ≤ 100000) := by show _ ≤ _; omega
  clear hb0 h1 hP ha hl1 hl2 hr hn
  go_enter Tryz.func63, Tryz.ntmps63
  go_upto_region 1 with (fail)
  generalize (w.alloc (.cells #[.string tn, .int .i64 1, .slice qa ls.length ca, .int .i64 0, .string ⟨#[]⟩, .string ⟨#[]⟩, .slice q4 0 c4] 48)) = w0 at HX HB HR HN H1 HP ⊢
  obtain ⟨x0, y0, x1, y1, x2, y2, x3, y3, x4, y4, x5, y5, x6, y6⟩ := HX.out.all7
  go_wp2_with fail
  refine HN.out.mono ?_
  rintro e w1 ⟨rfl, b1⟩
  have HB := hiD (HB.out.trans (b1.mono HB.out.size))
  have HX := hiD (HX.out.later b1)
  have HR : Hid (ResT w1) := HR.out.below b1 HR.out.lt
  have HA := hiD (allA (W := w1) (c := ca) HL.out fun i hi => by
    obtain ⟨b, o, t, r, e, hc, g1, g2⟩ := alls_of (rdA_keep H1.out b1 HP.out) (lt_keep b1 HP.out) HG.out i hi
    exact ⟨b, o, _, _, e, hc, fun W' hW => isRight_any t r W' (HR.out.below hW HR.out.lt) g1 g2⟩)
  clear b1
  clear x0 y0 x1 y1 x2 y2 x3 y3 x4 y4 x5 y5 x6 y6
  obtain ⟨x0, y0, x1, y1, x2, y2, x3, y3, x4, y4, x5, y5, x6, y6⟩ := HX.out.all7
  go_wp2_with fail
  refine HA.out.mono ?_
  rintro e w2 ⟨rfl, b1⟩
  have HB := hiD (HB.out.trans (b1.mono HB.out.size))
  have HX := hiD (HX.out.later b1)
  have hz : ∀ q c, RdE (fun _ => False) w2 (.mk 0 [] [] []) (.agg #[.int .i64 0, .string ⟨#[]⟩, .string ⟨#[]⟩, .slice q 0 c]) := fun q c => by unfold RdE; exact ⟨q, c, rfl, Nat.zero_le _, fun h => by simp at h⟩
  have HS : Hid (Calls Tryz.prog 91 #[.agg #[.int .i64 0, .string ⟨#[]⟩, .string ⟨#[]⟩, .slice q4 0 c4], .agg #[.int .i64 0, .string ⟨#[]⟩, .string ⟨#[]⟩, .slice none 0 0]] w2 fun r w' => r = .returned (.bool true) ∧ Below w2.heap.size w2 w') := by
    have h := esame_any (.mk 0 [] [] []) (.mk 0 [] [] []) _ _ (fun _ => False) (fun _ => False) w2 (by decide) (by decide) (hz q4 c4) (hz none 0) (fun b hb => hb.elim) (fun b hb => hb.elim)
    rw [cmpE_self] at h
    exact h
  clear b1 hz
  clear x0 y0 x1 y1 x2 y2 x3 y3 x4 y4 x5 y5 x6 y6
  obtain ⟨x0, y0, x1, y1, x2, y2, x3, y3, x4, y4, x5, y5, x6, y6⟩ := HX.out.all7
  go_wp2_with fail
  refine HS.out.mono ?_
  rintro r w3 ⟨rfl, b3⟩
  have HB := hiD (HB.out.trans (b3.mono HB.out.size))
  clear b3
  go_wp2_with fail
  go_ret
  exact ⟨rfl, HB.out⟩
set_option maxRecDepth 100000 in
set_option maxHeartbeats 2000000 in
theorem mhf_perm {mk : Int} {mv mn : List UInt8} {ms : List Ex} {tn : ByteArray} {qa q4 : Option Addr} {ca c4 : Nat} {P : Nat → Prop} {w : World} (hn : isName tn = true) (h1 : RdE P w (.mk mk mv mn ms) (.agg #[.int .i64 mk, .string (bstr mv), .string (bstr mn), .slice q4 ms.length c4])) (hP : ∀ b, P b → b < w.heap.size) (hg : rightE (.mk mk mv mn ms) = true) (hsz : sizeE (.mk mk mv mn ms) ≤ 64) (hr : ResT w) :
    Calls Tryz.prog 63 #[.agg #[.string tn, .int .i64 2, .slice qa 0 ca, .int .i64 mk, .string (bstr mv), .string (bstr mn), .slice q4 ms.length c4]] w fun e w' => e = .returned (.bool true) ∧ Below w.heap.size w w' := by
  have hb0 : Below w.heap.size w (w.alloc (.cells #[.string tn, .int .i64 2, .slice qa 0 ca, .int .i64 mk, .string (bstr mv), .string (bstr mn), .slice q4 ms.length c4] 48)) := (Below.refl _ _).alloc (Nat.le_refl _) _
  have HB := hiD hb0
  have HX : Hid (Arr (w.alloc (.cells #[.string tn, .int .i64 2, .slice qa 0 ca, .int .i64 mk, .string (bstr mv), .string (bstr mn), .slice q4 ms.length c4] 48)) 48 w.heap.size [.string tn, .int .i64 2, .slice qa 0 ca, .int .i64 mk, .string (bstr mv), .string (bstr mn), .slice q4 ms.length c4]) := Arr.new' _ _ _ _ rfl
  have HR : Hid (ResT (w.alloc (.cells #[.string tn, .int .i64 2, .slice qa 0 ca, .int .i64 mk, .string (bstr mv), .string (bstr mn), .slice q4 ms.length c4] 48))) := hr.below hb0 hr.lt
  have HN := hiD (isName_at tn hn _ HR.out)
  have H1 := hiD (h1.below hb0 hP)
  have HP := hiD (lt_keep hb0 hP)
  have HG := hiD hg
  have HZ := hiD hsz
  clear hb0 h1 hP hg hsz hr hn
  go_enter Tryz.func63, Tryz.ntmps63
  go_upto_region 1 with (fail)
  generalize (w.alloc (.cells #[.string tn, .int .i64 2, .slice qa 0 ca, .int .i64 mk, .string (bstr mv), .string (bstr mn), .slice q4 ms.length c4] 48)) = w0 at HX HB HR HN H1 HP ⊢
  obtain ⟨x0, y0, x1, y1, x2, y2, x3, y3, x4, y4, x5, y5, x6, y6⟩ := HX.out.all7
  go_wp2_with fail
  refine HN.out.mono ?_
  rintro e w1 ⟨rfl, b1⟩
  have HB := hiD (HB.out.trans (b1.mono HB.out.size))
  have HX := hiD (HX.out.later b1)
  have HR : Hid (ResT w1) := HR.out.below b1 HR.out.lt
  have HS : Hid (Calls Tryz.prog 65 #[.agg #[.int .i64 mk, .string (bstr mv), .string (bstr mn), .slice q4 ms.length c4]] w1 fun r w' => r = .returned (.bool true) ∧ Below w1.heap.size w1 w') := by
    have h := eright_any (.mk mk mv mn ms) _ P w1 (Nat.le_trans HZ.out (by decide)) (H1.out.below b1 HP.out) (lt_keep b1 HP.out) HR.out
    rw [HG.out] at h
    exact h
  clear b1
  clear x0 y0 x1 y1 x2 y2 x3 y3 x4 y4 x5 y5 x6 y6
  obtain ⟨x0, y0, x1, y1, x2, y2, x3, y3, x4, y4, x5, y5, x6, y6⟩ := HX.out.all7
  go_wp2_with fail
  refine HS.out.mono ?_
  rintro r w3 ⟨rfl, b3⟩
  have HB := hiD (HB.out.trans (b3.mono HB.out.size))
  clear b3
  go_wp2_with fail
  go_ret
  exact ⟨rfl, HB.out⟩
theorem mhf_any (x : MemB) (cs : List Value) (P : Nat → Prop) (w : World) (h : rdMem P w x cs) (hP : ∀ b, P b → b < w.heap.size) (hg : GoodM x) (hr : ResT w) : Calls Tryz.prog 63 #[.agg cs.toArray] w fun e w' => e = .returned (.bool true) ∧ Below w.heap.size w w' := by
  obtain ⟨n, k, ls, mk, mv, mn, ms⟩ := x
  obtain ⟨qa, ca, q4, c4, rfl, h3, h4⟩ := rdMem_form h
  obtain ⟨hn, ⟨hk, h1, h2, ha, he⟩ | ⟨hk, hl, he⟩⟩ := hg
  · have hk : k = 1 := hk
    have he : Ex.mk mk mv mn ms = .mk 0 [] [] [] := he
    cases he
    subst hk
    exact mhf_rel hn h3 hP ha h1 h2 hr
  · have hk : k = 2 := hk
    have hl : ls = [] := hl
    subst hk
    subst hl
    exact mhf_perm hn h4 hP he.1 he.2.2 hr
set_option maxRecDepth 100000 in
set_option maxHeartbeats 2000000 in
theorem hf_any (l : List MemB) (tn : ByteArray) (q : Option Addr) (c : Nat) (P : Nat → Prop) (w : World) (hn : isName tn = true) (h : RdK kdMem P w l (.slice q l.length c)) (hP : ∀ b, P b → b < w.heap.size) (hl : l.length ≤ 64) (hg : ∀ m ∈ l, GoodM m) (hr : ResT w) :
    Calls Tryz.prog 40 #[.agg #[.string tn, .slice q l.length c]] w fun e w' => e = .returned (.bool true) ∧ Below w.heap.size w w' := by
  have hb0 : Below w.heap.size w (w.alloc (.cells #[.string tn, .slice q l.length c] 39)) := (Below.refl _ _).alloc (Nat.le_refl _) _
  have HB := hiD hb0
  have HX : Hid (Arr (w.alloc (.cells #[.string tn, .slice q l.length c] 39)) 39 w.heap.size [.string tn, .slice q l.length c]) := Arr.new' _ _ _ _ rfl
  have HR : Hid (ResT (w.alloc (.cells #[.string tn, .slice q l.length c] 39))) := hr.below hb0 hr.lt
  have HN := hiD (isName_at tn hn _ HR.out)
  have H1 := hiD (rdK_keep h hb0 hP)
  have HP := hiD (lt_keep hb0 hP)
  have HG := hiD hg
  have hz2 : (l.length : Int) ≤ 64 := by omega
  have HL : Hid (l.length ≤ 100000) := by show _ ≤ _; omega
  clear hb0 h hP hg hl hr hn
  go_enter Tryz.func40, Tryz.ntmps40
  go_upto_region 1 with (fail)
  generalize (w.alloc (.cells #[.string tn, .slice q l.length c] 39)) = w0 at HX HB HR HN H1 HP ⊢
  obtain ⟨x0, y0, x1, y1⟩ := HX.out.all2
  go_wp2_with fail
  refine HN.out.mono ?_
  rintro e w1 ⟨rfl, b1⟩
  have HB := hiD (HB.out.trans (b1.mono HB.out.size))
  have HX := hiD (HX.out.later b1)
  have HR : Hid (ResT w1) := HR.out.below b1 HR.out.lt
  have HA := hiD (allM (W := w1) (c := c) HL.out fun i hi => by
    obtain ⟨b, o, x, u0, u1, u2, u3, u4, u5, u6, e, hc, hm, r⟩ := mems_of (rdK_keep H1.out b1 HP.out) (lt_keep b1 HP.out) i hi
    exact ⟨b, o, u0, u1, u2, u3, u4, u5, u6, e, hc, fun W' hW => mhf_any x _ P W' (rdMem_keep r hW (lt_keep b1 HP.out)) (lt_keep hW (lt_keep b1 HP.out)) (HG.out x hm) (HR.out.below hW HR.out.lt)⟩)
  clear b1
  clear x0 y0 x1 y1
  obtain ⟨x0, y0, x1, y1⟩ := HX.out.all2
  go_wp2_with fail
  refine HA.out.mono ?_
  rintro r w3 ⟨rfl, b3⟩
  have HB := hiD (HB.out.trans (b3.mono HB.out.size))
  clear b3
  go_wp2_with fail
  go_ret
  exact ⟨rfl, HB.out⟩
set_option maxRecDepth 100000 in
set_option maxHeartbeats 2000000 in
theorem form_any (l : List DefB) (q : Option Addr) (c : Nat) (P : Nat → Prop) (w : World) (h : RdK kdDef P w l (.slice q l.length c)) (hP : ∀ b, P b → b < w.heap.size) (hg : GoodS l) (hr : ResT w) :
    Calls Tryz.prog 21 #[.agg #[.slice q l.length c]] w fun e w' => e = .returned (.bool true) ∧ Below w.heap.size w w' := by
  have hb0 : Below w.heap.size w (w.alloc (.cells #[.slice q l.length c] 29)) := (Below.refl _ _).alloc (Nat.le_refl _) _
  have HB := hiD hb0
  have HX : Hid (Arr (w.alloc (.cells #[.slice q l.length c] 29)) 29 w.heap.size [.slice q l.length c]) := Arr.new' _ _ _ _ rfl
  have HR : Hid (ResT (w.alloc (.cells #[.slice q l.length c] 29))) := hr.below hb0 hr.lt
  have H1 := hiD (rdK_keep h hb0 hP)
  have HP := hiD (lt_keep hb0 hP)
  have HG := hiD hg.2
  have hz2 : (l.length : Int) ≤ 64 := by have := hg.1; omega
  have HL : Hid (l.length ≤ 100000) := by have := hg.1; show _ ≤ _; omega
  clear hb0 h hP hg hr
  go_enter Tryz.func21, Tryz.ntmps21
  go_upto_region 1 with (fail)
  generalize (w.alloc (.cells #[.slice q l.length c] 29)) = w0 at HX HB HR H1 HP ⊢
  obtain ⟨x0, y0⟩ := HX.out.all1
  have HA := hiD (allD (W := w0) (c := c) HL.out fun i hi => by
    obtain ⟨b, o, n, m, q2, c2, e, hc, hm, r⟩ := defs_of H1.out HP.out i hi
    have g := HG.out _ hm
    exact ⟨b, o, _, _, e, hc, fun W' hW => hf_any m (bstr n) q2 c2 P W' g.1 (rdK_keep r hW HP.out) (lt_keep hW HP.out) g.2.1 g.2.2 (HR.out.below hW HR.out.lt)⟩)
  go_wp2_with fail
  refine HA.out.mono ?_
  rintro r w3 ⟨rfl, b3⟩
  have HB := hiD (HB.out.trans (b3.mono HB.out.size))
  clear b3
  go_wp2_with fail
  go_ret
  exact ⟨rfl, HB.out⟩
theorem form_kids {k : Int} {v n : List UInt8} {ks : List Ex} (h : formE (.mk k v n ks) = true) : formL ks = true := by
 unfold formE at h; simp only [Bool.and_eq_true] at h; exact h.2
theorem form_kind {k : Int} {v n : List UInt8} {ks : List Ex} (h : formE (.mk k v n ks) = true) (h1 : ¬ k = 1) (h2 : ¬ k = 2) : k = 3 ∨ k = 4 ∨ k = 5 := by
 unfold formE partB at h
 simp only [Bool.and_eq_true] at h
 obtain ⟨h, _⟩ := h
 rw [if_neg h1, if_neg h2] at h
 by_cases h3 : k = 3 ∨ k = 4
 ·rcases h3 with h3 | h3 <;> simp [h3]
 ·rw [if_neg h3] at h
  by_cases h5 : k = 5
  ·simp [h5]
  ·rw [if_neg h5] at h; cases h
theorem textL_take : ∀ (ks : List Ex) (i : Nat), textL (ks.take i) = (textL ks).take i
 | [], i => by simp [textL]
 | e :: r, 0 => by simp [textL]
 | e :: r, i + 1 => by simp only [List.take_succ_cons, textL, textL_take r i]
theorem joinE_step {ks : List Ex} {i : Nat} (hi : i < ks.length) (sep : List UInt8) : Lib.join (textL (ks.take (i + 1))) sep = (if i = 0 then [] else Lib.join (textL (ks.take i)) sep ++ sep) ++ wrapT (ks.getD i ex0).kind (textE (ks.getD i ex0)) := by
 rw [take_snocE hi, textL_snoc]
 by_cases h0 : i = 0
 ·subst h0
  rw [if_pos rfl, List.take_zero]
  exact join_snoc1 _ _
 ·rw [if_neg h0, join_snoc]
  intro e
  have := congrArg List.length e
  rw [textL_length, List.length_take, List.length_nil] at this
  omega
theorem joinL_le (ks : List Ex) (i : Nat) (sep : List UInt8) (hs : sep.length ≤ 3) : (Lib.join (textL (ks.take i)) sep).length ≤ wL ks := by
 refine Nat.le_trans (textJ_len sep hs _) ?_
 clear hs
 induction ks generalizing i with
 | nil => simp
 | cons e r ih =>
  cases i with
  | zero => simp [wL]
  | succ i => simp only [List.take_succ_cons, wL]; have := ih i; omega

set_option maxRecDepth 100000 in
set_option maxHeartbeats 8000000 in
theorem rtext_any : ∀ (n : Nat) (e : Ex) (v : Value) (P : Nat → Prop) (w : World), sizeE e ≤ n → sizeE e ≤ 900000 → wE e ≤ 900000000 → formE e = true → RdE P w e v → (∀ b, P b → b < w.heap.size) → Calls Tryz.prog 37 #[v] w fun r w' => r = .returned (.string (bstr (textE e))) ∧ Below w.heap.size w w' := by
 intro n
 induction n with
 | zero => intro e v P w h; have := sizeE_pos e; omega
 | succ n ih =>
  intro e v P w hn hm hwt hf h hP
  obtain ⟨q, c, rfl, hc, hk⟩ := h.form
  obtain ⟨k, xv, xn, ks⟩ := e
  unfold exv
  show Calls _ _ #[.agg #[.int .i64 k, .string (bstr xv), .string (bstr xn), .slice q ks.length c]] _ _
  have HK : Hid (0 < ks.length → ∃ b o, q = some ⟨b, o, none⟩ ∧ P b ∧ RdL P w ks b o) := hk
  have hks : sizeL ks ≤ n := by unfold sizeE at hn; omega
  have hkm : sizeL ks ≤ 900000 := by unfold sizeE at hm; omega
  have hkw : wL ks ≤ 900000000 := by unfold wE at hwt; omega
  have hvl : xv.length ≤ 900000000 := by unfold wE at hwt; omega
  have hnl : xn.length ≤ 900000000 := by unfold wE at hwt; omega
  have hlen := sizeL_len ks
  have HIH := hiD ih
  have HFK : Hid (formL ks = true) := form_kids hf
  have HF := hiD hf
  have HB0 : Hid (Below w.heap.size w (w.alloc (.cells #[.int .i64 k, .string (bstr xv), .string (bstr xn), .slice q ks.length c] 46))) := (Below.refl _ _).alloc (Nat.le_refl _) _
  have HA0 : Hid (Arr (w.alloc (.cells #[.int .i64 k, .string (bstr xv), .string (bstr xn), .slice q ks.length c] 46)) 46 w.heap.size [.int .i64 k, .string (bstr xv), .string (bstr xn), .slice q ks.length c]) := Arr.new' _ _ _ _ rfl
  clear h ih hc hk hn hm hwt hf
  by_cases h1 : k = 1
  ·have b1 : (k == 1) = true := by rw [h1]; rfl
   have HT : Hid (textE (.mk k xv xn ks) = xn) := textE_one h1
   clear h1
   go_enter Tryz.func37, Tryz.ntmps37
   go_wp2_with fail
   go_ret
   exact ⟨by rw [HT.out]; rfl, HB0.out⟩
  have b1 : (k == 1) = false := by rw [beq_eq_false_iff_ne]; exact h1
  by_cases h2 : k = 2
  ·have b2 : (k == 2) = true := by rw [h2]; rfl
   have HT : Hid (textE (.mk k xv xn ks) = xv ++ (45 :: 62 :: xn)) := textE_two h2
   clear h1 h2
   obtain ⟨sv, hsv⟩ : ∃ s, s = bstr xv := ⟨_, rfl⟩
   obtain ⟨sn, hsn⟩ : ∃ s, s = bstr xn := ⟨_, rfl⟩
   have z1 : (sv.size : Int) ≤ 900000000 := by rw [hsv, bstr_size]; omega
   have z2 : (sn.size : Int) ≤ 900000000 := by rw [hsn, bstr_size]; omega
   have HE : Hid (bstr (xv ++ (45 :: 62 :: xn)) = sv ++ ⟨#[45, 62]⟩ ++ sn) := by
    show _ = _
    rw [hsv, hsn, show (⟨#[45, 62]⟩ : ByteArray) = bstr [45, 62] from rfl, bstr_app, bstr_app, List.append_assoc]; rfl
   rw [← hsv, ← hsn] at HB0 HA0 ⊢
   clear hsv hsn
   go_enter Tryz.func37, Tryz.ntmps37
   go_wp2_with fail
   go_ret
   exact ⟨by rw [HT.out, HE.out]; rfl, HB0.out⟩
  have b2 : (k == 2) = false := by rw [beq_eq_false_iff_ne]; exact h2
  have HT : Hid (textE (.mk k xv xn ks) = Lib.join (textL ks) (sgK k)) := textE_more h1 h2
  have HKD : Hid (k = 3 ∨ k = 4 ∨ k = 5) := form_kind HF.out h1 h2
  clear h1 h2
  go_enter Tryz.func37, Tryz.ntmps37
  go_wp2_with fail
  go_loopw [3, 4] (fun sv iv wr => ∃ (i : Nat) (sJ : ByteArray), i ≤ ks.length ∧ iv = .int .i64 i ∧ sv = .string sJ ∧ Hid (sJ = bstr (Lib.join (textL (ks.take i)) (sgK k))) ∧ Hid (Below w.heap.size w wr ∧ Arr wr 46 w.heap.size [.int .i64 k, .string (bstr xv), .string (bstr xn), .slice q ks.length c])) (fun _ iv _ => ks.length - (intOf iv).toNat)
  case atStart => exact ⟨0, _, Nat.zero_le _, rfl, rfl, rfl, HB0.out, HA0.out⟩
  case round =>
   obtain ⟨i, sJ, hi, rfl, rfl, HSJ, HI2⟩ := hrel
   have HI := hiD HI2.out.1
   have HAI := hiD HI2.out.2
   clear HI2
   have hi0 : (0 : Int) ≤ i := by omega
   have a0 := HAI.out.cell 0
   have a3 := HAI.out.cell 3
   simp only [List.getElem?_cons_zero, List.getElem?_cons_succ] at a0 a3
   have z0 : (sJ.size : Int) ≤ 900000000 := by rw [HSJ.out, bstr_size]; have := joinL_le ks i (sgK k) (by rw [sgK_len]; exact Nat.le_refl _); omega
   by_cases hlt : i < ks.length
   ·have hi1 : (i : Int) < ks.length := by omega
    obtain ⟨sp, hsp⟩ : ∃ sp, sp = bstr (if i = 0 then [] else Lib.join (textL (ks.take i)) (sgK k) ++ sgK k) := ⟨_, rfl⟩
    have HSP := hiD hsp
    clear hsp
    go_upto_if 27 with (fail)
    go_cut [3] from 19 to 61 (fun x W => x = .string sp ∧ Hid (Below wr.heap.size wr W))
    case first =>
     by_cases hz : i = 0
     ·have hz1 : ¬ (0 : Int) < i := by omega
      have HE : Hid (sJ = sp) := by show _ = _; rw [HSJ.out, HSP.out, if_pos hz, hz]; rfl
      clear hz
      go_wp2_with fail
      go_meet
      case rel => exact ⟨by rw [HE.out], Below.refl _ _⟩
     ·have hz1 : (0 : Int) < i := by omega
      have HE : Hid (sp = bstr (Lib.join (textL (ks.take i)) (sgK k) ++ sgK k)) := by show _ = _; rw [HSP.out, if_neg hz]
      have HCC : Hid (∀ (x : UInt8) (a : ByteArray) (l : List UInt8), a = bstr l → a ++ ⟨#[32]⟩ ++ ⟨#[x]⟩ ++ ⟨#[32]⟩ = bstr (l ++ [32, x, 32])) := fun x a l h => by
       rw [h, show (⟨#[32]⟩ : ByteArray) = bstr [32] from rfl, show (⟨#[x]⟩ : ByteArray) = bstr [x] from rfl, bstr_app, bstr_app, bstr_app, List.append_assoc, List.append_assoc]; rfl
      clear hz
      have y0 := (HAI.out.alloc (.cells #[.string ⟨#[43]⟩, .string ⟨#[38]⟩, .string ⟨#[45]⟩] 9)).cell 0
      simp only [List.getElem?_cons_zero] at y0
      rcases HKD.out with rfl | rfl | rfl
      ·go_wp2_with fail
       go_meet
       case rel => exact ⟨by rw [HE.out, HCC.out 43 sJ _ HSJ.out]; rfl, (Below.refl _ _).alloc (Nat.le_refl _) _⟩
      ·go_wp2_with fail
       go_meet
       case rel => exact ⟨by rw [HE.out, HCC.out 38 sJ _ HSJ.out]; rfl, (Below.refl _ _).alloc (Nat.le_refl _) _⟩
      ·go_wp2_with fail
       go_meet
       case rel => exact ⟨by rw [HE.out, HCC.out 45 sJ _ HSJ.out]; rfl, (Below.refl _ _).alloc (Nat.le_refl _) _⟩
    case rest =>
     obtain ⟨rfl, HBW⟩ := hcut
     have HI3 := hiD (HI.out.trans (HBW.out.mono HI.out.size))
     have HA3 := hiD (HAI.out.later HBW.out)
     clear a0 a3 HI HAI HBW
     have a0 := HA3.out.cell 0
     have a3 := HA3.out.cell 3
     simp only [List.getElem?_cons_zero, List.getElem?_cons_succ] at a0 a3
     obtain ⟨ba, oa, rfl, hba, hl⟩ := HK.out (by omega)
     obtain ⟨x, hx⟩ : ∃ x, x = ks.getD i ex0 := ⟨_, rfl⟩
     obtain ⟨q2, c2, x0, x1, x2, x3, hr⟩ := hl.at hlt
     have hxs := sizeL_get ks i hlt
     have hxd := depthL_get ks i hlt
     rw [← hx] at x0 x1 x2 x3 hr hxs hxd
     have HX := hiD hx
     obtain ⟨xk, xv2, xn2, xs⟩ := x
     have cc : ∀ n, wc.cell? ⟨ba, n, none⟩ = w.cell? ⟨ba, n, none⟩ := fun n => (HI3.out).cell (p := ⟨ba, n, none⟩) (hP _ hba)
     have X0 : wc.cell? ⟨ba, oa + i * 4, none⟩ = some (.int .i64 xk) := (cc _).trans x0
     have X1 : wc.cell? ⟨ba, oa + i * 4 + 1, none⟩ = some (.string (bstr xv2)) := (cc _).trans x1
     have X2 : wc.cell? ⟨ba, oa + i * 4 + 2, none⟩ = some (.string (bstr xn2)) := (cc _).trans x2
     have X3 : wc.cell? ⟨ba, oa + i * 4 + 3, none⟩ = some (.slice q2 xs.length c2) := (cc _).trans x3
     clear x0 x1 x2 x3 cc hx
     have hxw := wL_get ks i hlt
     rw [← HX.out] at hxw
     have HR : Hid (RdE P wc (.mk xk xv2 xn2 xs) (.agg #[.int .i64 xk, .string (bstr xv2), .string (bstr xn2), .slice q2 xs.length c2])) := hr.below HI3.out hP
     have HPW : Hid (∀ b, P b → b < wc.heap.size) := fun b hb => Nat.lt_of_lt_of_le (hP b hb) HI3.out.size
     have HC : Hid (∀ W, Below wc.heap.size wc W → Calls Tryz.prog 37 #[.agg #[.int .i64 xk, .string (bstr xv2), .string (bstr xn2), .slice q2 xs.length c2]] W fun r w' => r = .returned (.string (bstr (textE (.mk xk xv2 xn2 xs)))) ∧ Below W.heap.size W w') :=
      fun W hW => HIH.out (.mk xk xv2 xn2 xs) _ P W (by omega) (by omega) (by omega) (HX.out ▸ formL_get hlt HFK.out) (HR.out.below hW HPW.out) (fun b hb => Nat.lt_of_lt_of_le (HPW.out b hb) hW.size)
     have HLF : Hid (Calls Tryz.prog 58 #[.agg #[.int .i64 xk, .string (bstr xv2), .string (bstr xn2), .slice q2 xs.length c2]] wc fun r w' => r = .returned (.bool (leafK xk)) ∧ Below wc.heap.size wc w') := rleaf_any (e := .mk xk xv2 xn2 xs) HR.out
     have HST : Hid (Lib.join (textL (ks.take (i + 1))) (sgK k) = (if i = 0 then [] else Lib.join (textL (ks.take i)) (sgK k) ++ sgK k) ++ wrapT xk (textE (.mk xk xv2 xn2 xs))) := by show _ = _; rw [joinE_step hlt, ← HX.out]; rfl
     have htl := textE_len (.mk xk xv2 xn2 xs)
     have zp : (sp.size : Int) ≤ 900000003 := by
      rw [HSP.out, bstr_size]
      have := joinL_le ks i (sgK k) (by rw [sgK_len]; exact Nat.le_refl _)
      split
      ·simp
      ·rw [List.length_append, sgK_len]; omega
     obtain ⟨tx, htx⟩ : ∃ tx, tx = textE (.mk xk xv2 xn2 xs) := ⟨_, rfl⟩
     rw [← htx] at htl HC HST
     obtain ⟨sx, hsx⟩ : ∃ s, s = bstr tx := ⟨_, rfl⟩
     have z1 : (sx.size : Int) ≤ 900000000 := by rw [hsx, bstr_size]; omega
     rw [← hsx] at HC
     have HSX := hiD hsx
     obtain ⟨lf, hlf⟩ : ∃ lf, lf = leafK xk := ⟨_, rfl⟩
     rw [← hlf] at HLF
     have HLK := hiD hlf
     have HBA : Hid (oa = oa) := rfl
     have HPB : Hid (ba < wc.heap.size) := HPW.out ba hba
     clear hl hr hxs hxd hxw htl htx hsx hlf hba
     go_wp2_with fail
     refine HLF.out.mono ?_
     rintro r w6 ⟨rfl, b6⟩
     have cc : ∀ n, w6.cell? ⟨ba, n, none⟩ = wc.cell? ⟨ba, n, none⟩ := fun n => b6.cell (p := ⟨ba, n, none⟩) HPB.out
     have Y0 := (cc _).trans X0
     have Y1 := (cc _).trans X1
     have Y2 := (cc _).trans X2
     have Y3 := (cc _).trans X3
     have HC6 := hiD (HC.out w6 b6)
     have HI6 := hiD (HI3.out.trans (b6.mono HI3.out.size))
     have HA6 := hiD (HA3.out.later b6)
     clear b6 cc X0 X1 X2 X3 a0 a3 HC HLF HI3 HA3
     have a0 := HA6.out.cell 0
     have a3 := HA6.out.cell 3
     simp only [List.getElem?_cons_zero, List.getElem?_cons_succ] at a0 a3
     cases lf with
     | true =>
      have HW : Hid (wrapT xk tx = tx) := by show _ = _; unfold wrapT; rw [if_pos HLK.out.symm]
      go_wp2_with fail
      refine HC6.out.mono ?_
      rintro r w7 ⟨rfl, b7⟩
      have HI7 := hiD (HI6.out.trans (b7.mono HI6.out.size))
      have HA7 := hiD (HA6.out.later b7)
      clear b7
      go_wp2_with fail
      go_roundw
      case rel => exact ⟨i + 1, _, by omega, by go_num, rfl, by show _ = _; rw [HST.out, HW.out, HSP.out, HSX.out, bstr_app], HI7.out, HA7.out⟩
      case measure => simp [intOf]; omega
     | false =>
      have HW : Hid (wrapT xk tx = 40 :: (tx ++ [41])) := by show _ = _; unfold wrapT; rw [if_neg (by rw [← HLK.out]; exact Bool.false_ne_true)]
      go_wp2_with fail
      refine HC6.out.mono ?_
      rintro r w7 ⟨rfl, b7⟩
      have HI7 := hiD (HI6.out.trans (b7.mono HI6.out.size))
      have HA7 := hiD (HA6.out.later b7)
      clear b7
      go_wp2_with fail
      go_roundw
      case rel => exact ⟨i + 1, _, by omega, by go_num, rfl, by show _ = _; rw [HST.out, HW.out, HSP.out, HSX.out, show (⟨#[40]⟩ : ByteArray) = bstr [40] from rfl, show (⟨#[41]⟩ : ByteArray) = bstr [41] from rfl, bstr_app, bstr_app, bstr_app, List.append_assoc, List.append_assoc]; rfl, HI7.out, HA7.out⟩
      case measure => simp [intOf]; omega
   ·have hi1 : ¬ (i : Int) < ks.length := by omega
    have HK2 : Hid (ks.take i = ks) := List.take_of_length_le (by omega)
    go_wp2_with fail
    go_ret
    exact ⟨by rw [HT.out, ← HK2.out]; exact congrArg (fun s => Ending.returned (.string s)) (by rw [HSJ.out, HK2.out]), HI.out⟩
theorem typesT_take (l : List AlB) : ∀ (i : Nat) (a : AlB), l[i]? = some a → typesT (l.take (i + 1)) = (if i = 0 then [] else typesT (l.take i) ++ [32, 124, 32]) ++ allT a := by
 intro i a h
 cases l with
 | nil => simp at h
 | cons b r =>
  cases i with
  | zero =>
   have h : b = a := by simpa using h
   subst h
   show typesT (b :: r.take 0) = _
   simp [typesT]
  | succ i =>
   have h : r[i]? = some a := by simpa using h
   have hi : i < r.length := (List.getElem?_eq_some_iff.1 h).1
   rw [if_neg (by omega)]
   show allT b ++ ((r.take (i + 1)).map fun x => [32, 124, 32] ++ allT x).flatten = (allT b ++ ((r.take i).map fun x => [32, 124, 32] ++ allT x).flatten) ++ [32, 124, 32] ++ allT a
   rw [List.take_succ_eq_append_getElem hi, List.map_append, List.flatten_append, (List.getElem?_eq_some_iff.1 h).2]
   simp [List.append_assoc]
theorem memsT_take (l : List MemB) (i : Nat) (m : MemB) (h : l[i]? = some m) : memsT (l.take (i + 1)) = memsT (l.take i) ++ [9] ++ memT m ++ [10] := by
 have hi : i < l.length := (List.getElem?_eq_some_iff.1 h).1
 unfold memsT
 rw [List.take_succ_eq_append_getElem hi, List.map_append, List.flatten_append, (List.getElem?_eq_some_iff.1 h).2]
 simp [List.append_assoc]
theorem schT_take (l : List DefB) (i : Nat) (d : DefB) (h : l[i]? = some d) : schT (l.take (i + 1)) = schT (l.take i) ++ defT d := by
 have hi : i < l.length := (List.getElem?_eq_some_iff.1 h).1
 unfold schT
 rw [List.take_succ_eq_append_getElem hi, List.map_append, List.flatten_append, (List.getElem?_eq_some_iff.1 h).2]
 simp
theorem allT_len {a : AlB} (h : GoodA a) : (allT a).length ≤ 129 := by
 have h1 := name_len h.1
 unfold allT
 split
 ·omega
 ·rename_i hz
  have h2 := name_len (h.2.resolve_left hz)
  rw [List.length_append, List.length_cons]
  omega
theorem typesT_len : ∀ {l : List AlB}, (∀ a ∈ l, GoodA a) → (typesT l).length ≤ 132 * l.length
 | [], _ => Nat.le_refl _
 | a :: r, h => by
  rw [typesT_cons]
  have h1 := allT_len (h a List.mem_cons_self)
  have h2 : (sepsT r).length ≤ 132 * r.length := by
   have : ∀ r : List AlB, (∀ x ∈ r, GoodA x) → (sepsT r).length ≤ 132 * r.length := by
    intro r
    induction r with
    | nil => intro _; exact Nat.le_refl _
    | cons x r ih =>
     intro h
     show (([32, 124, 32] ++ allT x) ++ sepsT r).length ≤ _
     have h3 := allT_len (h x List.mem_cons_self)
     have h4 := ih fun y hy => h y (List.mem_cons_of_mem _ hy)
     simp only [List.length_append, List.length_cons, List.length_nil]
     omega
   exact this r fun y hy => h y (List.mem_cons_of_mem _ hy)
  rw [List.length_cons]
  omega
theorem fine_w {e : Ex} (h : FineE e) : wE e ≤ 10000 ∧ (textE e).length ≤ 10000 := by
 have h1 := wE_le 64 e h.2.1
 have h2 := textE_len e
 have h3 : sizeE e * (2 * 64 + 8) ≤ 64 * 136 := Nat.mul_le_mul h.2.2 (Nat.le_refl _)
 omega
set_option maxRecDepth 100000 in
set_option maxHeartbeats 2000000 in
theorem rallT_any (a : AlB) (hg : GoodA a) (w : World) : Calls Tryz.prog 38 #[.agg #[.string (bstr a.1), .string (bstr a.2)]] w fun e w' => e = .returned (.string (bstr (allT a))) ∧ Below w.heap.size w w' := by
 obtain ⟨t, r⟩ := a
 obtain ⟨tn, htn⟩ : ∃ x, x = bstr t := ⟨_, rfl⟩
 have g1 : (tn.size : Int) ≤ 100 := by have : t.length ≤ 64 := name_len hg.1; rw [htn, bstr_size]; omega
 show Calls _ _ #[.agg #[.string (bstr t), .string (bstr r)]] w _
 by_cases hz : r = []
 ·have HA : Hid (bstr (allT (t, r)) = tn) := by show bstr (allT (t, r)) = tn; rw [htn]; unfold allT; rw [if_pos hz]
  rw [hz, show bstr [] = (⟨#[]⟩ : ByteArray) from rfl, ← htn]
  rw [hz] at HA
  have HB : Hid (Below w.heap.size w (w.alloc (.cells #[.string tn, .string ⟨#[]⟩] 42))) := (Below.refl _ _).alloc (Nat.le_refl _) _
  clear hg hz htn
  go_enter Tryz.func38, Tryz.ntmps38
  go_wp2_with fail
  go_ret
  exact ⟨by rw [HA.out]; rfl, HB.out⟩
 ·obtain ⟨rn, hrn⟩ : ∃ x, x = bstr r := ⟨_, rfl⟩
  have hn := hg.2.resolve_left hz
  have g2 : (rn.size : Int) ≤ 100 := by have : r.length ≤ 64 := name_len hn; rw [hrn, bstr_size]; omega
  have HA : Hid (bstr (allT (t, r)) = tn ++ ⟨#[35]⟩ ++ rn) := by
   show bstr (allT (t, r)) = _
   rw [htn, hrn, show (⟨#[35]⟩ : ByteArray) = bstr [35] from rfl, bstr_app, bstr_app]
   unfold allT
   rw [if_neg hz]
   show bstr (t ++ 35 :: r) = bstr (t ++ [35] ++ r)
   rw [List.append_assoc]
   rfl
  obtain ⟨hne, hne2⟩ := isName_ne hn
  rw [← hrn] at hne hne2 ⊢
  rw [← htn]
  have HB : Hid (Below w.heap.size w (w.alloc (.cells #[.string tn, .string rn] 42))) := (Below.refl _ _).alloc (Nat.le_refl _) _
  clear hg hz htn hrn hn
  go_enter Tryz.func38, Tryz.ntmps38
  go_wp2_with fail
  go_ret
  exact ⟨by rw [HA.out]; rfl, HB.out⟩
set_option maxRecDepth 100000 in
set_option maxHeartbeats 2000000 in
theorem rmemT_perm {mk : Int} {mv mn n : List UInt8} {ms : List Ex} {tn : ByteArray} {qa q4 : Option Addr} {ca c4 : Nat} {P : Nat → Prop} {w : World} (hn : isName (bstr n) = true) (htn : tn = bstr n) (h1 : RdE P w (.mk mk mv mn ms) (.agg #[.int .i64 mk, .string (bstr mv), .string (bstr mn), .slice q4 ms.length c4])) (hP : ∀ b, P b → b < w.heap.size) (hg : FineE (.mk mk mv mn ms)) :
  Calls Tryz.prog 20 #[.agg #[.string tn, .int .i64 2, .slice qa 0 ca, .int .i64 mk, .string (bstr mv), .string (bstr mn), .slice q4 ms.length c4]] w fun e w' => e = .returned (.string (bstr (memT (n, 2, [], .mk mk mv mn ms)))) ∧ Below w.heap.size w w' := by
 have hb0 : Below w.heap.size w (w.alloc (.cells #[.string tn, .int .i64 2, .slice qa 0 ca, .int .i64 mk, .string (bstr mv), .string (bstr mn), .slice q4 ms.length c4] 48)) := (Below.refl _ _).alloc (Nat.le_refl _) _
 have HB := hiD hb0
 have HX : Hid (Arr (w.alloc (.cells #[.string tn, .int .i64 2, .slice qa 0 ca, .int .i64 mk, .string (bstr mv), .string (bstr mn), .slice q4 ms.length c4] 48)) 48 w.heap.size [.string tn, .int .i64 2, .slice qa 0 ca, .int .i64 mk, .string (bstr mv), .string (bstr mn), .slice q4 ms.length c4]) := Arr.new' _ _ _ _ rfl
 obtain ⟨te, hte⟩ : ∃ x, x = bstr (textE (.mk mk mv mn ms)) := ⟨_, rfl⟩
 have g1 : (tn.size : Int) ≤ 100 := by have := name_len hn; rw [htn, bstr_size]; omega
 have g2 : (te.size : Int) ≤ 10000 := by have := (fine_w hg).2; rw [hte, bstr_size]; omega
 have HMT : Hid (bstr (memT (n, 2, [], .mk mk mv mn ms)) = ⟨#[112, 101, 114, 109, 105, 115, 115, 105, 111, 110, 32]⟩ ++ tn ++ ⟨#[32, 61, 32]⟩ ++ te ++ ⟨#[59]⟩) := by
  show bstr _ = _
  rw [htn, hte, show (⟨#[112, 101, 114, 109, 105, 115, 115, 105, 111, 110, 32]⟩ : ByteArray) = bstr permS from rfl, show (⟨#[32, 61, 32]⟩ : ByteArray) = bstr [32, 61, 32] from rfl, show (⟨#[59]⟩ : ByteArray) = bstr [59] from rfl, bstr_app, bstr_app, bstr_app, bstr_app]
  unfold memT
  rw [if_pos rfl]
 have HTX : Hid (∀ w', Below (w.alloc (.cells #[.string tn, .int .i64 2, .slice qa 0 ca, .int .i64 mk, .string (bstr mv), .string (bstr mn), .slice q4 ms.length c4] 48)).heap.size (w.alloc (.cells #[.string tn, .int .i64 2, .slice qa 0 ca, .int .i64 mk, .string (bstr mv), .string (bstr mn), .slice q4 ms.length c4] 48)) w' → Calls Tryz.prog 37 #[.agg #[.int .i64 mk, .string (bstr mv), .string (bstr mn), .slice q4 ms.length c4]] w' fun r w'' => r = .returned (.string te) ∧ Below w'.heap.size w' w'') := by
  show ∀ w', _
  intro w' hw
  rw [hte]
  exact rtext_any 64 (.mk mk mv mn ms) _ P w' hg.2.2 (Nat.le_trans hg.2.2 (by decide)) (Nat.le_trans (fine_w hg).1 (by decide)) (formE_of hg.1).1 ((h1.below hb0 hP).below hw (lt_keep hb0 hP)) (lt_keep hw (lt_keep hb0 hP))
 clear hb0 h1 hP hg hn htn hte
 go_enter Tryz.func20, Tryz.ntmps20
 go_upto_region 1 with (fail)
 generalize (w.alloc (.cells #[.string tn, .int .i64 2, .slice qa 0 ca, .int .i64 mk, .string (bstr mv), .string (bstr mn), .slice q4 ms.length c4] 48)) = w0 at HX HB HTX ⊢
 obtain ⟨x0, y0, x1, y1, x2, y2, x3, y3, x4, y4, x5, y5, x6, y6⟩ := HX.out.all7
 go_upto_region 2 with (fail)
 clear x0 y0 x1 y1 x2 y2 x3 y3 x4 y4 x5 y5 x6 y6
 have HX := hiD (HX.out.later (Below.refl w0.heap.size w0).drew)
 refine wp_region_held_drew (S := fun W' => Arr W' 48 w.heap.size [.string tn, .int .i64 2, .slice qa 0 ca, .int .i64 mk, .string (bstr mv), .string (bstr mn), .slice q4 ms.length c4]) (by kernel_rfl) HX.out (fun hHeld => ?_)
 try simp only [Act.put]
 have HB := hiD (HB.out.trans ((Below.refl w0.heap.size w0).drew.mono HB.out.size))
 have HTX := hiD (HTX.out w0.drew (Below.refl _ _).drew)
 generalize w0.drew = w3 at hHeld HX HB HTX ⊢
 refine wpAnyH_take (i := 0) (oi := ⟨some 8, _, _, _, _, _⟩) (v := .pointer (some ⟨w.heap.size, 0, none⟩)) rfl (by kernel_rfl) (by kernel_rfl) (by kernel_rfl) (fun _ _ _ h => h) (.inl ⟨by rfl, fun w' hSw => ?_⟩) hHeld ?_
 focus (skip; clear hHeld; go_simp)
 try simp only [Act.put, pz0, pz1, pz2]
 refine wpAnyH_take (i := 1) (oi := ⟨some 9, _, _, _, _, _⟩) (v := .string tn) rfl (by kernel_rfl) (by kernel_rfl) (by kernel_rfl) (fun _ _ _ h => h) (.inl ⟨by rfl, fun w' hSw => ?_⟩) hHeld ?_
 focus (have q0 := hSw.cell 0; have q1 := hSw.cell 1; have q2 := hSw.cell 2; have q3 := hSw.cell 3; have q4 := hSw.cell 4; have q5 := hSw.cell 5; have q6 := hSw.cell 6; simp only [List.getElem?_cons_zero, List.getElem?_cons_succ] at q0 q1 q2 q3 q4 q5 q6; clear hHeld; go_simp)
 try simp only [Act.put, pz0, pz1, pz2]
 refine wpAnyH_take (i := 2) (oi := ⟨some 10, _, _, _, _, _⟩) (v := .string (⟨#[112, 101, 114, 109, 105, 115, 115, 105, 111, 110, 32]⟩ ++ tn)) rfl (by kernel_rfl) (by kernel_rfl) (by kernel_rfl) (fun _ _ _ h => h) (.inl ⟨by rfl, fun w' hSw => ?_⟩) hHeld ?_
 focus (skip; clear hHeld; go_simp; omega)
 try simp only [Act.put, pz0, pz1, pz2]
 refine wpAnyH_take (i := 3) (oi := ⟨some 11, _, _, _, _, _⟩) (v := .string ((⟨#[112, 101, 114, 109, 105, 115, 115, 105, 111, 110, 32]⟩ ++ tn) ++ ⟨#[32, 61, 32]⟩)) rfl (by kernel_rfl) (by kernel_rfl) (by kernel_rfl) (fun _ _ _ h => h) (.inl ⟨by rfl, fun w' hSw => ?_⟩) hHeld ?_
 focus (skip; clear hHeld; go_simp; omega)
 try simp only [Act.put, pz0, pz1, pz2]
 refine wpAnyH_take (i := 4) (oi := ⟨some 12, _, _, _, _, _⟩) (v := .pointer (some ⟨w.heap.size, 3, none⟩)) rfl (by kernel_rfl) (by kernel_rfl) (by kernel_rfl) (fun _ _ _ h => h) (.inl ⟨by rfl, fun w' hSw => ?_⟩) hHeld ?_
 focus (skip; clear hHeld; go_simp)
 try simp only [Act.put, pz0, pz1, pz2]
 refine wpAnyH_take (i := 5) (oi := ⟨some 13, _, _, _, _, _⟩) (v := .agg #[.int .i64 mk, .string (bstr mv), .string (bstr mn), .slice q4 ms.length c4]) rfl (by kernel_rfl) (by kernel_rfl) (by kernel_rfl) (fun _ _ _ h => h) (.inl ⟨by rfl, fun w' hSw => ?_⟩) hHeld ?_
 focus (have q0 := hSw.cell 0; have q1 := hSw.cell 1; have q2 := hSw.cell 2; have q3 := hSw.cell 3; have q4 := hSw.cell 4; have q5 := hSw.cell 5; have q6 := hSw.cell 6; simp only [List.getElem?_cons_zero, List.getElem?_cons_succ] at q0 q1 q2 q3 q4 q5 q6; clear hHeld; go_simp)
 try simp only [Act.put, pz0, pz1, pz2]
 refine wpAnyH_ready (rs := [6]) (by kernel_rfl) (by simp) ?_
 refine AllReadyH.cons (o := ⟨some 14, _, _, _, _, _⟩) rfl (fun K' hK' => ?_) AllReadyH.nil
 refine stepw_call (R := fun v w' => v = .string te ∧ Below w3.heap.size w3 w') (by rfl) ?_ (HTX.out.mono fun r w' ⟨h1, h2⟩ => ⟨_, h1, rfl, h2⟩) ?_
 focus go_simp
 rintro v wn ⟨rfl, bn⟩
 have hkn := hHeld.later bn
 clear hHeld
 have HB := hiD (HB.out.trans (bn.mono HB.out.size))
 clear bn
 refine hK'.out _ _ hkn (fun hHeld => ?_)
 clear hK' K' hkn
 try simp only [Act.put, pz0, pz1, pz2]
 refine wpAnyH_take (i := 7) (oi := ⟨some 15, _, _, _, _, _⟩) (v := .string (((⟨#[112, 101, 114, 109, 105, 115, 115, 105, 111, 110, 32]⟩ ++ tn) ++ ⟨#[32, 61, 32]⟩) ++ te)) rfl (by kernel_rfl) (by kernel_rfl) (by kernel_rfl) (fun _ _ _ h => h) (.inl ⟨by rfl, fun w' hSw => ?_⟩) hHeld ?_
 focus (skip; clear hHeld; go_simp; omega)
 try simp only [Act.put, pz0, pz1, pz2]
 refine wpAnyH_take (i := 8) (oi := ⟨some 16, _, _, _, _, _⟩) (v := .string ((((⟨#[112, 101, 114, 109, 105, 115, 115, 105, 111, 110, 32]⟩ ++ tn) ++ ⟨#[32, 61, 32]⟩) ++ te) ++ ⟨#[59]⟩)) rfl (by kernel_rfl) (by kernel_rfl) (by kernel_rfl) (fun _ _ _ h => h) (.inl ⟨by rfl, fun w' hSw => ?_⟩) hHeld ?_
 focus (skip; clear hHeld; go_simp; omega)
 try simp only [Act.put, pz0, pz1, pz2]
 refine wpAnyH_take (i := 9) (oi := ⟨some 2, _, _, _, _, _⟩) (v := .string ((((⟨#[112, 101, 114, 109, 105, 115, 115, 105, 111, 110, 32]⟩ ++ tn) ++ ⟨#[32, 61, 32]⟩) ++ te) ++ ⟨#[59]⟩)) rfl (by kernel_rfl) (by kernel_rfl) (by kernel_rfl) (fun _ _ _ h => h) (.inl ⟨by rfl, fun w' hSw => ?_⟩) hHeld ?_
 focus (skip; clear hHeld; go_simp)
 try simp only [Act.put, pz0, pz1, pz2]
 refine wpAnyH_done (by kernel_rfl) ?_ _
 clear hHeld
 go_wp2_with fail
 go_ret
 exact ⟨by rw [HMT.out]; rfl, HB.out⟩
set_option maxRecDepth 100000 in
set_option maxHeartbeats 2000000 in
theorem rmemT_rel {n : List UInt8} {ls : List AlB} {tn : ByteArray} {qa q4 : Option Addr} {ca c4 : Nat} {P : Nat → Prop} {w : World} (hn : isName (bstr n) = true) (htn : tn = bstr n) (h1 : RdA P w ls (.slice qa ls.length ca)) (hP : ∀ b, P b → b < w.heap.size) (ha : ∀ a ∈ ls, GoodA a) (hl : ls.length ≤ 32) :
  Calls Tryz.prog 20 #[.agg #[.string tn, .int .i64 1, .slice qa ls.length ca, .int .i64 0, .string ⟨#[]⟩, .string ⟨#[]⟩, .slice q4 0 c4]] w fun e w' => e = .returned (.string (bstr (memT (n, 1, ls, ex0)))) ∧ Below w.heap.size w w' := by
 have hb0 : Below w.heap.size w (w.alloc (.cells #[.string tn, .int .i64 1, .slice qa ls.length ca, .int .i64 0, .string ⟨#[]⟩, .string ⟨#[]⟩, .slice q4 0 c4] 48)) := (Below.refl _ _).alloc (Nat.le_refl _) _
 have HB := hiD hb0
 have HX : Hid (Arr (w.alloc (.cells #[.string tn, .int .i64 1, .slice qa ls.length ca, .int .i64 0, .string ⟨#[]⟩, .string ⟨#[]⟩, .slice q4 0 c4] 48)) 48 w.heap.size [.string tn, .int .i64 1, .slice qa ls.length ca, .int .i64 0, .string ⟨#[]⟩, .string ⟨#[]⟩, .slice q4 0 c4]) := Arr.new' _ _ _ _ rfl
 have H1 := hiD (rdA_keep h1 hb0 hP)
 have HP := hiD (lt_keep hb0 hP)
 have HG := hiD ha
 have g1 : (tn.size : Int) ≤ 100 := by have := name_len hn; rw [htn, bstr_size]; omega
 have HTN := hiD htn
 have HNL := hiD (name_len hn)
 have hz : (ls.length : Int) ≤ 32 := by omega
 clear hb0 h1 hP ha hn htn hl
 go_enter Tryz.func20, Tryz.ntmps20
 go_upto_region 1 with (fail)
 generalize (w.alloc (.cells #[.string tn, .int .i64 1, .slice qa ls.length ca, .int .i64 0, .string ⟨#[]⟩, .string ⟨#[]⟩, .slice q4 0 c4] 48)) = w0 at HX HB H1 HP ⊢
 obtain ⟨x0, y0, x1, y1, x2, y2, x3, y3, x4, y4, x5, y5, x6, y6⟩ := HX.out.all7
 go_wp2_with fail
 clear x0 y0 x1 y1 x2 y2 x3 y3 x4 y4 x5 y5 x6 y6
 go_loopw [3, 4] (fun sv iv wr => ∃ i : Nat, i ≤ ls.length ∧ iv = .int .i64 i ∧ sv = .string (bstr (relS ++ n ++ [58, 32] ++ typesT (ls.take i))) ∧ Hid (Arr wr 48 w.heap.size [.string tn, .int .i64 1, .slice qa ls.length ca, .int .i64 0, .string ⟨#[]⟩, .string ⟨#[]⟩, .slice q4 0 c4]) ∧ Hid (Below w0.heap.size w0 wr) ∧ Hid (Below w.heap.size w wr)) (fun _ iv _ => ls.length - (intOf iv).toNat)
 case atStart =>
  refine ⟨0, Nat.zero_le _, rfl, ?_, HX.out, Below.refl _ _, HB.out⟩
  rw [HTN.out, show (⟨#[114, 101, 108, 97, 116, 105, 111, 110, 32]⟩ : ByteArray) = bstr relS from rfl, show (⟨#[58, 32]⟩ : ByteArray) = bstr [58, 32] from rfl, bstr_app, bstr_app]
  simp [typesT]
 case round =>
  obtain ⟨i, hi, rfl, rfl, HX, HK, HB⟩ := hrel
  have hi0 : (0 : Int) ≤ i := by omega
  have hlen : (typesT (ls.take i)).length ≤ 132 * 32 := by
   have := typesT_len (l := ls.take i) fun a h => HG.out a (List.mem_of_mem_take h)
   have h2 : (ls.take i).length ≤ 32 := by rw [List.length_take]; omega
   omega
  obtain ⟨sb, hsb⟩ : ∃ sb, sb = bstr (relS ++ n ++ [58, 32] ++ typesT (ls.take i)) := ⟨_, rfl⟩
  have z0 : (sb.size : Int) ≤ 10000 := by
   rw [hsb, bstr_size]
   simp only [List.length_append, List.length_cons, List.length_nil]
   have : relS.length = 9 := rfl
   have := HNL.out
   omega
  by_cases hlt : i < ls.length
  ·have hi1 : (i : Int) < ls.length := by omega
   obtain ⟨b, o, rfl, hb, x0, x1⟩ := H1.out.at hlt
   obtain ⟨a, hx⟩ : ∃ a, ls[i]? = some a := ⟨_, List.getElem?_eq_getElem hlt⟩
   have hgd : ls.getD i ([], []) = a := by rw [List.getD_eq_getElem?_getD, hx]; rfl
   rw [hgd] at x0 x1
   have hga := HG.out a (List.mem_of_getElem? hx)
   have a0 := (HK.out.cell (p := ⟨b, _, none⟩) (HP.out b hb)).trans x0
   have a1 := (HK.out.cell (p := ⟨b, _, none⟩) (HP.out b hb)).trans x1
   have HRA := hiD (rallT_any a hga wr)
   obtain ⟨ta, hta⟩ : ∃ x, x = bstr (allT a) := ⟨_, rfl⟩
   have z1 : (ta.size : Int) ≤ 200 := by have := allT_len hga; rw [hta, bstr_size]; omega
   rw [← hta] at HRA
   have HTK := hiD (typesT_take ls i a hx)
   rw [← hsb]
   clear x0 x1 hb hx hgd hga hlen
   by_cases hi2 : i = 0
   ·have hi3 : ¬ (0 : Int) < i := by omega
    have HSB : Hid (bstr (relS ++ n ++ [58, 32] ++ typesT (ls.take (i + 1))) = sb ++ ta) := by
     show _ = _
     rw [HTK.out, if_pos hi2, hsb, hta, bstr_app, hi2]
     simp [typesT]
    clear hi2 hsb hta hlt
    obtain ⟨x0, y0, x1, y1, x2, y2, x3, y3, x4, y4, x5, y5, x6, y6⟩ := HX.out.all7
    go_wp2_with fail
    refine HRA.out.mono ?_
    rintro e w2 ⟨rfl, b2⟩
    have HX := hiD (HX.out.later b2)
    have HK := hiD (HK.out.trans (b2.mono HK.out.size))
    have HB := hiD (HB.out.trans (b2.mono HB.out.size))
    clear x0 y0 x1 y1 x2 y2 x3 y3 x4 y4 x5 y5 x6 y6
    clear b2 a0 a1
    go_wp2_with fail
    go_roundw
    case rel => exact ⟨i + 1, by omega, by go_num, by rw [HSB.out], HX.out, HK.out, HB.out⟩
    case measure => simp [intOf]; omega
   ·have hi3 : (0 : Int) < i := by omega
    have HSB : Hid (bstr (relS ++ n ++ [58, 32] ++ typesT (ls.take (i + 1))) = sb ++ ⟨#[32, 124, 32]⟩ ++ ta) := by
     show _ = _
     rw [HTK.out, if_neg hi2, hsb, hta, show (⟨#[32, 124, 32]⟩ : ByteArray) = bstr [32, 124, 32] from rfl, bstr_app, bstr_app]
     simp only [List.append_assoc]
    clear hi2 hsb hta hlt
    obtain ⟨x0, y0, x1, y1, x2, y2, x3, y3, x4, y4, x5, y5, x6, y6⟩ := HX.out.all7
    go_wp2_with fail
    refine HRA.out.mono ?_
    rintro e w2 ⟨rfl, b2⟩
    have HX := hiD (HX.out.later b2)
    have HK := hiD (HK.out.trans (b2.mono HK.out.size))
    have HB := hiD (HB.out.trans (b2.mono HB.out.size))
    clear x0 y0 x1 y1 x2 y2 x3 y3 x4 y4 x5 y5 x6 y6
    clear b2 a0 a1
    go_wp2_with fail
    go_roundw
    case rel => exact ⟨i + 1, by omega, by go_num, by rw [HSB.out], HX.out, HK.out, HB.out⟩
    case measure => simp [intOf]; omega
  ·have hi1 : ¬ (i : Int) < ls.length := by omega
   have hil : i = ls.length := by omega
   have HMT : Hid (bstr (memT (n, 1, ls, ex0)) = sb ++ ⟨#[59]⟩) := by
    show bstr _ = _
    rw [hsb, hil, List.take_length, show (⟨#[59]⟩ : ByteArray) = bstr [59] from rfl, bstr_app]
    unfold memT
    rw [if_neg (show ¬ (1 : Int) = 2 by decide)]
   rw [← hsb]
   clear hsb hil hlt hlen
   obtain ⟨x0, y0, x1, y1, x2, y2, x3, y3, x4, y4, x5, y5, x6, y6⟩ := HX.out.all7
   go_wp2_with fail
   go_ret
   exact ⟨by rw [HMT.out]; rfl, HB.out⟩
theorem rmemT_any (x : MemB) (cs : List Value) (P : Nat → Prop) (w : World) (h : rdMem P w x cs) (hP : ∀ b, P b → b < w.heap.size) (hg : GoodM x) : Calls Tryz.prog 20 #[.agg cs.toArray] w fun e w' => e = .returned (.string (bstr (memT x))) ∧ Below w.heap.size w w' := by
 obtain ⟨n, k, ls, mk, mv, mn, ms⟩ := x
 obtain ⟨qa, ca, q4, c4, rfl, h3, h4⟩ := rdMem_form h
 obtain ⟨hn, ⟨hk, h1, h2, ha, he⟩ | ⟨hk, hl, he⟩⟩ := hg
 ·have hk : k = 1 := hk
  have he : Ex.mk mk mv mn ms = .mk 0 [] [] [] := he
  cases he
  subst hk
  exact rmemT_rel hn rfl h3 hP ha h2
 ·have hk : k = 2 := hk
  have hl : ls = [] := hl
  subst hk
  subst hl
  exact rmemT_perm hn rfl h4 hP he
end Go.Proofs.YtkildckeikedhaaGreatDoor
