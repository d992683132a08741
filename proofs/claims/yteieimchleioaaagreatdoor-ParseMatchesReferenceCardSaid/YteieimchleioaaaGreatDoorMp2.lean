/-
  What tokens are read as: types, expressions, members, definitions, or the first error. No program.
-/
import Derived.Test.YteieimchleioaaaGreatDoorMp0
import Derived.Test.YteieimchleioaaaGreatDoorMp1
import Derived.Lib.Small
import Derived.Lib.Bytealg
import Derived.Deep.QuietTactic
import Derived.Test.YteieimchleioaaaGreatDoorProg
import Derived.WalkKit
import Derived.LaidEql
import Derived.Stop.Asserts
import Derived.RowKitTokens
import Derived.Below
import Derived.Lib.Hide
import Derived.Laws.AppendOwn
import Derived.OwnWalk
import Derived.Deep.Draws
import Derived.Tactics
import Derived.Tactics2
import Derived.Defers
import Derived.Recover
import Derived.Laws.Pointers
import Derived.Laws.Rows
import Derived.ProofKit
import Derived.OpenShut
namespace Go.Proofs.YteieimchleioaaaGreatDoor
set_option linter.unusedVariables false

/-- Where reading has come to: the index of the next token, open parentheses, leaves. -/
structure PS where
 i : Nat
 o : Nat
 l : Nat
/-- What a rule gives: a value and the place behind it, or the code of an error and the index of its token. -/
inductive PR (α : Type) where
 | ok (x : α) (s : PS)
 | bad (c : Nat) (i : Nat)
def PR.then {α β : Type} (r : PR α) (f : α → PS → PR β) : PR β := match r with
 | .ok x s => f x s
 | .bad c i => .bad c i
theorem PR.then_ok {α β : Type} (x : α) (s : PS) (f : α → PS → PR β) : (PR.ok x s).then f = f x s := rfl
theorem PR.then_bad {α β : Type} (c i : Nat) (f : α → PS → PR β) : (PR.bad c i : PR α).then f = .bad c i := rfl
def PS.up (s : PS) : PS := { s with i := s.i + 1 }
def tok0 : Tok := (0, [], 0)
def txt (ts : List Tok) (i : Nat) : List UInt8 := (ts.getD i tok0).2.1
def nameF (ts : List Tok) (s : PS) : PR (List UInt8) := if isName (bstr (txt ts s.i)) = true then .ok (txt ts s.i) s.up else .bad 6 s.i
def wantF (ts : List Tok) (t : List UInt8) (s : PS) : PR Unit := if txt ts s.i = t then .ok () s.up else .bad 6 s.i
abbrev AlB := List UInt8 × List UInt8
def allowedF (ts : List Tok) (s : PS) : PR AlB := (nameF ts s).then fun a s1 => if txt ts s1.i = [35] then (nameF ts s1.up).then fun r s2 => .ok (a, r) s2 else .ok (a, []) s1
def typesF (ts : List Tok) : Nat → List AlB → PS → PR (List AlB)
 | 0, acc, s => .ok acc s
 | n + 1, acc, s => if acc.length = 32 then .bad 15 s.i else (allowedF ts s).then fun a s1 => if txt ts s1.i = [124] then typesF ts n (acc ++ [a]) s1.up else .ok (acc ++ [a]) s1
/-- A unit; U reads the inside of a group, where one may be opened. -/
def unitW (ts : List Tok) (U : Option (PS → PR Ex)) (s : PS) : PR Ex :=
 if txt ts s.i = [40] then
  match U with
  | none => .bad 7 s.i
  | some U => (U { s with i := s.i + 1, o := s.o + 1 }).then fun e s1 => (wantF ts [41] s1).then fun _ s2 => .ok e { s2 with o := s2.o - 1 }
 else if isName (bstr (txt ts s.i)) = true then
  if s.l < 32 then
   if txt ts (s.i + 1) = [45, 62] then (nameF ts { s with i := s.i + 2, l := s.l + 1 }).then fun r s2 => .ok (.mk 2 (txt ts s.i) r []) s2
   else .ok (.mk 1 [] (txt ts s.i) []) { s with i := s.i + 1, l := s.l + 1 }
  else .bad 15 s.i
 else .bad 6 s.i
/-- The kind that a sign makes, or 0. -/
def opK (t : List UInt8) : Int := if t = [43] then 3 else if t = [38] then 4 else if t = [45] then 5 else 0
def loopW (ts : List Tok) (U : PS → PR Ex) (sg : List UInt8) : Nat → List Ex → PS → PR (List Ex)
 | 0, acc, s => .ok acc s
 | n + 1, acc, s => if txt ts s.i = sg then (U s.up).then fun e s1 => if opK sg = 5 then .ok (acc ++ [e]) s1 else loopW ts U sg n (acc ++ [e]) s1 else .ok acc s
def unitsW (ts : List Tok) (U : PS → PR Ex) (s : PS) : PR Ex :=
 (U s).then fun e s1 => if opK (txt ts s1.i) = 0 then .ok e s1 else (loopW ts U (txt ts s1.i) ts.length [e] s1).then fun ks s2 => .ok (.mk (opK (txt ts s1.i)) [] [] ks) s2
/-- Units where d groups may still be opened. -/
def unitsF (ts : List Tok) : Nat → PS → PR Ex
 | 0 => unitsW ts (unitW ts none)
 | d + 1 => unitsW ts (unitW ts (some (unitsF ts d)))
def unitF (ts : List Tok) : Nat → PS → PR Ex
 | 0 => unitW ts none
 | d + 1 => unitW ts (some (unitsF ts d))
theorem unitsF_eq (ts : List Tok) (d : Nat) : unitsF ts d = unitsW ts (unitF ts d) := by cases d <;> rfl
def exprF (ts : List Tok) (s : PS) : PR Ex := unitsF ts 14 { s with o := 0, l := 0 }
/-- name, kind, types, expression -/
abbrev MemB := List UInt8 × Int × List AlB × Ex
def wRelB : List UInt8 := wRel.data.toList
def wPermB : List UInt8 := wPerm.data.toList
def wDefB : List UInt8 := wDef.data.toList
def memberF (ts : List Tok) (s : PS) : PR MemB :=
 if txt ts s.i = wRelB then (nameF ts s.up).then fun n s1 => (wantF ts [58] s1).then fun _ s2 => (typesF ts 33 [] s2).then fun l s3 => (wantF ts [59] s3).then fun _ s4 => .ok (n, 1, l, ex0) s4
 else (wantF ts wPermB s).then fun _ s0 => (nameF ts s0).then fun n s1 => (wantF ts [61] s1).then fun _ s2 => (exprF ts s2).then fun e s3 => (wantF ts [59] s3).then fun _ s4 => .ok (n, 2, [], e) s4
def membersF (ts : List Tok) : Nat → List MemB → PS → PR (List MemB)
 | 0, acc, s => .ok acc s
 | n + 1, acc, s => if txt ts s.i = wRelB ∨ txt ts s.i = wPermB then if acc.length < 64 then (memberF ts s).then fun m s1 => membersF ts n (acc ++ [m]) s1 else .bad 15 s.i else .ok acc s
abbrev DefB := List UInt8 × List MemB
def defF (ts : List Tok) (s : PS) : PR DefB :=
 (wantF ts wDefB s).then fun _ s0 => (nameF ts s0).then fun n s1 => (wantF ts [123] s1).then fun _ s2 => (membersF ts 65 [] s2).then fun l s3 => (wantF ts [125] s3).then fun _ s4 => .ok (n, l) s4
def defsF (ts : List Tok) : Nat → List DefB → PS → PR (List DefB)
 | 0, acc, s => .ok acc s
 | n + 1, acc, s => if txt ts s.i = wDefB then if acc.length < 64 then (defF ts s).then fun d s1 => defsF ts n (acc ++ [d]) s1 else .bad 15 s.i else .ok acc s
/-- All tokens must have been read. -/
def endF {α : Type} (ts : List Tok) (r : PR α) : PR α := r.then fun x s => if (ts.getD s.i tok0).1 = 3 then .ok x s else .bad 6 s.i

/-! ### The place stays within the tokens -/
theorem OkTs.step {ts : List Tok} (h : OkTs ts) {i : Nat} (ht : txt ts i ≠ []) : i + 1 < ts.length := by
 obtain ⟨us, e, rfl, he, hu⟩ := h
 rcases Nat.lt_trichotomy i us.length with h1 | h1 | h1
 ·rw [List.length_append, List.length_singleton]; omega
 ·refine absurd ?_ ht
  subst h1
  unfold txt
  rw [List.getD_eq_getElem?_getD, List.getElem?_append_right (Nat.le_refl _), Nat.sub_self]
  exact (Prod.mk.inj he).2
 ·refine absurd ?_ ht
  unfold txt
  rw [List.getD_eq_getElem?_getD, List.getElem?_eq_none (by rw [List.length_append, List.length_singleton]; omega)]
  rfl
theorem name_ne {t : List UInt8} (h : isName (bstr t) = true) : t ≠ [] := by
 rintro rfl
 exact absurd h (by decide +kernel)
/-- A rule that, where it gives a place, gives one within the tokens, and the same number of open parentheses. -/
def Keeps {α : Type} (ts : List Tok) (f : PS → PR α) : Prop := ∀ s x s', s.i < ts.length → f s = .ok x s' → s'.i < ts.length ∧ s'.o = s.o ∧ s.i ≤ s'.i ∧ s.l ≤ s'.l ∧ (s.l ≤ 32 → s'.l ≤ 32)
theorem keeps_name {ts : List Tok} (h : OkTs ts) : Keeps ts (nameF ts) := by
 intro s x s' hs e
 unfold nameF at e
 split at e
 ·rename_i hn
  cases e
  exact ⟨h.step (name_ne hn), rfl, Nat.le_succ _, Nat.le_refl _, fun h => h⟩
 ·cases e
theorem keeps_want {ts : List Tok} (h : OkTs ts) {t : List UInt8} (ht : t ≠ []) : Keeps ts (wantF ts t) := by
 intro s x s' hs e
 unfold wantF at e
 split at e
 ·rename_i hn
  cases e
  exact ⟨h.step (by rw [hn]; exact ht), rfl, Nat.le_succ _, Nat.le_refl _, fun h => h⟩
 ·cases e
theorem then_some {α β : Type} {r : PR α} {f : α → PS → PR β} {x : β} {s : PS} (h : r.then f = .ok x s) : ∃ y s1, r = .ok y s1 ∧ f y s1 = .ok x s := by
 cases r with
 | ok y s1 => exact ⟨y, s1, rfl, h⟩
 | bad c i => cases h
theorem keeps_allowed {ts : List Tok} (h : OkTs ts) : Keeps ts (allowedF ts) := by
 intro s x s' hs e
 unfold allowedF at e
 obtain ⟨a, s1, e1, e2⟩ := then_some e
 have k1 := keeps_name h s a s1 hs e1
 split at e2
 ·rename_i ht
  obtain ⟨r, s2, e3, e4⟩ := then_some e2
  have k2 := keeps_name h s1.up r s2 (h.step (by rw [ht]; simp)) e3
  cases e4
  have : s1.up.i = s1.i + 1 := rfl
  exact ⟨k2.1, k2.2.1.trans k1.2.1, by omega, Nat.le_trans k1.2.2.2.1 k2.2.2.2.1, fun h0 => k2.2.2.2.2 (k1.2.2.2.2 h0)⟩
 ·cases e2
  exact k1
theorem keeps_types {ts : List Tok} (h : OkTs ts) : ∀ (n : Nat) (acc : List AlB), Keeps ts (typesF ts n acc)
 | 0, acc => fun s x s' hs e => by unfold typesF at e; cases e; exact ⟨hs, rfl, Nat.le_refl _, Nat.le_refl _, fun h => h⟩
 | n + 1, acc => fun s x s' hs e => by
  unfold typesF at e
  split at e
  ·cases e
  obtain ⟨a, s1, e1, e2⟩ := then_some e
  have k1 := keeps_allowed h s a s1 hs e1
  split at e2
  ·rename_i ht
   have k2 := keeps_types h n _ s1.up x s' (h.step (by rw [ht]; simp)) e2
   have : s1.up.i = s1.i + 1 := rfl
   exact ⟨k2.1, k2.2.1.trans k1.2.1, by omega, Nat.le_trans k1.2.2.2.1 k2.2.2.2.1, fun h0 => k2.2.2.2.2 (k1.2.2.2.2 h0)⟩
  ·cases e2
   exact k1
theorem keeps_unitW {ts : List Tok} (h : OkTs ts) {U : Option (PS → PR Ex)} (hU : ∀ u, U = some u → Keeps ts u) : Keeps ts (unitW ts U) := by
 intro s x s' hs e
 unfold unitW at e
 split at e
 ·rename_i ht
  cases U with
  | none => cases e
  | some u =>
   obtain ⟨y, s1, e1, e2⟩ := then_some e
   have k1 := hU u rfl _ y s1 (h.step (by rw [ht]; simp)) e1
   obtain ⟨_, s2, e3, e4⟩ := then_some e2
   have k2 := keeps_want h (by simp) s1 _ s2 k1.1 e3
   cases e4
   have e5 : s1.o = s.o + 1 := k1.2.1
   have e6 : s.i + 1 ≤ s1.i := k1.2.2.1
   refine ⟨k2.1, ?_, ?_, Nat.le_trans k1.2.2.2.1 k2.2.2.2.1, fun h0 => k2.2.2.2.2 (k1.2.2.2.2 h0)⟩
   ·show s2.o - 1 = s.o
    rw [k2.2.1, e5]; rfl
   ·show s.i ≤ s2.i
    have := k2.2.2.1
    omega
 ·split at e
  ·rename_i hn
   have st := h.step (name_ne hn)
   split at e
   ·rename_i hl
    split at e
    ·rename_i ht
     obtain ⟨r, s2, e1, e2⟩ := then_some e
     have k2 := keeps_name h _ r s2 (show s.i + 2 < ts.length from h.step (i := s.i + 1) (by rw [ht]; simp)) e1
     cases e2
     have a1 : s.i + 2 ≤ s'.i := k2.2.2.1
     have a2 : s.l + 1 ≤ s'.l := k2.2.2.2.1
     exact ⟨k2.1, k2.2.1, by omega, by omega, fun _ => k2.2.2.2.2 (show s.l + 1 ≤ 32 by omega)⟩
    ·cases e
     exact ⟨st, rfl, Nat.le_succ _, Nat.le_succ _, fun _ => show s.l + 1 ≤ 32 by omega⟩
   ·cases e
  ·cases e
theorem opK_ne {t : List UInt8} (h : opK t ≠ 0) : t ≠ [] := by
 rintro rfl
 exact h rfl
theorem keeps_loopW {ts : List Tok} (h : OkTs ts) {U : PS → PR Ex} (hU : Keeps ts U) {sg : List UInt8} (hg : sg ≠ []) : ∀ (n : Nat) (acc : List Ex), Keeps ts (loopW ts U sg n acc)
 | 0, acc => fun s x s' hs e => by unfold loopW at e; cases e; exact ⟨hs, rfl, Nat.le_refl _, Nat.le_refl _, fun h => h⟩
 | n + 1, acc => fun s x s' hs e => by
  unfold loopW at e
  split at e
  ·rename_i ht
   obtain ⟨a, s1, e1, e2⟩ := then_some e
   have k1 := hU s.up a s1 (h.step (by rw [ht]; exact hg)) e1
   have a1 : s.i + 1 ≤ s1.i := k1.2.2.1
   split at e2
   ·cases e2
    exact ⟨k1.1, k1.2.1, by omega, k1.2.2.2.1, k1.2.2.2.2⟩
   ·have k2 := keeps_loopW h hU hg n _ s1 x s' k1.1 e2
    exact ⟨k2.1, k2.2.1.trans k1.2.1, by have := k2.2.2.1; omega, Nat.le_trans k1.2.2.2.1 k2.2.2.2.1, fun h0 => k2.2.2.2.2 (k1.2.2.2.2 h0)⟩
  ·cases e
   exact ⟨hs, rfl, Nat.le_refl _, Nat.le_refl _, fun h => h⟩
theorem keeps_unitsW {ts : List Tok} (h : OkTs ts) {U : PS → PR Ex} (hU : Keeps ts U) : Keeps ts (unitsW ts U) := by
 intro s x s' hs e
 unfold unitsW at e
 obtain ⟨a, s1, e1, e2⟩ := then_some e
 have k1 := hU s a s1 hs e1
 split at e2
 ·cases e2; exact k1
 ·rename_i ho
  obtain ⟨ks, s2, e3, e4⟩ := then_some e2
  have k2 := keeps_loopW h hU (opK_ne ho) _ _ s1 ks s2 k1.1 e3
  cases e4
  exact ⟨k2.1, k2.2.1.trans k1.2.1, Nat.le_trans k1.2.2.1 k2.2.2.1, Nat.le_trans k1.2.2.2.1 k2.2.2.2.1, fun h0 => k2.2.2.2.2 (k1.2.2.2.2 h0)⟩
theorem keeps_units {ts : List Tok} (h : OkTs ts) : ∀ d : Nat, Keeps ts (unitsF ts d)
 | 0 => keeps_unitsW h (keeps_unitW h fun u e => by cases e)
 | d + 1 => keeps_unitsW h (keeps_unitW h fun u e => by cases e; exact keeps_units h d)
theorem keeps_unit {ts : List Tok} (h : OkTs ts) : ∀ d : Nat, Keeps ts (unitF ts d)
 | 0 => by
  show Keeps ts (unitW ts none)
  exact keeps_unitW h fun u e => by cases e
 | d + 1 => by
  show Keeps ts (unitW ts (some (unitsF ts d)))
  exact keeps_unitW h fun u e => by cases e; exact keeps_units h d
end Go.Proofs.YteieimchleioaaaGreatDoor
/-
  What is read as an expression is right, and small.
-/
namespace Go.Proofs.YteieimchleioaaaGreatDoor
set_option linter.unusedVariables false

/-- What a rule gives: of depth D at most, right in form, its leaves counted, its names short. -/
def GoodU (D : Nat) (f : PS → PR Ex) : Prop := ∀ s x s', f s = .ok x s' → formE x = true ∧ depthE x ≤ D ∧ (leavesE x).length + s.l = s'.l ∧ okE 64 x ∧ sizeE x + 1 ≤ 2 * (leavesE x).length
theorem GoodU.le {D D' : Nat} {f : PS → PR Ex} (h : GoodU D f) (hd : D ≤ D') : GoodU D' f := fun s x s' e => by
 obtain ⟨h1, h2, h3⟩ := h s x s' e
 exact ⟨h1, Nat.le_trans h2 hd, h3⟩
theorem name_len {t : List UInt8} (h : isName (bstr t) = true) : t.length ≤ 64 := by
 unfold isName at h
 simp only [Bool.and_eq_true] at h
 have := of_decide_eq_true h.1.1
 have h2 := this.2.1
 rw [bstr_data] at h2
 exact h2
theorem name_some {ts : List Tok} {s : PS} {r : List UInt8} {s' : PS} (e : nameF ts s = .ok r s') : isName (bstr r) = true ∧ s' = s.up := by
 unfold nameF at e
 split at e
 ·rename_i hn
  cases e
  exact ⟨hn, rfl⟩
 ·cases e
theorem want_some {ts : List Tok} {t : List UInt8} {s : PS} {u : Unit} {s' : PS} (e : wantF ts t s = .ok u s') : s' = s.up := by
 unfold wantF at e
 split at e
 ·cases e; rfl
 ·cases e
theorem good_unitW {ts : List Tok} {D : Nat} {U : Option (PS → PR Ex)} (hD : 1 ≤ D) (hU : ∀ u, U = some u → GoodU D u) : GoodU D (unitW ts U) := by
 intro s x s' e
 unfold unitW at e
 split at e
 ·cases U with
  | none => cases e
  | some u =>
   obtain ⟨y, s1, e1, e2⟩ := then_some e
   obtain ⟨_, s2, e3, e4⟩ := then_some e2
   have := want_some e3
   subst this
   cases e4
   have g := hU u rfl _ _ _ e1
   exact g
 ·split at e
  ·rename_i hn
   split at e
   ·split at e
    ·obtain ⟨r, s2, e1, e2⟩ := then_some e
     obtain ⟨hr, rfl⟩ := name_some e1
     cases e2
     have h1 := name_len hn
     have h2 := name_len hr
     refine ⟨?_, ?_, ?_, ?_, ?_⟩
     ·simp [formE, formL, partB, hn, hr]
     ·simp only [depthE, depthL]; omega
     ·rw [leaves_leaf rfl]
      show 1 + s.l = s.l + 1
      omega
     ·exact ⟨h1, h2, trivial⟩
     ·rw [leaves_leaf rfl]; simp [sizeE, sizeL]
    ·cases e
     have h1 := name_len hn
     refine ⟨?_, ?_, ?_, ?_, ?_⟩
     ·simp [formE, formL, partB, hn]
     ·simp only [depthE, depthL]; omega
     ·rw [leaves_leaf rfl]
      show 1 + s.l = s.l + 1
      omega
     ·exact ⟨by simp, h1, trivial⟩
     ·rw [leaves_leaf rfl]; simp [sizeE, sizeL]
   ·cases e
  ·cases e
theorem sizeL_snoc : ∀ (ks : List Ex) (e : Ex), sizeL (ks ++ [e]) = sizeL ks + sizeE e
 | [], e => by simp [sizeL]
 | a :: r, e => by rw [List.cons_append, sizeL, sizeL_snoc r e, sizeL]; omega
theorem formL_snoc : ∀ (ks : List Ex) (e : Ex), formL (ks ++ [e]) = (formL ks && formE e)
 | [], e => by simp [formL]
 | a :: r, e => by rw [List.cons_append, formL, formL_snoc r e, formL, Bool.and_assoc]
theorem okL_snoc : ∀ (M : Nat) (ks : List Ex) (e : Ex), okL M ks → okE M e → okL M (ks ++ [e])
 | M, [], e, _, h => ⟨h, trivial⟩
 | M, a :: r, e, h, h2 => by
  unfold okL at h
  rw [List.cons_append]
  exact ⟨h.1, okL_snoc M r e h.2 h2⟩
/-- What the loop over units keeps. -/
def GoodL (D : Nat) (ks : List Ex) (n : Nat) : Prop := formL ks = true ∧ depthL ks ≤ D ∧ (leavesL ks).length = n ∧ okL 64 ks ∧ sizeL ks + ks.length ≤ 2 * n
theorem GoodL.snoc {D n : Nat} {ks : List Ex} {e : Ex} {m : Nat} (h : GoodL D ks n) (h1 : formE e = true) (h2 : depthE e ≤ D) (h3 : (leavesE e).length + n = m) (h4 : okE 64 e) (h5 : sizeE e + 1 ≤ 2 * (leavesE e).length) : GoodL D (ks ++ [e]) m := by
 obtain ⟨g1, g2, g3, g4, g5⟩ := h
 refine ⟨by rw [formL_snoc, g1, h1]; rfl, by rw [depthL_snoc]; omega, by rw [leavesL_snoc, List.length_append]; omega, okL_snoc _ _ _ g4 h4, ?_⟩
 rw [sizeL_snoc, List.length_append, List.length_singleton]
 omega
theorem good_loopW {ts : List Tok} {D : Nat} {U : PS → PR Ex} (hU : GoodU D U) (sg : List UInt8) (b : Nat) : ∀ (n : Nat) (acc : List Ex) (s : PS) (ks : List Ex) (s' : PS), b ≤ s.l → GoodL D acc (s.l - b) → loopW ts U sg n acc s = .ok ks s' →
  b ≤ s'.l ∧ GoodL D ks (s'.l - b) ∧ (0 < n → txt ts s.i = sg → if opK sg = 5 then ks.length = acc.length + 1 else acc.length + 1 ≤ ks.length) ∧ acc.length ≤ ks.length
 | 0, acc, s, ks, s', hb, hg, e => by
  unfold loopW at e
  cases e
  exact ⟨hb, hg, fun h => absurd h (by omega), Nat.le_refl _⟩
 | n + 1, acc, s, ks, s', hb, hg, e => by
  unfold loopW at e
  split at e
  ·rename_i ht
   obtain ⟨a, s1, e1, e2⟩ := then_some e
   obtain ⟨h1, h2, h3, h4, h5⟩ := hU s.up a s1 e1
   have h3' : (leavesE a).length + s.l = s1.l := h3
   have hg2 : GoodL D (acc ++ [a]) (s1.l - b) := hg.snoc h1 h2 (by omega) h4 h5
   split at e2
   ·rename_i h6
    cases e2
    exact ⟨by omega, hg2, fun _ _ => by rw [if_pos h6]; simp, by simp⟩
   ·rename_i h6
    obtain ⟨k1, k2, k3, k4⟩ := good_loopW hU sg b n (acc ++ [a]) s1 ks s' (by omega) hg2 e2
    rw [List.length_append, List.length_singleton] at k4
    exact ⟨k1, k2, fun _ _ => by rw [if_neg h6]; exact k4, by omega⟩
  ·rename_i ht
   cases e
   exact ⟨hb, hg, fun _ h => absurd h ht, Nat.le_refl _⟩
theorem opK_cases (t : List UInt8) (h : opK t ≠ 0) : opK t = 3 ∨ opK t = 4 ∨ opK t = 5 := by
 unfold opK at h ⊢
 split
 ·exact .inl rfl
 ·split
  ·exact .inr (.inl rfl)
  ·split
   ·exact .inr (.inr rfl)
   ·rename_i h1 h2 h3
    rw [if_neg h1, if_neg h2, if_neg h3] at h
    exact absurd rfl h
theorem good_unitsW {ts : List Tok} (ht : 0 < ts.length) {D : Nat} {U : PS → PR Ex} (hU : GoodU D U) : GoodU (D + 1) (unitsW ts U) := by
 intro s x s' e
 unfold unitsW at e
 obtain ⟨a, s1, e1, e2⟩ := then_some e
 have g1 := hU s a s1 e1
 split at e2
 ·cases e2
  exact ⟨g1.1, Nat.le_succ_of_le g1.2.1, g1.2.2⟩
 ·rename_i ho
  obtain ⟨ks, s2, e3, e4⟩ := then_some e2
  cases e4
  obtain ⟨h1, h2, h3, h4, h5⟩ := g1
  have h0 : GoodL D [a] (s1.l - s.l) := by
   have : (leavesE a).length = s1.l - s.l := by omega
   refine ⟨by simp [formL, h1], by simp [depthL]; omega, by simp [leavesL]; omega, ⟨h4, trivial⟩, by simp only [sizeL, List.length_singleton]; omega⟩
  obtain ⟨k1, k2, k3, k4⟩ := good_loopW (ts := ts) hU (txt ts s1.i) s.l ts.length [a] s1 ks s' (by omega) h0 e3
  have k5 := k3 ht rfl
  obtain ⟨q1, q2, q3, q4, q5⟩ := k2
  have hlf : leafK (opK (txt ts s1.i)) = false := by rcases opK_cases _ ho with h | h | h <;> rw [h] <;> rfl
  have hlv : leavesE (.mk (opK (txt ts s1.i)) [] [] ks) = leavesL ks := leaves_kids (by rw [hlf]; simp)
  have hlen : 2 ≤ ks.length ∧ (opK (txt ts s1.i) = 5 → ks.length = 2) := by
   split at k5
   ·rename_i h; exact ⟨by rw [k5]; simp, fun _ => by rw [k5]; rfl⟩
   ·rename_i h; exact ⟨by simpa using k5, fun h' => absurd h' h⟩
  refine ⟨?_, ?_, ?_, ⟨by simp, by simp, q4⟩, ?_⟩
  ·rw [formE, q1, Bool.and_true]
   unfold partB
   rcases opK_cases _ ho with h | h | h
   ·rw [h]; simp [hlen.1]
   ·rw [h]; simp [hlen.1]
   ·rw [h]; simp [hlen.2 h]
  ·rw [depthE]; omega
  ·rw [hlv]; omega
  ·rw [hlv, sizeE]
   have := hlen.1
   omega
theorem good_units {ts : List Tok} (ht : 0 < ts.length) : ∀ d : Nat, GoodU (d + 2) (unitsF ts d)
 | 0 => good_unitsW ht (good_unitW (by omega) fun u e => by cases e)
 | d + 1 => good_unitsW ht (good_unitW (by omega) fun u e => by cases e; exact good_units ht d)
/-- What is read as an expression is right. -/
theorem expr_right {ts : List Tok} (h : OkTs ts) {s : PS} (hs : s.i < ts.length) {e : Ex} {s' : PS} (he : exprF ts s = .ok e s') : rightE e = true ∧ okE 64 e ∧ sizeE e ≤ 64 := by
 obtain ⟨h1, h2, h3, h4, h5⟩ := good_units (by omega) 14 _ e s' he
 obtain ⟨_, _, _, _, k⟩ := keeps_units h 14 { s with o := 0, l := 0 } e s' hs he
 have k2 : s'.l ≤ 32 := k (Nat.zero_le _)
 have h3' : (leavesE e).length + 0 = s'.l := h3
 refine ⟨?_, h4, by omega⟩
 unfold rightE
 rw [h1, decide_eq_true (show (leavesE e).length ≤ 32 by omega), decide_eq_true (show depthE e ≤ 16 by omega)]
 rfl
end Go.Proofs.YteieimchleioaaaGreatDoor
/-
  cmp.Compare and cmp.Or of ints.
-/
namespace Go.Proofs.YteieimchleioaaaGreatDoor
open Go.ChangeShapes Go.WideShapes Go.ChangeAt Go.RowKit
set_option linter.unusedVariables false

def cmpI (a b : Int) : Int := if a < b then -1 else if b < a then 1 else 0
set_option maxRecDepth 100000 in
theorem isNaN_any (x : Int) (w : World) : Calls Tryz.prog 119 #[.int .i64 x] w fun r w' => r = .returned (.bool false) ∧ w = w' := by
 go_enter Tryz.func119, Tryz.ntmps119
 go_wp2_with fail
 go_ret
 exact ⟨ret_b (by simp), rfl⟩
set_option maxRecDepth 100000 in
theorem cmpInt_any (a b : Int) (w : World) : Calls Tryz.prog 112 #[.int .i64 a, .int .i64 b] w fun r w' => r = .returned (.int .i64 (cmpI a b)) ∧ w = w' := by
 have HA := Lib.hid (fun W => isNaN_any a W)
 have HB := Lib.hid (fun W => isNaN_any b W)
 by_cases h1 : a < b
 ·have H : Hid (cmpI a b = -1) := if_pos h1
  go_enter Tryz.func112, Tryz.ntmps112
  go_wp2_with fail
  refine (HA.out _).mono ?_
  rintro r w2 ⟨rfl, hw⟩
  subst hw
  go_wp2_with fail
  refine (HB.out _).mono ?_
  rintro r w2 ⟨rfl, hw⟩
  subst hw
  go_wp2_with fail
  go_ret
  exact ⟨by rw [H.out]; rfl, rfl⟩
 ·by_cases h2 : b < a
  ·have H : Hid (cmpI a b = 1) := by show _ = _; unfold cmpI; rw [if_neg h1, if_pos h2]
   go_enter Tryz.func112, Tryz.ntmps112
   go_wp2_with fail
   refine (HA.out _).mono ?_
   rintro r w2 ⟨rfl, hw⟩
   subst hw
   go_wp2_with fail
   refine (HB.out _).mono ?_
   rintro r w2 ⟨rfl, hw⟩
   subst hw
   go_wp2_with fail
   go_ret
   exact ⟨by rw [H.out]; rfl, rfl⟩
  ·have H : Hid (cmpI a b = 0) := by show _ = _; unfold cmpI; rw [if_neg h1, if_neg h2]
   go_enter Tryz.func112, Tryz.ntmps112
   go_wp2_with fail
   refine (HA.out _).mono ?_
   rintro r w2 ⟨rfl, hw⟩
   subst hw
   go_wp2_with fail
   refine (HB.out _).mono ?_
   rintro r w2 ⟨rfl, hw⟩
   subst hw
   go_wp2_with fail
   go_ret
   exact ⟨by rw [H.out]; rfl, rfl⟩
/-- The first that is not zero. -/
def orL : List Int → Int
 | [] => 0
 | x :: r => if x = 0 then orL r else x
theorem orL_drop : ∀ {l : List Int} {i : Nat}, (∀ j, j < i → l.getD j 0 = 0) → orL l = orL (l.drop i)
 | l, 0, _ => rfl
 | [], i + 1, _ => rfl
 | x :: r, i + 1, h => by
  have h0 := h 0 (by omega)
  simp only [List.getD_cons_zero] at h0
  rw [List.drop_succ_cons, ← orL_drop (l := r) (i := i) (fun j hj => by have := h (j + 1) (by omega); simpa using this)]
  conv => lhs; unfold orL
  rw [if_pos h0]
theorem orL_at {l : List Int} {i : Nat} (hi : i < l.length) (h : ∀ j, j < i → l.getD j 0 = 0) (hx : ¬ l.getD i 0 = 0) : orL l = l.getD i 0 := by
 rw [orL_drop h, List.drop_eq_getElem_cons hi]
 have e : l.getD i 0 = l[i] := by rw [List.getD_eq_getElem?_getD, List.getElem?_eq_getElem hi]; rfl
 rw [e] at hx ⊢
 conv => lhs; unfold orL
 rw [if_neg hx]
set_option maxRecDepth 100000 in
set_option maxHeartbeats 1000000 in
theorem or_any (l : List Int) (hl : l.length ≤ 1000) (g : Nat) (w : World) (hA : Arr w 3 g (l.map fun x => .int .i64 x)) : Calls Tryz.prog 111 #[.slice (some ⟨g, 0, none⟩) l.length l.length] w fun r w' => r = .returned (.int .i64 (orL l)) ∧ w = w' := by
 have HA := Lib.hid hA
 clear hA
 go_enter Tryz.func111, Tryz.ntmps111
 go_wp2_with fail
 go_loop [8] (fun iv => ∃ i : Nat, i ≤ l.length ∧ iv = .int .i64 i ∧ Hid (∀ j, j < i → l.getD j 0 = 0)) (fun iv => l.length - (intOf iv).toNat)
 case atStart => exact ⟨0, Nat.zero_le _, rfl, fun j hj => absurd hj (Nat.not_lt_zero _)⟩
 case round =>
  obtain ⟨i, hi, rfl, HG⟩ := hrel
  have hi0 : (0 : Int) ≤ i := by omega
  by_cases hlt : i < l.length
  ·have hi1 : (i : Int) < l.length := by omega
   have hx0 := HA.out.cell i
   rw [List.getElem?_map, List.getElem?_eq_getElem hlt] at hx0
   obtain ⟨x, hx⟩ : ∃ x, x = l.getD i 0 := ⟨_, rfl⟩
   have e : l.getD i 0 = l[i] := by rw [List.getD_eq_getElem?_getD, List.getElem?_eq_getElem hlt]; rfl
   have X0 : w.cell? ⟨g, i, none⟩ = some (.int .i64 x) := by rw [hx, e]; exact hx0
   have HX := Lib.hid hx
   have HLT : Hid (i < l.length) := hlt
   clear hx0 e hx
   by_cases hz : x = 0
   ·have bz : (x != 0) = false := by rw [hz]; rfl
    have HZ := Lib.hid hz
    clear hz
    go_wp2_with fail
    go_round
    case rel =>
     refine ⟨i + 1, by omega, by go_num, fun j hj => ?_⟩
     by_cases e : j = i
     ·subst e; rw [← HX.out]; exact HZ.out
     ·exact HG.out j (by omega)
    case measure => simp [intOf]; omega
   ·have bz : (x != 0) = true := by rw [bne_iff_ne]; exact hz
    have HR : Hid (orL l = x) := by show _ = _; rw [HX.out]; exact orL_at HLT.out HG.out (by rw [← HX.out]; exact hz)
    clear hz
    go_wp2_with fail
    go_ret
    exact ⟨by rw [HR.out]; rfl, rfl⟩
  ·have hi1 : ¬ (i : Int) < l.length := by omega
   have HR : Hid (orL l = 0) := by
    show _ = _
    rw [orL_drop HG.out, List.drop_of_length_le (by omega)]; rfl
   go_wp2_with fail
   go_ret
   exact ⟨by rw [HR.out]; rfl, rfl⟩
end Go.Proofs.YteieimchleioaaaGreatDoor
/-
  The order of expressions; slices.CompareFunc over kids.
-/
namespace Go.Proofs.YteieimchleioaaaGreatDoor
open Go.ChangeShapes Go.WideShapes Go.ChangeAt Go.RowKit
set_option linter.unusedVariables false

mutual
def cmpE : Ex → Ex → Int
 | .mk k v n ks, e2 => orL [Lib.compareInt k e2.kind, Lib.compareBytes v e2.via, Lib.compareBytes n e2.nm, cmpL ks e2.kids]
def cmpL : List Ex → List Ex → Int
 | [], [] => 0
 | [], _ :: _ => -1
 | _ :: _, [] => 1
 | a :: r, b :: s => orL [cmpE a b, cmpL r s]
end
theorem cmpL_step {ks ls : List Ex} {i : Nat} (h1 : i < ks.length) (h2 : i < ls.length) : cmpL (ks.drop i) (ls.drop i) = orL [cmpE (ks.getD i ex0) (ls.getD i ex0), cmpL (ks.drop (i + 1)) (ls.drop (i + 1))] := by
 rw [List.drop_eq_getElem_cons h1, List.drop_eq_getElem_cons h2, List.getD_eq_getElem?_getD, List.getElem?_eq_getElem h1, List.getD_eq_getElem?_getD, List.getElem?_eq_getElem h2]
 conv => lhs; unfold cmpL
 rfl
theorem orL2 (a b : Int) : orL [a, b] = if a = 0 then b else a := by
 unfold orL
 split
 ·unfold orL
  split
  ·rename_i h; rw [h]; rfl
  ·rfl
 ·rfl
set_option maxRecDepth 100000 in
set_option maxHeartbeats 4000000 in
theorem cmpf_any (n : Nat) (HC : Hid (∀ (x y : Ex) (vx vy : Value) (P Q : Nat → Prop) (W : World), sizeE x ≤ n → sizeE y ≤ 900000 → RdE P W x vx → RdE Q W y vy → (∀ b, P b → b < W.heap.size) → (∀ b, Q b → b < W.heap.size) → Calls Tryz.prog 99 #[vx, vy] W fun r w' => r = .returned (.int .i64 (cmpE x y)) ∧ Below W.heap.size W w'))
  (ks ls : List Ex) (q ql : Option Addr) (c cl : Nat) (P Q : Nat → Prop) (w : World) (hks : sizeL ks ≤ n) (hkm : sizeL ks ≤ 900000) (hlm : sizeL ls ≤ 900000)
  (hk : 0 < ks.length → ∃ b o, q = some ⟨b, o, none⟩ ∧ P b ∧ RdL P w ks b o) (hl' : 0 < ls.length → ∃ b o, ql = some ⟨b, o, none⟩ ∧ Q b ∧ RdL Q w ls b o) (hP : ∀ b, P b → b < w.heap.size) (hQ : ∀ b, Q b → b < w.heap.size) :
  Calls Tryz.prog 114 #[.slice q ks.length c, .slice ql ls.length cl, .func (.func 99) #[] #[]] w fun r w' => r = .returned (.int .i64 (cmpL ks ls)) ∧ Below w.heap.size w w' := by
 have HK : Hid (0 < ks.length → ∃ b o, q = some ⟨b, o, none⟩ ∧ P b ∧ RdL P w ks b o) := hk
 have HL : Hid (0 < ls.length → ∃ b o, ql = some ⟨b, o, none⟩ ∧ Q b ∧ RdL Q w ls b o) := hl'
 have hlen := sizeL_len ks
 have hlen2 := sizeL_len ls
 clear hk hl'
 go_enter Tryz.func114, Tryz.ntmps114
 go_wp2_with fail
 go_loopw [13] (fun iv wr => ∃ i : Nat, i ≤ ks.length ∧ i ≤ ls.length ∧ iv = .int .i64 i ∧ Hid (cmpL (ks.drop i) (ls.drop i) = cmpL ks ls) ∧ Hid (Below w.heap.size w wr)) (fun iv _ => ks.length - (intOf iv).toNat)
 case atStart => exact ⟨0, Nat.zero_le _, Nat.zero_le _, rfl, rfl, Below.refl _ _⟩
 case round =>
  obtain ⟨i, hi, hil, rfl, HD, HI⟩ := hrel
  have hi0 : (0 : Int) ≤ i := by omega
  by_cases hlt : i < ks.length
  ·have hi1 : (i : Int) < ks.length := by omega
   by_cases hlt2 : i < ls.length
   ·have hi2 : (i : Int) < ls.length := by omega
    obtain ⟨ba, oa, rfl, hba, hl⟩ := HK.out (by omega)
    obtain ⟨x, hx⟩ : ∃ x, x = ks.getD i ex0 := ⟨_, rfl⟩
    obtain ⟨q2, c2, x0, x1, x2, x3, hr⟩ := hl.at hlt
    have hxs := sizeL_get ks i hlt
    have hxd := depthL_get ks i hlt
    rw [← hx] at x0 x1 x2 x3 hr hxs hxd
    have HX := Lib.hid hx
    obtain ⟨xk, xv2, xn2, xs⟩ := x
    have cc : ∀ n, wr.cell? ⟨ba, n, none⟩ = w.cell? ⟨ba, n, none⟩ := fun n => (HI.out).cell (p := ⟨ba, n, none⟩) (hP _ hba)
    have X0 : wr.cell? ⟨ba, oa + i * 4, none⟩ = some (.int .i64 xk) := (cc _).trans x0
    have X1 : wr.cell? ⟨ba, oa + i * 4 + 1, none⟩ = some (.string (bstr xv2)) := (cc _).trans x1
    have X2 : wr.cell? ⟨ba, oa + i * 4 + 2, none⟩ = some (.string (bstr xn2)) := (cc _).trans x2
    have X3 : wr.cell? ⟨ba, oa + i * 4 + 3, none⟩ = some (.slice q2 xs.length c2) := (cc _).trans x3
    clear x0 x1 x2 x3 cc hx
    have HBA : Hid (Below wr.heap.size wr (wr.alloc (.cells #[.int .i64 xk, .string (bstr xv2), .string (bstr xn2), .slice q2 xs.length c2] 38))) := (Below.refl _ _).alloc (Nat.le_refl _) _
    obtain ⟨bab, oab, rfl, hbab, hlb⟩ := HL.out (by omega)
    obtain ⟨x, hx⟩ : ∃ x, x = ls.getD i ex0 := ⟨_, rfl⟩
    obtain ⟨q2b, c2b, x0, x1, x2, x3, hrb⟩ := hlb.at hlt2
    have hxsb := sizeL_get ls i hlt2
    have hxdb := depthL_get ls i hlt2
    rw [← hx] at x0 x1 x2 x3 hrb hxsb hxdb
    have HXb := Lib.hid hx
    obtain ⟨xkb, xv2b, xn2b, xsb⟩ := x
    have cc : ∀ n, (wr.alloc (.cells #[.int .i64 xk, .string (bstr xv2), .string (bstr xn2), .slice q2 xs.length c2] 38)).cell? ⟨bab, n, none⟩ = w.cell? ⟨bab, n, none⟩ := fun n => (HI.out.trans (HBA.out.mono HI.out.size)).cell (p := ⟨bab, n, none⟩) (hQ _ hbab)
    have X0b : (wr.alloc (.cells #[.int .i64 xk, .string (bstr xv2), .string (bstr xn2), .slice q2 xs.length c2] 38)).cell? ⟨bab, oab + i * 4, none⟩ = some (.int .i64 xkb) := (cc _).trans x0
    have X1b : (wr.alloc (.cells #[.int .i64 xk, .string (bstr xv2), .string (bstr xn2), .slice q2 xs.length c2] 38)).cell? ⟨bab, oab + i * 4 + 1, none⟩ = some (.string (bstr xv2b)) := (cc _).trans x1
    have X2b : (wr.alloc (.cells #[.int .i64 xk, .string (bstr xv2), .string (bstr xn2), .slice q2 xs.length c2] 38)).cell? ⟨bab, oab + i * 4 + 2, none⟩ = some (.string (bstr xn2b)) := (cc _).trans x2
    have X3b : (wr.alloc (.cells #[.int .i64 xk, .string (bstr xv2), .string (bstr xn2), .slice q2 xs.length c2] 38)).cell? ⟨bab, oab + i * 4 + 3, none⟩ = some (.slice q2b xsb.length c2b) := (cc _).trans x3
    clear x0 x1 x2 x3 cc hx
    have HST := Lib.hid (cmpL_step hlt hlt2)
    have HBB : Hid (Below wr.heap.size wr ((wr.alloc (.cells #[.int .i64 xk, .string (bstr xv2), .string (bstr xn2), .slice q2 xs.length c2] 38)).alloc (.cells #[.int .i64 xkb, .string (bstr xv2b), .string (bstr xn2b), .slice q2b xsb.length c2b] 38))) := HBA.out.alloc HBA.out.size _
    have HRA : Hid (RdE P ((wr.alloc (.cells #[.int .i64 xk, .string (bstr xv2), .string (bstr xn2), .slice q2 xs.length c2] 38)).alloc (.cells #[.int .i64 xkb, .string (bstr xv2b), .string (bstr xn2b), .slice q2b xsb.length c2b] 38)) (.mk xk xv2 xn2 xs) (.agg #[.int .i64 xk, .string (bstr xv2), .string (bstr xn2), .slice q2 xs.length c2])) := (hr.below HI.out hP).below HBB.out (fun b hb => Nat.lt_of_lt_of_le (hP b hb) HI.out.size)
    have HRB : Hid (RdE Q ((wr.alloc (.cells #[.int .i64 xk, .string (bstr xv2), .string (bstr xn2), .slice q2 xs.length c2] 38)).alloc (.cells #[.int .i64 xkb, .string (bstr xv2b), .string (bstr xn2b), .slice q2b xsb.length c2b] 38)) (.mk xkb xv2b xn2b xsb) (.agg #[.int .i64 xkb, .string (bstr xv2b), .string (bstr xn2b), .slice q2b xsb.length c2b])) := (hrb.below HI.out hQ).below HBB.out (fun b hb => Nat.lt_of_lt_of_le (hQ b hb) HI.out.size)
    have HCC := HC.out (.mk xk xv2 xn2 xs) (.mk xkb xv2b xn2b xsb) _ _ P Q ((wr.alloc (.cells #[.int .i64 xk, .string (bstr xv2), .string (bstr xn2), .slice q2 xs.length c2] 38)).alloc (.cells #[.int .i64 xkb, .string (bstr xv2b), .string (bstr xn2b), .slice q2b xsb.length c2b] 38)) (by omega) (by omega) HRA.out HRB.out (fun b hb => Nat.lt_of_lt_of_le (hP b hb) (Nat.le_trans HI.out.size HBB.out.size)) (fun b hb => Nat.lt_of_lt_of_le (hQ b hb) (Nat.le_trans HI.out.size HBB.out.size))
    obtain ⟨E, hE⟩ : ∃ E, E = cmpE (.mk xk xv2 xn2 xs) (.mk xkb xv2b xn2b xsb) := ⟨_, rfl⟩
    rw [← hE] at HCC
    have HED := Lib.hid hE
    have HCC := Lib.hid HCC
    clear hl hlb hr hrb hxs hxd hxsb hxdb hE
    go_wp2_with fail
    refine HCC.out.mono ?_
    rintro r w5 ⟨rfl, b5⟩
    have HB5 := Lib.hid (HI.out.trans ((HBB.out.trans (b5.mono HBB.out.size)).mono HI.out.size))
    clear b5
    by_cases hz : E = 0
    ·have bz : (E != 0) = false := by rw [hz]; rfl
     have HNX : Hid (cmpL (ks.drop (i + 1)) (ls.drop (i + 1)) = cmpL ks ls) := by show _ = _; rw [← HD.out, HST.out, ← HX.out, ← HXb.out, ← HED.out, orL2, if_pos hz]
     clear hz
     go_wp2_with fail
     go_roundw
     case rel => exact ⟨i + 1, by omega, by omega, by go_num, HNX.out, HB5.out⟩
     case measure => simp [intOf]; omega
    ·have bz : (E != 0) = true := by rw [bne_iff_ne]; exact hz
     have HNX : Hid (cmpL ks ls = E) := by show _ = _; rw [← HD.out, HST.out, ← HX.out, ← HXb.out, ← HED.out, orL2, if_neg hz]
     clear hz
     go_wp2_with fail
     go_ret
     exact ⟨by rw [HNX.out]; rfl, HB5.out⟩
   ·have hi2 : ¬ (i : Int) < ls.length := by omega
    have HNX : Hid (cmpL ks ls = 1) := by
     show _ = _
     rw [← HD.out, List.drop_eq_getElem_cons hlt, List.drop_of_length_le (show ls.length ≤ i by omega)]
     unfold cmpL; rfl
    have HK1 := HK.out (by omega)
    obtain ⟨ba, oa, rfl, hba, hl⟩ := HK1
    obtain ⟨q2, c2, x0, x1, x2, x3, hr⟩ := hl.at hlt
    have cc : ∀ n, wr.cell? ⟨ba, n, none⟩ = w.cell? ⟨ba, n, none⟩ := fun n => (HI.out).cell (p := ⟨ba, n, none⟩) (hP _ hba)
    have X0 := (cc _).trans x0
    have X1 := (cc _).trans x1
    have X2 := (cc _).trans x2
    have X3 := (cc _).trans x3
    clear x0 x1 x2 x3 cc hr hl
    go_wp2_with fail
    go_ret
    exact ⟨by rw [HNX.out]; rfl, HI.out.alloc HI.out.size _⟩
  ·have hi1 : ¬ (i : Int) < ks.length := by omega
   by_cases hlt2 : ks.length < ls.length
   ·have hi2 : (ks.length : Int) < ls.length := by omega
    have HNX : Hid (cmpL ks ls = -1) := by
     show _ = _
     rw [← HD.out, List.drop_of_length_le (show ks.length ≤ i by omega), List.drop_eq_getElem_cons (show i < ls.length by omega)]
     unfold cmpL; rfl
    go_wp2_with fail
    go_ret
    exact ⟨by rw [HNX.out]; rfl, HI.out⟩
   ·have hi2 : ¬ (ks.length : Int) < ls.length := by omega
    have HNX : Hid (cmpL ks ls = 0) := by
     show _ = _
     rw [← HD.out, List.drop_of_length_le (show ks.length ≤ i by omega), List.drop_of_length_le (show ls.length ≤ i by omega)]
     unfold cmpL; rfl
    go_wp2_with fail
    go_ret
    exact ⟨by rw [HNX.out]; rfl, HI.out⟩
end Go.Proofs.YteieimchleioaaaGreatDoor
/-
  What a text is read as; the law's own texts.
-/
namespace Go.Proofs.YteieimchleioaaaGreatDoor
set_option linter.unusedVariables false

/-- What a text is read as: a value, or a code and an offset. -/
inductive RR (α : Type) where
 | ok (x : α)
 | bad (c : Nat) (i : Nat)
def offT (ts : List Tok) (i : Nat) : Nat := (ts.getD i tok0).2.2.toNat
def ps0 : PS := ⟨0, 0, 0⟩
def offR {α : Type} (ts : List Tok) (r : PR α) : RR α := match r with
 | .ok x _ => .ok x
 | .bad c i => .bad c (offT ts i)
def readF {α : Type} (rule : List Tok → PS → PR α) (l : List UInt8) : RR α :=
 if (tokS l).2.1 = 0 then offR (tokS l).1 (endF (tokS l).1 (rule (tokS l).1 ps0)) else .bad (tokS l).2.1 (tokS l).2.2
def typesR (ts : List Tok) (s : PS) : PR (List AlB) := typesF ts 33 [] s
def schemaR (ts : List Tok) (s : PS) : PR (List DefB) := defsF ts 65 [] s
def badB {α : Type} (r : RR α) (c i : Nat) : Bool := match r with
 | .ok _ => false
 | .bad d j => decide (d = c) && decide (j = i)
theorem badB_eq {α : Type} {r : RR α} {c i : Nat} (h : badB r c i = true) : r = .bad c i := by
 cases r with
 | ok x => cases h
 | bad d j =>
  simp only [badB, Bool.and_eq_true, decide_eq_true_eq] at h
  rw [h.1, h.2]
/-- a + b & c -/
def aw1 : List UInt8 := [97, 32, 43, 32, 98, 32, 38, 32, 99]
/-- a + (b & c) -/
def aw2 : List UInt8 := [97, 32, 43, 32, 40, 98, 32, 38, 32, 99, 41]
/-- definition user {} definition doc { relation v: user | doc#v; permission w = v - v->w; } -/
def aw3 : List UInt8 := [100,101,102,105,110,105,116,105,111,110,32,117,115,101,114,32,123,125,32,100,101,102,105,110,105,116,105,111,110,32,100,111,99,32,123,32,114,101,108,97,116,105,111,110,32,118,58,32,117,115,101,114,32,124,32,100,111,99,35,118,59,32,112,101,114,109,105,115,115,105,111,110,32,119,32,61,32,118,32,45,32,118,45,62,119,59,32,125]
theorem aw1_bad : readF exprF aw1 = .bad 6 6 := badB_eq (by decide +kernel)
def aw2E : Ex := .mk 3 [] [] [.mk 1 [] [97] [], .mk 4 [] [] [.mk 1 [] [98] [], .mk 1 [] [99] []]]
def okB {α : Type} (f : α → Bool) (r : RR α) : Bool := match r with
 | .ok x => f x
 | .bad _ _ => false
theorem okB_ok {α : Type} {f : α → Bool} {r : RR α} (h : okB f r = true) : ∃ x, r = .ok x ∧ f x = true := by
 cases r with
 | ok x => exact ⟨x, rfl, h⟩
 | bad c i => cases h
theorem aw2_ok : ∃ e, readF exprF aw2 = .ok e ∧ (cmpE e aw2E == 0) = true := okB_ok (f := fun (e : Ex) => cmpE e aw2E == 0) (by decide +kernel)
theorem aw3_ok : ∃ d : List DefB, readF schemaR aw3 = .ok d ∧ (decide (d.length = 2) && decide ((d.getD 1 ([], [])).2.length = 2)) = true := okB_ok (f := fun (d : List DefB) => decide (d.length = 2) && decide ((d.getD 1 ([], [])).2.length = 2)) (by decide +kernel)
end Go.Proofs.YteieimchleioaaaGreatDoor
/-
  lex.isSpace, isOfLine, isOfWord, sign; the run of a class of bytes (Tokens$1).
-/
namespace Go.Proofs.YteieimchleioaaaGreatDoor
open Go.ChangeShapes Go.WideShapes Go.ChangeAt Go.RowKit
set_option linter.unusedVariables false

theorem ixc (c : UInt8) : (((c.toNat : Int)).toNat.toUInt8 = c) := by
 show UInt8.ofNat c.toNat = c
 rw [UInt8.ofNat_toNat]
theorem sp_ix (c : UInt8) : decide (0 ≤ Lib.indexByte [32, 9, 10, 13] c) = spB c := by
 have h : ∀ n : Fin 256, (decide (0 ≤ Lib.indexByte [32, 9, 10, 13] (UInt8.ofNat n.val)) == spB (UInt8.ofNat n.val)) = true := by decide +kernel
 have hc : UInt8.ofNat c.toNat = c := UInt8.ofNat_toNat
 have := h ⟨c.toNat, c.toNat_lt⟩
 simp only [hc] at this
 exact beq_iff_eq.1 this
theorem sg_ix (c : UInt8) : decide (0 ≤ Lib.indexByte sgL c) = sgB c := by
 have h : ∀ n : Fin 256, (decide (0 ≤ Lib.indexByte sgL (UInt8.ofNat n.val)) == sgB (UInt8.ofNat n.val)) = true := by decide +kernel
 have hc : UInt8.ofNat c.toNat = c := UInt8.ofNat_toNat
 have := h ⟨c.toNat, c.toNat_lt⟩
 simp only [hc] at this
 exact beq_iff_eq.1 this
theorem ln_ne (c : UInt8) : ((c.toNat : Int) != 10) = lnB c := by
 have h : ∀ n : Fin 256, ((((UInt8.ofNat n.val).toNat : Int) != 10) == lnB (UInt8.ofNat n.val)) = true := by decide +kernel
 have hc : UInt8.ofNat c.toNat = c := UInt8.ofNat_toNat
 have := h ⟨c.toNat, c.toNat_lt⟩
 simp only [hc] at this
 exact beq_iff_eq.1 this
theorem wd_eq (c : UInt8) : wdB c = decide ((97 ≤ c.toNat ∧ c.toNat ≤ 122) ∨ (65 ≤ c.toNat ∧ c.toNat ≤ 90) ∨ (48 ≤ c.toNat ∧ c.toNat ≤ 57) ∨ c.toNat = 95) := by
 have h : ∀ n : Fin 256, (wdB (UInt8.ofNat n.val) == decide ((97 ≤ (UInt8.ofNat n.val).toNat ∧ (UInt8.ofNat n.val).toNat ≤ 122) ∨ (65 ≤ (UInt8.ofNat n.val).toNat ∧ (UInt8.ofNat n.val).toNat ≤ 90) ∨ (48 ≤ (UInt8.ofNat n.val).toNat ∧ (UInt8.ofNat n.val).toNat ≤ 57) ∨ (UInt8.ofNat n.val).toNat = 95)) = true := by decide +kernel
 have hc : UInt8.ofNat c.toNat = c := UInt8.ofNat_toNat
 have := h ⟨c.toNat, c.toNat_lt⟩
 simp only [hc] at this
 exact beq_iff_eq.1 this
set_option maxRecDepth 100000 in
theorem isSpace_any (c : UInt8) (w : World) : Calls Tryz.prog 58 #[.int .u8 c.toNat] w fun e w' => e = .returned (.bool (spB c)) ∧ w = w' := by
 have HC := Lib.hid (fun w => Tryz.strings_IndexByte ⟨#[32, 9, 10, 13]⟩ (c.toNat : Int) w)
 have HI := Lib.hid (ixc c)
 have HS := Lib.hid (sp_ix c)
 go_enter Tryz.func58, Tryz.ntmps58
 go_wp2_with fail
 refine (HC.out _).mono ?_
 rintro e w2 ⟨rfl, hw⟩
 subst hw
 rw [HI.out]
 go_wp2_with fail
 go_ret
 exact ⟨by rw [← HS.out]; rfl, rfl⟩
set_option maxRecDepth 100000 in
theorem isLine_any (c : UInt8) (w : World) : Calls Tryz.prog 60 #[.int .u8 c.toNat] w fun e w' => e = .returned (.bool (lnB c)) ∧ w = w' := by
 have HS := Lib.hid (ln_ne c)
 go_enter Tryz.func60, Tryz.ntmps60
 go_wp2_with fail
 go_ret
 exact ⟨by rw [← HS.out]; rfl, rfl⟩
set_option maxRecDepth 100000 in
set_option maxHeartbeats 1000000 in
theorem isWord_any (c : UInt8) (w : World) : Calls Tryz.prog 61 #[.int .u8 c.toNat] w fun e w' => e = .returned (.bool (wdB c)) ∧ w = w' := by
 have HS := Lib.hid (wd_eq c)
 go_enter Tryz.func61, Tryz.ntmps61
 go_wp2_with fail
 all_goals
  go_ret
  refine ⟨ret_b ?_, rfl⟩
  rw [HS.out, Bool.eq_iff_iff]
  simp only [decide_eq_true_eq, beq_iff_eq]
  first | omega | (simp; omega)
/-- What strings the walk cuts out. -/
theorem ext_data (s : ByteArray) (a b : Nat) : (s.extract a b) = bstr ((s.data.toList.drop a).take (b - a)) := by
 have h : (s.extract a b).data.toList = (s.data.toList.drop a).take (b - a) := by
  simp [ByteArray.data_extract]
 rw [← bstr_back (s.extract a b), h]
theorem size_len (s : ByteArray) : s.data.toList.length = s.size := by rw [Array.length_toList]; rfl
theorem get_getD (s : ByteArray) (i : Nat) (h : i < s.size) : s[i] = s.data.toList.getD i 0 := by
 rw [List.getD_eq_getElem?_getD, List.getElem?_eq_getElem (by rw [size_len]; exact h)]; rfl
set_option maxRecDepth 100000 in
set_option maxHeartbeats 1000000 in
theorem runSp (s : ByteArray) (i : Nat) (a b : Nat) (hs : s.size ≤ 1000000) (hi : i ≤ s.size) (w : World) (ha : w.cell? ⟨a, 0, none⟩ = some (.int .i64 i)) (hb : w.cell? ⟨b, 0, none⟩ = some (.string s)) :
  Calls Tryz.prog 57 #[.func (.func 58) #[] #[], .pointer (some ⟨a, 0, none⟩), .pointer (some ⟨b, 0, none⟩)] w fun e w' => e = .returned (.string (s.extract i (i + runL spB s.data.toList i))) ∧ w = w' := by
 have hs' : (s.size : Int) ≤ 1000000 := by omega
 go_enter Tryz.func57, Tryz.ntmps57
 go_wp2_with fail
 go_loop [5] (fun jv => ∃ j : Nat, i ≤ j ∧ j ≤ s.size ∧ jv = .int .i64 j ∧ Hid (∀ k, i ≤ k → k < j → spB (s.data.toList.getD k 0) = true)) (fun jv => s.size - (intOf jv).toNat)
 case atStart => exact ⟨i, Nat.le_refl _, hi, rfl, fun k h1 h2 => by omega⟩
 case round =>
  obtain ⟨j, hij, hj, rfl, HP⟩ := hrel
  have hj0 : (0 : Int) ≤ j := by omega
  by_cases hlt : j < s.size
  ·have hlt1 : (j : Int) < s.size := by omega
   have HX := Lib.hid (get_getD s j hlt)
   go_wp2_with fail
   refine (isSpace_any s[j] _).mono ?_
   rintro e w1 ⟨rfl, rfl⟩
   cases hc : spB s[j] with
   | true =>
    have HC := Lib.hid hc
    clear hc
    go_wp2_with fail
    go_round
    case rel =>
     refine ⟨j + 1, by omega, by omega, by go_num, fun k h1 h2 => ?_⟩
     by_cases e : k = j
     ·subst e; rw [← HX.out]; exact HC.out
     ·exact HP.out k h1 (by omega)
    case measure => simp [intOf]; omega
   | false =>
    have H : Hid (j = i + runL spB s.data.toList i) := by
     show _ = _
     rw [runL_eq (k := j - i) (by rw [size_len]; omega) (fun k h1 h2 => HP.out k h1 (by omega)) (fun h => by rw [show i + (j - i) = j by omega, ← HX.out]; exact hc)]
     omega
    have h1 : (i : Int) ≤ j := by omega
    have h2 : (j : Int) ≤ s.size := by omega
    clear hc HP
    go_wp2_with fail
    go_ret
    exact ⟨by rw [← H.out]; rfl, rfl⟩
  ·obtain rfl : j = s.size := by omega
   have H : Hid (s.size = i + runL spB s.data.toList i) := by
    show _ = _
    rw [runL_eq (k := s.size - i) (by rw [size_len]; omega) (fun k h1 h2 => HP.out k h1 (by omega)) (fun h => by rw [size_len] at h; omega)]
    omega
   have h1 : (i : Int) ≤ s.size := by omega
   clear HP
   go_wp2_with fail
   go_ret
   exact ⟨by rw [← H.out]; rfl, rfl⟩
set_option maxRecDepth 100000 in
set_option maxHeartbeats 1000000 in
theorem runLn (s : ByteArray) (i : Nat) (a b : Nat) (hs : s.size ≤ 1000000) (hi : i ≤ s.size) (w : World) (ha : w.cell? ⟨a, 0, none⟩ = some (.int .i64 i)) (hb : w.cell? ⟨b, 0, none⟩ = some (.string s)) :
  Calls Tryz.prog 57 #[.func (.func 60) #[] #[], .pointer (some ⟨a, 0, none⟩), .pointer (some ⟨b, 0, none⟩)] w fun e w' => e = .returned (.string (s.extract i (i + runL lnB s.data.toList i))) ∧ w = w' := by
 have hs' : (s.size : Int) ≤ 1000000 := by omega
 go_enter Tryz.func57, Tryz.ntmps57
 go_wp2_with fail
 go_loop [5] (fun jv => ∃ j : Nat, i ≤ j ∧ j ≤ s.size ∧ jv = .int .i64 j ∧ Hid (∀ k, i ≤ k → k < j → lnB (s.data.toList.getD k 0) = true)) (fun jv => s.size - (intOf jv).toNat)
 case atStart => exact ⟨i, Nat.le_refl _, hi, rfl, fun k h1 h2 => by omega⟩
 case round =>
  obtain ⟨j, hij, hj, rfl, HP⟩ := hrel
  have hj0 : (0 : Int) ≤ j := by omega
  by_cases hlt : j < s.size
  ·have hlt1 : (j : Int) < s.size := by omega
   have HX := Lib.hid (get_getD s j hlt)
   go_wp2_with fail
   refine (isLine_any s[j] _).mono ?_
   rintro e w1 ⟨rfl, rfl⟩
   cases hc : lnB s[j] with
   | true =>
    have HC := Lib.hid hc
    clear hc
    go_wp2_with fail
    go_round
    case rel =>
     refine ⟨j + 1, by omega, by omega, by go_num, fun k h1 h2 => ?_⟩
     by_cases e : k = j
     ·subst e; rw [← HX.out]; exact HC.out
     ·exact HP.out k h1 (by omega)
    case measure => simp [intOf]; omega
   | false =>
    have H : Hid (j = i + runL lnB s.data.toList i) := by
     show _ = _
     rw [runL_eq (k := j - i) (by rw [size_len]; omega) (fun k h1 h2 => HP.out k h1 (by omega)) (fun h => by rw [show i + (j - i) = j by omega, ← HX.out]; exact hc)]
     omega
    have h1 : (i : Int) ≤ j := by omega
    have h2 : (j : Int) ≤ s.size := by omega
    clear hc HP
    go_wp2_with fail
    go_ret
    exact ⟨by rw [← H.out]; rfl, rfl⟩
  ·obtain rfl : j = s.size := by omega
   have H : Hid (s.size = i + runL lnB s.data.toList i) := by
    show _ = _
    rw [runL_eq (k := s.size - i) (by rw [size_len]; omega) (fun k h1 h2 => HP.out k h1 (by omega)) (fun h => by rw [size_len] at h; omega)]
    omega
   have h1 : (i : Int) ≤ s.size := by omega
   clear HP
   go_wp2_with fail
   go_ret
   exact ⟨by rw [← H.out]; rfl, rfl⟩
set_option maxRecDepth 100000 in
set_option maxHeartbeats 1000000 in
theorem runWd (s : ByteArray) (i : Nat) (a b : Nat) (hs : s.size ≤ 1000000) (hi : i ≤ s.size) (w : World) (ha : w.cell? ⟨a, 0, none⟩ = some (.int .i64 i)) (hb : w.cell? ⟨b, 0, none⟩ = some (.string s)) :
  Calls Tryz.prog 57 #[.func (.func 61) #[] #[], .pointer (some ⟨a, 0, none⟩), .pointer (some ⟨b, 0, none⟩)] w fun e w' => e = .returned (.string (s.extract i (i + runL wdB s.data.toList i))) ∧ w = w' := by
 have hs' : (s.size : Int) ≤ 1000000 := by omega
 go_enter Tryz.func57, Tryz.ntmps57
 go_wp2_with fail
 go_loop [5] (fun jv => ∃ j : Nat, i ≤ j ∧ j ≤ s.size ∧ jv = .int .i64 j ∧ Hid (∀ k, i ≤ k → k < j → wdB (s.data.toList.getD k 0) = true)) (fun jv => s.size - (intOf jv).toNat)
 case atStart => exact ⟨i, Nat.le_refl _, hi, rfl, fun k h1 h2 => by omega⟩
 case round =>
  obtain ⟨j, hij, hj, rfl, HP⟩ := hrel
  have hj0 : (0 : Int) ≤ j := by omega
  by_cases hlt : j < s.size
  ·have hlt1 : (j : Int) < s.size := by omega
   have HX := Lib.hid (get_getD s j hlt)
   go_wp2_with fail
   refine (isWord_any s[j] _).mono ?_
   rintro e w1 ⟨rfl, rfl⟩
   cases hc : wdB s[j] with
   | true =>
    have HC := Lib.hid hc
    clear hc
    go_wp2_with fail
    go_round
    case rel =>
     refine ⟨j + 1, by omega, by omega, by go_num, fun k h1 h2 => ?_⟩
     by_cases e : k = j
     ·subst e; rw [← HX.out]; exact HC.out
     ·exact HP.out k h1 (by omega)
    case measure => simp [intOf]; omega
   | false =>
    have H : Hid (j = i + runL wdB s.data.toList i) := by
     show _ = _
     rw [runL_eq (k := j - i) (by rw [size_len]; omega) (fun k h1 h2 => HP.out k h1 (by omega)) (fun h => by rw [show i + (j - i) = j by omega, ← HX.out]; exact hc)]
     omega
    have h1 : (i : Int) ≤ j := by omega
    have h2 : (j : Int) ≤ s.size := by omega
    clear hc HP
    go_wp2_with fail
    go_ret
    exact ⟨by rw [← H.out]; rfl, rfl⟩
  ·obtain rfl : j = s.size := by omega
   have H : Hid (s.size = i + runL wdB s.data.toList i) := by
    show _ = _
    rw [runL_eq (k := s.size - i) (by rw [size_len]; omega) (fun k h1 h2 => HP.out k h1 (by omega)) (fun h => by rw [size_len] at h; omega)]
    omega
   have h1 : (i : Int) ≤ s.size := by omega
   clear HP
   go_wp2_with fail
   go_ret
   exact ⟨by rw [← H.out]; rfl, rfl⟩
end Go.Proofs.YteieimchleioaaaGreatDoor
/-
  errors.As at a target of type *api.Code and *api.Fault: closed facts on the model's entries for internal/reflectlite, at this program's types.
-/
namespace Go.Proofs.YteieimchleioaaaGreatDoor.errAs
open Go.RowKit Go.Extern.Stop Go.Stop Go.Extern

theorem methodKind (h : Value) (w : World) : (Go.method 304 152 (.agg #[h]) "Kind").run Tryz.prog w = .ok (143, h) w := by kernel_rfl
theorem methodElem (h : Value) (w : World) : (Go.method 304 152 (.agg #[h]) "Elem").run Tryz.prog w = .ok (155, .agg #[h]) w := by kernel_rfl
theorem methodImplements (h : Value) (w : World) : (Go.method 304 152 (.agg #[h]) "Implements").run Tryz.prog w = .ok (156, .agg #[h]) w := by kernel_rfl
theorem methodAssignableTo (h : Value) (w : World) : (Go.method 304 152 (.agg #[h]) "AssignableTo").run Tryz.prog w = .ok (153, .agg #[h]) w := by kernel_rfl

theorem valueOfPC (a : Addr) (w : World) : (ReflectliteValue.unpack (.iface 115 (.pointer (some a)))).run Tryz.prog w
    = .ok (.agg #[.pointer (some ⟨3, 115, none⟩), .pointer (some ⟨w.heap.size, 0, none⟩), .int .u64 150]) (w.alloc (.cells #[.pointer (some a)] 115)) := by kernel_rfl
theorem typePC (a : Addr) (w : World) : (ReflectliteValue.methodAny (ReflectliteValue.valueError "reflectlite.Value.Type" 0) (fun t _ _ _ => ReflectliteType.toType t) #[.agg #[.pointer (some ⟨3, 115, none⟩), .pointer (some a), .int .u64 150]]).run Tryz.prog w
    = .ok (.iface 152 (.agg #[.pointer (some ⟨3, 115, none⟩)])) w := by kernel_rfl
theorem kindPC (w : World) : ((ReflectliteType.abiMethod fun t => (fun a : Nat => Value.int IntKind.u8 (a : Int)) <$> Rtype.kind t) #[.pointer (some ⟨3, 115, none⟩)]).run Tryz.prog w = .ok (.int .u8 22) w := by kernel_rfl
theorem kindC (w : World) : ((ReflectliteType.abiMethod fun t => (fun a : Nat => Value.int IntKind.u8 (a : Int)) <$> Rtype.kind t) #[.pointer (some ⟨3, 62, none⟩)]).run Tryz.prog w = .ok (.int .u8 2) w := by kernel_rfl
theorem partsPC (a : Addr) (w : World) : (ReflectliteValue.parts (.agg #[.pointer (some ⟨3, 115, none⟩), .pointer (some a), .int .u64 150])).run Tryz.prog w = .ok (some (115, a, 150)) w := by kernel_rfl
theorem isNilPC (a p : Addr) (W : World) (ha : W.cell? a = some (.pointer (some p))) :
    (ReflectliteValue.method (ReflectliteValue.valueError "reflectlite.Value.IsNil" 0) ReflectliteValue.isNil #[.agg #[.pointer (some ⟨3, 115, none⟩), .pointer (some a), .int .u64 150]]).run Tryz.prog W = .ok (.bool false) W := by
  change (ReflectliteValue.parts _ >>= _).run Tryz.prog W = _
  simp only [Array.getLit, List.getElem_toArray, List.getElem_cons_zero, Sem.run_bind, partsPC, Result.andThen]
  simp [ReflectliteValue.isNil, loadVar, isAgg, underlying, Tryz.underlying115, ha, Result.andThen]
theorem elemPC (w : World) : (ReflectliteType.method ReflectliteType.elem #[.agg #[.pointer (some ⟨3, 115, none⟩)]]).run Tryz.prog w = .ok (.iface 152 (.agg #[.pointer (some ⟨3, 62, none⟩)])) w := by kernel_rfl
theorem implementsC (w : World) : (ReflectliteType.relation "Implements" ReflectliteType.implements_ #[.agg #[.pointer (some ⟨3, 62, none⟩)], .iface 152 (.agg #[.pointer (some ⟨3, 27, none⟩)])]).run Tryz.prog w = .ok (.bool true) w := by kernel_rfl
theorem elemOfPC (w : World) : (Rtype.elem? 115).run Tryz.prog w = .ok (some 62) w := by kernel_rfl
theorem mkC (a : Addr) (w : World) : (ReflectliteValue.mk 62 a ReflectliteValue.flagAddr).run Tryz.prog w = .ok (.agg #[.pointer (some ⟨3, 62, none⟩), .pointer (some a), .int .u64 386]) w := by kernel_rfl
theorem elemVPC (a p : Addr) (W : World) (ha : W.cell? a = some (.pointer (some p))) :
    (ReflectliteValue.method (ReflectliteValue.valueError "reflectlite.Value.Elem" 0) ReflectliteValue.elem #[.agg #[.pointer (some ⟨3, 115, none⟩), .pointer (some a), .int .u64 150]]).run Tryz.prog W
      = .ok (.agg #[.pointer (some ⟨3, 62, none⟩), .pointer (some p), .int .u64 386]) W := by
  change (ReflectliteValue.parts _ >>= _).run Tryz.prog W = _
  simp only [Array.getLit, List.getElem_toArray, List.getElem_cons_zero, Sem.run_bind, partsPC, Result.andThen]
  simp [ReflectliteValue.elem, loadVar, isAgg, underlying, Tryz.underlying115, ha, Result.andThen, elemOfPC, mkC]
theorem partsCa (a : Addr) (w : World) : (ReflectliteValue.parts (.agg #[.pointer (some ⟨3, 62, none⟩), .pointer (some a), .int .u64 386])).run Tryz.prog w = .ok (some (62, a, 386)) w := by kernel_rfl
theorem partsC (a : Addr) (w : World) : (ReflectliteValue.parts (.agg #[.pointer (some ⟨3, 62, none⟩), .pointer (some a), .int .u64 130])).run Tryz.prog w = .ok (some (62, a, 130)) w := by kernel_rfl
theorem directC (w : World) : (Rtype.directlyAssignable 62 62).run Tryz.prog w = .ok true w := by kernel_rfl
theorem typeOfC (v : Value) (w : World) : (ReflectliteType.typeOf #[.iface 62 v]).run Tryz.prog w = .ok (.iface 152 (.agg #[.pointer (some ⟨3, 62, none⟩)])) w := by kernel_rfl
theorem assignableC (w : World) : (ReflectliteType.relation "AssignableTo" ReflectliteType.assignableTo #[.agg #[.pointer (some ⟨3, 62, none⟩)], .iface 152 (.agg #[.pointer (some ⟨3, 62, none⟩)])]).run Tryz.prog w = .ok (.bool true) w := by kernel_rfl

theorem valueOfPF (a : Addr) (w : World) : (ReflectliteValue.unpack (.iface 117 (.pointer (some a)))).run Tryz.prog w
    = .ok (.agg #[.pointer (some ⟨3, 117, none⟩), .pointer (some ⟨w.heap.size, 0, none⟩), .int .u64 150]) (w.alloc (.cells #[.pointer (some a)] 117)) := by kernel_rfl
theorem typePF (a : Addr) (w : World) : (ReflectliteValue.methodAny (ReflectliteValue.valueError "reflectlite.Value.Type" 0) (fun t _ _ _ => ReflectliteType.toType t) #[.agg #[.pointer (some ⟨3, 117, none⟩), .pointer (some a), .int .u64 150]]).run Tryz.prog w
    = .ok (.iface 152 (.agg #[.pointer (some ⟨3, 117, none⟩)])) w := by kernel_rfl
theorem kindPF (w : World) : ((ReflectliteType.abiMethod fun t => (fun a : Nat => Value.int IntKind.u8 (a : Int)) <$> Rtype.kind t) #[.pointer (some ⟨3, 117, none⟩)]).run Tryz.prog w = .ok (.int .u8 22) w := by kernel_rfl
theorem kindF (w : World) : ((ReflectliteType.abiMethod fun t => (fun a : Nat => Value.int IntKind.u8 (a : Int)) <$> Rtype.kind t) #[.pointer (some ⟨3, 81, none⟩)]).run Tryz.prog w = .ok (.int .u8 25) w := by kernel_rfl
theorem partsPF (a : Addr) (w : World) : (ReflectliteValue.parts (.agg #[.pointer (some ⟨3, 117, none⟩), .pointer (some a), .int .u64 150])).run Tryz.prog w = .ok (some (117, a, 150)) w := by kernel_rfl
theorem isNilPF (a p : Addr) (W : World) (ha : W.cell? a = some (.pointer (some p))) :
    (ReflectliteValue.method (ReflectliteValue.valueError "reflectlite.Value.IsNil" 0) ReflectliteValue.isNil #[.agg #[.pointer (some ⟨3, 117, none⟩), .pointer (some a), .int .u64 150]]).run Tryz.prog W = .ok (.bool false) W := by
  change (ReflectliteValue.parts _ >>= _).run Tryz.prog W = _
  simp only [Array.getLit, List.getElem_toArray, List.getElem_cons_zero, Sem.run_bind, partsPF, Result.andThen]
  simp [ReflectliteValue.isNil, loadVar, isAgg, underlying, Tryz.underlying117, ha, Result.andThen]
theorem elemPF (w : World) : (ReflectliteType.method ReflectliteType.elem #[.agg #[.pointer (some ⟨3, 117, none⟩)]]).run Tryz.prog w = .ok (.iface 152 (.agg #[.pointer (some ⟨3, 81, none⟩)])) w := by kernel_rfl
theorem implementsF (w : World) : (ReflectliteType.relation "Implements" ReflectliteType.implements_ #[.agg #[.pointer (some ⟨3, 81, none⟩)], .iface 152 (.agg #[.pointer (some ⟨3, 27, none⟩)])]).run Tryz.prog w = .ok (.bool true) w := by kernel_rfl
theorem elemOfPF (w : World) : (Rtype.elem? 117).run Tryz.prog w = .ok (some 81) w := by kernel_rfl
theorem mkF (a : Addr) (w : World) : (ReflectliteValue.mk 81 a ReflectliteValue.flagAddr).run Tryz.prog w = .ok (.agg #[.pointer (some ⟨3, 81, none⟩), .pointer (some a), .int .u64 409]) w := by kernel_rfl
theorem elemVPF (a p : Addr) (W : World) (ha : W.cell? a = some (.pointer (some p))) :
    (ReflectliteValue.method (ReflectliteValue.valueError "reflectlite.Value.Elem" 0) ReflectliteValue.elem #[.agg #[.pointer (some ⟨3, 117, none⟩), .pointer (some a), .int .u64 150]]).run Tryz.prog W
      = .ok (.agg #[.pointer (some ⟨3, 81, none⟩), .pointer (some p), .int .u64 409]) W := by
  change (ReflectliteValue.parts _ >>= _).run Tryz.prog W = _
  simp only [Array.getLit, List.getElem_toArray, List.getElem_cons_zero, Sem.run_bind, partsPF, Result.andThen]
  simp [ReflectliteValue.elem, loadVar, isAgg, underlying, Tryz.underlying117, ha, Result.andThen, elemOfPF, mkF]
theorem partsFa (a : Addr) (w : World) : (ReflectliteValue.parts (.agg #[.pointer (some ⟨3, 81, none⟩), .pointer (some a), .int .u64 409])).run Tryz.prog w = .ok (some (81, a, 409)) w := by kernel_rfl
theorem partsF (a : Addr) (w : World) : (ReflectliteValue.parts (.agg #[.pointer (some ⟨3, 81, none⟩), .pointer (some a), .int .u64 153])).run Tryz.prog w = .ok (some (81, a, 153)) w := by kernel_rfl
theorem directF (w : World) : (Rtype.directlyAssignable 81 81).run Tryz.prog w = .ok true w := by kernel_rfl
theorem typeOfF (v : Value) (w : World) : (ReflectliteType.typeOf #[.iface 81 v]).run Tryz.prog w = .ok (.iface 152 (.agg #[.pointer (some ⟨3, 81, none⟩)])) w := by kernel_rfl
theorem assignableF (w : World) : (ReflectliteType.relation "AssignableTo" ReflectliteType.assignableTo #[.agg #[.pointer (some ⟨3, 81, none⟩)], .iface 152 (.agg #[.pointer (some ⟨3, 81, none⟩)])]).run Tryz.prog w = .ok (.bool true) w := by kernel_rfl

theorem assignableFC (w : World) : (ReflectliteType.relation "AssignableTo" ReflectliteType.assignableTo #[.agg #[.pointer (some ⟨3, 81, none⟩)], .iface 152 (.agg #[.pointer (some ⟨3, 62, none⟩)])]).run Tryz.prog w = .ok (.bool false) w := by kernel_rfl
theorem assignableCF (w : World) : (ReflectliteType.relation "AssignableTo" ReflectliteType.assignableTo #[.agg #[.pointer (some ⟨3, 62, none⟩)], .iface 152 (.agg #[.pointer (some ⟨3, 81, none⟩)])]).run Tryz.prog w = .ok (.bool false) w := by kernel_rfl
theorem valueOfC (c : Int) (w : World) : (ReflectliteValue.unpack (.iface 62 (.int .i64 c))).run Tryz.prog w
    = .ok (.agg #[.pointer (some ⟨3, 62, none⟩), .pointer (some ⟨w.heap.size, 0, none⟩), .int .u64 130]) (w.alloc (.cells #[.int .i64 c] 62)) := by kernel_rfl
theorem valueOfF (c n : Int) (w : World) : (ReflectliteValue.unpack (.iface 81 (.agg #[.int .i64 c, .int .i64 n]))).run Tryz.prog w
    = .ok (.agg #[.pointer (some ⟨3, 81, none⟩), .pointer (some ⟨w.heap.size, 0, none⟩), .int .u64 153]) (w.alloc (.cells #[.int .i64 c, .int .i64 n] 81)) := by kernel_rfl
theorem setC (ta b : Addr) (c : Int) (old : Value) (W : World) (hb : W.cell? b = some (.int .i64 c)) (ht : W.cell? ta = some old) (hf : W.frozen? ta = false) :
    (ReflectliteValue.set #[.agg #[.pointer (some ⟨3, 62, none⟩), .pointer (some ta), .int .u64 386], .agg #[.pointer (some ⟨3, 62, none⟩), .pointer (some b), .int .u64 130]]).run Tryz.prog W
      = .ok (.tuple #[]) (W.setCell ta (.int .i64 c)) := by
  change (ReflectliteValue.parts _ >>= _).run Tryz.prog W = _
  simp only [Array.getLit, List.getElem_toArray, List.getElem_cons_zero, List.getElem_cons_succ, Sem.run_bind, partsCa, partsC, Result.andThen]
  simp [ReflectliteValue.flagAddr, loadVar, isAgg, underlying, Tryz.underlying62, hb, Result.andThen, directC, storeVar, Value.cells, storeCells, Addr.add]
  rw [run_store Tryz.prog W ta _ _ (by rfl)]
  simp [ht, hf]
theorem sizeF (w : World) : (sizeOf 81).run Tryz.prog w = .ok 2 w := by kernel_rfl
theorem aggF (w : World) : (isAgg 81).run Tryz.prog w = .ok true w := by kernel_rfl
theorem setF (ta b : Addr) (c n : Int) (o0 o1 : Value) (W : World) (hb0 : W.cell? b = some (.int .i64 c)) (hb1 : W.cell? (b.add 1) = some (.int .i64 n))
    (ht0 : W.cell? ta = some o0) (ht1 : (W.setCell ta (.int .i64 c)).cell? (ta.add 1) = some o1) (hf0 : W.frozen? ta = false) (hf1 : (W.setCell ta (.int .i64 c)).frozen? (ta.add 1) = false) :
    (ReflectliteValue.set #[.agg #[.pointer (some ⟨3, 81, none⟩), .pointer (some ta), .int .u64 409], .agg #[.pointer (some ⟨3, 81, none⟩), .pointer (some b), .int .u64 153]]).run Tryz.prog W
      = .ok (.tuple #[]) ((W.setCell ta (.int .i64 c)).setCell (ta.add 1) (.int .i64 n)) := by
  have hl : (loadCells b 2).run Tryz.prog W = .ok #[.int .i64 c, .int .i64 n] W :=
    run_loadCells_list (P := Tryz.prog) W b [.int .i64 c, .int .i64 n] (fun j v hj => by
      match j, hj with
      | 0, hj => simp at hj; subst hj; simpa [Addr.add] using hb0
      | 1, hj => simp at hj; subst hj; exact hb1)
  change (ReflectliteValue.parts _ >>= _).run Tryz.prog W = _
  simp only [Array.getLit, List.getElem_toArray, List.getElem_cons_zero, List.getElem_cons_succ, Sem.run_bind, partsFa, partsF, Result.andThen]
  simp [ReflectliteValue.flagAddr, loadVar, hl, Result.andThen, directF, storeVar, Value.cells, storeCells]
  rw [show ta.add 0 = ta from by simp [Addr.add], run_store Tryz.prog W ta _ _ (by rfl)]
  simp [ht0, hf0]
  rw [run_store Tryz.prog _ (ta.add 1) _ _ (by rfl)]
  simp [ht1, hf1]
end Go.Proofs.YteieimchleioaaaGreatDoor.errAs
/-
  errors.As at *api.Code and *api.Fault, on an error of type api.Fault: Go's own text of errors.As and errors.as is walked.
-/
namespace Go.Proofs.YteieimchleioaaaGreatDoor.errAs
open Go.RowKit Go.Extern.Stop Go.Stop Go.Extern

/-- The variable errors.errorType holds what start-up code lays. -/
def ErrT (w : World) : Prop := w.cell? ⟨1, 0, none⟩ = some (.iface 152 (.agg #[.pointer (some ⟨3, 27, none⟩)]))
theorem cell_lt {w : World} {a : Addr} {v : Value} (h : w.cell? a = some v) : a.block < w.heap.size := by
 rcases Nat.lt_or_ge a.block w.heap.size with h' | h'
 ·exact h'
 ·simp [World.cell?, Array.getElem?_eq_none h'] at h
theorem ErrT.lt {w : World} (h : ErrT w) : 1 < w.heap.size := cell_lt h
theorem ErrT.alloc {w : World} (h : ErrT w) (o : Obj) : ErrT (w.alloc o) := by
 unfold ErrT
 rw [World.cell?_alloc_lt _ _ ⟨1, 0, none⟩ h.lt]; exact h
theorem ErrT.alloc2 {w : World} (h : ErrT w) (o1 o2 : Obj) : ((w.alloc o1).alloc o2).cell? ⟨1, 0, none⟩ = some (.iface 152 (.agg #[.pointer (some ⟨3, 27, none⟩)])) := (h.alloc o1).alloc o2
theorem ErrT.below {w w' : World} {B : Nat} (h : ErrT w) (hb : Below B w w') (hB : 1 < B) : ErrT w' := (hb.cell (by exact hB)).trans h

/-- Block tb is a variable of type api.Code, api.Fault. -/
def SlotC (w : World) (tb : Nat) : Prop := ∃ o, w.cell? ⟨tb, 0, none⟩ = some o ∧ w.frozen? ⟨tb, 0, none⟩ = false
def SlotF (w : World) (tb : Nat) : Prop := ∃ o0 o1, w.cell? ⟨tb, 0, none⟩ = some o0 ∧ w.cell? ⟨tb, 1, none⟩ = some o1 ∧ w.frozen? ⟨tb, 0, none⟩ = false ∧ w.frozen? ⟨tb, 1, none⟩ = false
theorem SlotC.lt {w : World} {tb : Nat} (h : SlotC w tb) : tb < w.heap.size := by obtain ⟨_, h, _⟩ := h; exact cell_lt h
theorem SlotF.lt {w : World} {tb : Nat} (h : SlotF w tb) : tb < w.heap.size := by obtain ⟨_, _, h, _⟩ := h; exact cell_lt h
theorem SlotC.alloc {w : World} {tb : Nat} (h : SlotC w tb) (o : Obj) : SlotC (w.alloc o) tb := by
 have hl := h.lt
 obtain ⟨x, h1, h2⟩ := h
 exact ⟨x, by rw [World.cell?_alloc_lt _ _ ⟨tb, 0, none⟩ hl]; exact h1, by rw [World.frozen?_alloc_old _ _ ⟨tb, 0, none⟩ (Nat.ne_of_lt hl)]; exact h2⟩
theorem SlotF.alloc {w : World} {tb : Nat} (h : SlotF w tb) (o : Obj) : SlotF (w.alloc o) tb := by
 have hl := h.lt
 obtain ⟨x, y, h1, h2, h3, h4⟩ := h
 exact ⟨x, y, by rw [World.cell?_alloc_lt _ _ ⟨tb, 0, none⟩ hl]; exact h1, by rw [World.cell?_alloc_lt _ _ ⟨tb, 1, none⟩ hl]; exact h2, by rw [World.frozen?_alloc_old _ _ ⟨tb, 0, none⟩ (Nat.ne_of_lt hl)]; exact h3, by rw [World.frozen?_alloc_old _ _ ⟨tb, 1, none⟩ (Nat.ne_of_lt hl)]; exact h4⟩
theorem SlotC.alloc2 {w : World} {tb : Nat} (h : SlotC w tb) (o1 o2 : Obj) : SlotC ((w.alloc o1).alloc o2) tb := (h.alloc o1).alloc o2
theorem SlotF.alloc2 {w : World} {tb : Nat} (h : SlotF w tb) (o1 o2 : Obj) : SlotF ((w.alloc o1).alloc o2) tb := (h.alloc o1).alloc o2
def AsPostC (w : World) (tb : Nat) (c : Int) (e : Ending) (w' : World) : Prop := e = .returned (.bool true) ∧ w.grownBy w' (some tb) ∧ w'.cell? ⟨tb, 0, none⟩ = some (.int .i64 c)
def AsPostF (w : World) (tb : Nat) (c n : Int) (e : Ending) (w' : World) : Prop := e = .returned (.bool true) ∧ w.grownBy w' (some tb) ∧ w'.cell? ⟨tb, 0, none⟩ = some (.int .i64 c) ∧ w'.cell? ⟨tb, 1, none⟩ = some (.int .i64 n)
theorem grown_alloc {a w : World} {row : Option Nat} (h : a.grownBy w row) (o : Obj) : a.grownBy (w.alloc o) row :=
 ⟨h.os, h.tape, h.output, Nat.le_trans h.size (by simp), fun i hi hne => (Below.heap_alloc w o i (Nat.lt_of_lt_of_le hi h.size)).trans (h.block i hi hne)⟩
theorem grown_set {a w : World} {g : Nat} (h : a.grownBy w (some g)) (i : Nat) (u : Value) : a.grownBy (w.setCell ⟨g, i, none⟩ u) (some g) :=
 ⟨h.os, h.tape, h.output, by simpa [World.setCell] using h.size, fun k hk hne => (Below.heap_setCell w ⟨g, i, none⟩ u k (by rintro rfl; exact hne rfl)).trans (h.block k hk hne)⟩
theorem grown_drewN {a w : World} {row : Option Nat} (h : a.grownBy w row) (n : Nat) : a.grownBy (w.drewN n) row := ⟨h.os, h.tape, h.output, h.size, h.block⟩
theorem AsPostC.drewN {w w' : World} {tb : Nat} {c : Int} {e : Ending} (h : AsPostC w tb c e w') (k : Nat) : AsPostC w tb c e (w'.drewN k) := ⟨h.1, grown_drewN h.2.1 k, h.2.2⟩
theorem AsPostF.drewN {w w' : World} {tb : Nat} {c n : Int} {e : Ending} (h : AsPostF w tb c n e w') (k : Nat) : AsPostF w tb c n e (w'.drewN k) := ⟨h.1, grown_drewN h.2.1 k, h.2.2⟩
theorem AsPostF.drew {w w' : World} {tb : Nat} {c n : Int} {e : Ending} (h : AsPostF w tb c n e w') : AsPostF w tb c n e w'.drew := h.drewN 1
theorem AsPostC.drew {w w' : World} {tb : Nat} {c : Int} {e : Ending} (h : AsPostC w tb c e w') : AsPostC w tb c e w'.drew := h.drewN 1
theorem fin_F {w : World} {tb : Nat} (hf : SlotF w tb) (c n : Int) (o1 o2 : Obj) : AsPostF w tb c n (.returned (.bool true)) ((((w.setCell ⟨tb, 0, none⟩ (.int .i64 c)).setCell ⟨tb, 1, none⟩ (.int .i64 n)).alloc o1).alloc o2) := by
 have hl := hf.lt
 obtain ⟨x, y, h1, h2, h3, h4⟩ := hf
 refine ⟨rfl, grown_alloc (grown_alloc (grown_set (grown_set (World.grownBy.refl _ _) 0 _) 1 _) _) _, ?_, ?_⟩
 ·rw [World.cell?_alloc_lt _ _ ⟨tb, 0, none⟩ (by simp [World.setCell]; omega), World.cell?_alloc_lt _ _ ⟨tb, 0, none⟩ (by simpa [World.setCell] using hl), World.cell?_setCell_other _ ⟨tb, 1, none⟩ ⟨tb, 0, none⟩ _ (fun e => by injection e with _ e _; omega), World.cell?_setCell_same _ _ _ h1]
 ·rw [World.cell?_alloc_lt _ _ ⟨tb, 1, none⟩ (by simp [World.setCell]; omega), World.cell?_alloc_lt _ _ ⟨tb, 1, none⟩ (by simpa [World.setCell] using hl)]
  exact World.cell?_setCell_same _ _ _ ((World.cell?_setCell_other _ ⟨tb, 0, none⟩ ⟨tb, 1, none⟩ _ (fun e => by injection e with _ e _; omega)).trans h2)
theorem AsPostC.alloc {w w' : World} {tb : Nat} {c : Int} {e : Ending} (h : AsPostC w tb c e w') (o : Obj) : AsPostC w tb c e (w'.alloc o) :=
 ⟨h.1, grown_alloc h.2.1 o, by rw [World.cell?_alloc_lt _ _ ⟨tb, 0, none⟩ (cell_lt h.2.2)]; exact h.2.2⟩
theorem fin_C0 {w : World} {tb : Nat} (hf : SlotC w tb) (c : Int) : AsPostC w tb c (.returned (.bool true)) (w.setCell ⟨tb, 0, none⟩ (.int .i64 c)) := by
 obtain ⟨x, h1, h3⟩ := hf
 exact ⟨rfl, grown_set (World.grownBy.refl _ _) 0 _, World.cell?_setCell_same _ _ _ h1⟩
theorem fin_C {w : World} {tb : Nat} (hf : SlotC w tb) (c : Int) (o1 o2 : Obj) : AsPostC w tb c (.returned (.bool true)) (((w.setCell ⟨tb, 0, none⟩ (.int .i64 c)).alloc o1).alloc o2) := by
 have hl := hf.lt
 obtain ⟨x, h1, h3⟩ := hf
 refine ⟨rfl, grown_alloc (grown_alloc (grown_set (World.grownBy.refl _ _) 0 _) _) _, ?_⟩
 rw [World.cell?_alloc_lt _ _ ⟨tb, 0, none⟩ (by simp [World.setCell]; omega), World.cell?_alloc_lt _ _ ⟨tb, 0, none⟩ (by simpa [World.setCell] using hl), World.cell?_setCell_same _ _ _ h1]
theorem grown_alloc2 {a w : World} {row : Option Nat} (h : a.grownBy w row) (o1 o2 : Obj) : a.grownBy ((w.alloc o1).alloc o2) row := grown_alloc (grown_alloc h o1) o2
theorem grown_trans {a b c : World} {row : Option Nat} (h : a.grownBy b row) (k : b.grownBy c row) : a.grownBy c row :=
 ⟨k.os.trans h.os, k.tape.trans h.tape, k.output.trans h.output, Nat.le_trans h.size k.size, fun i hi hne => (k.block i (Nat.lt_of_lt_of_le hi h.size) hne).trans (h.block i hi hne)⟩
theorem fin_C1 {w W : World} {tb : Nat} (hf : SlotC W tb) (hg : w.grownBy W (some tb)) (c : Int) : AsPostC w tb c (.returned (.bool true)) (W.setCell ⟨tb, 0, none⟩ (.int .i64 c)) := by
 obtain ⟨x, h1, h3⟩ := hf
 exact ⟨rfl, grown_set hg 0 _, World.cell?_setCell_same _ _ _ h1⟩

theorem noAsF (v : Value) (x : TypeId) (w : World) : (Instr.typeAssert (.iface 81 v) x 157 true).run Tryz.prog w = .ok (.tuple #[.nilIface, .bool false]) w := run_typeAssert_lacksB Tryz.underlying157 (by kernel_rfl) (by kernel_rfl) v x w
theorem unwrapsF (v : Value) (x : TypeId) (w : World) : (Instr.typeAssert (.iface 81 v) x 160 true).run Tryz.prog w = .ok (.tuple #[.iface 81 v, .bool true]) w := run_typeAssert_hasB Tryz.underlying160 (by kernel_rfl) v x w
theorem methodUnwrapF (v : Value) (w : World) : (Go.method 304 81 v "Unwrap").run Tryz.prog w = .ok (148, v) w := by kernel_rfl
set_option maxRecDepth 100000 in
theorem unwrap_F (c n : Int) (w : World) : Calls Tryz.prog 148 #[.agg #[.int .i64 c, .int .i64 n]] w fun e w' => e = .returned (.iface 62 (.int .i64 c)) ∧ w' = w.alloc (.cells #[.int .i64 c, .int .i64 n] 81) := by
 go_enter Tryz.func148, Tryz.ntmps148
 go_wp2_with fail
 go_ret
 exact ⟨rfl, rfl⟩

set_option maxRecDepth 100000 in
set_option maxHeartbeats 4000000 in
theorem as_F_F (c n : Int) (tb : Nat) (a : Addr) (w : World) (ha : w.cell? a = some (.pointer (some ⟨tb, 0, none⟩))) (hf : SlotF w tb) :
  Calls Tryz.prog 94 #[.iface 81 (.agg #[.int .i64 c, .int .i64 n]), .iface 117 (.pointer (some ⟨tb, 0, none⟩)), .agg #[.pointer (some ⟨3, 117, none⟩), .pointer (some a), .int .u64 150], .iface 152 (.agg #[.pointer (some ⟨3, 81, none⟩)])] w (AsPostF w tb c n) := by
 have h10 := @run_callFunc_extern Tryz.prog 107 _ ReflectliteType.typeOf Tryz.func107 (by kernel_rfl) (by kernel_rfl) (by kernel_rfl) (by kernel_rfl)
 have h35 := @run_callFunc_extern Tryz.prog 153 _ (ReflectliteType.relation "AssignableTo" ReflectliteType.assignableTo) Tryz.func153 (by kernel_rfl) (by kernel_rfl) (by kernel_rfl) (by kernel_rfl)
 have h11 := @run_callFunc_extern Tryz.prog 108 _ (ReflectliteValue.method (ReflectliteValue.valueError "reflectlite.Value.Elem" 0) ReflectliteValue.elem) Tryz.func108 (by kernel_rfl) (by kernel_rfl) (by kernel_rfl) (by kernel_rfl)
 have h6 := @run_callFunc_extern Tryz.prog 91 _ (fun args => ReflectliteValue.unpack (args.getD 0 (.tuple #[]))) Tryz.func91 (by kernel_rfl) (by kernel_rfl) (by kernel_rfl) (by kernel_rfl)
 have h12 := @run_callFunc_extern Tryz.prog 109 _ ReflectliteValue.set Tryz.func109 (by kernel_rfl) (by kernel_rfl) (by kernel_rfl) (by kernel_rfl)
 have tO := typeOfF
 have tO2 := typeOfC
 have mA := methodAssignableTo
 have a1 := assignableF
 have a2 := assignableFC
 have a3 := assignableC
 have v1 := valueOfF
 have v2 := valueOfC
 have nA := noAsF
 have hU := unwrapsF
 have mU := methodUnwrapF
 have hla : a.block < w.heap.size := cell_lt ha
 have htb := hf.lt
 have el := elemVPF a ⟨tb, 0, none⟩ ((w.alloc (.cells #[.pointer (some ⟨3, 117, none⟩), .pointer (some a), .int .u64 150] 133))) (by rw [World.cell?_alloc_lt _ _ a hla]; exact ha)
 obtain ⟨W2, hW2⟩ : ∃ W2, W2 = ((w.alloc (.cells #[.pointer (some ⟨3, 117, none⟩), .pointer (some a), .int .u64 150] 133)).alloc (.cells #[.int .i64 c, .int .i64 n] 81)) := ⟨_, rfl⟩
 have hs2 : SlotF W2 tb := by rw [hW2]; exact hf.alloc2 _ _
 obtain ⟨o0, o1, q0, q1, p0, p1⟩ := hs2
 have st := setF ⟨tb, 0, none⟩ ⟨w.heap.size + 1, 0, none⟩ c n o0 o1 W2 (by rw [hW2]; rw [World.cell?_alloc_at _ _ _ _ (by simp)]; rfl) (by rw [hW2]; show World.cell? _ ⟨w.heap.size + 1, 0 + 1, none⟩ = _; rw [World.cell?_alloc_at _ _ _ _ (by simp)]; rfl)
  q0 (by show World.cell? _ ⟨tb, 0 + 1, none⟩ = _; rw [World.cell?_setCell_other _ _ _ _ (fun e => by injection e with _ e _; omega)]; exact q1) p0 (by rw [World.frozen?_setCell]; exact p1)
 have HFIN := Lib.hid (fun o1 o2 => fin_F hf c n o1 o2)
 clear q0 q1 p0 p1 hf
 rw [hW2] at st
 go_enter Tryz.func94, Tryz.ntmps94
 go_wp2_with fail
 refine wp_loop_rounds 1 ?_
 rw [rounds_succ]
 go_wp2_with fail
 go_ret
 exact HFIN.out _ _

set_option maxRecDepth 100000 in
set_option maxHeartbeats 4000000 in
theorem as_F_C (c n : Int) (tb : Nat) (a : Addr) (w : World) (ha : w.cell? a = some (.pointer (some ⟨tb, 0, none⟩))) (hf : SlotC w tb) :
  Calls Tryz.prog 94 #[.iface 81 (.agg #[.int .i64 c, .int .i64 n]), .iface 115 (.pointer (some ⟨tb, 0, none⟩)), .agg #[.pointer (some ⟨3, 115, none⟩), .pointer (some a), .int .u64 150], .iface 152 (.agg #[.pointer (some ⟨3, 62, none⟩)])] w (AsPostC w tb c) := by
 have h10 := @run_callFunc_extern Tryz.prog 107 _ ReflectliteType.typeOf Tryz.func107 (by kernel_rfl) (by kernel_rfl) (by kernel_rfl) (by kernel_rfl)
 have h35 := @run_callFunc_extern Tryz.prog 153 _ (ReflectliteType.relation "AssignableTo" ReflectliteType.assignableTo) Tryz.func153 (by kernel_rfl) (by kernel_rfl) (by kernel_rfl) (by kernel_rfl)
 have h11 := @run_callFunc_extern Tryz.prog 108 _ (ReflectliteValue.method (ReflectliteValue.valueError "reflectlite.Value.Elem" 0) ReflectliteValue.elem) Tryz.func108 (by kernel_rfl) (by kernel_rfl) (by kernel_rfl) (by kernel_rfl)
 have h6 := @run_callFunc_extern Tryz.prog 91 _ (fun args => ReflectliteValue.unpack (args.getD 0 (.tuple #[]))) Tryz.func91 (by kernel_rfl) (by kernel_rfl) (by kernel_rfl) (by kernel_rfl)
 have h12 := @run_callFunc_extern Tryz.prog 109 _ ReflectliteValue.set Tryz.func109 (by kernel_rfl) (by kernel_rfl) (by kernel_rfl) (by kernel_rfl)
 have tO := typeOfF
 have tO2 := typeOfC
 have mA := methodAssignableTo
 have a1 := assignableF
 have a2 := assignableFC
 have a3 := assignableC
 have v1 := valueOfF
 have v2 := valueOfC
 have nA := noAsF
 have hU := unwrapsF
 have mU := methodUnwrapF
 have hla : a.block < w.heap.size := cell_lt ha
 have htb := hf.lt
 obtain ⟨W2, hW2⟩ : ∃ W2, W2 = ((w.alloc (.cells #[.pointer (some ⟨3, 115, none⟩), .pointer (some a), .int .u64 150] 133)).alloc (.cells #[.int .i64 c, .int .i64 n] 81)) := ⟨_, rfl⟩
 have hz2 : W2.heap.size = w.heap.size + 1 + 1 := by rw [hW2]; simp
 have el := elemVPC a ⟨tb, 0, none⟩ W2 (by rw [hW2, World.cell?_alloc_lt _ _ a (by simp; omega), World.cell?_alloc_lt _ _ a hla]; exact ha)
 have hs2 : SlotC (W2.alloc (.cells #[.int .i64 c] 62)) tb := by rw [hW2]; exact (hf.alloc2 _ _).alloc _
 obtain ⟨o0, q0, p0⟩ := hs2
 have st := setC ⟨tb, 0, none⟩ ⟨w.heap.size + 1 + 1, 0, none⟩ c o0 (W2.alloc (.cells #[.int .i64 c] 62)) (by rw [World.cell?_alloc_at _ _ _ _ hz2.symm]; rfl) q0 p0
 have HFIN := Lib.hid (fun o1 o2 o3 => fin_C1 (w := w) (((hf.alloc o1).alloc o2).alloc o3) (grown_alloc (grown_alloc2 (World.grownBy.refl w _) _ _) _) c)
 clear q0 p0 hf hz2
 rw [hW2] at st el
 clear hW2 W2
 go_enter Tryz.func94, Tryz.ntmps94
 go_wp2_with fail
 refine wp_loop_rounds 2 ?_
 rw [rounds_succ]
 go_wp2_with fail
 refine (unwrap_F c n _).mono ?_
 rintro e w1 ⟨rfl, rfl⟩
 go_wp2_with fail
 rw [rounds_succ]
 go_wp2_with fail
 go_ret
 exact HFIN.out _ _ _

set_option maxRecDepth 100000 in
set_option maxHeartbeats 4000000 in
theorem As_F_F (c n : Int) (tb : Nat) (w : World) (hg : ErrT w) (hf : SlotF w tb) :
  Calls Tryz.prog 70 #[.iface 81 (.agg #[.int .i64 c, .int .i64 n]), .iface 117 (.pointer (some ⟨tb, 0, none⟩))] w (AsPostF w tb c n) := by
 have h6 := @run_callFunc_extern Tryz.prog 91 _ (fun args => ReflectliteValue.unpack (args.getD 0 (.tuple #[]))) Tryz.func91 (by kernel_rfl) (by kernel_rfl) (by kernel_rfl) (by kernel_rfl)
 have h7 := @run_callFunc_extern Tryz.prog 92 _ (ReflectliteValue.methodAny (ReflectliteValue.valueError "reflectlite.Value.Type" 0) (fun t _ _ _ => ReflectliteType.toType t)) Tryz.func92 (by kernel_rfl) (by kernel_rfl) (by kernel_rfl) (by kernel_rfl)
 have h8 := @run_callFunc_extern Tryz.prog 93 _ (ReflectliteValue.method (ReflectliteValue.valueError "reflectlite.Value.IsNil" 0) ReflectliteValue.isNil) Tryz.func93 (by kernel_rfl) (by kernel_rfl) (by kernel_rfl) (by kernel_rfl)
 have h27 := @run_callFunc_extern Tryz.prog 143 _ (ReflectliteType.abiMethod fun t => do pure (.int .u8 (← Rtype.kind t))) Tryz.func143 (by kernel_rfl) (by kernel_rfl) (by kernel_rfl) (by kernel_rfl)
 have h37 := @run_callFunc_extern Tryz.prog 155 _ (ReflectliteType.method ReflectliteType.elem) Tryz.func155 (by kernel_rfl) (by kernel_rfl) (by kernel_rfl) (by kernel_rfl)
 have h38 := @run_callFunc_extern Tryz.prog 156 _ (ReflectliteType.relation "Implements" ReflectliteType.implements_) Tryz.func156 (by kernel_rfl) (by kernel_rfl) (by kernel_rfl) (by kernel_rfl)
 have f6 := valueOfPF
 have f7 := typePF
 have mK := methodKind
 have mE := methodElem
 have mI := methodImplements
 have k27 := kindPF
 have k25 := kindF
 have e27 := elemPF
 have i25 := implementsF
 have n8 := fun a W => isNilPF a ⟨tb, 0, none⟩ W
 have hgA := hg.alloc2
 have htb := hf.lt
 have HF := Lib.hid hf
 clear hf
 go_enter Tryz.func70, Tryz.ntmps70
 go_wp2_with fail
 refine (as_F_F c n tb ⟨w.heap.size, 0, none⟩ _ (by simp) (HF.out.alloc2 _ _)).mono ?_
 rintro e w1 ⟨rfl, h1, h2⟩
 go_wp2_with fail
 go_ret
 exact ⟨rfl, grown_trans (grown_alloc2 (World.grownBy.refl _ _) _ _) h1, h2⟩

set_option maxRecDepth 100000 in
set_option maxHeartbeats 4000000 in
theorem As_F_C (c n : Int) (tb : Nat) (w : World) (hg : ErrT w) (hf : SlotC w tb) :
  Calls Tryz.prog 70 #[.iface 81 (.agg #[.int .i64 c, .int .i64 n]), .iface 115 (.pointer (some ⟨tb, 0, none⟩))] w (AsPostC w tb c) := by
 have h6 := @run_callFunc_extern Tryz.prog 91 _ (fun args => ReflectliteValue.unpack (args.getD 0 (.tuple #[]))) Tryz.func91 (by kernel_rfl) (by kernel_rfl) (by kernel_rfl) (by kernel_rfl)
 have h7 := @run_callFunc_extern Tryz.prog 92 _ (ReflectliteValue.methodAny (ReflectliteValue.valueError "reflectlite.Value.Type" 0) (fun t _ _ _ => ReflectliteType.toType t)) Tryz.func92 (by kernel_rfl) (by kernel_rfl) (by kernel_rfl) (by kernel_rfl)
 have h8 := @run_callFunc_extern Tryz.prog 93 _ (ReflectliteValue.method (ReflectliteValue.valueError "reflectlite.Value.IsNil" 0) ReflectliteValue.isNil) Tryz.func93 (by kernel_rfl) (by kernel_rfl) (by kernel_rfl) (by kernel_rfl)
 have h27 := @run_callFunc_extern Tryz.prog 143 _ (ReflectliteType.abiMethod fun t => do pure (.int .u8 (← Rtype.kind t))) Tryz.func143 (by kernel_rfl) (by kernel_rfl) (by kernel_rfl) (by kernel_rfl)
 have h37 := @run_callFunc_extern Tryz.prog 155 _ (ReflectliteType.method ReflectliteType.elem) Tryz.func155 (by kernel_rfl) (by kernel_rfl) (by kernel_rfl) (by kernel_rfl)
 have h38 := @run_callFunc_extern Tryz.prog 156 _ (ReflectliteType.relation "Implements" ReflectliteType.implements_) Tryz.func156 (by kernel_rfl) (by kernel_rfl) (by kernel_rfl) (by kernel_rfl)
 have f6 := valueOfPC
 have f7 := typePC
 have mK := methodKind
 have mE := methodElem
 have mI := methodImplements
 have k27 := kindPC
 have k25 := kindC
 have e27 := elemPC
 have i25 := implementsC
 have n8 := fun a W => isNilPC a ⟨tb, 0, none⟩ W
 have hgA := hg.alloc2
 have htb := hf.lt
 have HF := Lib.hid hf
 clear hf
 go_enter Tryz.func70, Tryz.ntmps70
 go_wp2_with fail
 refine (as_F_C c n tb ⟨w.heap.size, 0, none⟩ _ (by simp) (HF.out.alloc2 _ _)).mono ?_
 rintro e w1 ⟨rfl, h1, h2⟩
 go_wp2_with fail
 go_ret
 exact ⟨rfl, grown_trans (grown_alloc2 (World.grownBy.refl _ _) _ _) h1, h2⟩
end Go.Proofs.YteieimchleioaaaGreatDoor.errAs
/-
  fault.Code and fault.At on nil and on an error of type api.Fault.
-/
namespace Go.Proofs.YteieimchleioaaaGreatDoor.errAs
open Go.RowKit Go.Extern.Stop Go.Stop Go.Extern

theorem cell_g {W w1 : World} {row : Option Nat} (h : W.grownBy w1 row) {p : Addr} (hp : p.block < W.heap.size) (hne : some p.block ≠ row) : w1.cell? p = W.cell? p := World.cell?_of_block (h.block p.block hp hne)
theorem frozen_g {W w1 : World} {row : Option Nat} (h : W.grownBy w1 row) {p : Addr} (hp : p.block < W.heap.size) (hne : some p.block ≠ row) : w1.frozen? p = W.frozen? p := World.frozen?_of_block (h.block p.block hp hne)

theorem idle_C (p q : Value) (w : World) :
  CallsD Tryz.prog 69 #[p, q] .returning w fun e u' w' => e = .returned (.tuple #[]) ∧ u' = .returning ∧ w' = w := by
 refine callsD_of_wpS Tryz.func69 rfl fun c₀ cs hu => ?_
 apply wpS_seq
 apply wpS_region
 simp [wpOpsS, go_sem, recoverD, hu, Tryz.ntmps69, Exit.thenS]
 refine wpS_cond (t := false) (by simp [Act.eval, Array.replicate]) ?_
 simp only [Bool.false_eq_true, if_false]
 refine wpS_of_wp (wp_skip ?_)
 cases c₀
 simp_all [bodyPostS, results, Tryz.results69]
theorem idle_F (p q : Value) (w : World) :
  CallsD Tryz.prog 71 #[p, q] .returning w fun e u' w' => e = .returned (.tuple #[]) ∧ u' = .returning ∧ w' = w := by
 refine callsD_of_wpS Tryz.func71 rfl fun c₀ cs hu => ?_
 apply wpS_seq
 apply wpS_region
 simp [wpOpsS, go_sem, recoverD, hu, Tryz.ntmps71, Exit.thenS]
 refine wpS_cond (t := false) (by simp [Act.eval, Array.replicate]) ?_
 simp only [Bool.false_eq_true, if_false]
 refine wpS_of_wp (wp_skip ?_)
 cases c₀
 simp_all [bodyPostS, results, Tryz.results71]

/-- Three blocks that a call has just made. -/
def Three (w : World) (c0 c1 c2 : Array Value) (t0 t1 t2 : TypeId) (W : World) : Prop :=
 W.heap[w.heap.size]? = some (.cells c0 t0 (0, 0)) ∧ W.heap[w.heap.size + 1]? = some (.cells c1 t1 (0, 0)) ∧ W.heap[w.heap.size + 1 + 1]? = some (.cells c2 t2 (0, 0)) ∧ W.heap.size = w.heap.size + 3 ∧ Below w.heap.size w W
theorem three (w : World) (c0 c1 c2 : Array Value) (t0 t1 t2 : TypeId) : Three w c0 c1 c2 t0 t1 t2 (((w.alloc (.cells c0 t0)).alloc (.cells c1 t1)).alloc (.cells c2 t2)) := by
 have e1 : w.heap.size + 1 = (w.alloc (.cells c0 t0)).heap.size := by simp
 have e2 : w.heap.size + 1 + 1 = ((w.alloc (.cells c0 t0)).alloc (.cells c1 t1)).heap.size := by simp
 refine ⟨?_, ?_, ?_, by simp, (((Below.refl w.heap.size w).alloc (Nat.le_refl _) _).alloc (by simp) _).alloc (by simp; omega) _⟩
 ·exact (Below.heap_alloc _ _ _ (by simp; omega)).trans ((Below.heap_alloc _ _ _ (by simp)).trans (heap_alloc_new w _))
 ·rw [e1]
  exact (Below.heap_alloc _ _ _ (by simp)).trans (heap_alloc_new _ _)
 ·rw [e2]
  exact heap_alloc_new _ _

set_option maxRecDepth 100000 in
set_option maxHeartbeats 4000000 in
theorem find_C (c n : Int) (w : World) (hg : ErrT w) :
  Calls Tryz.prog 43 #[.iface 81 (.agg #[.int .i64 c, .int .i64 n])] w fun e w' => e = .returned (.tuple #[.int .i64 c, .bool true]) ∧ Below w.heap.size w w' := by
 have hmf : ∀ (fn : Fn) (first cap : Array Value) (w : World), (Instr.makeFunc fn first cap).run Tryz.prog w = .ok (.func fn first cap) w := fun _ _ _ _ => rfl
 obtain ⟨W3, hW3⟩ : ∃ W3, W3 = (((w.alloc (.cells #[.int .i64 0] 62)).alloc (.cells #[.bool false] 4)).alloc (.cells #[.int .i64 0] 62)) := ⟨_, rfl⟩
 have hE : ErrT W3 := by rw [hW3]; exact ((hg.alloc _).alloc _).alloc _
 obtain ⟨h0, h1, h2, z3, B3⟩ := three w #[.int .i64 0] #[.bool false] #[.int .i64 0] 62 4 62
 rw [← hW3] at h0 h1 h2 z3 B3
 have hS : SlotC W3 (w.heap.size + 1 + 1) := ⟨.int .i64 0, cell_of_row _ _ 0 _ _ _ h2, frozen_of_row _ _ 0 _ _ h2⟩
 have k0 : W3.cell? ⟨w.heap.size, 0, none⟩ = some (.int .i64 0) := cell_of_row _ _ 0 _ _ _ h0
 have k1 : W3.cell? ⟨w.heap.size + 1, 0, none⟩ = some (.bool false) := cell_of_row _ _ 0 _ _ _ h1
 have f0 : W3.frozen? ⟨w.heap.size, 0, none⟩ = false := frozen_of_row _ _ 0 _ _ h0
 have f1 : W3.frozen? ⟨w.heap.size + 1, 0, none⟩ = false := frozen_of_row _ _ 0 _ _ h1
 have HW := Lib.hid hW3
 have K := Lib.hid (And.intro hE (And.intro hS (And.intro k0 (And.intro k1 (And.intro f0 (And.intro f1 (And.intro z3 B3)))))))
 clear hE hS k0 k1 f0 f1 z3 B3 h0 h1 h2 hW3
 go_enter_defers Tryz.func43, Tryz.ntmps43
 go_wp2_with fail
 rw [← HW.out]
 obtain ⟨hE, hS, k0, k1, f0, f1, z3, B3⟩ := K.out
 refine (As_F_C c n _ _ hE hS).mono ?_
 rintro e w1 ⟨rfl, g1, t1⟩
 have k0' : w1.cell? ⟨w.heap.size, 0, none⟩ = some (.int .i64 0) := (cell_g g1 (by show w.heap.size < _; omega) (fun e => by injection e with e; have e : w.heap.size = w.heap.size + 1 + 1 := e; omega)).trans k0
 have k1' : w1.cell? ⟨w.heap.size + 1, 0, none⟩ = some (.bool false) := (cell_g g1 (by show w.heap.size + 1 < _; omega) (fun e => by injection e with e; have e : w.heap.size + 1 = w.heap.size + 1 + 1 := e; omega)).trans k1
 have f0' : w1.frozen? ⟨w.heap.size, 0, none⟩ = false := (frozen_g g1 (by show w.heap.size < _; omega) (fun e => by injection e with e; have e : w.heap.size = w.heap.size + 1 + 1 := e; omega)).trans f0
 have f1' : w1.frozen? ⟨w.heap.size + 1, 0, none⟩ = false := (frozen_g g1 (by show w.heap.size + 1 < _; omega) (fun e => by injection e with e; have e : w.heap.size + 1 = w.heap.size + 1 + 1 := e; omega)).trans f1
 have B1 : Below w.heap.size w w1 := B3.grown g1 B3.size (fun k hk => by injection hk with hk; omega)
 clear g1 hE hS k0 k1 f0 f1 z3 B3 K HW hg
 go_wp2_with fail
 refine leaves_cons (f := 69) (args := #[.pointer (some ⟨w.heap.size, 0, none⟩), .pointer (some ⟨w.heap.size + 1, 0, none⟩)]) (by simp) (by simp [go_sem]) ?_
 refine (idle_C _ _ _).mono ?_
 rintro e u' w'' ⟨rfl, rfl, rfl⟩
 have k1'' : (w1.setCell ⟨w.heap.size, 0, none⟩ (.int .i64 c)).cell? ⟨w.heap.size + 1, 0, none⟩ = some (.bool false) := by
  rw [World.cell?_setCell_other _ ⟨w.heap.size, 0, none⟩ ⟨w.heap.size + 1, 0, none⟩ _ (fun e => by injection e with e _ _; omega)]; exact k1'
 have q1 := World.cell?_setCell_same (w1.setCell ⟨w.heap.size, 0, none⟩ (.int .i64 c)) ⟨w.heap.size + 1, 0, none⟩ (.bool true) k1''
 have q0 : ((w1.setCell ⟨w.heap.size, 0, none⟩ (.int .i64 c)).setCell ⟨w.heap.size + 1, 0, none⟩ (.bool true)).cell? ⟨w.heap.size, 0, none⟩ = some (.int .i64 c) := by
  rw [World.cell?_setCell_other _ ⟨w.heap.size + 1, 0, none⟩ ⟨w.heap.size, 0, none⟩ _ (fun e => by injection e with e _ _; omega)]
  exact World.cell?_setCell_same _ _ _ k0'
 have B2 : Below w.heap.size w ((w1.setCell ⟨w.heap.size, 0, none⟩ (.int .i64 c)).setCell ⟨w.heap.size + 1, 0, none⟩ (.bool true)) := (B1.setCell (by exact Nat.le_refl _) _).setCell (by show w.heap.size ≤ w.heap.size + 1; omega) _
 generalize ((w1.setCell ⟨w.heap.size, 0, none⟩ (.int .i64 c)).setCell ⟨w.heap.size + 1, 0, none⟩ (.bool true)) = W at *
 refine ⟨.tuple #[.int .i64 c, .bool true], ?_, rfl, B2⟩
 simp [results, Tryz.results43, go_sem, q0, q1]
set_option maxRecDepth 100000 in
set_option maxHeartbeats 4000000 in
theorem find_F (c n : Int) (w : World) (hg : ErrT w) :
  Calls Tryz.prog 44 #[.iface 81 (.agg #[.int .i64 c, .int .i64 n])] w fun e w' => e = .returned (.tuple #[.agg #[.int .i64 c, .int .i64 n], .bool true]) ∧ Below w.heap.size w w' := by
 have hmf : ∀ (fn : Fn) (first cap : Array Value) (w : World), (Instr.makeFunc fn first cap).run Tryz.prog w = .ok (.func fn first cap) w := fun _ _ _ _ => rfl
 obtain ⟨W3, hW3⟩ : ∃ W3, W3 = (((w.alloc (.cells #[.int .i64 0, .int .i64 0] 81)).alloc (.cells #[.bool false] 4)).alloc (.cells #[.int .i64 0, .int .i64 0] 81)) := ⟨_, rfl⟩
 have hE : ErrT W3 := by rw [hW3]; exact ((hg.alloc _).alloc _).alloc _
 obtain ⟨h0, h1, h2, z3, B3⟩ := three w #[.int .i64 0, .int .i64 0] #[.bool false] #[.int .i64 0, .int .i64 0] 81 4 81
 rw [← hW3] at h0 h1 h2 z3 B3
 have hS : SlotF W3 (w.heap.size + 1 + 1) := ⟨.int .i64 0, .int .i64 0, cell_of_row _ _ 0 _ _ _ h2, cell_of_row _ _ 1 _ _ _ h2, frozen_of_row _ _ 0 _ _ h2, frozen_of_row _ _ 1 _ _ h2⟩
 have k0 : W3.cell? ⟨w.heap.size, 0, none⟩ = some (.int .i64 0) := cell_of_row _ _ 0 _ _ _ h0
 have k1 : W3.cell? ⟨w.heap.size + 1, 0, none⟩ = some (.bool false) := cell_of_row _ _ 0 _ _ _ h1
 have f0 : W3.frozen? ⟨w.heap.size, 0, none⟩ = false := frozen_of_row _ _ 0 _ _ h0
 have f1 : W3.frozen? ⟨w.heap.size + 1, 0, none⟩ = false := frozen_of_row _ _ 0 _ _ h1
 have k01 : W3.cell? ⟨w.heap.size, 1, none⟩ = some (.int .i64 0) := cell_of_row _ _ 1 _ _ _ h0
 have f01 : W3.frozen? ⟨w.heap.size, 1, none⟩ = false := frozen_of_row _ _ 1 _ _ h0
 have HW := Lib.hid hW3
 have K01 := Lib.hid (And.intro k01 f01)
 clear k01 f01
 have K := Lib.hid (And.intro hE (And.intro hS (And.intro k0 (And.intro k1 (And.intro f0 (And.intro f1 (And.intro z3 B3)))))))
 clear hE hS k0 k1 f0 f1 z3 B3 h0 h1 h2 hW3
 go_enter_defers Tryz.func44, Tryz.ntmps44
 go_wp2_with fail
 rw [← HW.out]
 obtain ⟨hE, hS, k0, k1, f0, f1, z3, B3⟩ := K.out
 refine (As_F_F c n _ _ hE hS).mono ?_
 rintro e w1 ⟨rfl, g1, t1, t2⟩
 have k01' : w1.cell? ⟨w.heap.size, 1, none⟩ = some (.int .i64 0) := (cell_g g1 (by show w.heap.size < _; omega) (fun e => by injection e with e; have e : w.heap.size = w.heap.size + 1 + 1 := e; omega)).trans K01.out.1
 have f01' : w1.frozen? ⟨w.heap.size, 1, none⟩ = false := (frozen_g g1 (by show w.heap.size < _; omega) (fun e => by injection e with e; have e : w.heap.size = w.heap.size + 1 + 1 := e; omega)).trans K01.out.2
 have k0' : w1.cell? ⟨w.heap.size, 0, none⟩ = some (.int .i64 0) := (cell_g g1 (by show w.heap.size < _; omega) (fun e => by injection e with e; have e : w.heap.size = w.heap.size + 1 + 1 := e; omega)).trans k0
 have k1' : w1.cell? ⟨w.heap.size + 1, 0, none⟩ = some (.bool false) := (cell_g g1 (by show w.heap.size + 1 < _; omega) (fun e => by injection e with e; have e : w.heap.size + 1 = w.heap.size + 1 + 1 := e; omega)).trans k1
 have f0' : w1.frozen? ⟨w.heap.size, 0, none⟩ = false := (frozen_g g1 (by show w.heap.size < _; omega) (fun e => by injection e with e; have e : w.heap.size = w.heap.size + 1 + 1 := e; omega)).trans f0
 have f1' : w1.frozen? ⟨w.heap.size + 1, 0, none⟩ = false := (frozen_g g1 (by show w.heap.size + 1 < _; omega) (fun e => by injection e with e; have e : w.heap.size + 1 = w.heap.size + 1 + 1 := e; omega)).trans f1
 have B1 : Below w.heap.size w w1 := B3.grown g1 B3.size (fun k hk => by injection hk with hk; omega)
 clear g1 hE hS k0 k1 f0 f1 z3 B3 K HW hg
 go_wp2_with fail
 refine leaves_cons (f := 71) (args := #[.pointer (some ⟨w.heap.size, 0, none⟩), .pointer (some ⟨w.heap.size + 1, 0, none⟩)]) (by simp) (by simp [go_sem]) ?_
 refine (idle_F _ _ _).mono ?_
 rintro e u' w'' ⟨rfl, rfl, rfl⟩
 have q0 : (((w1.setCell ⟨w.heap.size, 0, none⟩ (.int .i64 c)).setCell ⟨w.heap.size, 1, none⟩ (.int .i64 n)).setCell ⟨w.heap.size + 1, 0, none⟩ (.bool true)).cell? ⟨w.heap.size, 0, none⟩ = some (.int .i64 c) := by
  rw [World.cell?_setCell_other _ ⟨w.heap.size + 1, 0, none⟩ ⟨w.heap.size, 0, none⟩ _ (fun e => by injection e with e _ _; omega), World.cell?_setCell_other _ ⟨w.heap.size, 1, none⟩ ⟨w.heap.size, 0, none⟩ _ (fun e => by injection e with _ e _; omega)]
  exact World.cell?_setCell_same _ _ _ k0'
 have q01 : (((w1.setCell ⟨w.heap.size, 0, none⟩ (.int .i64 c)).setCell ⟨w.heap.size, 1, none⟩ (.int .i64 n)).setCell ⟨w.heap.size + 1, 0, none⟩ (.bool true)).cell? ⟨w.heap.size, 1, none⟩ = some (.int .i64 n) := by
  rw [World.cell?_setCell_other _ ⟨w.heap.size + 1, 0, none⟩ ⟨w.heap.size, 1, none⟩ _ (fun e => by injection e with e _ _; omega)]
  exact World.cell?_setCell_same _ _ _ ((World.cell?_setCell_other _ ⟨w.heap.size, 0, none⟩ ⟨w.heap.size, 1, none⟩ _ (fun e => by injection e with _ e _; omega)).trans k01')
 have q1 : (((w1.setCell ⟨w.heap.size, 0, none⟩ (.int .i64 c)).setCell ⟨w.heap.size, 1, none⟩ (.int .i64 n)).setCell ⟨w.heap.size + 1, 0, none⟩ (.bool true)).cell? ⟨w.heap.size + 1, 0, none⟩ = some (.bool true) := by
  refine World.cell?_setCell_same _ _ _ ?_ (u := .bool false)
  rw [World.cell?_setCell_other _ ⟨w.heap.size, 1, none⟩ ⟨w.heap.size + 1, 0, none⟩ _ (fun e => by injection e with e _ _; omega), World.cell?_setCell_other _ ⟨w.heap.size, 0, none⟩ ⟨w.heap.size + 1, 0, none⟩ _ (fun e => by injection e with e _ _; omega)]
  exact k1'
 have B2 : Below w.heap.size w (((w1.setCell ⟨w.heap.size, 0, none⟩ (.int .i64 c)).setCell ⟨w.heap.size, 1, none⟩ (.int .i64 n)).setCell ⟨w.heap.size + 1, 0, none⟩ (.bool true)) := ((B1.setCell (by exact Nat.le_refl _) _).setCell (by exact Nat.le_refl _) _).setCell (by show w.heap.size ≤ w.heap.size + 1; omega) _
 generalize (((w1.setCell ⟨w.heap.size, 0, none⟩ (.int .i64 c)).setCell ⟨w.heap.size, 1, none⟩ (.int .i64 n)).setCell ⟨w.heap.size + 1, 0, none⟩ (.bool true)) = W at *
 refine ⟨.tuple #[.agg #[.int .i64 c, .int .i64 n], .bool true], ?_, rfl, B2⟩
 simp [results, Tryz.results44, go_sem]
 simp only [q0, q01, q1, Result.andThen]

set_option maxRecDepth 100000 in
theorem code_F (c n : Int) (w : World) (hg : ErrT w) :
  Calls Tryz.prog 21 #[.iface 81 (.agg #[.int .i64 c, .int .i64 n])] w fun e w' => e = .returned (.tuple #[.int .i64 c, .bool true]) ∧ Below w.heap.size w w' := by
 have H := Lib.hid (find_C c n w hg)
 clear hg
 go_enter Tryz.func21, Tryz.ntmps21
 go_wp2_with fail
 refine H.out.mono ?_
 rintro e w1 ⟨rfl, B1⟩
 go_wp2_with fail
 go_ret2
 exact ⟨rfl, B1⟩

set_option maxRecDepth 100000 in
theorem at_F (c n : Int) (w : World) (hg : ErrT w) :
  Calls Tryz.prog 22 #[.iface 81 (.agg #[.int .i64 c, .int .i64 n])] w fun e w' => e = .returned (.tuple #[.int .i64 n, .bool true]) ∧ Below w.heap.size w w' := by
 have H := Lib.hid (find_F c n w hg)
 clear hg
 go_enter Tryz.func22, Tryz.ntmps22
 go_wp2_with fail
 refine H.out.mono ?_
 rintro e w1 ⟨rfl, B1⟩
 go_wp2_with fail
 go_ret2
 exact ⟨rfl, B1.alloc B1.size _⟩
end Go.Proofs.YteieimchleioaaaGreatDoor.errAs
/-
  fault.New; the law's told.
-/
namespace Go.Proofs.YteieimchleioaaaGreatDoor
open Go.ChangeShapes Go.WideShapes Go.ChangeAt Go.RowKit
open errAs (ErrT)
set_option linter.unusedVariables false

def faultN (c n : Nat) : Value := .iface 81 (.agg #[.int .i64 c, .int .i64 n])
def errF (c n : Nat) : Value := if c = 0 then .nilIface else faultN c n
set_option maxRecDepth 100000 in
theorem fnew_any (c n : Int) (w : World) : Calls Tryz.prog 56 #[.int .i64 c, .int .i64 n] w fun e w' => e = .returned (.iface 81 (.agg #[.int .i64 c, .int .i64 n])) ∧ w = w' := by
 go_enter Tryz.func56, Tryz.ntmps56
 go_wp2_with fail
 go_ret
 exact ⟨rfl, rfl⟩
theorem errT_below {w w' : World} (h : ErrT w) (hb : Below w.heap.size w w') : ErrT w' := h.below hb h.lt
set_option maxRecDepth 100000 in
theorem told_none (n : Nat) (w : World) : Calls Tryz.prog 8 #[.nilIface, .int .i64 0, .int .i64 n] w fun e w' => e = .returned (.bool true) ∧ w = w' := by
 go_enter Tryz.func8, Tryz.ntmps8
 go_wp2_with fail
 go_ret
 exact ⟨rfl, rfl⟩
set_option maxRecDepth 100000 in
theorem told_fault (c n : Nat) (hc : c ≠ 0) (w : World) (hg : ErrT w) : Calls Tryz.prog 8 #[faultN c n, .int .i64 c, .int .i64 n] w fun e w' => e = .returned (.bool true) ∧ Below w.heap.size w w' := by
 have HE := Lib.hid hg
 have h0 : ¬ (c : Int) = 0 := by omega
 have h0' : ((c : Int) == 0) = false := by rw [beq_eq_false_iff_ne]; omega
 clear hg
 unfold faultN
 go_enter Tryz.func8, Tryz.ntmps8
 go_wp2_with fail
 refine (errAs.code_F c n _ HE.out).mono ?_
 rintro e w1 ⟨rfl, b1⟩
 have HE1 := Lib.hid (errT_below HE.out b1)
 have HB1 := Lib.hid b1
 clear b1
 go_wp2_with fail
 refine (errAs.at_F c n _ HE1.out).mono ?_
 rintro e w2 ⟨rfl, b2⟩
 have HB2 := Lib.hid (HB1.out.trans (b2.mono HB1.out.size))
 clear b2
 go_wp2_with fail
 go_ret
 exact ⟨rfl, HB2.out⟩
theorem told_any (c n : Nat) (w : World) (hg : ErrT w) : Calls Tryz.prog 8 #[errF c n, .int .i64 c, .int .i64 n] w fun e w' => e = .returned (.bool true) ∧ Below w.heap.size w w' := by
 by_cases hc : c = 0
 ·subst hc
  exact (told_none n w).mono fun e w' ⟨h1, h2⟩ => ⟨h1, h2 ▸ Below.refl _ _⟩
 ·unfold errF
  rw [if_neg hc]
  exact told_fault c n hc w hg
end Go.Proofs.YteieimchleioaaaGreatDoor
