/-
  What tokens are read as: types, expressions, members, definitions, or the first error. No program.
-/
import Derived.Test.YtkildckeikedhaaGreatDoorMr0
import Derived.Test.YtkildckeikedhaaGreatDoorMr1
import Derived.Maps.AppendAt
import Derived.Lib.Join
import Derived.Lib.Small
import Derived.Lib.Bytealg
import Derived.Deep.QuietTactic
import Derived.Test.YtkildckeikedhaaGreatDoorProg
import Derived.WalkKit
import Derived.LaidEql
import Derived.Stop.Asserts
import Derived.RowKitTokens
namespace Go.Proofs.YtkildckeikedhaaGreatDoor
set_option linter.unusedVariables false

structure PS where
 i : Nat
 o : Nat
 l : Nat
inductive PR (α : Type) where
 | ok (x : α) (s : PS)
 | bad (c : Nat) (i : Nat)
def PR.then {α β : Type} (r : PR α) (f : α → PS → PR β) : PR β := match r with
 | .ok x s => f x s
 | .bad c i => .bad c i
theorem PR.then_ok {α β : Type} (x : α) (s : PS) (f : α → PS → PR β) : (PR.ok x s).then f = f x s := rfl
theorem PR.then_bad {α β : Type} (c i : Nat) (f : α → PS → PR β) : (PR.bad c i : PR α).then f = .bad c i := rfl
def PS.up (s : PS) : PS := { s with i := s.i + 1 }
def tok0 : Tok := (0, [], 0)
def txt (ts : List Tok) (i : Nat) : List UInt8 := (ts.getD i tok0).2.1
def nameF (ts : List Tok) (s : PS) : PR (List UInt8) := if isName (bstr (txt ts s.i)) = true then .ok (txt ts s.i) s.up else .bad 6 s.i
def wantF (ts : List Tok) (t : List UInt8) (s : PS) : PR Unit := if txt ts s.i = t then .ok () s.up else .bad 6 s.i
abbrev AlB := List UInt8 × List UInt8
def allowedF (ts : List Tok) (s : PS) : PR AlB := (nameF ts s).then fun a s1 => if txt ts s1.i = [35] then (nameF ts s1.up).then fun r s2 => .ok (a, r) s2 else .ok (a, []) s1
def typesF (ts : List Tok) : Nat → List AlB → PS → PR (List AlB)
 | 0, acc, s => .ok acc s
 | n + 1, acc, s => if acc.length = 32 then .bad 15 s.i else (allowedF ts s).then fun a s1 => if txt ts s1.i = [124] then typesF ts n (acc ++ [a]) s1.up else .ok (acc ++ [a]) s1
def unitW (ts : List Tok) (U : Option (PS → PR Ex)) (s : PS) : PR Ex :=
 if txt ts s.i = [40] then
  match U with
  | none => .bad 7 s.i
  | some U => (U { s with i := s.i + 1, o := s.o + 1 }).then fun e s1 => (wantF ts [41] s1).then fun _ s2 => .ok e { s2 with o := s2.o - 1 }
 else if isName (bstr (txt ts s.i)) = true then
  if s.l < 32 then
   if txt ts (s.i + 1) = [45, 62] then (nameF ts { s with i := s.i + 2, l := s.l + 1 }).then fun r s2 => .ok (.mk 2 (txt ts s.i) r []) s2
   else .ok (.mk 1 [] (txt ts s.i) []) { s with i := s.i + 1, l := s.l + 1 }
  else .bad 15 s.i
 else .bad 6 s.i
def opK (t : List UInt8) : Int := if t = [43] then 3 else if t = [38] then 4 else if t = [45] then 5 else 0
def loopW (ts : List Tok) (U : PS → PR Ex) (sg : List UInt8) : Nat → List Ex → PS → PR (List Ex)
 | 0, acc, s => .ok acc s
 | n + 1, acc, s => if txt ts s.i = sg then (U s.up).then fun e s1 => if opK sg = 5 then .ok (acc ++ [e]) s1 else loopW ts U sg n (acc ++ [e]) s1 else .ok acc s
def unitsW (ts : List Tok) (U : PS → PR Ex) (s : PS) : PR Ex :=
 (U s).then fun e s1 => if opK (txt ts s1.i) = 0 then .ok e s1 else (loopW ts U (txt ts s1.i) ts.length [e] s1).then fun ks s2 => .ok (.mk (opK (txt ts s1.i)) [] [] ks) s2
def unitsF (ts : List Tok) : Nat → PS → PR Ex
 | 0 => unitsW ts (unitW ts none)
 | d + 1 => unitsW ts (unitW ts (some (unitsF ts d)))
def unitF (ts : List Tok) : Nat → PS → PR Ex
 | 0 => unitW ts none
 | d + 1 => unitW ts (some (unitsF ts d))
theorem unitsF_eq (ts : List Tok) (d : Nat) : unitsF ts d = unitsW ts (unitF ts d) := by cases d <;> rfl
def exprF (ts : List Tok) (s : PS) : PR Ex := unitsF ts 14 { s with o := 0, l := 0 }
abbrev MemB := List UInt8 × Int × List AlB × Ex
def wRelB : List UInt8 := wRel.data.toList
def wPermB : List UInt8 := wPerm.data.toList
def wDefB : List UInt8 := wDef.data.toList
def memberF (ts : List Tok) (s : PS) : PR MemB :=
 if txt ts s.i = wRelB then (nameF ts s.up).then fun n s1 => (wantF ts [58] s1).then fun _ s2 => (typesF ts 33 [] s2).then fun l s3 => (wantF ts [59] s3).then fun _ s4 => .ok (n, 1, l, ex0) s4
 else (wantF ts wPermB s).then fun _ s0 => (nameF ts s0).then fun n s1 => (wantF ts [61] s1).then fun _ s2 => (exprF ts s2).then fun e s3 => (wantF ts [59] s3).then fun _ s4 => .ok (n, 2, [], e) s4
def membersF (ts : List Tok) : Nat → List MemB → PS → PR (List MemB)
 | 0, acc, s => .ok acc s
 | n + 1, acc, s => if txt ts s.i = wRelB ∨ txt ts s.i = wPermB then if acc.length < 64 then (memberF ts s).then fun m s1 => membersF ts n (acc ++ [m]) s1 else .bad 15 s.i else .ok acc s
abbrev DefB := List UInt8 × List MemB
def defF (ts : List Tok) (s : PS) : PR DefB :=
 (wantF ts wDefB s).then fun _ s0 => (nameF ts s0).then fun n s1 => (wantF ts [123] s1).then fun _ s2 => (membersF ts 65 [] s2).then fun l s3 => (wantF ts [125] s3).then fun _ s4 => .ok (n, l) s4
def defsF (ts : List Tok) : Nat → List DefB → PS → PR (List DefB)
 | 0, acc, s => .ok acc s
 | n + 1, acc, s => if txt ts s.i = wDefB then if acc.length < 64 then (defF ts s).then fun d s1 => defsF ts n (acc ++ [d]) s1 else .bad 15 s.i else .ok acc s
def endF {α : Type} (ts : List Tok) (r : PR α) : PR α := r.then fun x s => if (ts.getD s.i tok0).1 = 3 then .ok x s else .bad 6 s.i

/-! ### The place stays within the tokens -/
theorem OkTs.step {ts : List Tok} (h : OkTs ts) {i : Nat} (ht : txt ts i ≠ []) : i + 1 < ts.length := by
 obtain ⟨us, e, rfl, he, hu⟩ := h
 rcases Nat.lt_trichotomy i us.length with h1 | h1 | h1
 ·rw [List.length_append, List.length_singleton]; omega
 ·refine absurd ?_ ht
  subst h1
  unfold txt
  rw [List.getD_eq_getElem?_getD, List.getElem?_append_right (Nat.le_refl _), Nat.sub_self]
  exact (Prod.mk.inj he).2
 ·refine absurd ?_ ht
  unfold txt
  rw [List.getD_eq_getElem?_getD, List.getElem?_eq_none (by rw [List.length_append, List.length_singleton]; omega)]
  rfl
theorem name_ne {t : List UInt8} (h : isName (bstr t) = true) : t ≠ [] := by
 rintro rfl
 exact absurd h (by decide +kernel)
def Keeps {α : Type} (ts : List Tok) (f : PS → PR α) : Prop := ∀ s x s', s.i < ts.length → f s = .ok x s' → s'.i < ts.length ∧ s'.o = s.o ∧ s.i ≤ s'.i ∧ s.l ≤ s'.l ∧ (s.l ≤ 32 → s'.l ≤ 32)
theorem keeps_name {ts : List Tok} (h : OkTs ts) : Keeps ts (nameF ts) := by
 intro s x s' hs e
 unfold nameF at e
 split at e
 ·rename_i hn
  cases e
  exact ⟨h.step (name_ne hn), rfl, Nat.le_succ _, Nat.le_refl _, fun h => h⟩
 ·cases e
theorem keeps_want {ts : List Tok} (h : OkTs ts) {t : List UInt8} (ht : t ≠ []) : Keeps ts (wantF ts t) := by
 intro s x s' hs e
 unfold wantF at e
 split at e
 ·rename_i hn
  cases e
  exact ⟨h.step (by rw [hn]; exact ht), rfl, Nat.le_succ _, Nat.le_refl _, fun h => h⟩
 ·cases e
theorem then_some {α β : Type} {r : PR α} {f : α → PS → PR β} {x : β} {s : PS} (h : r.then f = .ok x s) : ∃ y s1, r = .ok y s1 ∧ f y s1 = .ok x s := by
 cases r with
 | ok y s1 => exact ⟨y, s1, rfl, h⟩
 | bad c i => cases h
theorem keeps_allowed {ts : List Tok} (h : OkTs ts) : Keeps ts (allowedF ts) := by
 intro s x s' hs e
 unfold allowedF at e
 obtain ⟨a, s1, e1, e2⟩ := then_some e
 have k1 := keeps_name h s a s1 hs e1
 split at e2
 ·rename_i ht
  obtain ⟨r, s2, e3, e4⟩ := then_some e2
  have k2 := keeps_name h s1.up r s2 (h.step (by rw [ht]; simp)) e3
  cases e4
  have : s1.up.i = s1.i + 1 := rfl
  exact ⟨k2.1, k2.2.1.trans k1.2.1, by omega, Nat.le_trans k1.2.2.2.1 k2.2.2.2.1, fun h0 => k2.2.2.2.2 (k1.2.2.2.2 h0)⟩
 ·cases e2
  exact k1
theorem keeps_types {ts : List Tok} (h : OkTs ts) : ∀ (n : Nat) (acc : List AlB), Keeps ts (typesF ts n acc)
 | 0, acc => fun s x s' hs e => by unfold typesF at e; cases e; exact ⟨hs, rfl, Nat.le_refl _, Nat.le_refl _, fun h => h⟩
 | n + 1, acc => fun s x s' hs e => by
  unfold typesF at e
  split at e
  ·cases e
  obtain ⟨a, s1, e1, e2⟩ := then_some e
  have k1 := keeps_allowed h s a s1 hs e1
  split at e2
  ·rename_i ht
   have k2 := keeps_types h n _ s1.up x s' (h.step (by rw [ht]; simp)) e2
   have : s1.up.i = s1.i + 1 := rfl
   exact ⟨k2.1, k2.2.1.trans k1.2.1, by omega, Nat.le_trans k1.2.2.2.1 k2.2.2.2.1, fun h0 => k2.2.2.2.2 (k1.2.2.2.2 h0)⟩
  ·cases e2
   exact k1
theorem keeps_unitW {ts : List Tok} (h : OkTs ts) {U : Option (PS → PR Ex)} (hU : ∀ u, U = some u → Keeps ts u) : Keeps ts (unitW ts U) := by
 intro s x s' hs e
 unfold unitW at e
 split at e
 ·rename_i ht
  cases U with
  | none => cases e
  | some u =>
   obtain ⟨y, s1, e1, e2⟩ := then_some e
   have k1 := hU u rfl _ y s1 (h.step (by rw [ht]; simp)) e1
   obtain ⟨_, s2, e3, e4⟩ := then_some e2
   have k2 := keeps_want h (by simp) s1 _ s2 k1.1 e3
   cases e4
   have e5 : s1.o = s.o + 1 := k1.2.1
   have e6 : s.i + 1 ≤ s1.i := k1.2.2.1
   refine ⟨k2.1, ?_, ?_, Nat.le_trans k1.2.2.2.1 k2.2.2.2.1, fun h0 => k2.2.2.2.2 (k1.2.2.2.2 h0)⟩
   ·show s2.o - 1 = s.o
    rw [k2.2.1, e5]; rfl
   ·show s.i ≤ s2.i
    have := k2.2.2.1
    omega
 ·split at e
  ·rename_i hn
   have st := h.step (name_ne hn)
   split at e
   ·rename_i hl
    split at e
    ·rename_i ht
     obtain ⟨r, s2, e1, e2⟩ := then_some e
     have k2 := keeps_name h _ r s2 (show s.i + 2 < ts.length from h.step (i := s.i + 1) (by rw [ht]; simp)) e1
     cases e2
     have a1 : s.i + 2 ≤ s'.i := k2.2.2.1
     have a2 : s.l + 1 ≤ s'.l := k2.2.2.2.1
     exact ⟨k2.1, k2.2.1, by omega, by omega, fun _ => k2.2.2.2.2 (show s.l + 1 ≤ 32 by omega)⟩
    ·cases e
     exact ⟨st, rfl, Nat.le_succ _, Nat.le_succ _, fun _ => show s.l + 1 ≤ 32 by omega⟩
   ·cases e
  ·cases e
theorem opK_ne {t : List UInt8} (h : opK t ≠ 0) : t ≠ [] := by
 rintro rfl
 exact h rfl
theorem keeps_loopW {ts : List Tok} (h : OkTs ts) {U : PS → PR Ex} (hU : Keeps ts U) {sg : List UInt8} (hg : sg ≠ []) : ∀ (n : Nat) (acc : List Ex), Keeps ts (loopW ts U sg n acc)
 | 0, acc => fun s x s' hs e => by unfold loopW at e; cases e; exact ⟨hs, rfl, Nat.le_refl _, Nat.le_refl _, fun h => h⟩
 | n + 1, acc => fun s x s' hs e => by
  unfold loopW at e
  split at e
  ·rename_i ht
   obtain ⟨a, s1, e1, e2⟩ := then_some e
   have k1 := hU s.up a s1 (h.step (by rw [ht]; exact hg)) e1
   have a1 : s.i + 1 ≤ s1.i := k1.2.2.1
   split at e2
   ·cases e2
    exact ⟨k1.1, k1.2.1, by omega, k1.2.2.2.1, k1.2.2.2.2⟩
   ·have k2 := keeps_loopW h hU hg n _ s1 x s' k1.1 e2
    exact ⟨k2.1, k2.2.1.trans k1.2.1, by have := k2.2.2.1; omega, Nat.le_trans k1.2.2.2.1 k2.2.2.2.1, fun h0 => k2.2.2.2.2 (k1.2.2.2.2 h0)⟩
  ·cases e
   exact ⟨hs, rfl, Nat.le_refl _, Nat.le_refl _, fun h => h⟩
theorem keeps_unitsW {ts : List Tok} (h : OkTs ts) {U : PS → PR Ex} (hU : Keeps ts U) : Keeps ts (unitsW ts U) := by
 intro s x s' hs e
 unfold unitsW at e
 obtain ⟨a, s1, e1, e2⟩ := then_some e
 have k1 := hU s a s1 hs e1
 split at e2
 ·cases e2; exact k1
 ·rename_i ho
  obtain ⟨ks, s2, e3, e4⟩ := then_some e2
  have k2 := keeps_loopW h hU (opK_ne ho) _ _ s1 ks s2 k1.1 e3
  cases e4
  exact ⟨k2.1, k2.2.1.trans k1.2.1, Nat.le_trans k1.2.2.1 k2.2.2.1, Nat.le_trans k1.2.2.2.1 k2.2.2.2.1, fun h0 => k2.2.2.2.2 (k1.2.2.2.2 h0)⟩
theorem keeps_units {ts : List Tok} (h : OkTs ts) : ∀ d : Nat, Keeps ts (unitsF ts d)
 | 0 => keeps_unitsW h (keeps_unitW h fun u e => by cases e)
 | d + 1 => keeps_unitsW h (keeps_unitW h fun u e => by cases e; exact keeps_units h d)
theorem keeps_unit {ts : List Tok} (h : OkTs ts) : ∀ d : Nat, Keeps ts (unitF ts d)
 | 0 => by
  show Keeps ts (unitW ts none)
  exact keeps_unitW h fun u e => by cases e
 | d + 1 => by
  show Keeps ts (unitW ts (some (unitsF ts d)))
  exact keeps_unitW h fun u e => by cases e; exact keeps_units h d
def GoodU (D : Nat) (f : PS → PR Ex) : Prop := ∀ s x s', f s = .ok x s' → formE x = true ∧ depthE x ≤ D ∧ (leavesE x).length + s.l = s'.l ∧ okE 64 x ∧ sizeE x + 1 ≤ 2 * (leavesE x).length
theorem GoodU.le {D D' : Nat} {f : PS → PR Ex} (h : GoodU D f) (hd : D ≤ D') : GoodU D' f := fun s x s' e => by
 obtain ⟨h1, h2, h3⟩ := h s x s' e
 exact ⟨h1, Nat.le_trans h2 hd, h3⟩
theorem name_len {t : List UInt8} (h : isName (bstr t) = true) : t.length ≤ 64 := by
 unfold isName at h
 simp only [Bool.and_eq_true] at h
 have := of_decide_eq_true h.1.1
 have h2 := this.2.1
 rw [bstr_data] at h2
 exact h2
theorem name_some {ts : List Tok} {s : PS} {r : List UInt8} {s' : PS} (e : nameF ts s = .ok r s') : isName (bstr r) = true ∧ s' = s.up := by
 unfold nameF at e
 split at e
 ·rename_i hn
  cases e
  exact ⟨hn, rfl⟩
 ·cases e
theorem want_some {ts : List Tok} {t : List UInt8} {s : PS} {u : Unit} {s' : PS} (e : wantF ts t s = .ok u s') : s' = s.up := by
 unfold wantF at e
 split at e
 ·cases e; rfl
 ·cases e
theorem good_unitW {ts : List Tok} {D : Nat} {U : Option (PS → PR Ex)} (hD : 1 ≤ D) (hU : ∀ u, U = some u → GoodU D u) : GoodU D (unitW ts U) := by
 intro s x s' e
 unfold unitW at e
 split at e
 ·cases U with
  | none => cases e
  | some u =>
   obtain ⟨y, s1, e1, e2⟩ := then_some e
   obtain ⟨_, s2, e3, e4⟩ := then_some e2
   have := want_some e3
   subst this
   cases e4
   have g := hU u rfl _ _ _ e1
   exact g
 ·split at e
  ·rename_i hn
   split at e
   ·split at e
    ·obtain ⟨r, s2, e1, e2⟩ := then_some e
     obtain ⟨hr, rfl⟩ := name_some e1
     cases e2
     have h1 := name_len hn
     have h2 := name_len hr
     refine ⟨?_, ?_, ?_, ?_, ?_⟩
     ·simp [formE, formL, partB, hn, hr]
     ·simp only [depthE, depthL]; omega
     ·rw [leaves_leaf rfl]
      show 1 + s.l = s.l + 1
      omega
     ·exact ⟨h1, h2, trivial⟩
     ·rw [leaves_leaf rfl]; simp [sizeE, sizeL]
    ·cases e
     have h1 := name_len hn
     refine ⟨?_, ?_, ?_, ?_, ?_⟩
     ·simp [formE, formL, partB, hn]
     ·simp only [depthE, depthL]; omega
     ·rw [leaves_leaf rfl]
      show 1 + s.l = s.l + 1
      omega
     ·exact ⟨by simp, h1, trivial⟩
     ·rw [leaves_leaf rfl]; simp [sizeE, sizeL]
   ·cases e
  ·cases e
theorem sizeL_snoc : ∀ (ks : List Ex) (e : Ex), sizeL (ks ++ [e]) = sizeL ks + sizeE e
 | [], e => by simp [sizeL]
 | a :: r, e => by rw [List.cons_append, sizeL, sizeL_snoc r e, sizeL]; omega
theorem formL_snoc : ∀ (ks : List Ex) (e : Ex), formL (ks ++ [e]) = (formL ks && formE e)
 | [], e => by simp [formL]
 | a :: r, e => by rw [List.cons_append, formL, formL_snoc r e, formL, Bool.and_assoc]
theorem okL_snoc : ∀ (M : Nat) (ks : List Ex) (e : Ex), okL M ks → okE M e → okL M (ks ++ [e])
 | M, [], e, _, h => ⟨h, trivial⟩
 | M, a :: r, e, h, h2 => by
  unfold okL at h
  rw [List.cons_append]
  exact ⟨h.1, okL_snoc M r e h.2 h2⟩
def GoodL (D : Nat) (ks : List Ex) (n : Nat) : Prop := formL ks = true ∧ depthL ks ≤ D ∧ (leavesL ks).length = n ∧ okL 64 ks ∧ sizeL ks + ks.length ≤ 2 * n
theorem GoodL.snoc {D n : Nat} {ks : List Ex} {e : Ex} {m : Nat} (h : GoodL D ks n) (h1 : formE e = true) (h2 : depthE e ≤ D) (h3 : (leavesE e).length + n = m) (h4 : okE 64 e) (h5 : sizeE e + 1 ≤ 2 * (leavesE e).length) : GoodL D (ks ++ [e]) m := by
 obtain ⟨g1, g2, g3, g4, g5⟩ := h
 refine ⟨by rw [formL_snoc, g1, h1]; rfl, by rw [depthL_snoc]; omega, by rw [leavesL_snoc, List.length_append]; omega, okL_snoc _ _ _ g4 h4, ?_⟩
 rw [sizeL_snoc, List.length_append, List.length_singleton]
 omega
theorem good_loopW {ts : List Tok} {D : Nat} {U : PS → PR Ex} (hU : GoodU D U) (sg : List UInt8) (b : Nat) : ∀ (n : Nat) (acc : List Ex) (s : PS) (ks : List Ex) (s' : PS), b ≤ s.l → GoodL D acc (s.l - b) → loopW ts U sg n acc s = .ok ks s' →
  b ≤ s'.l ∧ GoodL D ks (s'.l - b) ∧ (0 < n → txt ts s.i = sg → if opK sg = 5 then ks.length = acc.length + 1 else acc.length + 1 ≤ ks.length) ∧ acc.length ≤ ks.length
 | 0, acc, s, ks, s', hb, hg, e => by
  unfold loopW at e
  cases e
  exact ⟨hb, hg, fun h => absurd h (by omega), Nat.le_refl _⟩
 | n + 1, acc, s, ks, s', hb, hg, e => by
  unfold loopW at e
  split at e
  ·rename_i ht
   obtain ⟨a, s1, e1, e2⟩ := then_some e
   obtain ⟨h1, h2, h3, h4, h5⟩ := hU s.up a s1 e1
   have h3' : (leavesE a).length + s.l = s1.l := h3
   have hg2 : GoodL D (acc ++ [a]) (s1.l - b) := hg.snoc h1 h2 (by omega) h4 h5
   split at e2
   ·rename_i h6
    cases e2
    exact ⟨by omega, hg2, fun _ _ => by rw [if_pos h6]; simp, by simp⟩
   ·rename_i h6
    obtain ⟨k1, k2, k3, k4⟩ := good_loopW hU sg b n (acc ++ [a]) s1 ks s' (by omega) hg2 e2
    rw [List.length_append, List.length_singleton] at k4
    exact ⟨k1, k2, fun _ _ => by rw [if_neg h6]; exact k4, by omega⟩
  ·rename_i ht
   cases e
   exact ⟨hb, hg, fun _ h => absurd h ht, Nat.le_refl _⟩
theorem opK_cases (t : List UInt8) (h : opK t ≠ 0) : opK t = 3 ∨ opK t = 4 ∨ opK t = 5 := by
 unfold opK at h ⊢
 split
 ·exact .inl rfl
 ·split
  ·exact .inr (.inl rfl)
  ·split
   ·exact .inr (.inr rfl)
   ·rename_i h1 h2 h3
    rw [if_neg h1, if_neg h2, if_neg h3] at h
    exact absurd rfl h
theorem good_unitsW {ts : List Tok} (ht : 0 < ts.length) {D : Nat} {U : PS → PR Ex} (hU : GoodU D U) : GoodU (D + 1) (unitsW ts U) := by
 intro s x s' e
 unfold unitsW at e
 obtain ⟨a, s1, e1, e2⟩ := then_some e
 have g1 := hU s a s1 e1
 split at e2
 ·cases e2
  exact ⟨g1.1, Nat.le_succ_of_le g1.2.1, g1.2.2⟩
 ·rename_i ho
  obtain ⟨ks, s2, e3, e4⟩ := then_some e2
  cases e4
  obtain ⟨h1, h2, h3, h4, h5⟩ := g1
  have h0 : GoodL D [a] (s1.l - s.l) := by
   have : (leavesE a).length = s1.l - s.l := by omega
   refine ⟨by simp [formL, h1], by simp [depthL]; omega, by simp [leavesL]; omega, ⟨h4, trivial⟩, by simp only [sizeL, List.length_singleton]; omega⟩
  obtain ⟨k1, k2, k3, k4⟩ := good_loopW (ts := ts) hU (txt ts s1.i) s.l ts.length [a] s1 ks s' (by omega) h0 e3
  have k5 := k3 ht rfl
  obtain ⟨q1, q2, q3, q4, q5⟩ := k2
  have hlf : leafK (opK (txt ts s1.i)) = false := by rcases opK_cases _ ho with h | h | h <;> rw [h] <;> rfl
  have hlv : leavesE (.mk (opK (txt ts s1.i)) [] [] ks) = leavesL ks := leaves_kids (by rw [hlf]; simp)
  have hlen : 2 ≤ ks.length ∧ (opK (txt ts s1.i) = 5 → ks.length = 2) := by
   split at k5
   ·rename_i h; exact ⟨by rw [k5]; simp, fun _ => by rw [k5]; rfl⟩
   ·rename_i h; exact ⟨by simpa using k5, fun h' => absurd h' h⟩
  refine ⟨?_, ?_, ?_, ⟨by simp, by simp, q4⟩, ?_⟩
  ·rw [formE, q1, Bool.and_true]
   unfold partB
   rcases opK_cases _ ho with h | h | h
   ·rw [h]; simp [hlen.1]
   ·rw [h]; simp [hlen.1]
   ·rw [h]; simp [hlen.2 h]
  ·rw [depthE]; omega
  ·rw [hlv]; omega
  ·rw [hlv, sizeE]
   have := hlen.1
   omega
theorem good_units {ts : List Tok} (ht : 0 < ts.length) : ∀ d : Nat, GoodU (d + 2) (unitsF ts d)
 | 0 => good_unitsW ht (good_unitW (by omega) fun u e => by cases e)
 | d + 1 => good_unitsW ht (good_unitW (by omega) fun u e => by cases e; exact good_units ht d)
theorem expr_right {ts : List Tok} (h : OkTs ts) {s : PS} (hs : s.i < ts.length) {e : Ex} {s' : PS} (he : exprF ts s = .ok e s') : rightE e = true ∧ okE 64 e ∧ sizeE e ≤ 64 := by
 obtain ⟨h1, h2, h3, h4, h5⟩ := good_units (by omega) 14 _ e s' he
 obtain ⟨_, _, _, _, k⟩ := keeps_units h 14 { s with o := 0, l := 0 } e s' hs he
 have k2 : s'.l ≤ 32 := k (Nat.zero_le _)
 have h3' : (leavesE e).length + 0 = s'.l := h3
 refine ⟨?_, h4, by omega⟩
 unfold rightE
 rw [h1, decide_eq_true (show (leavesE e).length ≤ 32 by omega), decide_eq_true (show depthE e ≤ 16 by omega)]
 rfl
end Go.Proofs.YtkildckeikedhaaGreatDoor
namespace Go.Proofs.YtkildckeikedhaaGreatDoor
open Go.ChangeShapes Go.WideShapes Go.ChangeAt Go.RowKit
set_option linter.unusedVariables false

theorem join_snoc1 (x : List UInt8) (sep : List UInt8) : Lib.join ([] ++ [x]) sep = x := Lib.join_one x sep
theorem join_snoc {xs : List (List UInt8)} (h : xs ≠ []) (x sep : List UInt8) : Lib.join (xs ++ [x]) sep = (Lib.join xs sep ++ sep) ++ x := by
  cases xs with
  | nil => exact absurd rfl h
  | cons y r => rw [List.cons_append, Lib.join_cons, Lib.join_cons]; simp [Lib.joinTail]
def StrRow (base : Nat) (w : World) (v : Value) (xs : List (List UInt8)) : Prop := w.ownsRow base 9 1 v xs.length (xs.map fun x => .string (bstr x))
theorem Tryz.infoStr : (Tryz.prog.info? 9).map (fun i => (i.zero, i.size, i.bytes)) = some (some (.string ByteArray.empty), 1, 16) := by kernel_rfl
theorem app_str {ops : Array Oper} {rest : List Oper} {o : Oper} {a : Act} {Q : Exit → Act → World → Prop} {w : World} (hgd : o.guard = none) (s x : Operand) (ho : o.op = .call { callee := .builtin .append, args := #[s, x], argTypes := #[75, 75] })
    {base n : Nat} {v : Value} {xs : List (List UInt8)} {t : List UInt8} (hs : a.eval s = v) (hown : StrRow base w v xs) (hx : a.eval x = .slice (some ⟨n, 0, none⟩) 1 1) (hc : Arr w 9 n [.string (bstr t)])
    (hlen : xs.length + 1 ≤ 1000000) (hbase : base ≤ w.heap.size)
    (h : ∀ v' w', StrRow base w' v' (xs ++ [t]) → Below base w w' → wpList Tryz.prog ops Q rest (a.put o.dst v') w') : wpList Tryz.prog ops Q (o :: rest) a w := by
  obtain ⟨i0, hi, hz0, hz1, hz2⟩ := info_parts Tryz.infoStr
  refine wpList_append_own w hgd s x 75 ho base 9 i0 _ 1 16 Tryz.underlying75 hi hz0 hz1 hz2 rfl (by decide) v xs.length _ hs hown ⟨n, 0, none⟩ 1 1 [.string (bstr t)] hx rfl ?_ (fun u hu => by obtain rfl := List.mem_singleton.1 hu; rfl) (by unfold maxLen; omega) (by omega) hbase ?_
  · intro j u hu
    have := hc.cell j
    rw [hu] at this
    cases j <;> simpa [Addr.add] using this
  · intro v' w' r1 r2 _
    refine h v' w' ?_ ((Below.refl _ _).grown r2 hbase (fun k hk => (hown.lt k hk).1))
    show w'.ownsRow base 9 1 v' (xs ++ [t]).length ((xs ++ [t]).map fun x => .string (bstr x))
    rw [List.length_append, List.map_append]
    exact r1
theorem StrRow.later {base : Nat} {w w' : World} {v : Value} {xs : List (List UInt8)} (h : StrRow base w v xs) (hb : Below w.heap.size w w') : StrRow base w' v xs := by
  refine ⟨h.1, ?_⟩
  rcases h.2 with h | ⟨g, cap, cur, rfl, h0, h1, r⟩
  · exact .inl h
  · exact .inr ⟨g, cap, cur, rfl, h0, (hb.block g (Array.getElem?_eq_some_iff.1 h1).1).trans h1, r⟩
theorem StrRow.join {base : Nat} {w : World} {v : Value} {xs : List (List UInt8)} (sep : List UInt8) (h : StrRow base w v xs) (hl : (Lib.join xs sep).length ≤ 1000000000) (hx : xs.length ≤ 1000000) :
    Calls Tryz.prog 44 #[v, .string (bstr sep)] w fun e w' => e = .returned (.string (bstr (Lib.join xs sep))) ∧ Below w.heap.size w w' := by
  rcases h.2 with ⟨rfl, hn⟩ | ⟨g, cap, cur, rfl, h0, h1, h2, h3, h4, h5⟩
  · obtain rfl : xs = [] := List.eq_nil_of_length_eq_zero hn
    exact (Tryz.strings_Join_none none 0 (bstr sep) w).mono fun e w' ⟨h1, h2⟩ => ⟨by rw [h1]; rfl, h2 ▸ Below.refl _ _⟩
  · have hm : (xs.map bstr).map (·.data.toList) = xs := by rw [List.map_map]; exact (List.map_congr_left fun a _ => rfl).trans (List.map_id xs)
    have hj := Tryz.strings_Join g 0 cap (xs.map bstr) (bstr sep) w (fun j x hx => by
      rw [Nat.zero_add, cell_of_row w g j cur _ (0, 0) h1, ← Array.getElem?_toList]
      have h6 : (xs.map fun x => Value.string (bstr x))[j]? = some (.string x) := by
        rw [List.getElem?_map] at hx ⊢
        cases hxj : xs[j]? with
        | none => rw [hxj] at hx; cases hx
        | some y => rw [hxj] at hx; simp at hx; simp [hx]
      have h7 := (List.getElem?_eq_some_iff.1 hx).1
      rw [← h6, ← h5, List.getElem?_take, if_pos (by simp at h7; omega)]) (Array.getElem?_eq_some_iff.1 h1).1 (by simp; omega) (by simp; omega) (by rw [hm, bstr_data]; exact Nat.le_trans hl (by omega))
    rw [hm, List.length_map, bstr_data] at hj
    exact hj
theorem StrRow.form {base : Nat} {w : World} {v : Value} {xs : List (List UInt8)} (h : StrRow base w v xs) : ∃ q c, v = .slice q xs.length c := by
  rcases h.2 with ⟨h, hn⟩ | ⟨g, cap, cur, hv, _⟩
  · exact ⟨none, 0, by rw [hn]; exact h⟩
  · exact ⟨_, _, hv⟩
def wrapT (k : Int) (t : List UInt8) : List UInt8 := if leafK k = true then t else 40 :: (t ++ [41])
mutual
def textE : Ex → List UInt8
 | .mk k v n ks => if k = 1 then n else if k = 2 then v ++ (45 :: 62 :: n) else Lib.join (textL ks) (sgK k)
def textL : List Ex → List (List UInt8)
 | [] => []
 | e :: r => wrapT e.kind (textE e) :: textL r
end
mutual
def wE : Ex → Nat
 | .mk _ v n ks => v.length + n.length + 8 + wL ks
def wL : List Ex → Nat
 | [] => 0
 | e :: r => wE e + wL r
end
theorem sgK_len (k : Int) : (sgK k).length = 3 := by unfold sgK; split; rfl; split <;> rfl
theorem wrapT_len (k : Int) (t : List UInt8) : (wrapT k t).length ≤ t.length + 2 := by
 unfold wrapT; split
 ·omega
 ·simp
mutual
theorem textE_len : ∀ e : Ex, (textE e).length + 5 ≤ wE e
 | .mk k v n ks => by
  unfold textE wE
  split
  ·omega
  ·split
   ·simp only [List.length_append, List.length_cons]; omega
   ·have := textJ_len (sgK k) (by rw [sgK_len]; exact Nat.le_refl _) ks; omega
theorem textJ_len (sep : List UInt8) (hs : sep.length ≤ 3) : ∀ ks : List Ex, (Lib.join (textL ks) sep).length ≤ wL ks
 | [] => by simp [textL, Lib.join_nil]
 | e :: r => by
  unfold textL wL
  rw [Lib.join_cons, List.length_append]
  have h1 := textE_len e
  have h2 := wrapT_len e.kind (textE e)
  have h3 := textT_len sep hs r
  omega
theorem textT_len (sep : List UInt8) (hs : sep.length ≤ 3) : ∀ ks : List Ex, (Lib.joinTail sep (textL ks)).length ≤ wL ks
 | [] => by simp [textL, Lib.joinTail]
 | e :: r => by
  unfold textL wL
  have e2 : Lib.joinTail sep (wrapT e.kind (textE e) :: textL r) = (sep ++ wrapT e.kind (textE e)) ++ Lib.joinTail sep (textL r) := by simp [Lib.joinTail]
  rw [e2, List.length_append, List.length_append]
  have h1 := textE_len e
  have h2 := wrapT_len e.kind (textE e)
  have h3 := textT_len sep hs r
  omega
end
theorem textL_snoc : ∀ (ks : List Ex) (e : Ex), textL (ks ++ [e]) = textL ks ++ [wrapT e.kind (textE e)]
 | [], e => by simp [textL]
 | a :: r, e => by rw [List.cons_append]; unfold textL; rw [textL_snoc r e]; rfl
theorem textL_length : ∀ ks : List Ex, (textL ks).length = ks.length
 | [] => rfl
 | e :: r => by unfold textL; rw [List.length_cons, List.length_cons, textL_length r]
theorem wL_get : ∀ (ks : List Ex) (i : Nat), i < ks.length → wE (ks.getD i ex0) ≤ wL ks
 | [], i, h => by simp at h
 | e :: r, 0, _ => by unfold wL; exact Nat.le_add_right _ _
 | e :: r, i + 1, h => by
  unfold wL
  exact Nat.le_trans (wL_get r i (by simpa using h)) (Nat.le_add_left _ _)
mutual
theorem wE_le (M : Nat) : ∀ e : Ex, okE M e → wE e ≤ sizeE e * (2 * M + 8)
 | .mk k v n ks, h => by
  unfold okE at h
  unfold wE sizeE
  have := wL_le M ks h.2.2
  rw [Nat.add_mul]
  omega
theorem wL_le (M : Nat) : ∀ ks : List Ex, okL M ks → wL ks ≤ sizeL ks * (2 * M + 8)
 | [], _ => by unfold wL; omega
 | e :: r, h => by
  unfold okL at h
  unfold wL sizeL
  have h1 := wE_le M e h.1
  have h2 := wL_le M r h.2
  rw [Nat.add_mul]
  omega
end
theorem textE_one {k : Int} {v n : List UInt8} {ks : List Ex} (h : k = 1) : textE (.mk k v n ks) = n := by unfold textE; rw [if_pos h]
theorem textE_two {k : Int} {v n : List UInt8} {ks : List Ex} (h : k = 2) : textE (.mk k v n ks) = v ++ (45 :: 62 :: n) := by unfold textE; rw [if_neg (by omega), if_pos h]
theorem textE_more {k : Int} {v n : List UInt8} {ks : List Ex} (h1 : ¬ k = 1) (h2 : ¬ k = 2) : textE (.mk k v n ks) = Lib.join (textL ks) (sgK k) := by unfold textE; rw [if_neg h1, if_neg h2]

set_option maxRecDepth 100000 in
set_option maxHeartbeats 4000000 in
theorem text_any : ∀ (n : Nat) (e : Ex) (v : Value) (P : Nat → Prop) (w : World), sizeE e ≤ n → sizeE e ≤ 900000 → wE e ≤ 900000000 → RdE P w e v → (∀ b, P b → b < w.heap.size) → Calls Tryz.prog 66 #[v] w fun r w' => r = .returned (.string (bstr (textE e))) ∧ Below w.heap.size w w' := by
 intro n
 induction n with
 | zero => intro e v P w h; have := sizeE_pos e; omega
 | succ n ih =>
  intro e v P w hn hm hwt h hP
  obtain ⟨q, c, rfl, hc, hk⟩ := h.form
  obtain ⟨k, xv, xn, ks⟩ := e
  unfold exv
  show Calls _ _ #[.agg #[.int .i64 k, .string (bstr xv), .string (bstr xn), .slice q ks.length c]] _ _
  have HK : Hid (0 < ks.length → ∃ b o, q = some ⟨b, o, none⟩ ∧ P b ∧ RdL P w ks b o) := hk
  have hks : sizeL ks ≤ n := by unfold sizeE at hn; omega
  have hkm : sizeL ks ≤ 900000 := by unfold sizeE at hm; omega
  have hkw : wL ks ≤ 900000000 := by unfold wE at hwt; omega
  have hvl : xv.length ≤ 900000000 := by unfold wE at hwt; omega
  have hnl : xn.length ≤ 900000000 := by unfold wE at hwt; omega
  have hlen := sizeL_len ks
  have HIH := hiD ih
  have HB0 : Hid (Below w.heap.size w (w.alloc (.cells #[.int .i64 k, .string (bstr xv), .string (bstr xn), .slice q ks.length c] 46))) := (Below.refl _ _).alloc (Nat.le_refl _) _
  have HA0 : Hid (Arr (w.alloc (.cells #[.int .i64 k, .string (bstr xv), .string (bstr xn), .slice q ks.length c] 46)) 46 w.heap.size [.int .i64 k, .string (bstr xv), .string (bstr xn), .slice q ks.length c]) := Arr.new' _ _ _ _ rfl
  clear h ih hc hk hn hm hwt
  by_cases h1 : k = 1
  ·have b1 : (k == 1) = true := by rw [h1]; rfl
   have HT : Hid (textE (.mk k xv xn ks) = xn) := textE_one h1
   clear h1
   go_enter Tryz.func66, Tryz.ntmps66
   go_wp2_with fail
   go_ret
   exact ⟨by rw [HT.out]; rfl, HB0.out⟩
  have b1 : (k == 1) = false := by rw [beq_eq_false_iff_ne]; exact h1
  by_cases h2 : k = 2
  ·have b2 : (k == 2) = true := by rw [h2]; rfl
   have HT : Hid (textE (.mk k xv xn ks) = xv ++ (45 :: 62 :: xn)) := textE_two h2
   clear h1 h2
   obtain ⟨sv, hsv⟩ : ∃ s, s = bstr xv := ⟨_, rfl⟩
   obtain ⟨sn, hsn⟩ : ∃ s, s = bstr xn := ⟨_, rfl⟩
   have z1 : (sv.size : Int) ≤ 900000000 := by rw [hsv, bstr_size]; omega
   have z2 : (sn.size : Int) ≤ 900000000 := by rw [hsn, bstr_size]; omega
   have HE : Hid (bstr (xv ++ (45 :: 62 :: xn)) = sv ++ ⟨#[45, 62]⟩ ++ sn) := by
    show _ = _
    rw [hsv, hsn, show (⟨#[45, 62]⟩ : ByteArray) = bstr [45, 62] from rfl, bstr_app, bstr_app, List.append_assoc]; rfl
   rw [← hsv, ← hsn] at HB0 HA0 ⊢
   clear hsv hsn
   go_enter Tryz.func66, Tryz.ntmps66
   go_wp2_with fail
   go_ret
   exact ⟨by rw [HT.out, HE.out]; rfl, HB0.out⟩
  have b2 : (k == 2) = false := by rw [beq_eq_false_iff_ne]; exact h2
  have HT : Hid (textE (.mk k xv xn ks) = Lib.join (textL ks) (sgK k)) := textE_more h1 h2
  clear h1 h2
  go_enter Tryz.func66, Tryz.ntmps66
  go_wp2_with fail
  go_loopw [3, 24] (fun tv iv wr => ∃ i : Nat, i ≤ ks.length ∧ iv = .int .i64 i ∧ Hid (StrRow (w.heap.size + 1) wr tv (textL (ks.take i)) ∧ Below w.heap.size w wr ∧ Arr wr 46 w.heap.size [.int .i64 k, .string (bstr xv), .string (bstr xn), .slice q ks.length c] ∧ w.heap.size + 1 ≤ wr.heap.size)) (fun _ iv _ => ks.length - (intOf iv).toNat)
  case atStart => exact ⟨0, Nat.zero_le _, rfl, World.ownsRow_nil _ _ _ _, HB0.out, HA0.out, by simp⟩
  case round =>
   obtain ⟨i, hi, rfl, HI2⟩ := hrel
   have HI := hiD HI2.out.2.1
   have HAI := hiD HI2.out.2.2.1
   have HSZ := hiD HI2.out.2.2.2
   have HRW := hiD HI2.out.1
   obtain ⟨qv, cv, rfl⟩ := HI2.out.1.form
   clear HI2
   have hi0 : (0 : Int) ≤ i := by omega
   by_cases hlt : i < ks.length
   ·have hi1 : (i : Int) < ks.length := by omega
    obtain ⟨ba, oa, rfl, hba, hl⟩ := HK.out (by omega)
    obtain ⟨x, hx⟩ : ∃ x, x = ks.getD i ex0 := ⟨_, rfl⟩
    obtain ⟨q2, c2, x0, x1, x2, x3, hr⟩ := hl.at hlt
    have hxs := sizeL_get ks i hlt
    have hxd := depthL_get ks i hlt
    rw [← hx] at x0 x1 x2 x3 hr hxs hxd
    have HX := hiD hx
    obtain ⟨xk, xv2, xn2, xs⟩ := x
    have cc : ∀ n, wr.cell? ⟨ba, n, none⟩ = w.cell? ⟨ba, n, none⟩ := fun n => (HI.out).cell (p := ⟨ba, n, none⟩) (hP _ hba)
    have X0 : wr.cell? ⟨ba, oa + i * 4, none⟩ = some (.int .i64 xk) := (cc _).trans x0
    have X1 : wr.cell? ⟨ba, oa + i * 4 + 1, none⟩ = some (.string (bstr xv2)) := (cc _).trans x1
    have X2 : wr.cell? ⟨ba, oa + i * 4 + 2, none⟩ = some (.string (bstr xn2)) := (cc _).trans x2
    have X3 : wr.cell? ⟨ba, oa + i * 4 + 3, none⟩ = some (.slice q2 xs.length c2) := (cc _).trans x3
    clear x0 x1 x2 x3 cc hx
    have hxw := wL_get ks i hlt
    rw [← HX.out] at hxw
    have HBA : Hid (Below wr.heap.size wr (wr.alloc (.cells #[.int .i64 xk, .string (bstr xv2), .string (bstr xn2), .slice q2 xs.length c2] 46))) := (Below.refl _ _).alloc (Nat.le_refl _) _
    have HR : Hid (RdE P (wr.alloc (.cells #[.int .i64 xk, .string (bstr xv2), .string (bstr xn2), .slice q2 xs.length c2] 46)) (.mk xk xv2 xn2 xs) (.agg #[.int .i64 xk, .string (bstr xv2), .string (bstr xn2), .slice q2 xs.length c2])) := (hr.below (HI.out) hP).below HBA.out (fun b hb => Nat.lt_of_lt_of_le (hP b hb) (HI.out).size)
    have HAK : Hid (Arr (wr.alloc (.cells #[.int .i64 xk, .string (bstr xv2), .string (bstr xn2), .slice q2 xs.length c2] 46)) 46 wr.heap.size [.int .i64 xk, .string (bstr xv2), .string (bstr xn2), .slice q2 xs.length c2]) := Arr.new' _ _ _ _ rfl
    have HC := hiD (HIH.out (.mk xk xv2 xn2 xs) _ P _ (by omega) (by omega) (by omega) HR.out (fun b hb => Nat.lt_of_lt_of_le (hP b hb) (Nat.le_trans HI.out.size HBA.out.size)))
    have HTK : Hid (textL (ks.take (i + 1)) = textL (ks.take i) ++ [wrapT xk (textE (.mk xk xv2 xn2 xs))]) := by show _ = _; rw [take_snocE hlt, ← HX.out, textL_snoc]; rfl
    have htl := textE_len (.mk xk xv2 xn2 xs)
    obtain ⟨tx, htx⟩ : ∃ tx, tx = textE (.mk xk xv2 xn2 xs) := ⟨_, rfl⟩
    rw [← htx] at htl HC HTK
    obtain ⟨sx, hsx⟩ : ∃ s, s = bstr tx := ⟨_, rfl⟩
    have z1 : (sx.size : Int) ≤ 900000000 := by rw [hsx, bstr_size]; omega
    rw [← hsx] at HC
    have HSX := hiD hsx
    clear hl hr hxs hxd hxw htl htx hsx
    go_wp2_with fail
    refine HC.out.mono ?_
    rintro r w5 ⟨rfl, b5⟩
    have HK5 := hiD (HAK.out.later b5)
    have k0 := HK5.out.cell 0
    have k1 := HK5.out.cell 1
    have k2 := HK5.out.cell 2
    have k3 := HK5.out.cell 3
    simp only [List.getElem?_cons_zero, List.getElem?_cons_succ] at k0 k1 k2 k3
    have HLF : Hid (Calls Tryz.prog 95 #[.agg #[.int .i64 xk, .string (bstr xv2), .string (bstr xn2), .slice q2 xs.length c2]] w5 fun r w' => r = .returned (.bool (leafK xk)) ∧ Below w5.heap.size w5 w') := isLeaf_any (e := .mk xk xv2 xn2 xs) (HR.out.below b5 (fun b hb => Nat.lt_of_lt_of_le (hP b hb) (Nat.le_trans HI.out.size HBA.out.size)))
    have HB5 : Hid (Below wr.heap.size wr w5) := HBA.out.trans (b5.mono HBA.out.size)
    obtain ⟨lf, hlf⟩ : ∃ lf, lf = leafK xk := ⟨_, rfl⟩
    rw [← hlf] at HLF
    have HLK := hiD hlf
    clear b5 hlf HC HR HBA HAK
    go_wp2_with fail
    refine HLF.out.mono ?_
    rintro r w6 ⟨rfl, b6⟩
    have HB6 : Hid (Below wr.heap.size wr w6) := HB5.out.trans (b6.mono HB5.out.size)
    clear b6 HB5
    have HAC : Hid ((textL (ks.take i)).length + 1 ≤ 1000000) := by show _ ≤ _; rw [textL_length, List.length_take]; omega
    cases lf with
    | true =>
     have HW : Hid (wrapT xk tx = tx) := by show _ = _; unfold wrapT; rw [if_pos HLK.out.symm]
     have HB7 : Hid (Below wr.heap.size wr (w6.alloc (.cells #[.string sx] 9))) := HB6.out.alloc HB6.out.size _
     have HTR := hiD (HRW.out.later HB7.out)
     have HAB : Hid (Arr (w6.alloc (.cells #[.string sx] 9)) 9 w6.heap.size [.string (bstr tx)]) := by rw [← HSX.out]; exact Arr.new' _ _ _ _ rfl
     have HBS : Hid (w.heap.size + 1 ≤ (w6.alloc (.cells #[.string sx] 9)).heap.size) := Nat.le_trans HSZ.out HB7.out.size
     go_wp2_with (at_builtin; refine app_str rfl _ _ rfl rfl HTR.out rfl HAB.out HAC.out HBS.out ?_; intro v7 w7 h7 b7)
     go_roundw
     case rel => exact ⟨i + 1, by omega, by go_num, by rw [HTK.out, HW.out]; exact h7, (HI.out.trans (HB7.out.mono HI.out.size)).trans (b7.mono (by omega)), (HAI.out.later HB7.out).below b7 (by omega), Nat.le_trans HBS.out b7.size⟩
     case measure => simp [intOf]; omega
    | false =>
     have HW : Hid (wrapT xk tx = 40 :: (tx ++ [41])) := by show _ = _; unfold wrapT; rw [if_neg (by rw [← HLK.out]; exact Bool.false_ne_true)]
     have HEQ : Hid (bstr (40 :: (tx ++ [41])) = ⟨#[40]⟩ ++ sx ++ ⟨#[41]⟩) := by
      show _ = _
      rw [HSX.out, show (⟨#[40]⟩ : ByteArray) = bstr [40] from rfl, show (⟨#[41]⟩ : ByteArray) = bstr [41] from rfl, bstr_app, bstr_app]; rfl
     have HB7 : Hid (Below wr.heap.size wr (w6.alloc (.cells #[.string (⟨#[40]⟩ ++ sx ++ ⟨#[41]⟩)] 9))) := HB6.out.alloc HB6.out.size _
     have HTR := hiD (HRW.out.later HB7.out)
     have HAB : Hid (Arr (w6.alloc (.cells #[.string (⟨#[40]⟩ ++ sx ++ ⟨#[41]⟩)] 9)) 9 w6.heap.size [.string (bstr (40 :: (tx ++ [41])))]) := by rw [HEQ.out]; exact Arr.new' _ _ _ _ rfl
     have HBS : Hid (w.heap.size + 1 ≤ (w6.alloc (.cells #[.string (⟨#[40]⟩ ++ sx ++ ⟨#[41]⟩)] 9)).heap.size) := Nat.le_trans HSZ.out HB7.out.size
     go_wp2_with (at_builtin; refine app_str rfl _ _ rfl rfl HTR.out rfl HAB.out HAC.out HBS.out ?_; intro v7 w7 h7 b7)
     go_roundw
     case rel => exact ⟨i + 1, by omega, by go_num, by rw [HTK.out, HW.out]; exact h7, (HI.out.trans (HB7.out.mono HI.out.size)).trans (b7.mono (by omega)), (HAI.out.later HB7.out).below b7 (by omega), Nat.le_trans HBS.out b7.size⟩
     case measure => simp [intOf]; omega
   ·have hi1 : ¬ (i : Int) < ks.length := by omega
    have HK2 : Hid (ks.take i = ks) := List.take_of_length_le (by omega)
    have a0 := HAI.out.cell 0
    simp only [List.getElem?_cons_zero] at a0
    have HSG := hiD (esign_any k wr)
    have HJ := hiD (HRW.out.join (sgK k) (by rw [HK2.out]; exact Nat.le_trans (textJ_len (sgK k) (by rw [sgK_len]; exact Nat.le_refl _) ks) (by omega)) (by rw [textL_length, List.length_take]; omega))
    have HTJ : Hid (Lib.join (textL (ks.take i)) (sgK k) = textE (.mk k xv xn ks)) := by show _ = _; rw [HK2.out, HT.out]
    rw [HTJ.out] at HJ
    obtain ⟨sg, hsg⟩ : ∃ s, s = bstr (sgK k) := ⟨_, rfl⟩
    rw [← hsg] at HSG HJ
    obtain ⟨tt, htt⟩ : ∃ s, s = bstr (textE (.mk k xv xn ks)) := ⟨_, rfl⟩
    rw [← htt] at HJ
    have HTT := hiD htt
    clear hsg htt
    go_wp2_with fail
    refine HSG.out.mono ?_
    rintro r w5 ⟨rfl, rfl⟩
    go_wp2_with fail
    refine HJ.out.mono ?_
    rintro r w6 ⟨rfl, b6⟩
    have HB6 := hiD (HI.out.trans (b6.mono HI.out.size))
    clear b6
    go_wp2_with fail
    go_ret
    exact ⟨by rw [← HTT.out]; rfl, HB6.out⟩
set_option maxRecDepth 100000 in
set_option maxHeartbeats 1000000 in
theorem etext_any (e : Ex) (v : Value) (P : Nat → Prop) (w : World) (hm : sizeE e ≤ 900000) (hwt : wE e ≤ 900000000) (h : RdE P w e v) (hP : ∀ b, P b → b < w.heap.size) (hr : ResT w) : Calls Tryz.prog 42 #[v] w fun r w' => r = .returned (.string (bstr (if rightE e = true then textE e else []))) ∧ Below w.heap.size w w' := by
 have H := hiD h
 have HP := hiD hP
 obtain ⟨q, c, rfl, hc, hk⟩ := h.form
 obtain ⟨k, xv, xn, ks⟩ := e
 unfold exv
 show Calls _ _ #[.agg #[.int .i64 k, .string (bstr xv), .string (bstr xn), .slice q ks.length c]] _ _
 have HB0 : Hid (Below w.heap.size w (w.alloc (.cells #[.int .i64 k, .string (bstr xv), .string (bstr xn), .slice q ks.length c] 46))) := (Below.refl _ _).alloc (Nat.le_refl _) _
 have HA0 : Hid (Arr (w.alloc (.cells #[.int .i64 k, .string (bstr xv), .string (bstr xn), .slice q ks.length c] 46)) 46 w.heap.size [.int .i64 k, .string (bstr xv), .string (bstr xn), .slice q ks.length c]) := Arr.new' _ _ _ _ rfl
 have HP0 : Hid (∀ b, P b → b < (w.alloc (.cells #[.int .i64 k, .string (bstr xv), .string (bstr xn), .slice q ks.length c] 46)).heap.size) := fun b hb => Nat.lt_of_lt_of_le (hP b hb) HB0.out.size
 have HRC := hiD (eright_any (.mk k xv xn ks) _ P (w.alloc (.cells #[.int .i64 k, .string (bstr xv), .string (bstr xn), .slice q ks.length c] 46)) hm (H.out.below HB0.out hP) HP0.out (hr.below HB0.out hr.lt))
 have HTC : Hid (∀ W, Below (w.alloc (.cells #[.int .i64 k, .string (bstr xv), .string (bstr xn), .slice q ks.length c] 46)).heap.size (w.alloc (.cells #[.int .i64 k, .string (bstr xv), .string (bstr xn), .slice q ks.length c] 46)) W → Calls Tryz.prog 66 #[.agg #[.int .i64 k, .string (bstr xv), .string (bstr xn), .slice q ks.length c]] W fun r w' => r = .returned (.string (bstr (textE (.mk k xv xn ks)))) ∧ Below W.heap.size W w') :=
  fun W hW => text_any _ (.mk k xv xn ks) _ P W (Nat.le_refl _) hm hwt ((H.out.below HB0.out hP).below hW HP0.out) (fun b hb => Nat.lt_of_lt_of_le (HP0.out b hb) hW.size)
 obtain ⟨R, hR⟩ : ∃ R, R = rightE (.mk k xv xn ks) := ⟨_, rfl⟩
 rw [← hR] at HRC ⊢
 obtain ⟨tt, htt⟩ : ∃ s, s = textE (.mk k xv xn ks) := ⟨_, rfl⟩
 rw [← htt] at HTC ⊢
 clear h hc hk hm hwt hP hr hR htt
 go_enter Tryz.func42, Tryz.ntmps42
 go_wp2_with fail
 refine HRC.out.mono ?_
 rintro r w5 ⟨rfl, b5⟩
 have HB5 := hiD (HB0.out.trans (b5.mono HB0.out.size))
 have HC5 := hiD (HTC.out w5 b5)
 have HA5 := hiD (HA0.out.later b5)
 have z0 := HA5.out.cell 0
 have z1 := HA5.out.cell 1
 have z2 := HA5.out.cell 2
 have z3 := HA5.out.cell 3
 simp only [List.getElem?_cons_zero, List.getElem?_cons_succ] at z0 z1 z2 z3
 clear b5
 cases R with
 | true =>
  go_wp2_with fail
  refine HC5.out.mono ?_
  rintro r w6 ⟨rfl, b6⟩
  have HB6 := hiD (HB5.out.trans (b6.mono HB5.out.size))
  clear b6
  go_wp2_with fail
  go_ret
  exact ⟨rfl, HB6.out⟩
 | false =>
  go_wp2_with fail
  go_ret
  exact ⟨rfl, HB5.out⟩
end Go.Proofs.YtkildckeikedhaaGreatDoor
namespace Go.Proofs.YtkildckeikedhaaGreatDoor
set_option linter.unusedVariables false

def LXW (l : List UInt8) (ws : List (List UInt8)) : Prop := ∀ n i, l.length < n → (tokF n i l).2.1 = 0 ∧ (tokF n i l).1.map (fun t => t.2.1) = ws ++ [[]]
theorem LXW.nil : LXW [] [] := fun n i h => by
 obtain ⟨m, rfl⟩ : ∃ m, n = m + 1 := ⟨n - 1, by simp at h; omega⟩
 exact ⟨rfl, rfl⟩
theorem consT_ok {t : Tok} {r : Toks} (h : r.2.1 = 0) : (consT t r).2.1 = 0 ∧ (consT t r).1 = t :: r.1 := by unfold consT; rw [if_pos h]; exact ⟨rfl, rfl⟩
theorem LXW.space {c : UInt8} {l : List UInt8} {ws : List (List UInt8)} (hs : spB c = true) (hw : wdB c = false) (h : LXW l ws) : LXW (c :: l) ws := fun n i hn => by
 obtain ⟨m, rfl⟩ : ∃ m, n = m + 1 := ⟨n - 1, by simp at hn; omega⟩
 have h2 := h m (i + 1) (by simpa using hn)
 rw [tokF, if_neg (by rw [hw]; decide), if_pos hs]
 exact h2
theorem tw_app {p : UInt8 → Bool} : ∀ {a b : List UInt8}, (∀ c ∈ b.head?, p c = false) → (∀ c ∈ a, p c = true) → (a ++ b).takeWhile p = a
 | [], [], _, _ => rfl
 | [], c :: b, hb, _ => by rw [List.nil_append, List.takeWhile_cons, if_neg (by rw [hb c rfl]; decide)]
 | x :: a, b, hb, ha => by rw [List.cons_append, List.takeWhile_cons, if_pos (ha x List.mem_cons_self), tw_app hb fun c hc => ha c (List.mem_cons_of_mem _ hc)]
theorem LXW.word {w l : List UInt8} {ws : List (List UInt8)} (hne : w ≠ []) (hall : ∀ c ∈ w, wdB c = true) (hok : okW w = true) (hl : ∀ c ∈ l.head?, wdB c = false) (h : LXW l ws) : LXW (w ++ l) (w :: ws) := fun n i hn => by
 obtain ⟨m, rfl⟩ : ∃ m, n = m + 1 := ⟨n - 1, by rw [List.length_append] at hn; omega⟩
 obtain ⟨c, r, rfl⟩ : ∃ c r, w = c :: r := by cases w with
  | nil => exact absurd rfl hne
  | cons c r => exact ⟨c, r, rfl⟩
 have ht : (c :: (r ++ l)).takeWhile wdB = c :: r := tw_app (a := c :: r) hl hall
 have hd : (c :: (r ++ l)).drop (c :: r).length = l := by rw [← List.cons_append]; exact List.drop_left
 have h2 := h m (i + (c :: r).length) (by rw [List.length_append] at hn; simp at hn; omega)
 rw [List.cons_append, tokF, if_pos (hall c List.mem_cons_self), ht, if_pos hok, hd]
 obtain ⟨h3, h4⟩ := consT_ok (t := mkT 1 (c :: r) i) h2.1
 refine ⟨h3, ?_⟩
 rw [h4, List.map_cons, h2.2]
 rfl
theorem sg_not : ∀ c : UInt8, sgB c = true → wdB c = false ∧ spB c = false ∧ c ≠ 47 := by
 intro c h
 unfold sgB at h
 rw [List.contains_iff_mem] at h
 unfold sgL at h
 simp only [List.mem_cons, List.not_mem_nil, or_false] at h
 rcases h with rfl | rfl | rfl | rfl | rfl | rfl | rfl | rfl | rfl | rfl | rfl | rfl <;> decide
theorem LXW.sign {c : UInt8} {l : List UInt8} {ws : List (List UInt8)} (hs : sgB c = true) (h1 : c = 45 → l.head? ≠ some 62) (h : LXW l ws) : LXW (c :: l) ([c] :: ws) := fun n i hn => by
 obtain ⟨m, rfl⟩ : ∃ m, n = m + 1 := ⟨n - 1, by simp at hn; omega⟩
 obtain ⟨k1, k2, k3⟩ := sg_not c hs
 have h2 := h m (i + 1) (by simpa using hn)
 rw [tokF, if_neg (by rw [k1]; decide), if_neg (by rw [k2]; decide), if_neg (fun e => k3 e.1), if_neg (fun e => h1 e.1 e.2), if_pos hs]
 obtain ⟨h3, h4⟩ := consT_ok (t := mkT 2 [c] i) h2.1
 refine ⟨h3, ?_⟩
 rw [h4, List.map_cons, h2.2]
 rfl
theorem LXW.arrow {l : List UInt8} {ws : List (List UInt8)} (h : LXW l ws) : LXW (45 :: 62 :: l) ([45, 62] :: ws) := fun n i hn => by
 obtain ⟨m, rfl⟩ : ∃ m, n = m + 1 := ⟨n - 1, by simp at hn; omega⟩
 have h2 := h m (i + 2) (by simp at hn; omega)
 rw [tokF, if_neg (by decide), if_neg (by decide), if_neg (fun e => absurd e.1 (by decide)), if_pos ⟨rfl, rfl⟩]
 obtain ⟨h3, h4⟩ := consT_ok (t := mkT 2 [45, 62] i) h2.1
 refine ⟨h3, ?_⟩
 show ((consT (mkT 2 [45, 62] i) (tokF m (i + 2) l)).1.map _) = _
 rw [h4, List.map_cons, h2.2]
 rfl
theorem name_wd {w : List UInt8} (h : isName (bstr w) = true) : w ≠ [] ∧ (∀ c ∈ w, wdB c = true) ∧ okW w = true := by
 have hok : okW w = true := by unfold okW; rw [h]; rfl
 unfold isName consB at h
 simp only [Bool.and_eq_true, decide_eq_true_eq] at h
 obtain ⟨⟨⟨h1, h2, h3⟩, _⟩, _⟩ := h
 rw [bstr_data] at h1 h3
 refine ⟨fun e => by rw [e] at h1; simp at h1, fun c hc => ?_, hok⟩
 have h4 := h3 c hc
 unfold hasB at h4
 unfold wdB
 split at h4
 ·rename_i h5
  rcases h5 with h5 | h5 <;> simp [h5]
 ·split at h4
  ·cases h4
  ·simp only [decide_eq_true_eq] at h4
   have : c = 95 := by
    have h6 : Lib.indexByte [95] c ≥ 0 := h4
    by_cases e : (95 : UInt8) = c
    ·exact e.symm
    ·exfalso
     simp [Lib.indexByte, e] at h6
   simp [this]
theorem LXW.name {w l : List UInt8} {ws : List (List UInt8)} (hn : isName (bstr w) = true) (hl : ∀ c ∈ l.head?, wdB c = false) (h : LXW l ws) : LXW (w ++ l) (w :: ws) :=
 LXW.word (name_wd hn).1 (name_wd hn).2.1 (name_wd hn).2.2 hl h

/-! ### the tokens of an expression -/
def opS1 (k : Int) : List UInt8 := if k = 3 then [43] else if k = 4 then [38] else [45]
def wrapK (k : Int) (ws : List (List UInt8)) : List (List UInt8) := if leafK k = true then ws else [40] :: (ws ++ [[41]])
mutual
def toksE : Ex → List (List UInt8)
 | .mk k v n ks => if k = 1 then [n] else if k = 2 then [v, [45, 62], n] else (toksT (opS1 k) ks).drop 1
def toksT (sg : List UInt8) : List Ex → List (List UInt8)
 | [] => []
 | e :: r => sg :: (wrapK e.kind (toksE e) ++ toksT sg r)
end
def HD (l : List UInt8) : Prop := ∀ c ∈ l.head?, wdB c = false
theorem HD.cons {c : UInt8} {l : List UInt8} (h : wdB c = false) : HD (c :: l) := fun x hx => by cases hx; exact h
theorem lex_wrap {k : Int} {t : List UInt8} {w0 : List (List UInt8)} (h : ∀ tail ws, LXW tail ws → HD tail → LXW (t ++ tail) (w0 ++ ws)) : ∀ tail ws, LXW tail ws → HD tail → LXW (wrapT k t ++ tail) (wrapK k w0 ++ ws) := by
 intro tail ws h1 h2
 unfold wrapT wrapK
 split
 ·exact h tail ws h1 h2
 ·have h3 := h (41 :: tail) ([41] :: ws) (LXW.sign (by decide) (fun e => absurd e (by decide)) h1) (HD.cons (by decide))
  show LXW (40 :: ((t ++ [41]) ++ tail)) ([40] :: ((w0 ++ [[41]]) ++ ws))
  rw [List.append_assoc, List.append_assoc]
  exact LXW.sign (by decide) (fun e => absurd e (by decide)) h3
theorem sg_lex (k : Int) {l : List UInt8} {ws : List (List UInt8)} (h : LXW l ws) : LXW (sgK k ++ l) (opS1 k :: ws) := by
 unfold sgK opS1
 split
 ·exact LXW.space (by decide) (by decide) (LXW.sign (by decide) (fun e => absurd e (by decide)) (LXW.space (by decide) (by decide) h))
 ·split
  ·exact LXW.space (by decide) (by decide) (LXW.sign (by decide) (fun e => absurd e (by decide)) (LXW.space (by decide) (by decide) h))
  ·exact LXW.space (by decide) (by decide) (LXW.sign (by decide) (fun _ e => by cases e) (LXW.space (by decide) (by decide) h))
theorem sg_hd (k : Int) (l : List UInt8) : HD (sgK k ++ l) := by
 unfold sgK
 split
 ·exact HD.cons (by decide)
 ·split <;> exact HD.cons (by decide)
theorem join_hd {k : Int} {ts : List (List UInt8)} {tail : List UInt8} (h : HD tail) : HD (Lib.joinTail (sgK k) ts ++ tail) := by
 cases ts with
 | nil => exact h
 | cons a r =>
  show HD (((sgK k ++ a) ++ (r.map (sgK k ++ ·)).flatten) ++ tail)
  rw [List.append_assoc, List.append_assoc]
  exact sg_hd k _
theorem form_two {k : Int} {v n : List UInt8} {ks : List Ex} (h : formE (.mk k v n ks) = true) : (k = 1 ∧ v = [] ∧ ks = [] ∧ isName (bstr n) = true) ∨ (k = 2 ∧ ks = [] ∧ isName (bstr v) = true ∧ isName (bstr n) = true) ∨ ((k = 3 ∨ k = 4 ∨ k = 5) ∧ v = [] ∧ n = [] ∧ 2 ≤ ks.length ∧ (k = 5 → ks.length = 2) ∧ formL ks = true) := by
 unfold formE at h
 simp only [Bool.and_eq_true] at h
 obtain ⟨h1, h2⟩ := h
 unfold partB at h1
 split at h1
 ·simp only [Bool.and_eq_true, decide_eq_true_eq] at h1
  exact .inl ⟨‹_›, h1.1.2, List.length_eq_zero_iff.1 h1.1.1, h1.2⟩
 ·split at h1
  ·simp only [Bool.and_eq_true, decide_eq_true_eq] at h1
   exact .inr (.inl ⟨‹_›, List.length_eq_zero_iff.1 h1.1.1, h1.1.2, h1.2⟩)
  ·split at h1
   ·rename_i h5
    simp only [Bool.and_eq_true, decide_eq_true_eq] at h1
    exact .inr (.inr ⟨h5.elim .inl (fun e => .inr (.inl e)), h1.1.2, h1.2, h1.1.1, fun e => by omega, h2⟩)
   ·split at h1
    ·simp only [Bool.and_eq_true, decide_eq_true_eq] at h1
     exact .inr (.inr ⟨.inr (.inr ‹_›), h1.1.2, h1.2, by omega, fun _ => h1.1.1, h2⟩)
    ·cases h1
theorem formL_cons {e : Ex} {r : List Ex} (h : formL (e :: r) = true) : formE e = true ∧ formL r = true := by
 unfold formL at h
 simpa using h
mutual
theorem lexE : ∀ (e : Ex), formE e = true → ∀ tail ws, LXW tail ws → HD tail → LXW (textE e ++ tail) (toksE e ++ ws)
 | .mk k v n [], hf, tail, ws, h1, h2 => by
  rcases form_two hf with ⟨hk, _, _, hn⟩ | ⟨hk, _, hv, hn⟩ | ⟨hk, _, _, hlen, _, hfl⟩
  ·rw [textE_one hk]
   unfold toksE
   rw [if_pos hk]
   exact LXW.name hn h2 h1
  ·rw [textE_two hk]
   unfold toksE
   rw [if_neg (by omega), if_pos hk, List.append_assoc]
   exact LXW.name hv (HD.cons (by decide)) (LXW.arrow (LXW.name hn h2 h1))
  ·simp at hlen
 | .mk k v n (a :: r), hf, tail, ws, h1, h2 => by
  have hE := lexE a
  have hR := lexT k r
  rcases form_two hf with ⟨_, _, hk, _⟩ | ⟨_, hk, _, _⟩ | ⟨hk, _, _, hlen, _, hfl⟩
  ·cases hk
  ·cases hk
  ·rw [textE_more (by omega) (by omega)]
   unfold toksE
   rw [if_neg (by omega), if_neg (by omega)]
   unfold textL toksT
   rw [Lib.join_cons, List.append_assoc, List.drop_one, List.tail_cons, List.append_assoc]
   exact lex_wrap (hE (formL_cons hfl).1) _ _ (hR (formL_cons hfl).2 tail ws h1 h2) (join_hd h2)
theorem lexT (k : Int) : ∀ (ks : List Ex), formL ks = true → ∀ tail ws, LXW tail ws → HD tail → LXW (Lib.joinTail (sgK k) (textL ks) ++ tail) (toksT (opS1 k) ks ++ ws)
 | [], _, tail, ws, h1, h2 => by unfold textL toksT; exact h1
 | e :: r, hf, tail, ws, h1, h2 => by
  have hE := lexE e (formL_cons hf).1
  have hR := lexT k r (formL_cons hf).2 tail ws h1 h2
  unfold textL toksT
  show LXW (((sgK k ++ wrapT e.kind (textE e)) ++ Lib.joinTail (sgK k) (textL r)) ++ tail) _
  rw [List.append_assoc, List.append_assoc, List.cons_append, List.append_assoc]
  exact sg_lex k (lex_wrap hE _ _ hR (join_hd h2))
end
end Go.Proofs.YtkildckeikedhaaGreatDoor
namespace Go.Proofs.YtkildckeikedhaaGreatDoor
open Go.ChangeShapes Go.WideShapes Go.ChangeAt Go.RowKit
set_option linter.unusedVariables false

def cmpI (a b : Int) : Int := if a < b then -1 else if b < a then 1 else 0
set_option maxRecDepth 100000 in
theorem isNaN_any (x : Int) (w : World) : Calls Tryz.prog 131 #[.int .i64 x] w fun r w' => r = .returned (.bool false) ∧ w = w' := by
 go_enter Tryz.func131, Tryz.ntmps131
 go_wp2_with fail
 go_ret
 exact ⟨ret_b (by simp), rfl⟩
set_option maxRecDepth 100000 in
theorem cmpInt_any (a b : Int) (w : World) : Calls Tryz.prog 120 #[.int .i64 a, .int .i64 b] w fun r w' => r = .returned (.int .i64 (cmpI a b)) ∧ w = w' := by
 have HA := hiD (fun W => isNaN_any a W)
 have HB := hiD (fun W => isNaN_any b W)
 by_cases h1 : a < b
 ·have H : Hid (cmpI a b = -1) := if_pos h1
  go_enter Tryz.func120, Tryz.ntmps120
  go_wp2_with fail
  refine (HA.out _).mono ?_
  rintro r w2 ⟨rfl, hw⟩
  subst hw
  go_wp2_with fail
  refine (HB.out _).mono ?_
  rintro r w2 ⟨rfl, hw⟩
  subst hw
  go_wp2_with fail
  go_ret
  exact ⟨by rw [H.out]; rfl, rfl⟩
 ·by_cases h2 : b < a
  ·have H : Hid (cmpI a b = 1) := by show _ = _; unfold cmpI; rw [if_neg h1, if_pos h2]
   go_enter Tryz.func120, Tryz.ntmps120
   go_wp2_with fail
   refine (HA.out _).mono ?_
   rintro r w2 ⟨rfl, hw⟩
   subst hw
   go_wp2_with fail
   refine (HB.out _).mono ?_
   rintro r w2 ⟨rfl, hw⟩
   subst hw
   go_wp2_with fail
   go_ret
   exact ⟨by rw [H.out]; rfl, rfl⟩
  ·have H : Hid (cmpI a b = 0) := by show _ = _; unfold cmpI; rw [if_neg h1, if_neg h2]
   go_enter Tryz.func120, Tryz.ntmps120
   go_wp2_with fail
   refine (HA.out _).mono ?_
   rintro r w2 ⟨rfl, hw⟩
   subst hw
   go_wp2_with fail
   refine (HB.out _).mono ?_
   rintro r w2 ⟨rfl, hw⟩
   subst hw
   go_wp2_with fail
   go_ret
   exact ⟨by rw [H.out]; rfl, rfl⟩
def orL : List Int → Int
 | [] => 0
 | x :: r => if x = 0 then orL r else x
theorem orL_drop : ∀ {l : List Int} {i : Nat}, (∀ j, j < i → l.getD j 0 = 0) → orL l = orL (l.drop i)
 | l, 0, _ => rfl
 | [], i + 1, _ => rfl
 | x :: r, i + 1, h => by
  have h0 := h 0 (by omega)
  simp only [List.getD_cons_zero] at h0
  rw [List.drop_succ_cons, ← orL_drop (l := r) (i := i) (fun j hj => by have := h (j + 1) (by omega); simpa using this)]
  conv => lhs; unfold orL
  rw [if_pos h0]
theorem orL_at {l : List Int} {i : Nat} (hi : i < l.length) (h : ∀ j, j < i → l.getD j 0 = 0) (hx : ¬ l.getD i 0 = 0) : orL l = l.getD i 0 := by
 rw [orL_drop h, List.drop_eq_getElem_cons hi]
 have e : l.getD i 0 = l[i] := by rw [List.getD_eq_getElem?_getD, List.getElem?_eq_getElem hi]; rfl
 rw [e] at hx ⊢
 conv => lhs; unfold orL
 rw [if_neg hx]
set_option maxRecDepth 100000 in
set_option maxHeartbeats 1000000 in
theorem or_any (l : List Int) (hl : l.length ≤ 1000) (g : Nat) (w : World) (hA : Arr w 3 g (l.map fun x => .int .i64 x)) : Calls Tryz.prog 119 #[.slice (some ⟨g, 0, none⟩) l.length l.length] w fun r w' => r = .returned (.int .i64 (orL l)) ∧ w = w' := by
 have HA := hiD hA
 clear hA
 go_enter Tryz.func119, Tryz.ntmps119
 go_wp2_with fail
 go_loop [8] (fun iv => ∃ i : Nat, i ≤ l.length ∧ iv = .int .i64 i ∧ Hid (∀ j, j < i → l.getD j 0 = 0)) (fun iv => l.length - (intOf iv).toNat)
 case atStart => exact ⟨0, Nat.zero_le _, rfl, fun j hj => absurd hj (Nat.not_lt_zero _)⟩
 case round =>
  obtain ⟨i, hi, rfl, HG⟩ := hrel
  have hi0 : (0 : Int) ≤ i := by omega
  by_cases hlt : i < l.length
  ·have hi1 : (i : Int) < l.length := by omega
   have hx0 := HA.out.cell i
   rw [List.getElem?_map, List.getElem?_eq_getElem hlt] at hx0
   obtain ⟨x, hx⟩ : ∃ x, x = l.getD i 0 := ⟨_, rfl⟩
   have e : l.getD i 0 = l[i] := by rw [List.getD_eq_getElem?_getD, List.getElem?_eq_getElem hlt]; rfl
   have X0 : w.cell? ⟨g, i, none⟩ = some (.int .i64 x) := by rw [hx, e]; exact hx0
   have HX := hiD hx
   have HLT : Hid (i < l.length) := hlt
   clear hx0 e hx
   by_cases hz : x = 0
   ·have bz : (x != 0) = false := by rw [hz]; rfl
    have HZ := hiD hz
    clear hz
    go_wp2_with fail
    go_round
    case rel =>
     refine ⟨i + 1, by omega, by go_num, fun j hj => ?_⟩
     by_cases e : j = i
     ·subst e; rw [← HX.out]; exact HZ.out
     ·exact HG.out j (by omega)
    case measure => simp [intOf]; omega
   ·have bz : (x != 0) = true := by rw [bne_iff_ne]; exact hz
    have HR : Hid (orL l = x) := by show _ = _; rw [HX.out]; exact orL_at HLT.out HG.out (by rw [← HX.out]; exact hz)
    clear hz
    go_wp2_with fail
    go_ret
    exact ⟨by rw [HR.out]; rfl, rfl⟩
  ·have hi1 : ¬ (i : Int) < l.length := by omega
   have HR : Hid (orL l = 0) := by
    show _ = _
    rw [orL_drop HG.out, List.drop_of_length_le (by omega)]; rfl
   go_wp2_with fail
   go_ret
   exact ⟨by rw [HR.out]; rfl, rfl⟩
mutual
def cmpE : Ex → Ex → Int
 | .mk k v n ks, e2 => orL [Lib.compareInt k e2.kind, Lib.compareBytes v e2.via, Lib.compareBytes n e2.nm, cmpL ks e2.kids]
def cmpL : List Ex → List Ex → Int
 | [], [] => 0
 | [], _ :: _ => -1
 | _ :: _, [] => 1
 | a :: r, b :: s => orL [cmpE a b, cmpL r s]
end
theorem cmpL_step {ks ls : List Ex} {i : Nat} (h1 : i < ks.length) (h2 : i < ls.length) : cmpL (ks.drop i) (ls.drop i) = orL [cmpE (ks.getD i ex0) (ls.getD i ex0), cmpL (ks.drop (i + 1)) (ls.drop (i + 1))] := by
 rw [List.drop_eq_getElem_cons h1, List.drop_eq_getElem_cons h2, List.getD_eq_getElem?_getD, List.getElem?_eq_getElem h1, List.getD_eq_getElem?_getD, List.getElem?_eq_getElem h2]
 conv => lhs; unfold cmpL
 rfl
theorem orL2 (a b : Int) : orL [a, b] = if a = 0 then b else a := by
 unfold orL
 split
 ·unfold orL
  split
  ·rename_i h; rw [h]; rfl
  ·rfl
 ·rfl
set_option maxRecDepth 100000 in
set_option maxHeartbeats 4000000 in
theorem cmpf_any (n : Nat) (HC : Hid (∀ (x y : Ex) (vx vy : Value) (P Q : Nat → Prop) (W : World), sizeE x ≤ n → sizeE y ≤ 900000 → RdE P W x vx → RdE Q W y vy → (∀ b, P b → b < W.heap.size) → (∀ b, Q b → b < W.heap.size) → Calls Tryz.prog 110 #[vx, vy] W fun r w' => r = .returned (.int .i64 (cmpE x y)) ∧ Below W.heap.size W w'))
  (ks ls : List Ex) (q ql : Option Addr) (c cl : Nat) (P Q : Nat → Prop) (w : World) (hks : sizeL ks ≤ n) (hkm : sizeL ks ≤ 900000) (hlm : sizeL ls ≤ 900000)
  (hk : 0 < ks.length → ∃ b o, q = some ⟨b, o, none⟩ ∧ P b ∧ RdL P w ks b o) (hl' : 0 < ls.length → ∃ b o, ql = some ⟨b, o, none⟩ ∧ Q b ∧ RdL Q w ls b o) (hP : ∀ b, P b → b < w.heap.size) (hQ : ∀ b, Q b → b < w.heap.size) :
  Calls Tryz.prog 122 #[.slice q ks.length c, .slice ql ls.length cl, .func (.func 110) #[] #[]] w fun r w' => r = .returned (.int .i64 (cmpL ks ls)) ∧ Below w.heap.size w w' := by
 have HK : Hid (0 < ks.length → ∃ b o, q = some ⟨b, o, none⟩ ∧ P b ∧ RdL P w ks b o) := hk
 have HL : Hid (0 < ls.length → ∃ b o, ql = some ⟨b, o, none⟩ ∧ Q b ∧ RdL Q w ls b o) := hl'
 have hlen := sizeL_len ks
 have hlen2 := sizeL_len ls
 clear hk hl'
 go_enter Tryz.func122, Tryz.ntmps122
 go_wp2_with fail
 go_loopw [13] (fun iv wr => ∃ i : Nat, i ≤ ks.length ∧ i ≤ ls.length ∧ iv = .int .i64 i ∧ Hid (cmpL (ks.drop i) (ls.drop i) = cmpL ks ls) ∧ Hid (Below w.heap.size w wr)) (fun iv _ => ks.length - (intOf iv).toNat)
 case atStart => exact ⟨0, Nat.zero_le _, Nat.zero_le _, rfl, rfl, Below.refl _ _⟩
 case round =>
  obtain ⟨i, hi, hil, rfl, HD, HI⟩ := hrel
  have hi0 : (0 : Int) ≤ i := by omega
  by_cases hlt : i < ks.length
  ·have hi1 : (i : Int) < ks.length := by omega
   by_cases hlt2 : i < ls.length
   ·have hi2 : (i : Int) < ls.length := by omega
    obtain ⟨ba, oa, rfl, hba, hl⟩ := HK.out (by omega)
    obtain ⟨x, hx⟩ : ∃ x, x = ks.getD i ex0 := ⟨_, rfl⟩
    obtain ⟨q2, c2, x0, x1, x2, x3, hr⟩ := hl.at hlt
    have hxs := sizeL_get ks i hlt
    have hxd := depthL_get ks i hlt
    rw [← hx] at x0 x1 x2 x3 hr hxs hxd
    have HX := hiD hx
    obtain ⟨xk, xv2, xn2, xs⟩ := x
    have cc : ∀ n, wr.cell? ⟨ba, n, none⟩ = w.cell? ⟨ba, n, none⟩ := fun n => (HI.out).cell (p := ⟨ba, n, none⟩) (hP _ hba)
    have X0 : wr.cell? ⟨ba, oa + i * 4, none⟩ = some (.int .i64 xk) := (cc _).trans x0
    have X1 : wr.cell? ⟨ba, oa + i * 4 + 1, none⟩ = some (.string (bstr xv2)) := (cc _).trans x1
    have X2 : wr.cell? ⟨ba, oa + i * 4 + 2, none⟩ = some (.string (bstr xn2)) := (cc _).trans x2
    have X3 : wr.cell? ⟨ba, oa + i * 4 + 3, none⟩ = some (.slice q2 xs.length c2) := (cc _).trans x3
    clear x0 x1 x2 x3 cc hx
    have HBA : Hid (Below wr.heap.size wr (wr.alloc (.cells #[.int .i64 xk, .string (bstr xv2), .string (bstr xn2), .slice q2 xs.length c2] 46))) := (Below.refl _ _).alloc (Nat.le_refl _) _
    obtain ⟨bab, oab, rfl, hbab, hlb⟩ := HL.out (by omega)
    obtain ⟨x, hx⟩ : ∃ x, x = ls.getD i ex0 := ⟨_, rfl⟩
    obtain ⟨q2b, c2b, x0, x1, x2, x3, hrb⟩ := hlb.at hlt2
    have hxsb := sizeL_get ls i hlt2
    have hxdb := depthL_get ls i hlt2
    rw [← hx] at x0 x1 x2 x3 hrb hxsb hxdb
    have HXb := hiD hx
    obtain ⟨xkb, xv2b, xn2b, xsb⟩ := x
    have cc : ∀ n, (wr.alloc (.cells #[.int .i64 xk, .string (bstr xv2), .string (bstr xn2), .slice q2 xs.length c2] 46)).cell? ⟨bab, n, none⟩ = w.cell? ⟨bab, n, none⟩ := fun n => (HI.out.trans (HBA.out.mono HI.out.size)).cell (p := ⟨bab, n, none⟩) (hQ _ hbab)
    have X0b : (wr.alloc (.cells #[.int .i64 xk, .string (bstr xv2), .string (bstr xn2), .slice q2 xs.length c2] 46)).cell? ⟨bab, oab + i * 4, none⟩ = some (.int .i64 xkb) := (cc _).trans x0
    have X1b : (wr.alloc (.cells #[.int .i64 xk, .string (bstr xv2), .string (bstr xn2), .slice q2 xs.length c2] 46)).cell? ⟨bab, oab + i * 4 + 1, none⟩ = some (.string (bstr xv2b)) := (cc _).trans x1
    have X2b : (wr.alloc (.cells #[.int .i64 xk, .string (bstr xv2), .string (bstr xn2), .slice q2 xs.length c2] 46)).cell? ⟨bab, oab + i * 4 + 2, none⟩ = some (.string (bstr xn2b)) := (cc _).trans x2
    have X3b : (wr.alloc (.cells #[.int .i64 xk, .string (bstr xv2), .string (bstr xn2), .slice q2 xs.length c2] 46)).cell? ⟨bab, oab + i * 4 + 3, none⟩ = some (.slice q2b xsb.length c2b) := (cc _).trans x3
    clear x0 x1 x2 x3 cc hx
    have HST := hiD (cmpL_step hlt hlt2)
    have HBB : Hid (Below wr.heap.size wr ((wr.alloc (.cells #[.int .i64 xk, .string (bstr xv2), .string (bstr xn2), .slice q2 xs.length c2] 46)).alloc (.cells #[.int .i64 xkb, .string (bstr xv2b), .string (bstr xn2b), .slice q2b xsb.length c2b] 46))) := HBA.out.alloc HBA.out.size _
    have HRA : Hid (RdE P ((wr.alloc (.cells #[.int .i64 xk, .string (bstr xv2), .string (bstr xn2), .slice q2 xs.length c2] 46)).alloc (.cells #[.int .i64 xkb, .string (bstr xv2b), .string (bstr xn2b), .slice q2b xsb.length c2b] 46)) (.mk xk xv2 xn2 xs) (.agg #[.int .i64 xk, .string (bstr xv2), .string (bstr xn2), .slice q2 xs.length c2])) := (hr.below HI.out hP).below HBB.out (fun b hb => Nat.lt_of_lt_of_le (hP b hb) HI.out.size)
    have HRB : Hid (RdE Q ((wr.alloc (.cells #[.int .i64 xk, .string (bstr xv2), .string (bstr xn2), .slice q2 xs.length c2] 46)).alloc (.cells #[.int .i64 xkb, .string (bstr xv2b), .string (bstr xn2b), .slice q2b xsb.length c2b] 46)) (.mk xkb xv2b xn2b xsb) (.agg #[.int .i64 xkb, .string (bstr xv2b), .string (bstr xn2b), .slice q2b xsb.length c2b])) := (hrb.below HI.out hQ).below HBB.out (fun b hb => Nat.lt_of_lt_of_le (hQ b hb) HI.out.size)
    have HCC := HC.out (.mk xk xv2 xn2 xs) (.mk xkb xv2b xn2b xsb) _ _ P Q ((wr.alloc (.cells #[.int .i64 xk, .string (bstr xv2), .string (bstr xn2), .slice q2 xs.length c2] 46)).alloc (.cells #[.int .i64 xkb, .string (bstr xv2b), .string (bstr xn2b), .slice q2b xsb.length c2b] 46)) (by omega) (by omega) HRA.out HRB.out (fun b hb => Nat.lt_of_lt_of_le (hP b hb) (Nat.le_trans HI.out.size HBB.out.size)) (fun b hb => Nat.lt_of_lt_of_le (hQ b hb) (Nat.le_trans HI.out.size HBB.out.size))
    obtain ⟨E, hE⟩ : ∃ E, E = cmpE (.mk xk xv2 xn2 xs) (.mk xkb xv2b xn2b xsb) := ⟨_, rfl⟩
    rw [← hE] at HCC
    have HED := hiD hE
    have HCC := hiD HCC
    clear hl hlb hr hrb hxs hxd hxsb hxdb hE
    go_wp2_with fail
    refine HCC.out.mono ?_
    rintro r w5 ⟨rfl, b5⟩
    have HB5 := hiD (HI.out.trans ((HBB.out.trans (b5.mono HBB.out.size)).mono HI.out.size))
    clear b5
    by_cases hz : E = 0
    ·have bz : (E != 0) = false := by rw [hz]; rfl
     have HNX : Hid (cmpL (ks.drop (i + 1)) (ls.drop (i + 1)) = cmpL ks ls) := by show _ = _; rw [← HD.out, HST.out, ← HX.out, ← HXb.out, ← HED.out, orL2, if_pos hz]
     clear hz
     go_wp2_with fail
     go_roundw
     case rel => exact ⟨i + 1, by omega, by omega, by go_num, HNX.out, HB5.out⟩
     case measure => simp [intOf]; omega
    ·have bz : (E != 0) = true := by rw [bne_iff_ne]; exact hz
     have HNX : Hid (cmpL ks ls = E) := by show _ = _; rw [← HD.out, HST.out, ← HX.out, ← HXb.out, ← HED.out, orL2, if_neg hz]
     clear hz
     go_wp2_with fail
     go_ret
     exact ⟨by rw [HNX.out]; rfl, HB5.out⟩
   ·have hi2 : ¬ (i : Int) < ls.length := by omega
    have HNX : Hid (cmpL ks ls = 1) := by
     show _ = _
     rw [← HD.out, List.drop_eq_getElem_cons hlt, List.drop_of_length_le (show ls.length ≤ i by omega)]
     unfold cmpL; rfl
    have HK1 := HK.out (by omega)
    obtain ⟨ba, oa, rfl, hba, hl⟩ := HK1
    obtain ⟨q2, c2, x0, x1, x2, x3, hr⟩ := hl.at hlt
    have cc : ∀ n, wr.cell? ⟨ba, n, none⟩ = w.cell? ⟨ba, n, none⟩ := fun n => (HI.out).cell (p := ⟨ba, n, none⟩) (hP _ hba)
    have X0 := (cc _).trans x0
    have X1 := (cc _).trans x1
    have X2 := (cc _).trans x2
    have X3 := (cc _).trans x3
    clear x0 x1 x2 x3 cc hr hl
    go_wp2_with fail
    go_ret
    exact ⟨by rw [HNX.out]; rfl, HI.out.alloc HI.out.size _⟩
  ·have hi1 : ¬ (i : Int) < ks.length := by omega
   by_cases hlt2 : ks.length < ls.length
   ·have hi2 : (ks.length : Int) < ls.length := by omega
    have HNX : Hid (cmpL ks ls = -1) := by
     show _ = _
     rw [← HD.out, List.drop_of_length_le (show ks.length ≤ i by omega), List.drop_eq_getElem_cons (show i < ls.length by omega)]
     unfold cmpL; rfl
    go_wp2_with fail
    go_ret
    exact ⟨by rw [HNX.out]; rfl, HI.out⟩
   ·have hi2 : ¬ (ks.length : Int) < ls.length := by omega
    have HNX : Hid (cmpL ks ls = 0) := by
     show _ = _
     rw [← HD.out, List.drop_of_length_le (show ks.length ≤ i by omega), List.drop_of_length_le (show ls.length ≤ i by omega)]
     unfold cmpL; rfl
    go_wp2_with fail
    go_ret
    exact ⟨by rw [HNX.out]; rfl, HI.out⟩
end Go.Proofs.YtkildckeikedhaaGreatDoor
namespace Go.Proofs.YtkildckeikedhaaGreatDoor
set_option linter.unusedVariables false

inductive RR (α : Type) where
 | ok (x : α)
 | bad (c : Nat) (i : Nat)
def offT (ts : List Tok) (i : Nat) : Nat := (ts.getD i tok0).2.2.toNat
def ps0 : PS := ⟨0, 0, 0⟩
def offR {α : Type} (ts : List Tok) (r : PR α) : RR α := match r with
 | .ok x _ => .ok x
 | .bad c i => .bad c (offT ts i)
def readF {α : Type} (rule : List Tok → PS → PR α) (l : List UInt8) : RR α :=
 if (tokS l).2.1 = 0 then offR (tokS l).1 (endF (tokS l).1 (rule (tokS l).1 ps0)) else .bad (tokS l).2.1 (tokS l).2.2
def typesR (ts : List Tok) (s : PS) : PR (List AlB) := typesF ts 33 [] s
def schemaR (ts : List Tok) (s : PS) : PR (List DefB) := defsF ts 65 [] s
def badB {α : Type} (r : RR α) (c i : Nat) : Bool := match r with
 | .ok _ => false
 | .bad d j => decide (d = c) && decide (j = i)
theorem badB_eq {α : Type} {r : RR α} {c i : Nat} (h : badB r c i = true) : r = .bad c i := by
 cases r with
 | ok x => cases h
 | bad d j =>
  simp only [badB, Bool.and_eq_true, decide_eq_true_eq] at h
  rw [h.1, h.2]
def aw1 : List UInt8 := [97, 32, 43, 32, 98, 32, 38, 32, 99]
def aw2 : List UInt8 := [97, 32, 43, 32, 40, 98, 32, 38, 32, 99, 41]
def aw3 : List UInt8 := [100,101,102,105,110,105,116,105,111,110,32,117,115,101,114,32,123,125,32,100,101,102,105,110,105,116,105,111,110,32,100,111,99,32,123,32,114,101,108,97,116,105,111,110,32,118,58,32,117,115,101,114,32,124,32,100,111,99,35,118,59,32,112,101,114,109,105,115,115,105,111,110,32,119,32,61,32,118,32,45,32,118,45,62,119,59,32,125]
theorem aw1_bad : readF exprF aw1 = .bad 6 6 := badB_eq (by decide +kernel)
def aw2E : Ex := .mk 3 [] [] [.mk 1 [] [97] [], .mk 4 [] [] [.mk 1 [] [98] [], .mk 1 [] [99] []]]
def okB {α : Type} (f : α → Bool) (r : RR α) : Bool := match r with
 | .ok x => f x
 | .bad _ _ => false
theorem okB_ok {α : Type} {f : α → Bool} {r : RR α} (h : okB f r = true) : ∃ x, r = .ok x ∧ f x = true := by
 cases r with
 | ok x => exact ⟨x, rfl, h⟩
 | bad c i => cases h
theorem aw2_ok : ∃ e, readF exprF aw2 = .ok e ∧ (cmpE e aw2E == 0) = true := okB_ok (f := fun (e : Ex) => cmpE e aw2E == 0) (by decide +kernel)
theorem aw3_ok : ∃ d : List DefB, readF schemaR aw3 = .ok d ∧ (decide (d.length = 2) && decide ((d.getD 1 ([], [])).2.length = 2)) = true := okB_ok (f := fun (d : List DefB) => decide (d.length = 2) && decide ((d.getD 1 ([], [])).2.length = 2)) (by decide +kernel)
end Go.Proofs.YtkildckeikedhaaGreatDoor
namespace Go.Proofs.YtkildckeikedhaaGreatDoor
open Go.ChangeShapes Go.WideShapes Go.ChangeAt Go.RowKit
set_option linter.unusedVariables false

theorem ixc (c : UInt8) : (((c.toNat : Int)).toNat.toUInt8 = c) := by
 show UInt8.ofNat c.toNat = c
 rw [UInt8.ofNat_toNat]
theorem sp_ix (c : UInt8) : decide (0 ≤ Lib.indexByte [32, 9, 10, 13] c) = spB c := by
 have h : ∀ n : Fin 256, (decide (0 ≤ Lib.indexByte [32, 9, 10, 13] (UInt8.ofNat n.val)) == spB (UInt8.ofNat n.val)) = true := by decide +kernel
 have hc : UInt8.ofNat c.toNat = c := UInt8.ofNat_toNat
 have := h ⟨c.toNat, c.toNat_lt⟩
 simp only [hc] at this
 exact beq_iff_eq.1 this
theorem sg_ix (c : UInt8) : decide (0 ≤ Lib.indexByte sgL c) = sgB c := by
 have h : ∀ n : Fin 256, (decide (0 ≤ Lib.indexByte sgL (UInt8.ofNat n.val)) == sgB (UInt8.ofNat n.val)) = true := by decide +kernel
 have hc : UInt8.ofNat c.toNat = c := UInt8.ofNat_toNat
 have := h ⟨c.toNat, c.toNat_lt⟩
 simp only [hc] at this
 exact beq_iff_eq.1 this
theorem ln_ne (c : UInt8) : ((c.toNat : Int) != 10) = lnB c := by
 have h : ∀ n : Fin 256, ((((UInt8.ofNat n.val).toNat : Int) != 10) == lnB (UInt8.ofNat n.val)) = true := by decide +kernel
 have hc : UInt8.ofNat c.toNat = c := UInt8.ofNat_toNat
 have := h ⟨c.toNat, c.toNat_lt⟩
 simp only [hc] at this
 exact beq_iff_eq.1 this
theorem wd_eq (c : UInt8) : wdB c = decide ((97 ≤ c.toNat ∧ c.toNat ≤ 122) ∨ (65 ≤ c.toNat ∧ c.toNat ≤ 90) ∨ (48 ≤ c.toNat ∧ c.toNat ≤ 57) ∨ c.toNat = 95) := by
 have h : ∀ n : Fin 256, (wdB (UInt8.ofNat n.val) == decide ((97 ≤ (UInt8.ofNat n.val).toNat ∧ (UInt8.ofNat n.val).toNat ≤ 122) ∨ (65 ≤ (UInt8.ofNat n.val).toNat ∧ (UInt8.ofNat n.val).toNat ≤ 90) ∨ (48 ≤ (UInt8.ofNat n.val).toNat ∧ (UInt8.ofNat n.val).toNat ≤ 57) ∨ (UInt8.ofNat n.val).toNat = 95)) = true := by decide +kernel
 have hc : UInt8.ofNat c.toNat = c := UInt8.ofNat_toNat
 have := h ⟨c.toNat, c.toNat_lt⟩
 simp only [hc] at this
 exact beq_iff_eq.1 this
set_option maxRecDepth 100000 in
theorem isSpace_any (c : UInt8) (w : World) : Calls Tryz.prog 70 #[.int .u8 c.toNat] w fun e w' => e = .returned (.bool (spB c)) ∧ w = w' := by
 have HC := hiD (fun w => Tryz.strings_IndexByte ⟨#[32, 9, 10, 13]⟩ (c.toNat : Int) w)
 have HI := hiD (ixc c)
 have HS := hiD (sp_ix c)
 go_enter Tryz.func70, Tryz.ntmps70
 go_wp2_with fail
 refine (HC.out _).mono ?_
 rintro e w2 ⟨rfl, hw⟩
 subst hw
 rw [HI.out]
 go_wp2_with fail
 go_ret
 exact ⟨by rw [← HS.out]; rfl, rfl⟩
set_option maxRecDepth 100000 in
theorem isLine_any (c : UInt8) (w : World) : Calls Tryz.prog 72 #[.int .u8 c.toNat] w fun e w' => e = .returned (.bool (lnB c)) ∧ w = w' := by
 have HS := hiD (ln_ne c)
 go_enter Tryz.func72, Tryz.ntmps72
 go_wp2_with fail
 go_ret
 exact ⟨by rw [← HS.out]; rfl, rfl⟩
set_option maxRecDepth 100000 in
set_option maxHeartbeats 1000000 in
theorem isWord_any (c : UInt8) (w : World) : Calls Tryz.prog 73 #[.int .u8 c.toNat] w fun e w' => e = .returned (.bool (wdB c)) ∧ w = w' := by
 have HS := hiD (wd_eq c)
 go_enter Tryz.func73, Tryz.ntmps73
 go_wp2_with fail
 all_goals
  go_ret
  refine ⟨ret_b ?_, rfl⟩
  rw [HS.out, Bool.eq_iff_iff]
  simp only [decide_eq_true_eq, beq_iff_eq]
  first | omega | (simp; omega)
theorem ext_data (s : ByteArray) (a b : Nat) : (s.extract a b) = bstr ((s.data.toList.drop a).take (b - a)) := by
 have h : (s.extract a b).data.toList = (s.data.toList.drop a).take (b - a) := by
  simp [ByteArray.data_extract]
 rw [← bstr_back (s.extract a b), h]
theorem size_len (s : ByteArray) : s.data.toList.length = s.size := by rw [Array.length_toList]; rfl
theorem get_getD (s : ByteArray) (i : Nat) (h : i < s.size) : s[i] = s.data.toList.getD i 0 := by
 rw [List.getD_eq_getElem?_getD, List.getElem?_eq_getElem (by rw [size_len]; exact h)]; rfl
set_option maxRecDepth 100000 in
set_option maxHeartbeats 1000000 in
theorem runSp (s : ByteArray) (i : Nat) (a b : Nat) (hs : s.size ≤ 1000000) (hi : i ≤ s.size) (w : World) (ha : w.cell? ⟨a, 0, none⟩ = some (.int .i64 i)) (hb : w.cell? ⟨b, 0, none⟩ = some (.string s)) :
  Calls Tryz.prog 69 #[.func (.func 70) #[] #[], .pointer (some ⟨a, 0, none⟩), .pointer (some ⟨b, 0, none⟩)] w fun e w' => e = .returned (.string (s.extract i (i + runL spB s.data.toList i))) ∧ w = w' := by
 have hs' : (s.size : Int) ≤ 1000000 := by omega
 go_enter Tryz.func69, Tryz.ntmps69
 go_wp2_with fail
 go_loop [5] (fun jv => ∃ j : Nat, i ≤ j ∧ j ≤ s.size ∧ jv = .int .i64 j ∧ Hid (∀ k, i ≤ k → k < j → spB (s.data.toList.getD k 0) = true)) (fun jv => s.size - (intOf jv).toNat)
 case atStart => exact ⟨i, Nat.le_refl _, hi, rfl, fun k h1 h2 => by omega⟩
 case round =>
  obtain ⟨j, hij, hj, rfl, HP⟩ := hrel
  have hj0 : (0 : Int) ≤ j := by omega
  by_cases hlt : j < s.size
  ·have hlt1 : (j : Int) < s.size := by omega
   have HX := hiD (get_getD s j hlt)
   go_wp2_with fail
   refine (isSpace_any s[j] _).mono ?_
   rintro e w1 ⟨rfl, rfl⟩
   cases hc : spB s[j] with
   | true =>
    have HC := hiD hc
    clear hc
    go_wp2_with fail
    go_round
    case rel =>
     refine ⟨j + 1, by omega, by omega, by go_num, fun k h1 h2 => ?_⟩
     by_cases e : k = j
     ·subst e; rw [← HX.out]; exact HC.out
     ·exact HP.out k h1 (by omega)
    case measure => simp [intOf]; omega
   | false =>
    have H : Hid (j = i + runL spB s.data.toList i) := by
     show _ = _
     rw [runL_eq (k := j - i) (by rw [size_len]; omega) (fun k h1 h2 => HP.out k h1 (by omega)) (fun h => by rw [show i + (j - i) = j by omega, ← HX.out]; exact hc)]
     omega
    have h1 : (i : Int) ≤ j := by omega
    have h2 : (j : Int) ≤ s.size := by omega
    clear hc HP
    go_wp2_with fail
    go_ret
    exact ⟨by rw [← H.out]; rfl, rfl⟩
  ·obtain rfl : j = s.size := by omega
   have H : Hid (s.size = i + runL spB s.data.toList i) := by
    show _ = _
    rw [runL_eq (k := s.size - i) (by rw [size_len]; omega) (fun k h1 h2 => HP.out k h1 (by omega)) (fun h => by rw [size_len] at h; omega)]
    omega
   have h1 : (i : Int) ≤ s.size := by omega
   clear HP
   go_wp2_with fail
   go_ret
   exact ⟨by rw [← H.out]; rfl, rfl⟩
set_option maxRecDepth 100000 in
set_option maxHeartbeats 1000000 in
theorem runLn (s : ByteArray) (i : Nat) (a b : Nat) (hs : s.size ≤ 1000000) (hi : i ≤ s.size) (w : World) (ha : w.cell? ⟨a, 0, none⟩ = some (.int .i64 i)) (hb : w.cell? ⟨b, 0, none⟩ = some (.string s)) :
  Calls Tryz.prog 69 #[.func (.func 72) #[] #[], .pointer (some ⟨a, 0, none⟩), .pointer (some ⟨b, 0, none⟩)] w fun e w' => e = .returned (.string (s.extract i (i + runL lnB s.data.toList i))) ∧ w = w' := by
 have hs' : (s.size : Int) ≤ 1000000 := by omega
 go_enter Tryz.func69, Tryz.ntmps69
 go_wp2_with fail
 go_loop [5] (fun jv => ∃ j : Nat, i ≤ j ∧ j ≤ s.size ∧ jv = .int .i64 j ∧ Hid (∀ k, i ≤ k → k < j → lnB (s.data.toList.getD k 0) = true)) (fun jv => s.size - (intOf jv).toNat)
 case atStart => exact ⟨i, Nat.le_refl _, hi, rfl, fun k h1 h2 => by omega⟩
 case round =>
  obtain ⟨j, hij, hj, rfl, HP⟩ := hrel
  have hj0 : (0 : Int) ≤ j := by omega
  by_cases hlt : j < s.size
  ·have hlt1 : (j : Int) < s.size := by omega
   have HX := hiD (get_getD s j hlt)
   go_wp2_with fail
   refine (isLine_any s[j] _).mono ?_
   rintro e w1 ⟨rfl, rfl⟩
   cases hc : lnB s[j] with
   | true =>
    have HC := hiD hc
    clear hc
    go_wp2_with fail
    go_round
    case rel =>
     refine ⟨j + 1, by omega, by omega, by go_num, fun k h1 h2 => ?_⟩
     by_cases e : k = j
     ·subst e; rw [← HX.out]; exact HC.out
     ·exact HP.out k h1 (by omega)
    case measure => simp [intOf]; omega
   | false =>
    have H : Hid (j = i + runL lnB s.data.toList i) := by
     show _ = _
     rw [runL_eq (k := j - i) (by rw [size_len]; omega) (fun k h1 h2 => HP.out k h1 (by omega)) (fun h => by rw [show i + (j - i) = j by omega, ← HX.out]; exact hc)]
     omega
    have h1 : (i : Int) ≤ j := by omega
    have h2 : (j : Int) ≤ s.size := by omega
    clear hc HP
    go_wp2_with fail
    go_ret
    exact ⟨by rw [← H.out]; rfl, rfl⟩
  ·obtain rfl : j = s.size := by omega
   have H : Hid (s.size = i + runL lnB s.data.toList i) := by
    show _ = _
    rw [runL_eq (k := s.size - i) (by rw [size_len]; omega) (fun k h1 h2 => HP.out k h1 (by omega)) (fun h => by rw [size_len] at h; omega)]
    omega
   have h1 : (i : Int) ≤ s.size := by omega
   clear HP
   go_wp2_with fail
   go_ret
   exact ⟨by rw [← H.out]; rfl, rfl⟩
set_option maxRecDepth 100000 in
set_option maxHeartbeats 1000000 in
theorem runWd (s : ByteArray) (i : Nat) (a b : Nat) (hs : s.size ≤ 1000000) (hi : i ≤ s.size) (w : World) (ha : w.cell? ⟨a, 0, none⟩ = some (.int .i64 i)) (hb : w.cell? ⟨b, 0, none⟩ = some (.string s)) :
  Calls Tryz.prog 69 #[.func (.func 73) #[] #[], .pointer (some ⟨a, 0, none⟩), .pointer (some ⟨b, 0, none⟩)] w fun e w' => e = .returned (.string (s.extract i (i + runL wdB s.data.toList i))) ∧ w = w' := by
 have hs' : (s.size : Int) ≤ 1000000 := by omega
 go_enter Tryz.func69, Tryz.ntmps69
 go_wp2_with fail
 go_loop [5] (fun jv => ∃ j : Nat, i ≤ j ∧ j ≤ s.size ∧ jv = .int .i64 j ∧ Hid (∀ k, i ≤ k → k < j → wdB (s.data.toList.getD k 0) = true)) (fun jv => s.size - (intOf jv).toNat)
 case atStart => exact ⟨i, Nat.le_refl _, hi, rfl, fun k h1 h2 => by omega⟩
 case round =>
  obtain ⟨j, hij, hj, rfl, HP⟩ := hrel
  have hj0 : (0 : Int) ≤ j := by omega
  by_cases hlt : j < s.size
  ·have hlt1 : (j : Int) < s.size := by omega
   have HX := hiD (get_getD s j hlt)
   go_wp2_with fail
   refine (isWord_any s[j] _).mono ?_
   rintro e w1 ⟨rfl, rfl⟩
   cases hc : wdB s[j] with
   | true =>
    have HC := hiD hc
    clear hc
    go_wp2_with fail
    go_round
    case rel =>
     refine ⟨j + 1, by omega, by omega, by go_num, fun k h1 h2 => ?_⟩
     by_cases e : k = j
     ·subst e; rw [← HX.out]; exact HC.out
     ·exact HP.out k h1 (by omega)
    case measure => simp [intOf]; omega
   | false =>
    have H : Hid (j = i + runL wdB s.data.toList i) := by
     show _ = _
     rw [runL_eq (k := j - i) (by rw [size_len]; omega) (fun k h1 h2 => HP.out k h1 (by omega)) (fun h => by rw [show i + (j - i) = j by omega, ← HX.out]; exact hc)]
     omega
    have h1 : (i : Int) ≤ j := by omega
    have h2 : (j : Int) ≤ s.size := by omega
    clear hc HP
    go_wp2_with fail
    go_ret
    exact ⟨by rw [← H.out]; rfl, rfl⟩
  ·obtain rfl : j = s.size := by omega
   have H : Hid (s.size = i + runL wdB s.data.toList i) := by
    show _ = _
    rw [runL_eq (k := s.size - i) (by rw [size_len]; omega) (fun k h1 h2 => HP.out k h1 (by omega)) (fun h => by rw [size_len] at h; omega)]
    omega
   have h1 : (i : Int) ≤ s.size := by omega
   clear HP
   go_wp2_with fail
   go_ret
   exact ⟨by rw [← H.out]; rfl, rfl⟩
end Go.Proofs.YtkildckeikedhaaGreatDoor
namespace Go.Proofs.YtkildckeikedhaaGreatDoor.errAs
open Go.RowKit Go.Extern.Stop Go.Stop Go.Extern

theorem methodKind (h : Value) (w : World) : (Go.method 316 157 (.agg #[h]) "Kind").run Tryz.prog w = .ok (150, h) w := by kernel_rfl
theorem methodElem (h : Value) (w : World) : (Go.method 316 157 (.agg #[h]) "Elem").run Tryz.prog w = .ok (163, .agg #[h]) w := by kernel_rfl
theorem methodImplements (h : Value) (w : World) : (Go.method 316 157 (.agg #[h]) "Implements").run Tryz.prog w = .ok (164, .agg #[h]) w := by kernel_rfl
theorem methodAssignableTo (h : Value) (w : World) : (Go.method 316 157 (.agg #[h]) "AssignableTo").run Tryz.prog w = .ok (161, .agg #[h]) w := by kernel_rfl

theorem valueOfPC (a : Addr) (w : World) : (ReflectliteValue.unpack (.iface 115 (.pointer (some a)))).run Tryz.prog w
    = .ok (.agg #[.pointer (some ⟨3, 115, none⟩), .pointer (some ⟨w.heap.size, 0, none⟩), .int .u64 150]) (w.alloc (.cells #[.pointer (some a)] 115)) := by kernel_rfl
theorem typePC (a : Addr) (w : World) : (ReflectliteValue.methodAny (ReflectliteValue.valueError "reflectlite.Value.Type" 0) (fun t _ _ _ => ReflectliteType.toType t) #[.agg #[.pointer (some ⟨3, 115, none⟩), .pointer (some a), .int .u64 150]]).run Tryz.prog w
    = .ok (.iface 157 (.agg #[.pointer (some ⟨3, 115, none⟩)])) w := by kernel_rfl
theorem kindPC (w : World) : ((ReflectliteType.abiMethod fun t => (fun a : Nat => Value.int IntKind.u8 (a : Int)) <$> Rtype.kind t) #[.pointer (some ⟨3, 115, none⟩)]).run Tryz.prog w = .ok (.int .u8 22) w := by kernel_rfl
theorem kindC (w : World) : ((ReflectliteType.abiMethod fun t => (fun a : Nat => Value.int IntKind.u8 (a : Int)) <$> Rtype.kind t) #[.pointer (some ⟨3, 63, none⟩)]).run Tryz.prog w = .ok (.int .u8 2) w := by kernel_rfl
theorem partsPC (a : Addr) (w : World) : (ReflectliteValue.parts (.agg #[.pointer (some ⟨3, 115, none⟩), .pointer (some a), .int .u64 150])).run Tryz.prog w = .ok (some (115, a, 150)) w := by kernel_rfl
theorem isNilPC (a p : Addr) (W : World) (ha : W.cell? a = some (.pointer (some p))) :
    (ReflectliteValue.method (ReflectliteValue.valueError "reflectlite.Value.IsNil" 0) ReflectliteValue.isNil #[.agg #[.pointer (some ⟨3, 115, none⟩), .pointer (some a), .int .u64 150]]).run Tryz.prog W = .ok (.bool false) W := by
  change (ReflectliteValue.parts _ >>= _).run Tryz.prog W = _
  simp only [Array.getLit, List.getElem_toArray, List.getElem_cons_zero, Sem.run_bind, partsPC, Result.andThen]
  simp [ReflectliteValue.isNil, loadVar, isAgg, underlying, Tryz.underlying115, ha, Result.andThen]
theorem elemPC (w : World) : (ReflectliteType.method ReflectliteType.elem #[.agg #[.pointer (some ⟨3, 115, none⟩)]]).run Tryz.prog w = .ok (.iface 157 (.agg #[.pointer (some ⟨3, 63, none⟩)])) w := by kernel_rfl
theorem implementsC (w : World) : (ReflectliteType.relation "Implements" ReflectliteType.implements_ #[.agg #[.pointer (some ⟨3, 63, none⟩)], .iface 157 (.agg #[.pointer (some ⟨3, 24, none⟩)])]).run Tryz.prog w = .ok (.bool true) w := by kernel_rfl
theorem elemOfPC (w : World) : (Rtype.elem? 115).run Tryz.prog w = .ok (some 63) w := by kernel_rfl
theorem mkC (a : Addr) (w : World) : (ReflectliteValue.mk 63 a ReflectliteValue.flagAddr).run Tryz.prog w = .ok (.agg #[.pointer (some ⟨3, 63, none⟩), .pointer (some a), .int .u64 386]) w := by kernel_rfl
theorem elemVPC (a p : Addr) (W : World) (ha : W.cell? a = some (.pointer (some p))) :
    (ReflectliteValue.method (ReflectliteValue.valueError "reflectlite.Value.Elem" 0) ReflectliteValue.elem #[.agg #[.pointer (some ⟨3, 115, none⟩), .pointer (some a), .int .u64 150]]).run Tryz.prog W
      = .ok (.agg #[.pointer (some ⟨3, 63, none⟩), .pointer (some p), .int .u64 386]) W := by
  change (ReflectliteValue.parts _ >>= _).run Tryz.prog W = _
  simp only [Array.getLit, List.getElem_toArray, List.getElem_cons_zero, Sem.run_bind, partsPC, Result.andThen]
  simp [ReflectliteValue.elem, loadVar, isAgg, underlying, Tryz.underlying115, ha, Result.andThen, elemOfPC, mkC]
theorem partsCa (a : Addr) (w : World) : (ReflectliteValue.parts (.agg #[.pointer (some ⟨3, 63, none⟩), .pointer (some a), .int .u64 386])).run Tryz.prog w = .ok (some (63, a, 386)) w := by kernel_rfl
theorem partsC (a : Addr) (w : World) : (ReflectliteValue.parts (.agg #[.pointer (some ⟨3, 63, none⟩), .pointer (some a), .int .u64 130])).run Tryz.prog w = .ok (some (63, a, 130)) w := by kernel_rfl
theorem directC (w : World) : (Rtype.directlyAssignable 63 63).run Tryz.prog w = .ok true w := by kernel_rfl
theorem typeOfC (v : Value) (w : World) : (ReflectliteType.typeOf #[.iface 63 v]).run Tryz.prog w = .ok (.iface 157 (.agg #[.pointer (some ⟨3, 63, none⟩)])) w := by kernel_rfl
theorem assignableC (w : World) : (ReflectliteType.relation "AssignableTo" ReflectliteType.assignableTo #[.agg #[.pointer (some ⟨3, 63, none⟩)], .iface 157 (.agg #[.pointer (some ⟨3, 63, none⟩)])]).run Tryz.prog w = .ok (.bool true) w := by kernel_rfl

theorem valueOfPF (a : Addr) (w : World) : (ReflectliteValue.unpack (.iface 117 (.pointer (some a)))).run Tryz.prog w
    = .ok (.agg #[.pointer (some ⟨3, 117, none⟩), .pointer (some ⟨w.heap.size, 0, none⟩), .int .u64 150]) (w.alloc (.cells #[.pointer (some a)] 117)) := by kernel_rfl
theorem typePF (a : Addr) (w : World) : (ReflectliteValue.methodAny (ReflectliteValue.valueError "reflectlite.Value.Type" 0) (fun t _ _ _ => ReflectliteType.toType t) #[.agg #[.pointer (some ⟨3, 117, none⟩), .pointer (some a), .int .u64 150]]).run Tryz.prog w
    = .ok (.iface 157 (.agg #[.pointer (some ⟨3, 117, none⟩)])) w := by kernel_rfl
theorem kindPF (w : World) : ((ReflectliteType.abiMethod fun t => (fun a : Nat => Value.int IntKind.u8 (a : Int)) <$> Rtype.kind t) #[.pointer (some ⟨3, 117, none⟩)]).run Tryz.prog w = .ok (.int .u8 22) w := by kernel_rfl
theorem kindF (w : World) : ((ReflectliteType.abiMethod fun t => (fun a : Nat => Value.int IntKind.u8 (a : Int)) <$> Rtype.kind t) #[.pointer (some ⟨3, 94, none⟩)]).run Tryz.prog w = .ok (.int .u8 25) w := by kernel_rfl
theorem partsPF (a : Addr) (w : World) : (ReflectliteValue.parts (.agg #[.pointer (some ⟨3, 117, none⟩), .pointer (some a), .int .u64 150])).run Tryz.prog w = .ok (some (117, a, 150)) w := by kernel_rfl
theorem isNilPF (a p : Addr) (W : World) (ha : W.cell? a = some (.pointer (some p))) :
    (ReflectliteValue.method (ReflectliteValue.valueError "reflectlite.Value.IsNil" 0) ReflectliteValue.isNil #[.agg #[.pointer (some ⟨3, 117, none⟩), .pointer (some a), .int .u64 150]]).run Tryz.prog W = .ok (.bool false) W := by
  change (ReflectliteValue.parts _ >>= _).run Tryz.prog W = _
  simp only [Array.getLit, List.getElem_toArray, List.getElem_cons_zero, Sem.run_bind, partsPF, Result.andThen]
  simp [ReflectliteValue.isNil, loadVar, isAgg, underlying, Tryz.underlying117, ha, Result.andThen]
theorem elemPF (w : World) : (ReflectliteType.method ReflectliteType.elem #[.agg #[.pointer (some ⟨3, 117, none⟩)]]).run Tryz.prog w = .ok (.iface 157 (.agg #[.pointer (some ⟨3, 94, none⟩)])) w := by kernel_rfl
theorem implementsF (w : World) : (ReflectliteType.relation "Implements" ReflectliteType.implements_ #[.agg #[.pointer (some ⟨3, 94, none⟩)], .iface 157 (.agg #[.pointer (some ⟨3, 24, none⟩)])]).run Tryz.prog w = .ok (.bool true) w := by kernel_rfl
theorem elemOfPF (w : World) : (Rtype.elem? 117).run Tryz.prog w = .ok (some 94) w := by kernel_rfl
theorem mkF (a : Addr) (w : World) : (ReflectliteValue.mk 94 a ReflectliteValue.flagAddr).run Tryz.prog w = .ok (.agg #[.pointer (some ⟨3, 94, none⟩), .pointer (some a), .int .u64 409]) w := by kernel_rfl
theorem elemVPF (a p : Addr) (W : World) (ha : W.cell? a = some (.pointer (some p))) :
    (ReflectliteValue.method (ReflectliteValue.valueError "reflectlite.Value.Elem" 0) ReflectliteValue.elem #[.agg #[.pointer (some ⟨3, 117, none⟩), .pointer (some a), .int .u64 150]]).run Tryz.prog W
      = .ok (.agg #[.pointer (some ⟨3, 94, none⟩), .pointer (some p), .int .u64 409]) W := by
  change (ReflectliteValue.parts _ >>= _).run Tryz.prog W = _
  simp only [Array.getLit, List.getElem_toArray, List.getElem_cons_zero, Sem.run_bind, partsPF, Result.andThen]
  simp [ReflectliteValue.elem, loadVar, isAgg, underlying, Tryz.underlying117, ha, Result.andThen, elemOfPF, mkF]
theorem partsFa (a : Addr) (w : World) : (ReflectliteValue.parts (.agg #[.pointer (some ⟨3, 94, none⟩), .pointer (some a), .int .u64 409])).run Tryz.prog w = .ok (some (94, a, 409)) w := by kernel_rfl
theorem partsF (a : Addr) (w : World) : (ReflectliteValue.parts (.agg #[.pointer (some ⟨3, 94, none⟩), .pointer (some a), .int .u64 153])).run Tryz.prog w = .ok (some (94, a, 153)) w := by kernel_rfl
theorem directF (w : World) : (Rtype.directlyAssignable 94 94).run Tryz.prog w = .ok true w := by kernel_rfl
theorem typeOfF (v : Value) (w : World) : (ReflectliteType.typeOf #[.iface 94 v]).run Tryz.prog w = .ok (.iface 157 (.agg #[.pointer (some ⟨3, 94, none⟩)])) w := by kernel_rfl
theorem assignableF (w : World) : (ReflectliteType.relation "AssignableTo" ReflectliteType.assignableTo #[.agg #[.pointer (some ⟨3, 94, none⟩)], .iface 157 (.agg #[.pointer (some ⟨3, 94, none⟩)])]).run Tryz.prog w = .ok (.bool true) w := by kernel_rfl

theorem assignableFC (w : World) : (ReflectliteType.relation "AssignableTo" ReflectliteType.assignableTo #[.agg #[.pointer (some ⟨3, 94, none⟩)], .iface 157 (.agg #[.pointer (some ⟨3, 63, none⟩)])]).run Tryz.prog w = .ok (.bool false) w := by kernel_rfl
theorem assignableCF (w : World) : (ReflectliteType.relation "AssignableTo" ReflectliteType.assignableTo #[.agg #[.pointer (some ⟨3, 63, none⟩)], .iface 157 (.agg #[.pointer (some ⟨3, 94, none⟩)])]).run Tryz.prog w = .ok (.bool false) w := by kernel_rfl
theorem valueOfC (c : Int) (w : World) : (ReflectliteValue.unpack (.iface 63 (.int .i64 c))).run Tryz.prog w
    = .ok (.agg #[.pointer (some ⟨3, 63, none⟩), .pointer (some ⟨w.heap.size, 0, none⟩), .int .u64 130]) (w.alloc (.cells #[.int .i64 c] 63)) := by kernel_rfl
theorem valueOfF (c n : Int) (w : World) : (ReflectliteValue.unpack (.iface 94 (.agg #[.int .i64 c, .int .i64 n]))).run Tryz.prog w
    = .ok (.agg #[.pointer (some ⟨3, 94, none⟩), .pointer (some ⟨w.heap.size, 0, none⟩), .int .u64 153]) (w.alloc (.cells #[.int .i64 c, .int .i64 n] 94)) := by kernel_rfl
theorem setC (ta b : Addr) (c : Int) (old : Value) (W : World) (hb : W.cell? b = some (.int .i64 c)) (ht : W.cell? ta = some old) (hf : W.frozen? ta = false) :
    (ReflectliteValue.set #[.agg #[.pointer (some ⟨3, 63, none⟩), .pointer (some ta), .int .u64 386], .agg #[.pointer (some ⟨3, 63, none⟩), .pointer (some b), .int .u64 130]]).run Tryz.prog W
      = .ok (.tuple #[]) (W.setCell ta (.int .i64 c)) := by
  change (ReflectliteValue.parts _ >>= _).run Tryz.prog W = _
  simp only [Array.getLit, List.getElem_toArray, List.getElem_cons_zero, List.getElem_cons_succ, Sem.run_bind, partsCa, partsC, Result.andThen]
  simp [ReflectliteValue.flagAddr, loadVar, isAgg, underlying, Tryz.underlying63, hb, Result.andThen, directC, storeVar, Value.cells, storeCells, Addr.add]
  rw [run_store Tryz.prog W ta _ _ (by rfl)]
  simp [ht, hf]
theorem sizeF (w : World) : (sizeOf 94).run Tryz.prog w = .ok 2 w := by kernel_rfl
theorem aggF (w : World) : (isAgg 94).run Tryz.prog w = .ok true w := by kernel_rfl
theorem setF (ta b : Addr) (c n : Int) (o0 o1 : Value) (W : World) (hb0 : W.cell? b = some (.int .i64 c)) (hb1 : W.cell? (b.add 1) = some (.int .i64 n))
    (ht0 : W.cell? ta = some o0) (ht1 : (W.setCell ta (.int .i64 c)).cell? (ta.add 1) = some o1) (hf0 : W.frozen? ta = false) (hf1 : (W.setCell ta (.int .i64 c)).frozen? (ta.add 1) = false) :
    (ReflectliteValue.set #[.agg #[.pointer (some ⟨3, 94, none⟩), .pointer (some ta), .int .u64 409], .agg #[.pointer (some ⟨3, 94, none⟩), .pointer (some b), .int .u64 153]]).run Tryz.prog W
      = .ok (.tuple #[]) ((W.setCell ta (.int .i64 c)).setCell (ta.add 1) (.int .i64 n)) := by
  have hl : (loadCells b 2).run Tryz.prog W = .ok #[.int .i64 c, .int .i64 n] W :=
    run_loadCells_list (P := Tryz.prog) W b [.int .i64 c, .int .i64 n] (fun j v hj => by
      match j, hj with
      | 0, hj => simp at hj; subst hj; simpa [Addr.add] using hb0
      | 1, hj => simp at hj; subst hj; exact hb1)
  change (ReflectliteValue.parts _ >>= _).run Tryz.prog W = _
  simp only [Array.getLit, List.getElem_toArray, List.getElem_cons_zero, List.getElem_cons_succ, Sem.run_bind, partsFa, partsF, Result.andThen]
  simp [ReflectliteValue.flagAddr, loadVar, hl, Result.andThen, directF, storeVar, Value.cells, storeCells]
  rw [show ta.add 0 = ta from by simp [Addr.add], run_store Tryz.prog W ta _ _ (by rfl)]
  simp [ht0, hf0]
  rw [run_store Tryz.prog _ (ta.add 1) _ _ (by rfl)]
  simp [ht1, hf1]
end Go.Proofs.YtkildckeikedhaaGreatDoor.errAs
