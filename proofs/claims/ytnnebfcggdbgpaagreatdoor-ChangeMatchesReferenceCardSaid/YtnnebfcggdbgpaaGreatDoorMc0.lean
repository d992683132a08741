/-
  Decimal forms of numbers; no program is spoken of.
-/
import Derived.Test.YtnnebfcggdbgpaaGreatDoorPlain
import Derived.Lib.ItoaNum
import Derived.Lib.ParseIntBCases
import Derived.Test.YtnnebfcggdbgpaaGreatDoorNumB
import Derived.Test.YtnnebfcggdbgpaaGreatDoorNameQ
import Derived.Test.YtnnebfcggdbgpaaGreatDoorConv
import Derived.Test.YtnnebfcggdbgpaaGreatDoorArr
import Derived.Deep.Fields
import Derived.Test.YtnnebfcggdbgpaaGreatDoorOrd
import Derived.Test.YtnnebfcggdbgpaaGreatDoorNameP
import Derived.Test.YtnnebfcggdbgpaaGreatDoorNameD
import Derived.Deep.Cut
import Derived.Sort.Grow
import Derived.RegionTactic
import Derived.BigRegion
import Derived.Lib.SlicesCompact
import Derived.Lib.SliceRun
import Derived.Deep.LoopGhost
import Derived.Deep.Draws
import Derived.Deep.MidRow
import Derived.Laws.StructEq
import Derived.Shelf.SlSortFuncK.RowK2
import Derived.Shelf.SlSortFuncK.ComposeK
import Derived.Test.YtnnebfcggdbgpaaGreatDoorRefNumAt
import Derived.Test.YtnnebfcggdbgpaaGreatDoorTake
import Derived.Test.YtnnebfcggdbgpaaGreatDoorOwnF
import Derived.Test.YtnnebfcggdbgpaaGreatDoorShf
import Derived.Test.YtnnebfcggdbgpaaGreatDoorNameC
import Derived.Test.YtnnebfcggdbgpaaGreatDoorShfS
import Derived.ChangeSame
import Derived.SizedLaws
import Derived.HandedShaped
import Derived.OpenShut
import Derived.Deep.Slices
import Derived.Deep.WholeRow
import Derived.Deep.RegionHeld3
import Derived.Deep.RegionLaw
import Derived.Test.YtnnebfcggdbgpaaGreatDoorText
import Derived.Test.YtnnebfcggdbgpaaGreatDoorStep
import Derived.Test.YtnnebfcggdbgpaaGreatDoorStepC
import Derived.Test.YtnnebfcggdbgpaaGreatDoorTold
namespace Go.Proofs.YtnnebfcggdbgpaaGreatDoor
open Go.Lib
set_option linter.unusedVariables false

/-- The value of digits behind acc. -/
def numR (acc : Nat) : List UInt8 → Option Nat
  | [] => some acc
  | c :: r => if 48 ≤ c.toNat ∧ c.toNat ≤ 57 then numR (acc * 10 + (c.toNat - 48)) r else none
theorem numR_ge : ∀ {l : List UInt8} {acc x : Nat}, numR acc l = some x → acc ≤ x
  | [], acc, x, h => by simp only [numR, Option.some.injEq] at h; omega
  | c :: r, acc, x, h => by
    simp only [numR] at h
    split at h
    · have := numR_ge h; omega
    · cases h
theorem numR_snoc (c : UInt8) : ∀ (l : List UInt8) (acc : Nat), numR acc (l ++ [c]) = (numR acc l).bind fun y => if 48 ≤ c.toNat ∧ c.toNat ≤ 57 then some (y * 10 + (c.toNat - 48)) else none
  | [], acc => by simp [numR]
  | a :: l, acc => by
    simp only [List.cons_append, numR]
    split
    · exact numR_snoc c l _
    · rfl
theorem numR_parse : ∀ {l : List UInt8} {acc x : Nat}, parseUintM 18446744073709551615 acc l = .ok x → numR acc l = some x
  | [], acc, x, h => by simp only [parseUintM, NumEnd.ok.injEq] at h; simp [numR, h]
  | c :: r, acc, x, h => by
    simp only [parseUintM] at h
    simp only [numR]
    split at h
    · rename_i hc
      rw [if_pos hc]
      split at h
      · cases h
      · split at h
        · cases h
        · exact numR_parse h
    · cases h
theorem parse_numR : ∀ {l : List UInt8} {acc x : Nat}, numR acc l = some x → x ≤ 18446744073709551615 → parseUintM 18446744073709551615 acc l = .ok x
  | [], acc, x, h, _ => by simp only [numR, Option.some.injEq] at h; simp [parseUintM, h]
  | c :: r, acc, x, h, hx => by
    simp only [numR] at h
    simp only [parseUintM]
    split at h
    · rename_i hc
      have hg := numR_ge h
      rw [if_pos hc, if_neg (by omega), if_neg (by omega)]
      exact parse_numR h hx
    · cases h
theorem dig_c {d : Nat} (h : d < 10) : (UInt8.ofNat (48 + d)).toNat = 48 + d := by
  rw [UInt8.toNat_ofNat']; omega
theorem numR_dec (u : Nat) : numR 0 (decDigits u) = some u := by
  induction u using Nat.strongRecOn with
  | _ u ih =>
    by_cases h : u < 10
    · rw [decDigits_one h]
      simp only [numR, dig_c h]
      rw [if_pos (by omega)]; congr 1; omega
    · rw [decDigits, dif_neg h, numR_snoc, ih (u / 10) (by omega), Option.bind_some, dig_c (by omega), if_pos (by omega)]; congr 1; omega
theorem dec_ne (u : Nat) : decDigits u ≠ [] := by
  rw [decDigits]
  split <;> simp
theorem dec_head (u : Nat) (hu : 1 ≤ u) : ∀ c r, decDigits u = c :: r → c ≠ 48 := by
  induction u using Nat.strongRecOn with
  | _ u ih =>
    intro c r h
    by_cases hs : u < 10
    · rw [decDigits_one hs] at h
      obtain ⟨rfl, _⟩ := List.cons.inj h
      intro e
      have := congrArg UInt8.toNat e
      rw [dig_c hs] at this
      have h48 : (48 : UInt8).toNat = 48 := rfl
      omega
    · rw [decDigits, dif_neg hs] at h
      cases hd : decDigits (u / 10) with
      | nil => exact absurd hd (dec_ne _)
      | cons a l =>
        rw [hd, List.cons_append] at h
        obtain ⟨rfl, _⟩ := List.cons.inj h
        exact ih (u / 10) (by omega) (by omega) a l hd
theorem dec_digits (u : Nat) : ∀ c ∈ decDigits u, 48 ≤ c.toNat ∧ c.toNat ≤ 57 := by
  induction u using Nat.strongRecOn with
  | _ u ih =>
    intro c hc
    by_cases hs : u < 10
    · rw [decDigits_one hs, List.mem_singleton] at hc
      subst hc
      rw [dig_c hs]; omega
    · rw [decDigits, dif_neg hs, List.mem_append, List.mem_singleton] at hc
      rcases hc with hc | rfl
      · exact ih _ (by omega) c hc
      · rw [dig_c (by omega)]; omega
/-- The only decimal form. -/
theorem dec_only : ∀ (n : Nat) (l : List UInt8) (x : Nat), l.length ≤ n → l ≠ [] → (∀ c r, l = c :: r → c ≠ 48) → numR 0 l = some x → decDigits x = l
  | 0, l, x, hn, hne, _, _ => absurd (List.eq_nil_of_length_eq_zero (by omega)) hne
  | n + 1, l, x, hn, hne, hh, h => by
    obtain ⟨m, c, rfl⟩ : ∃ m c, l = m ++ [c] := ⟨l.dropLast, l.getLast hne, (List.dropLast_concat_getLast hne).symm⟩
    rw [numR_snoc] at h
    obtain ⟨y, hy, h⟩ := Option.bind_eq_some_iff.1 h
    split at h
    · rename_i hc
      simp only [Option.some.injEq] at h
      have hcc : UInt8.ofNat (48 + (c.toNat - 48)) = c := by
        rw [show 48 + (c.toNat - 48) = c.toNat by omega]; exact UInt8.ofNat_toNat
      cases m with
      | nil =>
        simp only [numR, Option.some.injEq] at hy
        subst hy h
        simp only [Nat.zero_mul, Nat.zero_add, List.nil_append]
        rw [decDigits_one (by omega), hcc]
      | cons a m =>
        have ha : a ≠ 48 := hh a (m ++ [c]) rfl
        have ih := dec_only n (a :: m) y (by simp only [List.length_append, List.length_cons, List.length_nil] at hn ⊢; omega) (by simp) (fun c' r' e => by obtain ⟨rfl, _⟩ := List.cons.inj e; exact ha) hy
        have hy1 : 1 ≤ y := by
          simp only [numR] at hy
          split at hy
          · rename_i ha2
            have := numR_ge hy
            have : a.toNat ≠ 48 := fun e => ha (UInt8.toNat_inj.1 e)
            omega
          · cases hy
        have e1 : x / 10 = y := by omega
        have e2 : x % 10 = c.toNat - 48 := by omega
        rw [decDigits, dif_neg (by omega), e1, e2, ih, hcc]
    · cases h
theorem nDigits_le : ∀ (k u : Nat), u < 10 ^ (k + 1) → nDigits u ≤ k + 1
  | 0, u, h => by rw [nDigits_small (by simpa using h)]; exact Nat.le_refl _
  | k + 1, u, h => by
    by_cases hs : u < 10
    · rw [nDigits_small hs]; omega
    · rw [nDigits_big hs]
      have := nDigits_le k (u / 10) (by rw [Nat.pow_succ] at h; omega)
      omega
/-- The value of digits; 0 if they are none of a number from 1 to 2^63 - 1. -/
def numS (l : List UInt8) : Nat :=
  if l.length = 0 ∨ 19 < l.length ∨ l.head? = some 48 then 0 else match numR 0 l with | some x => if x ≤ 9223372036854775807 then x else 0 | none => 0
/-- What change.decimal finds. -/
def decP (l : List UInt8) : Option Nat := match parseUintB 64 l with | .ok x => if decDigits x = l ∧ 1 ≤ x ∧ x ≤ 9223372036854775807 then some x else none | _ => none
theorem decP_of {l : List UInt8} {x : Nat} (h : parseUintB 64 l = .ok x) (h2 : decDigits x = l) (h3 : 1 ≤ x) (h4 : x ≤ 9223372036854775807) : numS l = x := by
  have hne : l ≠ [] := h2 ▸ dec_ne x
  have hlen : l.length ≤ 19 := by rw [← h2, decDigits_length]; exact nDigits_le 18 x (by omega)
  have hh : l.head? ≠ some 48 := by
    intro e
    cases l with
    | nil => cases e
    | cons c r =>
      simp only [List.head?_cons, Option.some.injEq] at e
      exact dec_head x h3 c r h2 e
  have hn : numR 0 l = some x := by rw [← h2]; exact numR_dec x
  unfold numS
  have hc : ¬ (l.length = 0 ∨ 19 < l.length ∨ l.head? = some 48) := fun e => e.elim (fun e => hne (List.eq_nil_of_length_eq_zero e)) (fun e => e.elim (fun e => absurd e (by omega)) hh)
  rw [if_neg hc, hn]
  simp only []
  rw [if_pos h4]
theorem numS_back {l : List UInt8} (h : numS l ≠ 0) : parseUintB 64 l = .ok (numS l) ∧ decDigits (numS l) = l ∧ 1 ≤ numS l ∧ numS l ≤ 9223372036854775807 := by
  unfold numS at h ⊢
  split at h
  · exact absurd rfl h
  · rename_i hc
    rw [if_neg hc]
    cases hn : numR 0 l with
    | none => rw [hn] at h; exact absurd rfl h
    | some x =>
      rw [hn] at h
      simp only [] at h ⊢
      split at h
      · rename_i hx
        rw [if_pos hx]
        have hne : l ≠ [] := fun e => hc (.inl (by rw [e]; rfl))
        refine ⟨?_, dec_only l.length l x (Nat.le_refl _) hne (fun c r e he => hc (.inr (.inr (by rw [e, he]; rfl)))) hn, by omega, hx⟩
        unfold parseUintB
        rw [if_neg hne]
        exact parse_numR hn (by omega)
      · exact absurd rfl h
theorem decP_num (l : List UInt8) : decP l = if numS l = 0 then none else some (numS l) := by
  by_cases h : numS l = 0
  · rw [if_pos h]
    unfold decP
    cases hp : parseUintB 64 l
    case ok x =>
      simp only []
      by_cases hx : decDigits x = l ∧ 1 ≤ x ∧ x ≤ 9223372036854775807
      · have := decP_of hp hx.1 hx.2.1 hx.2.2
        omega
      · rw [if_neg hx]
    all_goals rfl
  · obtain ⟨h1, h2, h3, h4⟩ := numS_back h
    rw [if_neg h]
    unfold decP
    rw [h1]
    simp only []
    rw [if_pos ⟨h2, h3, h4⟩]
theorem numS_dec {x : Nat} (h3 : 1 ≤ x) (h4 : x ≤ 9223372036854775807) : numS (decDigits x) = x := by
  refine decP_of ?_ rfl h3 h4
  unfold parseUintB
  rw [if_neg (dec_ne x)]
  exact parse_numR (numR_dec x) (by omega)
end Go.Proofs.YtnnebfcggdbgpaaGreatDoor
/-
  Tuples, their texts and their bytes; no program is spoken of.
-/
namespace Go.Proofs.YtnnebfcggdbgpaaGreatDoor
open Go.ChangeShapes Go.WideShapes Go.ChangeAt Go.RowKit
set_option linter.unusedVariables false

structure Tu where
  ot : ByteArray
  oi : ByteArray
  re : ByteArray
  st : ByteArray
  si : ByteArray
  us : ByteArray

def e0 : ByteArray := ⟨#[]⟩
def t0 : Tu := ⟨e0, e0, e0, e0, e0, e0⟩
def isUs (s : ByteArray) : Bool := decide (s = e0) || isName s
def rightT (t : Tu) : Bool := isName t.ot && (isId t.oi && (isName t.re && (isName t.st && (isId t.si && isUs t.us))))
theorem rightT_all {t : Tu} (h : rightT t = true) : isName t.ot = true ∧ isId t.oi = true ∧ isName t.re = true ∧ isName t.st = true ∧ isId t.si = true ∧ isUs t.us = true := by
  unfold rightT at h
  simp only [Bool.and_eq_true] at h
  exact h
theorem rightT_mk {t : Tu} (h : isName t.ot = true ∧ isId t.oi = true ∧ isName t.re = true ∧ isName t.st = true ∧ isId t.si = true ∧ isUs t.us = true) : rightT t = true := by
  unfold rightT
  simp only [Bool.and_eq_true]
  exact h
theorem consB_size {cap : Bool} {signs : ByteArray} {most : Nat} {s : ByteArray} (h : consB cap signs most s.data.toList = true) : s.size ≤ most ∧ ∀ c ∈ s.data.toList, hasB cap signs c = true := by
  have h := of_decide_eq_true h
  have hs : s.data.toList.length = s.size := by rw [Array.length_toList]; rfl
  exact ⟨by omega, h.2.2⟩
theorem name_size {s : ByteArray} (h : isName s = true) : s.size ≤ 64 := by
  unfold isName at h
  simp only [Bool.and_eq_true] at h
  exact (consB_size h.1.1).1
theorem id_size {s : ByteArray} (h : isId s = true) : s.size ≤ 128 := (consB_size h).1
theorem us_size {s : ByteArray} (h : isUs s = true) : s.size ≤ 64 := by
  unfold isUs at h
  simp only [Bool.or_eq_true, decide_eq_true_eq] at h
  rcases h with rfl | h
  · exact Nat.zero_le _
  · exact name_size h
theorem id_no {t : ByteArray} (h : isId t = true) (c : UInt8) (hc : hasB true ⟨#[95, 45, 46, 47, 61]⟩ c = false) : c ∉ t.data.toList := by
  intro hm
  have h1 := (consB_size h).2 c hm
  rw [hc] at h1; cases h1
theorem size_len (s : ByteArray) : s.data.toList.length = s.size := by rw [Array.length_toList]; rfl
theorem e0_iff (s : ByteArray) : s = e0 ↔ s.data.toList = [] := by
  constructor
  · rintro rfl; rfl
  · intro h; exact bytes_inj h

/-! ### texts -/
def usL (s : ByteArray) : List UInt8 := if s = e0 then [] else 35 :: s.data.toList
def frontL (t : Tu) : List UInt8 := t.ot.data.toList ++ 58 :: (t.oi.data.toList ++ 35 :: t.re.data.toList)
def backL (t : Tu) : List UInt8 := t.st.data.toList ++ 58 :: (t.si.data.toList ++ usL t.us)
def textL (t : Tu) : List UInt8 := frontL t ++ 64 :: backL t
def textT (t : Tu) : ByteArray := bstr (textL t)
def atA : ByteArray := ⟨#[64]⟩
def parseW (n : Nat) (f : ByteArray) (k1 : Bool) (ob re : ByteArray) (k2 : Bool) (sub us : ByteArray) (k3 : Bool) : Tu × Nat × Nat :=
  if k1 = false ∨ k2 = false then (t0, 6, n)
  else if (parseObj ob).2.2.1 ≠ 0 then (t0, (parseObj ob).2.2.1, (parseObj ob).2.2.2)
  else if isName re = false then (t0, 5, ob.size + 1)
  else if (parseObj sub).2.2.1 ≠ 0 then (t0, (parseObj sub).2.2.1, (parseObj sub).2.2.2 + (f.size + 1))
  else if k3 = true ∧ isName us = false then (t0, 5, f.size + 1 + sub.size + 1)
  else (⟨(parseObj ob).1, (parseObj ob).2.1, re, (parseObj sub).1, (parseObj sub).2.1, us⟩, 0, 0)
def parseT (s : ByteArray) : Tu × Nat × Nat :=
  parseW s.size (cut3 s atA).1 (cut3 s atA).2.2 (cut3 (cut3 s atA).1 hashA).1 (cut3 (cut3 s atA).1 hashA).2.1 (cut3 (cut3 s atA).1 hashA).2.2
    (cut3 (cut3 s atA).2.1 hashA).1 (cut3 (cut3 s atA).2.1 hashA).2.1 (cut3 (cut3 s atA).2.1 hashA).2.2
/-- A cut text is put together again. -/
theorem cut_back {s : ByteArray} {c : UInt8} (h : (cut3 s ⟨#[c]⟩).2.2 = true) : s.data.toList = (cut3 s ⟨#[c]⟩).1.data.toList ++ c :: (cut3 s ⟨#[c]⟩).2.1.data.toList := by
  have hs := size_len s
  rw [cut_fnd] at h ⊢
  by_cases hk : fnd s.data.toList c < s.size
  · rw [if_pos hk]
    have hc : (s.data.toList)[fnd s.data.toList c]'(by omega) = c := by
      have := List.findIdx_getElem (p := fun x => x == c) (xs := s.data.toList) (w := by show fnd s.data.toList c < _; omega)
      exact beq_iff_eq.1 this
    show s.data.toList = (bstr _).data.toList ++ c :: (bstr _).data.toList
    rw [bstr_data, bstr_data]
    conv => lhs; rw [← List.take_append_drop (fnd s.data.toList c) s.data.toList, List.drop_eq_getElem_cons (by omega), hc]
  · rw [if_neg hk] at h; cases h
theorem cut_none {s : ByteArray} {c : UInt8} (h : (cut3 s ⟨#[c]⟩).2.2 = false) : (cut3 s ⟨#[c]⟩).1 = s ∧ (cut3 s ⟨#[c]⟩).2.1 = e0 := by
  rw [cut_fnd] at h ⊢
  by_cases hk : fnd s.data.toList c < s.size
  · rw [if_pos hk] at h; cases h
  · rw [if_neg hk]; exact ⟨rfl, rfl⟩
theorem parseObj_back {s : ByteArray} (h : (parseObj s).2.2.1 = 0) : isName (parseObj s).1 = true ∧ isId (parseObj s).2.1 = true ∧ s.data.toList = (parseObj s).1.data.toList ++ 58 :: (parseObj s).2.1.data.toList := by
  unfold parseObj at h ⊢
  split at h
  · cases h
  · rename_i h1
    split at h
    · cases h
    · rename_i h2
      rw [if_neg h1, if_neg h2]
      have h1' : (cut3 s colonA).2.2 = true ∧ isName (cut3 s colonA).1 = true := by
        constructor
        · cases hb : (cut3 s colonA).2.2
          · exact absurd (.inl hb) h1
          · rfl
        · cases hb : isName (cut3 s colonA).1
          · exact absurd (.inr hb) h1
          · rfl
      exact ⟨h1'.2, by simpa using h2, cut_back (c := 58) h1'.1⟩
theorem parseObj_at (s : ByteArray) : (parseObj s).2.2.2 ≤ s.size + 1 ∧ ((parseObj s).2.2.1 = 0 ∨ (parseObj s).2.2.1 = 5) := by
  have := cut_size s colonA
  unfold parseObj
  split
  · exact ⟨Nat.zero_le _, .inr rfl⟩
  · split
    · exact ⟨by show (cut3 s colonA).1.size + 1 ≤ _; omega, .inr rfl⟩
    · exact ⟨Nat.zero_le _, .inl rfl⟩
theorem cut_size2 (s sep : ByteArray) : (cut3 s sep).2.1.size ≤ s.size := by
  show (Lib.cut s.data.toList sep.data.toList).2.1.toArray.size ≤ s.size
  rw [List.size_toArray]
  unfold Lib.cut
  split
  · simp only [List.length_drop, size_len]; omega
  · exact Nat.zero_le _
/-- What is read as a tuple is the text of the right tuple. -/
theorem parseT_back {s : ByteArray} (h : (parseT s).2.1 = 0) : rightT (parseT s).1 = true ∧ textT (parseT s).1 = s ∧ (parseT s).2.2 = 0 := by
  unfold parseT parseW at h ⊢
  obtain ⟨f, hf⟩ : ∃ f, f = (cut3 s atA).1 := ⟨_, rfl⟩
  obtain ⟨b, hb⟩ : ∃ b, b = (cut3 s atA).2.1 := ⟨_, rfl⟩
  rw [← hf, ← hb] at h ⊢
  split at h
  · cases h
  split at h
  · rename_i h1 h2; exact absurd h h2
  split at h
  · cases h
  split at h
  · rename_i h1 h2 h3 h4; exact absurd h h4
  split at h
  · cases h
  rename_i h1 h2 h3 h4 h5
  rw [if_neg h1, if_neg h2, if_neg h3, if_neg h4, if_neg h5]
  have k1 : (cut3 s atA).2.2 = true := by cases hx : (cut3 s atA).2.2 with | false => exact absurd (.inl hx) h1 | true => rfl
  have k2 : (cut3 f hashA).2.2 = true := by cases hx : (cut3 f hashA).2.2 with | false => exact absurd (.inr hx) h1 | true => rfl
  have c1 := cut_back (c := 64) k1
  have c2 := cut_back (c := 35) k2
  rw [show (⟨#[64]⟩ : ByteArray) = atA from rfl, ← hf, ← hb] at c1
  rw [show (⟨#[35]⟩ : ByteArray) = hashA from rfl] at c2
  obtain ⟨o1, o2, o3⟩ := parseObj_back (Classical.not_not.1 h2)
  obtain ⟨u1, u2, u3⟩ := parseObj_back (Classical.not_not.1 h4)
  have hre : isName (cut3 f hashA).2.1 = true := by simpa using h3
  have hus : isUs (cut3 b hashA).2.1 = true ∧ b.data.toList = (cut3 b hashA).1.data.toList ++ usL (cut3 b hashA).2.1 := by
    cases k3 : (cut3 b hashA).2.2 with
    | false =>
      obtain ⟨n1, n2⟩ := cut_none (c := 35) k3
      rw [show (⟨#[35]⟩ : ByteArray) = hashA from rfl] at n1 n2
      rw [n1, n2]
      exact ⟨rfl, by simp [usL]⟩
    | true =>
      have hn : isName (cut3 b hashA).2.1 = true := by
        cases hx : isName (cut3 b hashA).2.1 with
        | false => exact absurd ⟨k3, hx⟩ h5
        | true => rfl
      have c3 := cut_back (c := 35) k3
      rw [show (⟨#[35]⟩ : ByteArray) = hashA from rfl] at c3
      have hne : ¬ (cut3 b hashA).2.1 = e0 := by
        intro e; rw [e] at hn; exact absurd hn (by decide +kernel)
      refine ⟨by unfold isUs; rw [hn]; simp, ?_⟩
      unfold usL
      rw [if_neg hne]; exact c3
  refine ⟨rightT_mk ⟨o1, o2, hre, u1, u2, hus.1⟩, ?_, rfl⟩
  unfold textT
  apply bytes_inj
  rw [bstr_data, c1, c2, hus.2, o3, u3]
  simp [textL, frontL, backL]
theorem parseT_fail {s : ByteArray} (h : (parseT s).2.1 ≠ 0) : (parseT s).1 = t0 := by
  unfold parseT parseW at h ⊢
  split
  · rfl
  split
  · rfl
  split
  · rfl
  split
  · rfl
  split
  · rfl
  rename_i h1 h2 h3 h4 h5
  rw [if_neg h1, if_neg h2, if_neg h3, if_neg h4, if_neg h5] at h
  exact absurd rfl h
theorem parse_text {t : Tu} (h : rightT t = true) : parseT (textT t) = (t, 0, 0) := by
  obtain ⟨h1, h2, h3, h4, h5, h6⟩ := rightT_all h
  have e1 : textT t = bstr (frontL t) ++ ⟨#[64]⟩ ++ bstr (backL t) := bytes_inj (by unfold textT; rw [bstr_data]; simp [textL, bstr])
  have n1 : (64 : UInt8) ∉ (bstr (frontL t)).data.toList := by
    rw [bstr_data]
    unfold frontL
    simp only [List.mem_append, List.mem_cons, not_or]
    exact ⟨name_no h1 64 (by decide +kernel), by decide, id_no h2 64 (by decide +kernel), by decide, name_no h3 64 (by decide +kernel)⟩
  have c1 := cut_at 64 (bstr (frontL t)) (bstr (backL t)) n1
  rw [← e1] at c1
  have e2 : bstr (frontL t) = (t.ot ++ ⟨#[58]⟩ ++ t.oi) ++ ⟨#[35]⟩ ++ t.re := bytes_inj (by rw [bstr_data]; simp [frontL])
  have n2 : (35 : UInt8) ∉ (t.ot ++ ⟨#[58]⟩ ++ t.oi).data.toList := by
    rw [show (t.ot ++ ⟨#[58]⟩ ++ t.oi).data.toList = t.ot.data.toList ++ 58 :: t.oi.data.toList by simp]
    simp only [List.mem_append, List.mem_cons, not_or]
    exact ⟨name_no h1 35 (by decide +kernel), by decide, id_no h2 35 (by decide +kernel)⟩
  have c2 := cut_at 35 (t.ot ++ ⟨#[58]⟩ ++ t.oi) t.re n2
  rw [← e2] at c2
  have n3 : (35 : UInt8) ∉ (t.st ++ ⟨#[58]⟩ ++ t.si).data.toList := by
    rw [show (t.st ++ ⟨#[58]⟩ ++ t.si).data.toList = t.st.data.toList ++ 58 :: t.si.data.toList by simp]
    simp only [List.mem_append, List.mem_cons, not_or]
    exact ⟨name_no h4 35 (by decide +kernel), by decide, id_no h5 35 (by decide +kernel)⟩
  have c3 : ∃ k, cut3 (bstr (backL t)) ⟨#[35]⟩ = (t.st ++ ⟨#[58]⟩ ++ t.si, t.us, k) ∧ (k = true → isName t.us = true) := by
    by_cases hu : t.us = e0
    · have e3 : bstr (backL t) = t.st ++ ⟨#[58]⟩ ++ t.si := bytes_inj (by rw [bstr_data]; simp [backL, usL, hu])
      refine ⟨false, ?_, fun h => by cases h⟩
      rw [e3, hu]; exact cut_no 35 _ n3
    · have e3 : bstr (backL t) = (t.st ++ ⟨#[58]⟩ ++ t.si) ++ ⟨#[35]⟩ ++ t.us := bytes_inj (by rw [bstr_data]; simp [backL, usL, hu])
      refine ⟨true, ?_, fun _ => ?_⟩
      · rw [e3]; exact cut_at 35 _ _ n3
      · unfold isUs at h6
        simpa [hu] using h6
  obtain ⟨k, c3, hk⟩ := c3
  unfold parseT
  rw [show atA = ⟨#[64]⟩ from rfl, show hashA = ⟨#[35]⟩ from rfl, c1]
  simp only []
  rw [c2, c3]
  unfold parseW
  simp only [parse_obj t.ot t.oi h1 h2, parse_obj t.st t.si h4 h5]
  rw [if_neg (by simp), if_neg (by simp), if_neg (by simp [h3]), if_neg (by simp), if_neg (by rintro ⟨a, b⟩; rw [hk a] at b; cases b)]
theorem textT_len {t : Tu} (h : rightT t = true) : (textT t).size ≤ 520 := by
  obtain ⟨h1, h2, h3, h4, h5, h6⟩ := rightT_all h
  have a1 := name_size h1
  have a2 := id_size h2
  have a3 := name_size h3
  have a4 := name_size h4
  have a5 := id_size h5
  have a6 := us_size h6
  rw [← size_len]
  unfold textT
  rw [bstr_data]
  have hu : (usL t.us).length ≤ 1 + t.us.size := by
    unfold usL
    split
    · exact Nat.zero_le _
    · rw [List.length_cons, size_len]; omega
  simp only [textL, frontL, backL, List.length_append, List.length_cons, size_len]
  omega
theorem text_apart {a b : Tu} (ha : rightT a = true) (hb : rightT b = true) (h : textT a = textT b) : a = b := by
  have h1 := parse_text ha
  rw [h, parse_text hb] at h1
  exact (Prod.mk.inj h1).1.symm

/-! ### bytes -/
def putS (s : ByteArray) : List UInt8 := put s.size ++ s.data.toList
def putT (t : Tu) : List UInt8 := putS t.ot ++ (putS t.oi ++ (putS t.re ++ (putS t.st ++ (putS t.si ++ putS t.us))))
def partP (most : Nat) (r : List UInt8) : List UInt8 × Nat × Nat :=
  if (num r).2.2 ≠ 0 then ([], 0, (num r).2.2) else if most < (num r).1 then ([], 0, 15) else if r.length < (num r).2.1 + (num r).1 then ([], 0, 1)
  else ((r.drop (num r).2.1).take (num r).1, (num r).2.1 + (num r).1, 0)
theorem putS_len (s : ByteArray) (h : s.size < lim64) : (putS s).length ≤ 10 + s.size := by
  have := put_len10 h
  unfold putS
  rw [List.length_append, size_len]; omega
theorem part_put {most : Nat} {s : ByteArray} (r : List UInt8) (h : s.size ≤ most) (hm : most ≤ 1000) : partP most (putS s ++ r) = (s.data.toList, (putS s).length, 0) := by
  have hn := num_put (x := s.size) (by unfold lim64; omega) (s.data.toList ++ r)
  have e : putS s ++ r = put s.size ++ (s.data.toList ++ r) := by simp [putS]
  have hl := size_len s
  unfold partP
  rw [e, hn]
  simp only []
  rw [if_neg (by simp), if_neg (by omega), if_neg (by simp only [List.length_append, size_len]; omega)]
  rw [List.drop_left' rfl, List.take_left' hl]
  simp only [putS, List.length_append, size_len]
theorem part_back {most : Nat} {r : List UInt8} (h : (partP most r).2.2 = 0) : (partP most r).1.length ≤ most ∧ putS (str (partP most r).1) = r.take (partP most r).2.1 ∧ (partP most r).2.1 ≤ r.length ∧ (partP most r).2.1 = (putS (str (partP most r).1)).length := by
  unfold partP at h ⊢
  split at h
  · rename_i h1; exact absurd h h1
  split at h
  · cases h
  split at h
  · cases h
  rename_i h1 h2 h3
  rw [if_neg h1, if_neg h2, if_neg h3]
  have h1' := Classical.not_not.1 h1
  obtain ⟨b1, b2⟩ := num_back h1'
  obtain ⟨n, hn⟩ : ∃ n, n = (num r).1 := ⟨_, rfl⟩
  obtain ⟨k, hk⟩ : ∃ k, k = (num r).2.1 := ⟨_, rfl⟩
  rw [← hn] at h2 h3 b1 b2 ⊢
  rw [← hk] at h3 b1 b2 ⊢
  have hlen : ((r.drop k).take n).length = n := by rw [List.length_take, List.length_drop]; omega
  have e : putS (str ((r.drop k).take n)) = r.take (k + n) := by
    unfold putS
    rw [str_size, hlen, show (str ((r.drop k).take n)).data.toList = (r.drop k).take n from rfl, ← b1, List.take_add]
  refine ⟨by simp only []; omega, e, by simp only []; omega, ?_⟩
  simp only []
  rw [e, List.length_take]; omega
theorem partP_small (most : Nat) (r : List UInt8) : (partP most r).2.1 ≤ r.length := by
  by_cases h : (partP most r).2.2 = 0
  · exact (part_back h).2.2.1
  · unfold partP at h ⊢
    split
    · exact Nat.zero_le _
    split
    · exact Nat.zero_le _
    split
    · exact Nat.zero_le _
    rename_i h1 h2 h3
    rw [if_neg h1, if_neg h2, if_neg h3] at h
    exact absurd rfl h
theorem partP_bad {most : Nat} {r : List UInt8} (h : (partP most r).2.2 ≠ 0) : (partP most r).1 = [] ∧ (partP most r).2.1 = 0 := by
  unfold partP at h ⊢
  split
  · exact ⟨rfl, rfl⟩
  split
  · exact ⟨rfl, rfl⟩
  split
  · exact ⟨rfl, rfl⟩
  rename_i h1 h2 h3
  rw [if_neg h1, if_neg h2, if_neg h3] at h
  exact absurd rfl h

/-- The kinds of a tuple's parts: names, identifiers, sets of users. -/
def mostK (k : Nat) : Nat := if k = 1 then 128 else 64
def testK (k : Nat) (s : ByteArray) : Bool := if k = 0 then isName s else if k = 1 then isId s else isUs s
theorem testK_size {k : Nat} {s : ByteArray} (h : testK k s = true) : s.size ≤ mostK k := by
  unfold testK at h
  unfold mostK
  split at h
  · rw [if_neg (by omega)]; exact name_size h
  split at h
  · rename_i h1; rw [if_pos h1]; exact id_size h
  · rename_i h1; rw [if_neg h1]; exact us_size h
theorem mostK_le (k : Nat) : mostK k ≤ 128 := by unfold mostK; split <;> omega
def Tu.set (t : Tu) (i : Nat) (s : ByteArray) : Tu :=
  if i = 0 then { t with ot := s } else if i = 1 then { t with oi := s } else if i = 2 then { t with re := s } else if i = 3 then { t with st := s } else if i = 4 then { t with si := s } else { t with us := s }
theorem sets6 (a b c d e f : ByteArray) : ((((((t0.set 0 a).set 1 b).set 2 c).set 3 d).set 4 e).set 5 f) = ⟨a, b, c, d, e, f⟩ := by
  have h0 : t0.set 0 a = ⟨a, e0, e0, e0, e0, e0⟩ := rfl
  have h1 : (⟨a, e0, e0, e0, e0, e0⟩ : Tu).set 1 b = ⟨a, b, e0, e0, e0, e0⟩ := rfl
  have h2 : (⟨a, b, e0, e0, e0, e0⟩ : Tu).set 2 c = ⟨a, b, c, e0, e0, e0⟩ := rfl
  have h3 : (⟨a, b, c, e0, e0, e0⟩ : Tu).set 3 d = ⟨a, b, c, d, e0, e0⟩ := rfl
  have h4 : (⟨a, b, c, d, e0, e0⟩ : Tu).set 4 e = ⟨a, b, c, d, e, e0⟩ := rfl
  have h5 : (⟨a, b, c, d, e, e0⟩ : Tu).set 5 f = ⟨a, b, c, d, e, f⟩ := rfl
  rw [h0, h1, h2, h3, h4, h5]
/-- One part is read: the tuple so far, where the bytes have been read to, the code of the error. -/
def stepR (b : List UInt8) (k i : Nat) (S : Tu × Nat × Nat) : Tu × Nat × Nat :=
  if S.2.2 ≠ 0 then S
  else if (partP (mostK k) (b.drop S.2.1)).2.2 ≠ 0 then (S.1, S.2.1, (partP (mostK k) (b.drop S.2.1)).2.2)
  else if testK k (str (partP (mostK k) (b.drop S.2.1)).1) = false then (S.1, S.2.1, 5)
  else (S.1.set i (str (partP (mostK k) (b.drop S.2.1)).1), S.2.1 + (partP (mostK k) (b.drop S.2.1)).2.1, 0)
theorem stepR_stop {b : List UInt8} {k i : Nat} {S : Tu × Nat × Nat} (h : S.2.2 ≠ 0) : stepR b k i S = S := by unfold stepR; rw [if_pos h]
theorem stepR_bad {b : List UInt8} {k i : Nat} {S : Tu × Nat × Nat} (h : S.2.2 = 0) (h2 : (partP (mostK k) (b.drop S.2.1)).2.2 ≠ 0) : stepR b k i S = (S.1, S.2.1, (partP (mostK k) (b.drop S.2.1)).2.2) := by
  unfold stepR; rw [if_neg (by omega), if_pos h2]
theorem stepR_name {b : List UInt8} {k i : Nat} {S : Tu × Nat × Nat} (h : S.2.2 = 0) (h2 : (partP (mostK k) (b.drop S.2.1)).2.2 = 0) (h3 : testK k (str (partP (mostK k) (b.drop S.2.1)).1) = false) : stepR b k i S = (S.1, S.2.1, 5) := by
  unfold stepR; rw [if_neg (by omega), if_neg (by omega), if_pos h3]
theorem stepR_yes {b : List UInt8} {k i : Nat} {S : Tu × Nat × Nat} (h : S.2.2 = 0) (h2 : (partP (mostK k) (b.drop S.2.1)).2.2 = 0) (h3 : testK k (str (partP (mostK k) (b.drop S.2.1)).1) = true) :
    stepR b k i S = (S.1.set i (str (partP (mostK k) (b.drop S.2.1)).1), S.2.1 + (partP (mostK k) (b.drop S.2.1)).2.1, 0) := by
  unfold stepR; rw [if_neg (by omega), if_neg (by omega), if_neg (by rw [h3]; simp)]
theorem stepR_at {b : List UInt8} {k i : Nat} {S : Tu × Nat × Nat} (h : S.2.1 ≤ b.length) : S.2.1 ≤ (stepR b k i S).2.1 ∧ (stepR b k i S).2.1 ≤ b.length := by
  have hp := partP_small (mostK k) (b.drop S.2.1)
  rw [List.length_drop] at hp
  unfold stepR
  split
  · exact ⟨Nat.le_refl _, h⟩
  split
  · exact ⟨Nat.le_refl _, h⟩
  split
  · exact ⟨Nat.le_refl _, h⟩
  · exact ⟨Nat.le_add_right _ _, by simp only []; omega⟩
/-- A step without an error read a right part. -/
theorem stepR_back {b : List UInt8} {k i : Nat} {S : Tu × Nat × Nat} (h : (stepR b k i S).2.2 = 0) :
    ∃ s, testK k s = true ∧ S.2.2 = 0 ∧ stepR b k i S = (S.1.set i s, S.2.1 + (putS s).length, 0) ∧ b.drop S.2.1 = putS s ++ b.drop (S.2.1 + (putS s).length) := by
  by_cases h0 : S.2.2 = 0
  · by_cases h2 : (partP (mostK k) (b.drop S.2.1)).2.2 = 0
    · cases h3 : testK k (str (partP (mostK k) (b.drop S.2.1)).1) with
      | false => rw [stepR_name h0 h2 h3] at h; cases h
      | true =>
        obtain ⟨p1, p2, p3, p4⟩ := part_back h2
        refine ⟨_, h3, h0, ?_, ?_⟩
        · rw [stepR_yes h0 h2 h3, p4]
        · rw [← p4, p2, ← List.drop_drop, List.take_append_drop]
    · rw [stepR_bad h0 h2] at h; exact absurd h h2
  · rw [stepR_stop h0] at h; exact absurd h h0
theorem stepR_put {b r : List UInt8} {k i at' : Nat} {t : Tu} {s : ByteArray} (hs : testK k s = true) (h : b.drop at' = putS s ++ r) : stepR b k i (t, at', 0) = (t.set i s, at' + (putS s).length, 0) := by
  have hp := part_put r (testK_size hs) (by have := mostK_le k; omega)
  have e : str s.data.toList = s := rfl
  have h2 : partP (mostK k) (b.drop at') = (s.data.toList, (putS s).length, 0) := by rw [h]; exact hp
  have := stepR_yes (b := b) (k := k) (i := i) (S := (t, at', 0)) rfl (by show (partP (mostK k) (b.drop at')).2.2 = 0; rw [h2]) (by show testK k (str (partP (mostK k) (b.drop at')).1) = true; rw [h2]; exact hs)
  rw [this]
  show (t.set i (str (partP (mostK k) (b.drop at')).1), at' + (partP (mostK k) (b.drop at')).2.1, 0) = _
  rw [h2]; rfl
def readS (b : List UInt8) (at' : Nat) : Tu × Nat × Nat := stepR b 2 5 (stepR b 1 4 (stepR b 0 3 (stepR b 0 2 (stepR b 1 1 (stepR b 0 0 (t0, at', 0))))))
def readT (b : List UInt8) (at' : Nat) : Tu × Nat × Nat := if (readS b at').2.2 = 0 then readS b at' else (t0, (readS b at').2.1, (readS b at').2.2)
theorem readT_fail {b : List UInt8} {at' : Nat} (h : (readT b at').2.2 ≠ 0) : (readT b at').1 = t0 := by
  unfold readT at h ⊢
  split
  · rename_i h1; rw [if_pos h1] at h; exact absurd h1 h
  · rfl
theorem readT_code (b : List UInt8) (at' : Nat) : (readT b at').2 = (readS b at').2 := by
  unfold readT
  generalize readS b at' = R
  split <;> rfl
theorem readT_at {b : List UInt8} {at' : Nat} (h : at' ≤ b.length) : at' ≤ (readT b at').2.1 ∧ (readT b at').2.1 ≤ b.length := by
  rw [readT_code]
  have s0 := stepR_at (b := b) (k := 0) (i := 0) (S := (t0, at', 0)) h
  have s1 := stepR_at (k := 1) (i := 1) s0.2
  have s2 := stepR_at (k := 0) (i := 2) s1.2
  have s3 := stepR_at (k := 0) (i := 3) s2.2
  have s4 := stepR_at (k := 1) (i := 4) s3.2
  have s5 := stepR_at (k := 2) (i := 5) s4.2
  unfold readS
  refine ⟨?_, s5.2⟩
  have := s0.1
  simp only [] at this
  omega
theorem read_put {t : Tu} (h : rightT t = true) {b r : List UInt8} {at' : Nat} (hb : b.drop at' = putT t ++ r) : readT b at' = (t, at' + (putT t).length, 0) := by
  obtain ⟨h1, h2, h3, h4, h5, h6⟩ := rightT_all h
  have key : ∀ (s : ByteArray) (q : List UInt8) (n : Nat), b.drop n = putS s ++ q → b.drop (n + (putS s).length) = q := by
    intro s q n e
    rw [← List.drop_drop, e, List.drop_left' rfl]
  unfold putT at hb
  simp only [List.append_assoc] at hb
  have q0 := key _ _ _ hb
  have q1 := key _ _ _ q0
  have q2 := key _ _ _ q1
  have q3 := key _ _ _ q2
  have q4 := key _ _ _ q3
  have e : readS b at' = (t, at' + (putT t).length, 0) := by
    unfold readS
    rw [stepR_put (k := 0) h1 hb, stepR_put (k := 1) h2 q0, stepR_put (k := 0) h3 q1, stepR_put (k := 0) h4 q2, stepR_put (k := 1) h5 q3, stepR_put (k := 2) h6 q4]
    refine Prod.ext ?_ (Prod.ext ?_ rfl)
    · rw [sets6]
    · simp only [putT, List.length_append]; omega
  unfold readT
  rw [e, if_pos rfl]
theorem read_back {b : List UInt8} {at' : Nat} (h : (readT b at').2.2 = 0) : rightT (readT b at').1 = true ∧ (readT b at').2.1 = at' + (putT (readT b at').1).length ∧ b.drop at' = putT (readT b at').1 ++ b.drop (readT b at').2.1 := by
  have hc := readT_code b at'
  have hs : (readS b at').2.2 = 0 := by rw [← hc]; exact h
  have e : readT b at' = readS b at' := by unfold readT; rw [if_pos hs]
  rw [e]
  unfold readS at hs ⊢
  obtain ⟨s5, t5, z5, e5, d5⟩ := stepR_back hs
  obtain ⟨s4, t4, z4, e4, d4⟩ := stepR_back z5
  obtain ⟨s3, t3, z3, e3, d3⟩ := stepR_back z4
  obtain ⟨s2, t2, z2, e2, d2⟩ := stepR_back z3
  obtain ⟨s1, t1, z1, e1, d1⟩ := stepR_back z2
  obtain ⟨s0, t0', z0, e0', d0⟩ := stepR_back z1
  rw [e5]
  rw [e4] at d5 ⊢
  rw [e3] at d4 d5 ⊢
  rw [e2] at d3 d4 d5 ⊢
  rw [e1] at d2 d3 d4 d5 ⊢
  rw [e0'] at d1 d2 d3 d4 d5 ⊢
  simp only [] at d0 d1 d2 d3 d4 d5 ⊢
  rw [sets6]
  refine ⟨rightT_mk ⟨t0', t1, t2, t3, t4, t5⟩, ?_, ?_⟩
  · simp only [putT, List.length_append]; omega
  · rw [d0, d1, d2, d3, d4, d5]
    simp only [putT, List.append_assoc]
def endB (n : Nat) (R : Tu × Nat × Nat) : Tu × Nat × Nat := if R.2.2 ≠ 0 then (t0, R.2.2, R.2.1) else if R.2.1 < n then (t0, 16, R.2.1) else (R.1, 0, 0)
def parseB (b : List UInt8) : Tu × Nat × Nat := endB b.length (readT b 0)
theorem endB_bad {n : Nat} {R : Tu × Nat × Nat} (h : R.2.2 ≠ 0) : endB n R = (t0, R.2.2, R.2.1) := by unfold endB; rw [if_pos h]
theorem endB_long {n : Nat} {R : Tu × Nat × Nat} (h : R.2.2 = 0) (h2 : R.2.1 < n) : endB n R = (t0, 16, R.2.1) := by unfold endB; rw [if_neg (by omega), if_pos h2]
theorem endB_yes {n : Nat} {R : Tu × Nat × Nat} (h : R.2.2 = 0) (h2 : ¬ R.2.1 < n) : endB n R = (R.1, 0, 0) := by unfold endB; rw [if_neg (by omega), if_neg h2]
theorem endB_back {n : Nat} {R : Tu × Nat × Nat} (h : (endB n R).2.1 = 0) : R.2.2 = 0 ∧ ¬ R.2.1 < n ∧ endB n R = (R.1, 0, 0) := by
  by_cases h1 : R.2.2 = 0
  · by_cases h2 : R.2.1 < n
    · rw [endB_long h1 h2] at h; cases h
    · exact ⟨h1, h2, endB_yes h1 h2⟩
  · rw [endB_bad h1] at h; exact absurd h h1
theorem endB_fail {n : Nat} {R : Tu × Nat × Nat} (h : (endB n R).2.1 ≠ 0) : (endB n R).1 = t0 := by
  by_cases h1 : R.2.2 = 0
  · by_cases h2 : R.2.1 < n
    · rw [endB_long h1 h2]
    · rw [endB_yes h1 h2] at h; exact absurd rfl h
  · rw [endB_bad h1]
theorem parseB_put {t : Tu} (h : rightT t = true) : parseB (putT t) = (t, 0, 0) := by
  have := read_put h (b := putT t) (r := []) (at' := 0) (by simp)
  show endB (putT t).length (readT (putT t) 0) = _
  rw [this]
  exact endB_yes rfl (by simp)
theorem parseB_back {b : List UInt8} (h : (parseB b).2.1 = 0) : rightT (parseB b).1 = true ∧ putT (parseB b).1 = b ∧ (parseB b).2.2 = 0 := by
  have e : parseB b = endB b.length (readT b 0) := rfl
  obtain ⟨R, hR⟩ : ∃ R, R = readT b 0 := ⟨_, rfl⟩
  rw [e, ← hR] at h ⊢
  obtain ⟨h1, h2, h3⟩ := endB_back h
  have hb := read_back (b := b) (at' := 0) (by rw [← hR]; exact h1)
  rw [← hR] at hb
  obtain ⟨r1, r2, r3⟩ := hb
  rw [h3]
  refine ⟨r1, ?_, rfl⟩
  rw [List.drop_zero] at r3
  have : b.drop R.2.1 = [] := List.drop_eq_nil_of_le (by omega)
  rw [this, List.append_nil] at r3
  exact r3.symm
theorem parseB_fail {b : List UInt8} (h : (parseB b).2.1 ≠ 0) : (parseB b).1 = t0 := by
  have e : parseB b = endB b.length (readT b 0) := rfl
  obtain ⟨R, hR⟩ : ∃ R, R = readT b 0 := ⟨_, rfl⟩
  rw [e, ← hR] at h ⊢
  exact endB_fail h
theorem put_apart {a b : Tu} (ha : rightT a = true) (hb : rightT b = true) (h : putT a = putT b) : a = b := by
  have h1 := parseB_put ha
  rw [h, parseB_put hb] at h1
  exact (Prod.mk.inj h1).1.symm
theorem putT_len {t : Tu} (h : rightT t = true) : (putT t).length ≤ 600 := by
  obtain ⟨h1, h2, h3, h4, h5, h6⟩ := rightT_all h
  have a1 := name_size h1
  have a2 := id_size h2
  have a3 := name_size h3
  have a4 := name_size h4
  have a5 := id_size h5
  have a6 := us_size h6
  have b1 := putS_len t.ot (by unfold lim64; omega)
  have b2 := putS_len t.oi (by unfold lim64; omega)
  have b3 := putS_len t.re (by unfold lim64; omega)
  have b4 := putS_len t.st (by unfold lim64; omega)
  have b5 := putS_len t.si (by unfold lim64; omega)
  have b6 := putS_len t.us (by unfold lim64; omega)
  simp only [putT, List.length_append]
  omega
/-- Are two tuples the same? -/
def eqT (a b : Tu) : Bool := decide (a.ot = b.ot) && (decide (a.oi = b.oi) && (decide (a.re = b.re) && (decide (a.st = b.st) && (decide (a.si = b.si) && decide (a.us = b.us)))))
theorem eqT_iff (a b : Tu) : eqT a b = true ↔ a = b := by
  cases a; cases b
  simp [eqT]
theorem eqT_refl (a : Tu) : eqT a a = true := (eqT_iff a a).2 rfl
end Go.Proofs.YtnnebfcggdbgpaaGreatDoor
/-
  Tuples as values: cells, fields, equality; blocks that hold a tuple.
-/
namespace Go.Proofs.YtnnebfcggdbgpaaGreatDoor
open Go.ChangeShapes Go.WideShapes Go.ChangeAt Go.RowKit
set_option linter.unusedVariables false

def tc (t : Tu) : List Value := [.string t.ot, .string t.oi, .string t.re, .string t.st, .string t.si, .string t.us]
abbrev tuV (t : Tu) : Value := .agg (tc t).toArray
theorem tc_length (t : Tu) : (tc t).length = 6 := rfl
theorem tc_one (t : Tu) : ∀ u ∈ tc t, u.oneCell' = true := by
  intro u hu
  simp only [tc, List.mem_cons, List.not_mem_nil, or_false] at hu
  rcases hu with rfl | rfl | rfl | rfl | rfl | rfl <;> rfl
theorem strEq (a b : ByteArray) : (a.toList == b.toList) = decide (a = b) := by
  by_cases h : a = b
  · rw [seq_t h]; simp [h]
  · rw [seq_f h]; simp [h]
theorem sizeO (w : World) : (sizeOf 23).run Tryz.prog w = .ok 2 w := by kernel_rfl
theorem partO0 (t : Tu) (w : World) : (part 23 (tc t).toArray 0).run Tryz.prog w = .ok (.agg #[.string t.ot, .string t.oi]) w := by
  simp [part, isAgg, run_underlying Tryz.underlying23, tc]
theorem partO3 (t : Tu) (w : World) : (part 23 (tc t).toArray 3).run Tryz.prog w = .ok (.agg #[.string t.st, .string t.si]) w := by
  simp [part, isAgg, run_underlying Tryz.underlying23, tc]
theorem partS2 (t : Tu) (w : World) : (part 9 (tc t).toArray 2).run Tryz.prog w = .ok (.string t.re) w := by
  simp [part, isAgg, run_underlying Tryz.underlying9, tc]
theorem partS5 (t : Tu) (w : World) : (part 9 (tc t).toArray 5).run Tryz.prog w = .ok (.string t.us) w := by
  simp [part, isAgg, run_underlying Tryz.underlying9, tc]
theorem equalO (d : Nat) (a b c e : ByteArray) (w : World) :
    (Op.equalIn (d + 2) 23 (.agg #[.string a, .string b]) (.agg #[.string c, .string e])).run Tryz.prog w = .ok (decide (a = c) && decide (b = e)) w := by
  rw [run_equalIn_struct w (d + 1) _ _ _ (by kernel_rfl) (by kernel_rfl)]
  have p0 : ∀ (x y : ByteArray), (part 9 #[.string x, .string y] 0).run Tryz.prog w = .ok (.string x) w := fun x y => by simp [part, isAgg, run_underlying Tryz.underlying9]
  have p1 : ∀ (x y : ByteArray), (part 9 #[.string x, .string y] 1).run Tryz.prog w = .ok (.string y) w := fun x y => by simp [part, isAgg, run_underlying Tryz.underlying9]
  have h0 := run_equalIn_string (P := Tryz.prog) w d 9 a c Tryz.underlying9
  have h1 := run_equalIn_string (P := Tryz.prog) w d 9 b e Tryz.underlying9
  rw [strEq] at h0 h1
  simp only [Program.fieldsOf, Tryz.underlying23, Op.eqFields, Sem.run_bind, p0, p1, Result.andThen_ok, h0, h1, Sem.run_ite, Sem.run_pure, ne_eq]
  cases hv : decide (a = c) <;> cases hr : decide (b = e) <;> simp
theorem eqT_parts (a b : Tu) : eqT a b = ((decide (a.ot = b.ot) && decide (a.oi = b.oi)) && (decide (a.re = b.re) && ((decide (a.st = b.st) && decide (a.si = b.si)) && decide (a.us = b.us)))) := by
  unfold eqT
  cases decide (a.ot = b.ot) <;> cases decide (a.oi = b.oi) <;> cases decide (a.re = b.re) <;> cases decide (a.st = b.st) <;> cases decide (a.si = b.si) <;> cases decide (a.us = b.us) <;> rfl
theorem equalT (d : Nat) (a b : Tu) (w : World) : (Op.equalIn (d + 3) 25 (.agg (tc a).toArray) (.agg (tc b).toArray)).run Tryz.prog w = .ok (eqT a b) w := by
  rw [run_equalIn_struct w (d + 2) _ _ _ (by kernel_rfl) (by kernel_rfl)]
  have h0 := equalO d a.ot a.oi b.ot b.oi w
  have h3 := equalO d a.st a.si b.st b.si w
  have h2 := run_equalIn_string (P := Tryz.prog) w (d + 1) 9 a.re b.re Tryz.underlying9
  have h5 := run_equalIn_string (P := Tryz.prog) w (d + 1) 9 a.us b.us Tryz.underlying9
  rw [strEq] at h2 h5
  rw [eqT_parts]
  simp only [Program.fieldsOf, Tryz.underlying25, Op.eqFields, Sem.run_bind, partO0, partO3, partS2, partS5, Result.andThen_ok, h0, h2, h3, h5, Sem.run_ite, Sem.run_pure, ne_eq]
  cases (decide (a.ot = b.ot) && decide (a.oi = b.oi)) <;> cases decide (a.re = b.re) <;> cases (decide (a.st = b.st) && decide (a.si = b.si)) <;> cases decide (a.us = b.us) <;> simp
theorem eqlT (a b : Tu) (w : World) : (binOp .eql 25 (tuV a) (tuV b)).run Tryz.prog w = .ok (.bool (eqT a b)) w := by
  rw [run_eql_struct, equalT 9997]; rfl
theorem neqT (a b : Tu) (w : World) : (binOp .neq 25 (tuV a) (tuV b)).run Tryz.prog w = .ok (.bool (!eqT a b)) w := by
  rw [run_neq_struct, equalT 9997]; rfl
theorem fT0 (t : Tu) (w : World) : (Instr.field 25 (tuV t) 0).run Tryz.prog w = .ok (.agg #[.string t.ot, .string t.oi]) w := by
  simp [Instr.field, run_underlying Tryz.underlying25, asAgg, partO0]
theorem fT1 (t : Tu) (w : World) : (Instr.field 25 (tuV t) 1).run Tryz.prog w = .ok (.string t.re) w := by
  simp [Instr.field, run_underlying Tryz.underlying25, asAgg, partS2]
theorem fT2 (t : Tu) (w : World) : (Instr.field 25 (tuV t) 2).run Tryz.prog w = .ok (.agg #[.string t.st, .string t.si]) w := by
  simp [Instr.field, run_underlying Tryz.underlying25, asAgg, partO3]
theorem fT3 (t : Tu) (w : World) : (Instr.field 25 (tuV t) 3).run Tryz.prog w = .ok (.string t.us) w := by
  simp [Instr.field, run_underlying Tryz.underlying25, asAgg, partS5]
/-- Block g holds, whole, the tuple t. -/
abbrev TuAt (w : World) (g : Nat) (t : Tu) : Prop := Arr w 25 g (tc t)
theorem TuAt.cells {w : World} {g : Nat} {t : Tu} (h : TuAt w g t) : w.cell? ⟨g, 0, none⟩ = some (.string t.ot) ∧ w.cell? ⟨g, 1, none⟩ = some (.string t.oi) ∧ w.cell? ⟨g, 2, none⟩ = some (.string t.re) ∧ w.cell? ⟨g, 3, none⟩ = some (.string t.st) ∧ w.cell? ⟨g, 4, none⟩ = some (.string t.si) ∧ w.cell? ⟨g, 5, none⟩ = some (.string t.us) :=
  ⟨Arr.cell h 0, Arr.cell h 1, Arr.cell h 2, Arr.cell h 3, Arr.cell h 4, Arr.cell h 5⟩
theorem tu_new (w : World) (t : Tu) : TuAt (w.alloc (.cells (tc t).toArray 25)) w.heap.size t := Arr.new' w _ _ _ rfl
section
variable {ops : Array Oper} {rest : List Oper} {o : Oper} {a : Act} {Q : Exit → Act → World → Prop} {w : World} {g : Nat} {x y : Operand}
/-- A tuple is loaded, and stored; the first also under a guard that is met. -/
theorem loadT {t : TypeId} {u : Tu} (hA : Arr w t g (tc u)) (hs : Region.wanted o (yielded ops a.tmps) = true ∧ o.op = .load 25 x ∧ a.eval x = .pointer (some ⟨g, 0, none⟩))
    (hk : wpList Tryz.prog ops Q rest (a.put o.dst (tuV u)) w) : wpList Tryz.prog ops Q (o :: rest) a w :=
  wpList_step fun K hK => by
    rw [if_pos hs.1]
    exact wp_load_mid _ x hs.2.1 g 0 hs.2.2 _ _ hA.range Tryz.underlying25 rfl (by kernel_rfl) (hK _ _ hk)
theorem storeT {t : TypeId} {u u' : Tu} (hA : Arr w t g (tc u')) (hs : o.guard = none ∧ o.op = .store 25 x y ∧ a.eval x = .pointer (some ⟨g, 0, none⟩) ∧ a.eval y = tuV u)
    (hk : ∀ w', w' = w.setRow g (tc u).toArray → wpList Tryz.prog ops Q rest (a.put o.dst undef) w') : wpList Tryz.prog ops Q (o :: rest) a w :=
  store_arr hs.1 _ x y hs.2.1 hA hs.2.2.1 hs.2.2.2 (by kernel_rfl) rfl (tc_one u) (hk _ rfl)
end
end Go.Proofs.YtnnebfcggdbgpaaGreatDoor
/-
  The order of tuples; sorted lists of tuples, each one once; no program is spoken of.
-/
namespace Go.Proofs.YtnnebfcggdbgpaaGreatDoor
open Go.RowKit
set_option linter.unusedVariables false

def Tu.l (t : Tu) : List ByteArray := [t.ot, t.oi, t.re, t.st, t.si, t.us]
theorem Tu.l_inj {a b : Tu} (h : a.l = b.l) : a = b := by
  cases a; cases b
  simp only [Tu.l, List.cons.injEq, and_true] at h
  simp [h]
def ordL : List ByteArray → List ByteArray → Int
  | a :: xs, b :: ys => if ord a b = 0 then ordL xs ys else ord a b
  | _, _ => 0
def ordT (a b : Tu) : Int := ordL a.l b.l
theorem ordL_three : ∀ (a b : List ByteArray), ordL a b = -1 ∨ ordL a b = 0 ∨ ordL a b = 1
  | [], _ => .inr (.inl (by unfold ordL; rfl))
  | _ :: _, [] => .inr (.inl (by unfold ordL; rfl))
  | a :: xs, b :: ys => by
    unfold ordL
    split
    · exact ordL_three xs ys
    · exact ord_three a b
theorem ordL_self : ∀ (a : List ByteArray), ordL a a = 0
  | [] => by unfold ordL; rfl
  | a :: xs => by unfold ordL; rw [if_pos (ord_self a)]; exact ordL_self xs
theorem ordL_flip : ∀ (a b : List ByteArray), ordL b a = - ordL a b
  | [], [] => by unfold ordL; rfl
  | [], _ :: _ => by unfold ordL; rfl
  | _ :: _, [] => by unfold ordL; rfl
  | a :: xs, b :: ys => by
    unfold ordL
    have h := ord_flip a b
    by_cases hz : ord a b = 0
    · rw [if_pos hz, if_pos (by omega)]; exact ordL_flip xs ys
    · rw [if_neg hz, if_neg (by omega)]; exact h
theorem ordL_eq : ∀ (a b : List ByteArray), a.length = b.length → ordL a b = 0 → a = b
  | [], [], _, _ => rfl
  | [], _ :: _, h, _ => by simp at h
  | _ :: _, [], h, _ => by simp at h
  | a :: xs, b :: ys, h, h2 => by
    unfold ordL at h2
    split at h2
    · rename_i hz
      rw [ord_eq hz, ordL_eq xs ys (by simpa using h) h2]
    · rename_i hz; exact absurd h2 hz
theorem ordL_up : ∀ (a b c : List ByteArray), a.length = b.length → b.length = c.length → ordL a b < 0 → ordL b c < 0 → ordL a c < 0
  | [], [], _, _, _, h, _ => by unfold ordL at h; omega
  | [], _ :: _, _, h, _, _, _ => by simp at h
  | _ :: _, [], _, h, _, _, _ => by simp at h
  | _ :: _, _ :: _, [], _, h, _, _ => by simp at h
  | a :: xs, b :: ys, c :: zs, hl1, hl2, h1, h2 => by
    unfold ordL at h1 h2 ⊢
    by_cases x : ord a b = 0
    · rw [if_pos x] at h1
      obtain rfl := ord_eq x
      by_cases y : ord a c = 0
      · rw [if_pos y] at h2 ⊢
        exact ordL_up xs ys zs (by simpa using hl1) (by simpa using hl2) h1 h2
      · rw [if_neg y] at h2 ⊢; exact h2
    · rw [if_neg x] at h1
      by_cases y : ord b c = 0
      · obtain rfl := ord_eq y
        rw [if_neg x]; exact h1
      · rw [if_neg y] at h2
        have := ord_up h1 h2
        rw [if_neg (by omega)]; exact this
theorem ordT_three (a b : Tu) : ordT a b = -1 ∨ ordT a b = 0 ∨ ordT a b = 1 := ordL_three _ _
theorem ordT_self (a : Tu) : ordT a a = 0 := ordL_self _
theorem ordT_flip (a b : Tu) : ordT b a = - ordT a b := ordL_flip _ _
theorem ordT_eq {a b : Tu} (h : ordT a b = 0) : a = b := Tu.l_inj (ordL_eq _ _ rfl h)
theorem ordT_zero (a b : Tu) : ordT a b = 0 ↔ a = b := ⟨ordT_eq, fun h => by subst h; exact ordT_self a⟩
theorem ordT_up {a b c : Tu} (h1 : ordT a b < 0) (h2 : ordT b c < 0) : ordT a c < 0 := ordL_up a.l b.l c.l rfl rfl h1 h2
theorem ordT_le {a b c : Tu} (h1 : ¬ 0 < ordT a b) (h2 : ¬ 0 < ordT b c) : ¬ 0 < ordT a c := by
  by_cases x : ordT a b = 0
  · obtain rfl := ordT_eq x; exact h2
  · by_cases y : ordT b c = 0
    · obtain rfl := ordT_eq y; exact h1
    · have := ordT_up (a := a) (b := b) (c := c) (by omega) (by omega)
      omega
/-- A list whose tuples rise. -/
def Ris (l : List Tu) : Prop := l.Pairwise fun a b => ordT a b < 0
/-- A tuple is put in its place, unless it is there. -/
def put1 (t : Tu) : List Tu → List Tu
  | [] => [t]
  | a :: l => if ordT a t < 0 then a :: put1 t l else if ordT a t = 0 then a :: l else t :: a :: l
theorem put1_mem (t : Tu) : ∀ (l : List Tu) (x : Tu), x ∈ put1 t l ↔ x = t ∨ x ∈ l
  | [], x => by simp [put1]
  | a :: l, x => by
    unfold put1
    split
    · rw [List.mem_cons, put1_mem t l x, List.mem_cons]
      constructor
      · rintro (h | h | h)
        · exact .inr (.inl h)
        · exact .inl h
        · exact .inr (.inr h)
      · rintro (h | h | h)
        · exact .inr (.inl h)
        · exact .inl h
        · exact .inr (.inr h)
    · split
      · rename_i h
        obtain rfl := ordT_eq h
        simp
      · simp
theorem put1_ris (t : Tu) : ∀ (l : List Tu), Ris l → Ris (put1 t l)
  | [], _ => by simp [put1, Ris]
  | a :: l, h => by
    obtain ⟨h1, h2⟩ := List.pairwise_cons.1 h
    unfold put1
    split
    · rename_i hlt
      refine List.pairwise_cons.2 ⟨fun x hx => ?_, put1_ris t l h2⟩
      rcases (put1_mem t l x).1 hx with rfl | hx
      · exact hlt
      · exact h1 x hx
    · rename_i hlt
      split
      · exact h
      · rename_i hne
        have hta : ordT t a < 0 := by have := ordT_flip a t; omega
        refine List.pairwise_cons.2 ⟨fun x hx => ?_, h⟩
        rcases List.mem_cons.1 hx with rfl | hx
        · exact hta
        · exact ordT_up hta (h1 x hx)
/-- The tuples of a list in their order, each one once. -/
def srt : List Tu → List Tu → List Tu
  | out, [] => out
  | out, t :: l => srt (put1 t out) l
def sortedT (l : List Tu) : List Tu := srt [] l
theorem srt_ris : ∀ (l out : List Tu), Ris out → Ris (srt out l)
  | [], out, h => h
  | t :: l, out, h => srt_ris l _ (put1_ris t out h)
theorem srt_mem : ∀ (l out : List Tu) (x : Tu), x ∈ srt out l ↔ x ∈ out ∨ x ∈ l
  | [], out, x => by simp [srt]
  | t :: l, out, x => by
    show x ∈ srt (put1 t out) l ↔ _
    rw [srt_mem l _ x, put1_mem, List.mem_cons]
    constructor
    · rintro ((h | h) | h)
      · exact .inr (.inl h)
      · exact .inl h
      · exact .inr (.inr h)
    · rintro (h | h | h)
      · exact .inl (.inr h)
      · exact .inl (.inl h)
      · exact .inr h
theorem sorted_ris (l : List Tu) : Ris (sortedT l) := srt_ris l [] List.Pairwise.nil
theorem sorted_mem (l : List Tu) (x : Tu) : x ∈ sortedT l ↔ x ∈ l := by
  unfold sortedT
  rw [srt_mem]; simp
/-- Rising lists with the same tuples are the same. -/
theorem ris_ext : ∀ {l m : List Tu}, Ris l → Ris m → (∀ x, x ∈ l ↔ x ∈ m) → l = m
  | [], [], _, _, _ => rfl
  | [], b :: m, _, _, h => absurd ((h b).2 List.mem_cons_self) (by simp)
  | a :: l, [], _, _, h => absurd ((h a).1 List.mem_cons_self) (by simp)
  | a :: l, b :: m, h1, h2, h => by
    obtain ⟨a1, a2⟩ := List.pairwise_cons.1 h1
    obtain ⟨b1, b2⟩ := List.pairwise_cons.1 h2
    have hab : a = b := by
      rcases List.mem_cons.1 ((h a).1 List.mem_cons_self) with e | e
      · exact e
      · rcases List.mem_cons.1 ((h b).2 List.mem_cons_self) with e2 | e2
        · exact e2.symm
        · have x1 := b1 a e
          have x2 := a1 b e2
          have := ordT_flip a b
          omega
    subst hab
    have : l = m := ris_ext a2 b2 fun x => by
      constructor
      · intro hx
        rcases List.mem_cons.1 ((h x).1 (List.mem_cons_of_mem _ hx)) with e | e
        · subst e; have := a1 x hx; rw [ordT_self] at this; omega
        · exact e
      · intro hx
        rcases List.mem_cons.1 ((h x).2 (List.mem_cons_of_mem _ hx)) with e | e
        · subst e; have := b1 x hx; rw [ordT_self] at this; omega
        · exact e
    rw [this]
theorem sorted_of_ris {l : List Tu} (h : Ris l) : sortedT l = l := ris_ext (sorted_ris l) h (sorted_mem l)
/-- Neighbours that are the same are left out. -/
def cmpct : List Tu → List Tu
  | [] => []
  | [a] => [a]
  | a :: b :: l => if ordT a b = 0 then cmpct (b :: l) else a :: cmpct (b :: l)
theorem cmpct_mem : ∀ (l : List Tu) (x : Tu), x ∈ cmpct l ↔ x ∈ l
  | [], x => by simp [cmpct]
  | [a], x => by simp [cmpct]
  | a :: b :: l, x => by
    have ih := cmpct_mem (b :: l) x
    unfold cmpct
    split
    · rename_i h
      obtain rfl := ordT_eq h
      rw [ih]; simp
    · rw [List.mem_cons, ih]; simp
theorem cmpct_ris : ∀ {l : List Tu}, l.Pairwise (fun a b => ¬ 0 < ordT a b) → Ris (cmpct l)
  | [], _ => List.Pairwise.nil
  | [a], _ => by simp [cmpct, Ris]
  | a :: b :: l, h => by
    obtain ⟨h1, h2⟩ := List.pairwise_cons.1 h
    have ih := cmpct_ris h2
    unfold cmpct
    split
    · exact ih
    · rename_i hne
      refine List.pairwise_cons.2 ⟨fun x hx => ?_, ih⟩
      have hab := h1 b List.mem_cons_self
      have hx' := (cmpct_mem (b :: l) x).1 hx
      rcases List.mem_cons.1 hx' with rfl | hxl
      · omega
      · have hbx := (List.pairwise_cons.1 h2).1 x hxl
        by_cases e : ordT b x = 0
        · obtain rfl := ordT_eq e; omega
        · exact ordT_up (b := b) (by omega) (by omega)
theorem cmpct_sorted {l m : List Tu} (h : m.Pairwise (fun a b => ¬ 0 < ordT a b)) (hm : ∀ x, x ∈ m ↔ x ∈ l) : cmpct m = sortedT l :=
  ris_ext (cmpct_ris h) (sorted_ris l) fun x => by rw [cmpct_mem, sorted_mem, hm]
theorem cmpct_len : ∀ (l : List Tu), (cmpct l).length ≤ l.length
  | [] => Nat.le_refl _
  | [a] => Nat.le_refl _
  | a :: b :: l => by
    have ih := cmpct_len (b :: l)
    unfold cmpct
    split
    · simp only [List.length_cons] at ih ⊢; omega
    · simp only [List.length_cons] at ih ⊢; omega
end Go.Proofs.YtnnebfcggdbgpaaGreatDoor
/-
  tuple.isUserset, tuple.visit, tuple.Right.
-/
namespace Go.Proofs.YtnnebfcggdbgpaaGreatDoor
open Go.ChangeShapes Go.WideShapes Go.ChangeAt Go.RowKit
set_option linter.unusedVariables false

set_option maxRecDepth 100000 in
theorem isUs_any (s : ByteArray) (w : World) (hr : ResT w) : Calls Tryz.prog 100 #[.string s] w fun e w' => e = .returned (.bool (isUs s)) ∧ Below w.heap.size w w' := by
  by_cases h0 : s = e0
  · subst h0
    go_enter Tryz.func100, Tryz.ntmps100
    unfold e0
    go_wp2_with fail
    go_ret
    exact ⟨rfl, Below.refl _ _⟩
  · have H : Hid (isUs s = isName s) := by show _ = _; unfold isUs; simp [h0]
    have HC := Lib.hid (isName_any s w hr)
    obtain ⟨n1, n2⟩ := empty_ne h0
    clear h0
    go_enter Tryz.func100, Tryz.ntmps100
    go_wp2_with fail
    refine HC.out.mono ?_
    rintro e w1 ⟨rfl, b1⟩
    go_wp2_with fail
    go_ret
    exact ⟨by rw [H.out]; rfl, b1⟩

set_option maxRecDepth 100000 in
set_option maxHeartbeats 1000000 in
theorem visitR (I : Nat → World → Prop) {bt : Nat} {x : Value} {w : World} (h0 : I 0 w)
    (s0 : ∀ W, I 0 W → Calls Tryz.prog 58 #[.pointer (some ⟨bt, 0, none⟩), .int .i64 64, .func (.func 64) #[] #[], x] W fun e W' => e = .returned (.tuple #[]) ∧ I 1 W')
    (s1 : ∀ W, I 1 W → Calls Tryz.prog 58 #[.pointer (some ⟨bt, 1, none⟩), .int .i64 128, .func (.func 99) #[] #[], x] W fun e W' => e = .returned (.tuple #[]) ∧ I 2 W')
    (s2 : ∀ W, I 2 W → Calls Tryz.prog 58 #[.pointer (some ⟨bt, 2, none⟩), .int .i64 64, .func (.func 64) #[] #[], x] W fun e W' => e = .returned (.tuple #[]) ∧ I 3 W')
    (s3 : ∀ W, I 3 W → Calls Tryz.prog 58 #[.pointer (some ⟨bt, 3, none⟩), .int .i64 64, .func (.func 64) #[] #[], x] W fun e W' => e = .returned (.tuple #[]) ∧ I 4 W')
    (s4 : ∀ W, I 4 W → Calls Tryz.prog 58 #[.pointer (some ⟨bt, 4, none⟩), .int .i64 128, .func (.func 99) #[] #[], x] W fun e W' => e = .returned (.tuple #[]) ∧ I 5 W')
    (s5 : ∀ W, I 5 W → Calls Tryz.prog 58 #[.pointer (some ⟨bt, 5, none⟩), .int .i64 64, .func (.func 100) #[] #[], x] W fun e W' => e = .returned (.tuple #[]) ∧ I 6 W')
    : Calls Tryz.prog 55 #[.pointer (some ⟨bt, 0, none⟩), .func (.func 58) #[] #[x]] w fun e w' => e = .returned (.tuple #[]) ∧ I 6 w' := by
  have S0 := Lib.hid s0
  have S1 := Lib.hid s1
  have S2 := Lib.hid s2
  have S3 := Lib.hid s3
  have S4 := Lib.hid s4
  have S5 := Lib.hid s5
  clear s0 s1 s2 s3 s4 s5
  go_enter Tryz.func55, Tryz.ntmps55
  go_wp2_with fail
  refine (S0.out _ h0).mono ?_
  rintro e w1 ⟨rfl, h1⟩
  clear h0
  go_wp2_with fail
  refine (S1.out _ h1).mono ?_
  rintro e w2 ⟨rfl, h2⟩
  clear h1
  go_wp2_with fail
  refine (S2.out _ h2).mono ?_
  rintro e w3 ⟨rfl, h3⟩
  clear h2
  go_wp2_with fail
  refine (S3.out _ h3).mono ?_
  rintro e w4 ⟨rfl, h4⟩
  clear h3
  go_wp2_with fail
  refine (S4.out _ h4).mono ?_
  rintro e w5 ⟨rfl, h5⟩
  clear h4
  go_wp2_with fail
  refine (S5.out _ h5).mono ?_
  rintro e w6 ⟨rfl, h6⟩
  clear h5
  go_wp2_with fail
  go_end0
  exact ⟨rfl, h6⟩

set_option maxRecDepth 100000 in
set_option maxHeartbeats 1000000 in
theorem visitP (I : Nat → World → Prop) {bt : Nat} {x : Value} {w : World} (h0 : I 0 w)
    (s0 : ∀ W, I 0 W → Calls Tryz.prog 56 #[.pointer (some ⟨bt, 0, none⟩), .int .i64 64, .func (.func 64) #[] #[], x] W fun e W' => e = .returned (.tuple #[]) ∧ I 1 W')
    (s1 : ∀ W, I 1 W → Calls Tryz.prog 56 #[.pointer (some ⟨bt, 1, none⟩), .int .i64 128, .func (.func 99) #[] #[], x] W fun e W' => e = .returned (.tuple #[]) ∧ I 2 W')
    (s2 : ∀ W, I 2 W → Calls Tryz.prog 56 #[.pointer (some ⟨bt, 2, none⟩), .int .i64 64, .func (.func 64) #[] #[], x] W fun e W' => e = .returned (.tuple #[]) ∧ I 3 W')
    (s3 : ∀ W, I 3 W → Calls Tryz.prog 56 #[.pointer (some ⟨bt, 3, none⟩), .int .i64 64, .func (.func 64) #[] #[], x] W fun e W' => e = .returned (.tuple #[]) ∧ I 4 W')
    (s4 : ∀ W, I 4 W → Calls Tryz.prog 56 #[.pointer (some ⟨bt, 4, none⟩), .int .i64 128, .func (.func 99) #[] #[], x] W fun e W' => e = .returned (.tuple #[]) ∧ I 5 W')
    (s5 : ∀ W, I 5 W → Calls Tryz.prog 56 #[.pointer (some ⟨bt, 5, none⟩), .int .i64 64, .func (.func 100) #[] #[], x] W fun e W' => e = .returned (.tuple #[]) ∧ I 6 W')
    : Calls Tryz.prog 55 #[.pointer (some ⟨bt, 0, none⟩), .func (.func 56) #[] #[x]] w fun e w' => e = .returned (.tuple #[]) ∧ I 6 w' := by
  have S0 := Lib.hid s0
  have S1 := Lib.hid s1
  have S2 := Lib.hid s2
  have S3 := Lib.hid s3
  have S4 := Lib.hid s4
  have S5 := Lib.hid s5
  clear s0 s1 s2 s3 s4 s5
  go_enter Tryz.func55, Tryz.ntmps55
  go_wp2_with fail
  refine (S0.out _ h0).mono ?_
  rintro e w1 ⟨rfl, h1⟩
  clear h0
  go_wp2_with fail
  refine (S1.out _ h1).mono ?_
  rintro e w2 ⟨rfl, h2⟩
  clear h1
  go_wp2_with fail
  refine (S2.out _ h2).mono ?_
  rintro e w3 ⟨rfl, h3⟩
  clear h2
  go_wp2_with fail
  refine (S3.out _ h3).mono ?_
  rintro e w4 ⟨rfl, h4⟩
  clear h3
  go_wp2_with fail
  refine (S4.out _ h4).mono ?_
  rintro e w5 ⟨rfl, h5⟩
  clear h4
  go_wp2_with fail
  refine (S5.out _ h5).mono ?_
  rintro e w6 ⟨rfl, h6⟩
  clear h5
  go_wp2_with fail
  go_end0
  exact ⟨rfl, h6⟩

set_option maxRecDepth 100000 in
set_option maxHeartbeats 1000000 in
theorem visitD (I : Nat → World → Prop) {bt : Nat} {x y : Value} {w : World} (h0 : I 0 w)
    (s0 : ∀ W, I 0 W → Calls Tryz.prog 73 #[.pointer (some ⟨bt, 0, none⟩), .int .i64 64, .func (.func 64) #[] #[], x, y] W fun e W' => e = .returned (.tuple #[]) ∧ I 1 W')
    (s1 : ∀ W, I 1 W → Calls Tryz.prog 73 #[.pointer (some ⟨bt, 1, none⟩), .int .i64 128, .func (.func 99) #[] #[], x, y] W fun e W' => e = .returned (.tuple #[]) ∧ I 2 W')
    (s2 : ∀ W, I 2 W → Calls Tryz.prog 73 #[.pointer (some ⟨bt, 2, none⟩), .int .i64 64, .func (.func 64) #[] #[], x, y] W fun e W' => e = .returned (.tuple #[]) ∧ I 3 W')
    (s3 : ∀ W, I 3 W → Calls Tryz.prog 73 #[.pointer (some ⟨bt, 3, none⟩), .int .i64 64, .func (.func 64) #[] #[], x, y] W fun e W' => e = .returned (.tuple #[]) ∧ I 4 W')
    (s4 : ∀ W, I 4 W → Calls Tryz.prog 73 #[.pointer (some ⟨bt, 4, none⟩), .int .i64 128, .func (.func 99) #[] #[], x, y] W fun e W' => e = .returned (.tuple #[]) ∧ I 5 W')
    (s5 : ∀ W, I 5 W → Calls Tryz.prog 73 #[.pointer (some ⟨bt, 5, none⟩), .int .i64 64, .func (.func 100) #[] #[], x, y] W fun e W' => e = .returned (.tuple #[]) ∧ I 6 W')
    : Calls Tryz.prog 55 #[.pointer (some ⟨bt, 0, none⟩), .func (.func 73) #[] #[x, y]] w fun e w' => e = .returned (.tuple #[]) ∧ I 6 w' := by
  have S0 := Lib.hid s0
  have S1 := Lib.hid s1
  have S2 := Lib.hid s2
  have S3 := Lib.hid s3
  have S4 := Lib.hid s4
  have S5 := Lib.hid s5
  clear s0 s1 s2 s3 s4 s5
  go_enter Tryz.func55, Tryz.ntmps55
  go_wp2_with fail
  refine (S0.out _ h0).mono ?_
  rintro e w1 ⟨rfl, h1⟩
  clear h0
  go_wp2_with fail
  refine (S1.out _ h1).mono ?_
  rintro e w2 ⟨rfl, h2⟩
  clear h1
  go_wp2_with fail
  refine (S2.out _ h2).mono ?_
  rintro e w3 ⟨rfl, h3⟩
  clear h2
  go_wp2_with fail
  refine (S3.out _ h3).mono ?_
  rintro e w4 ⟨rfl, h4⟩
  clear h3
  go_wp2_with fail
  refine (S4.out _ h4).mono ?_
  rintro e w5 ⟨rfl, h5⟩
  clear h4
  go_wp2_with fail
  refine (S5.out _ h5).mono ?_
  rintro e w6 ⟨rfl, h6⟩
  clear h5
  go_wp2_with fail
  go_end0
  exact ⟨rfl, h6⟩

set_option maxRecDepth 100000 in
theorem rightC0 {W : World} {bt i br : Nat} {s : ByteArray} {b : Bool} {m : Int} (hs : W.cell? ⟨bt, i, none⟩ = some (.string s)) (hb : Arr W 4 br [.bool b]) (hr : ResT W) :
    Calls Tryz.prog 58 #[.pointer (some ⟨bt, i, none⟩), .int .i64 m, .func (.func 64) #[] #[], .pointer (some ⟨br, 0, none⟩)] W fun e w' => e = .returned (.tuple #[]) ∧ ∃ w1, Below W.heap.size W w1 ∧ w' = w1.setCell ⟨br, 0, none⟩ (.bool (b && isName s)) := by
  have HR := Lib.hid hr
  have HB := Lib.hid hb
  have c0 := hb.cell 0
  have f0 := hb.free 0
  simp only [List.getElem?_cons_zero] at c0
  clear hr hb
  cases b with
  | false =>
    go_enter Tryz.func58, Tryz.ntmps58
    go_wp2_with fail
    go_end0
    exact ⟨rfl, W, Below.refl _ _, rfl⟩
  | true =>
    go_enter Tryz.func58, Tryz.ntmps58
    go_wp2_with fail
    refine (isName_any s _ HR.out).mono ?_
    rintro e w1 ⟨rfl, b1⟩
    have hb1 := HB.out.later b1
    have HW := Lib.hid b1
    have c1 := hb1.cell 0
    have f1 := hb1.free 0
    simp only [List.getElem?_cons_zero] at c1
    clear b1 hb1 c0 f0 HB
    go_wp2_with fail
    go_end0
    exact ⟨rfl, w1, HW.out, rfl⟩

set_option maxRecDepth 100000 in
theorem rightC1 {W : World} {bt i br : Nat} {s : ByteArray} {b : Bool} {m : Int} (hs : W.cell? ⟨bt, i, none⟩ = some (.string s)) (hb : Arr W 4 br [.bool b]) (hr : ResT W) :
    Calls Tryz.prog 58 #[.pointer (some ⟨bt, i, none⟩), .int .i64 m, .func (.func 99) #[] #[], .pointer (some ⟨br, 0, none⟩)] W fun e w' => e = .returned (.tuple #[]) ∧ ∃ w1, Below W.heap.size W w1 ∧ w' = w1.setCell ⟨br, 0, none⟩ (.bool (b && isId s)) := by
  have HR := Lib.hid hr
  have HB := Lib.hid hb
  have c0 := hb.cell 0
  have f0 := hb.free 0
  simp only [List.getElem?_cons_zero] at c0
  clear hr hb
  cases b with
  | false =>
    go_enter Tryz.func58, Tryz.ntmps58
    go_wp2_with fail
    go_end0
    exact ⟨rfl, W, Below.refl _ _, rfl⟩
  | true =>
    go_enter Tryz.func58, Tryz.ntmps58
    go_wp2_with fail
    refine (isId_any s _).mono ?_
    rintro e w1 ⟨rfl, b1⟩
    have hb1 := HB.out.later b1
    have HW := Lib.hid b1
    have c1 := hb1.cell 0
    have f1 := hb1.free 0
    simp only [List.getElem?_cons_zero] at c1
    clear b1 hb1 c0 f0 HB
    go_wp2_with fail
    go_end0
    exact ⟨rfl, w1, HW.out, rfl⟩

set_option maxRecDepth 100000 in
theorem rightC2 {W : World} {bt i br : Nat} {s : ByteArray} {b : Bool} {m : Int} (hs : W.cell? ⟨bt, i, none⟩ = some (.string s)) (hb : Arr W 4 br [.bool b]) (hr : ResT W) :
    Calls Tryz.prog 58 #[.pointer (some ⟨bt, i, none⟩), .int .i64 m, .func (.func 100) #[] #[], .pointer (some ⟨br, 0, none⟩)] W fun e w' => e = .returned (.tuple #[]) ∧ ∃ w1, Below W.heap.size W w1 ∧ w' = w1.setCell ⟨br, 0, none⟩ (.bool (b && isUs s)) := by
  have HR := Lib.hid hr
  have HB := Lib.hid hb
  have c0 := hb.cell 0
  have f0 := hb.free 0
  simp only [List.getElem?_cons_zero] at c0
  clear hr hb
  cases b with
  | false =>
    go_enter Tryz.func58, Tryz.ntmps58
    go_wp2_with fail
    go_end0
    exact ⟨rfl, W, Below.refl _ _, rfl⟩
  | true =>
    go_enter Tryz.func58, Tryz.ntmps58
    go_wp2_with fail
    refine (isUs_any s _ HR.out).mono ?_
    rintro e w1 ⟨rfl, b1⟩
    have hb1 := HB.out.later b1
    have HW := Lib.hid b1
    have c1 := hb1.cell 0
    have f1 := hb1.free 0
    simp only [List.getElem?_cons_zero] at c1
    clear b1 hb1 c0 f0 HB
    go_wp2_with fail
    go_end0
    exact ⟨rfl, w1, HW.out, rfl⟩

/-- What Right's visitor keeps. -/
def RI (w0 : World) (t : Tu) (bt br : Nat) (acc : Bool) (W : World) : Prop := TuAt W bt t ∧ Arr W 4 br [.bool acc] ∧ Below w0.heap.size w0 W ∧ bt ≠ br ∧ w0.heap.size ≤ br
theorem RI.step {w0 W w1 W' : World} {t : Tu} {bt br : Nat} {acc b : Bool} (h : RI w0 t bt br acc W) (hb : Below W.heap.size W w1) (he : W' = w1.setCell ⟨br, 0, none⟩ (.bool b)) : RI w0 t bt br b W' := by
  subst he
  refine ⟨(h.1.later hb).setCell (a := ⟨br, 0, none⟩) h.2.2.2.1 _, ?_, (h.2.2.1.trans (hb.mono h.2.2.1.size)).setCell (p := ⟨br, 0, none⟩) h.2.2.2.2 _, h.2.2.2⟩
  exact (h.2.1.later hb).set 0 _
def accR (t : Tu) : Nat → Bool
  | 0 => true
  | 1 => true && isName t.ot
  | 2 => (true && isName t.ot) && isId t.oi
  | 3 => ((true && isName t.ot) && isId t.oi) && isName t.re
  | 4 => (((true && isName t.ot) && isId t.oi) && isName t.re) && isName t.st
  | 5 => ((((true && isName t.ot) && isId t.oi) && isName t.re) && isName t.st) && isId t.si
  | _ => (((((true && isName t.ot) && isId t.oi) && isName t.re) && isName t.st) && isId t.si) && isUs t.us
theorem accR_all (t : Tu) : accR t 6 = rightT t := by
  simp only [accR, rightT, Bool.true_and, Bool.and_assoc]
set_option maxRecDepth 100000 in
theorem right_any' (t : Tu) (w : World) (hr : ResT w) : Calls Tryz.prog 17 #[tuV t] w fun e w' => e = .returned (.bool (rightT t)) ∧ Below w.heap.size w w' := by
  have b0 : Below w.heap.size w (w.alloc (.cells (tc t).toArray 25)) := (Below.refl _ _).alloc (Nat.le_refl _) _
  have h1 := (tu_new w t).alloc (.cells #[.bool true] 4)
  have h2 := Arr.new2 w (.cells (tc t).toArray 25) 4 #[.bool true] [.bool true] rfl
  have b1 := b0.alloc b0.size (.cells #[.bool true] 4)
  have HI : Hid (RI w t w.heap.size (w.heap.size + 1) true ((w.alloc (.cells (tc t).toArray 25)).alloc (.cells #[.bool true] 4))) := ⟨h1, h2, b1, by omega, by omega⟩
  have HR := Lib.hid hr
  have st : ∀ {b : Bool} {W : World}, RI w t w.heap.size (w.heap.size + 1) b W → ResT W := fun h => HR.out.below h.2.2.1 HR.out.lt
  have HV := Lib.hid (visitR (fun i W => RI w t w.heap.size (w.heap.size + 1) (accR t i) W) (bt := w.heap.size) (x := .pointer (some ⟨w.heap.size + 1, 0, none⟩)) HI.out
    (fun W h => (rightC0 (TuAt.cells h.1).1 h.2.1 (st h)).mono fun e W' ⟨he, w1, hb, hw⟩ => ⟨he, h.step hb hw⟩)
    (fun W h => (rightC1 (TuAt.cells h.1).2.1 h.2.1 (st h)).mono fun e W' ⟨he, w1, hb, hw⟩ => ⟨he, h.step hb hw⟩)
    (fun W h => (rightC0 (TuAt.cells h.1).2.2.1 h.2.1 (st h)).mono fun e W' ⟨he, w1, hb, hw⟩ => ⟨he, h.step hb hw⟩)
    (fun W h => (rightC0 (TuAt.cells h.1).2.2.2.1 h.2.1 (st h)).mono fun e W' ⟨he, w1, hb, hw⟩ => ⟨he, h.step hb hw⟩)
    (fun W h => (rightC1 (TuAt.cells h.1).2.2.2.2.1 h.2.1 (st h)).mono fun e W' ⟨he, w1, hb, hw⟩ => ⟨he, h.step hb hw⟩)
    (fun W h => (rightC2 (TuAt.cells h.1).2.2.2.2.2 h.2.1 (st h)).mono fun e W' ⟨he, w1, hb, hw⟩ => ⟨he, h.step hb hw⟩))
  clear hr b0 h1 h2 b1 st HI
  go_enter Tryz.func17, Tryz.ntmps17
  go_wp2_with fail
  refine HV.out.mono ?_
  rintro e w1 ⟨rfl, h6⟩
  rw [accR_all] at h6
  have c1 := h6.2.1.cell 0
  simp only [List.getElem?_cons_zero] at c1
  have HB := Lib.hid h6.2.2.1
  clear h6 HV
  go_wp2_with fail
  go_ret
  exact ⟨rfl, HB.out⟩
end Go.Proofs.YtnnebfcggdbgpaaGreatDoor
/-
  vestryref18.Right, Text, Short; tuple.Text.
-/
namespace Go.Proofs.YtnnebfcggdbgpaaGreatDoor
open Go.ChangeShapes Go.WideShapes Go.ChangeAt Go.RowKit
set_option linter.unusedVariables false

def sizesT (t : Tu) (n : Nat) : Prop := t.ot.size ≤ n ∧ t.oi.size ≤ n ∧ t.re.size ≤ n ∧ t.st.size ≤ n ∧ t.si.size ≤ n ∧ t.us.size ≤ n
theorem sizes_right {t : Tu} (h : rightT t = true) : sizesT t 128 := by
  obtain ⟨h1, h2, h3, h4, h5, h6⟩ := rightT_all h
  have a1 := name_size h1
  have a2 := id_size h2
  have a3 := name_size h3
  have a4 := name_size h4
  have a5 := id_size h5
  have a6 := us_size h6
  exact ⟨by omega, by omega, by omega, by omega, by omega, by omega⟩
theorem rightT_obj (t : Tu) : rightT t = (objB t.ot t.oi && (isName t.re && (objB t.st t.si && (decide (t.us = e0) || isName t.us)))) := by
  unfold rightT objB isUs
  cases isName t.ot <;> cases isId t.oi <;> cases isName t.re <;> cases isName t.st <;> cases isId t.si <;> rfl
theorem tcells (w : World) (t : Tu) (T : TypeId) : (w.alloc (.cells (tc t).toArray T)).cell? ⟨w.heap.size, 0, none⟩ = some (.string t.ot) ∧ (w.alloc (.cells (tc t).toArray T)).cell? ⟨w.heap.size, 1, none⟩ = some (.string t.oi) ∧ (w.alloc (.cells (tc t).toArray T)).cell? ⟨w.heap.size, 2, none⟩ = some (.string t.re) ∧ (w.alloc (.cells (tc t).toArray T)).cell? ⟨w.heap.size, 3, none⟩ = some (.string t.st) ∧ (w.alloc (.cells (tc t).toArray T)).cell? ⟨w.heap.size, 4, none⟩ = some (.string t.si) ∧ (w.alloc (.cells (tc t).toArray T)).cell? ⟨w.heap.size, 5, none⟩ = some (.string t.us) :=
  let h := Arr.new' w T (tc t).toArray _ rfl
  ⟨h.cell 0, h.cell 1, h.cell 2, h.cell 3, h.cell 4, h.cell 5⟩
theorem below_tu (w : World) (t : Tu) (T : TypeId) : Below w.heap.size w (w.alloc (.cells (tc t).toArray T)) := (Below.refl _ _).alloc (Nat.le_refl _) _
def shortT (t : Tu) : Bool := decide (t.ot.size + t.oi.size + t.re.size + t.st.size + t.si.size + t.us.size ≤ 1500)
theorem shortT_sizes {t : Tu} (h : shortT t = true) : sizesT t 1500 := by
  have := of_decide_eq_true h
  exact ⟨by omega, by omega, by omega, by omega, by omega, by omega⟩
set_option maxRecDepth 100000 in
set_option maxHeartbeats 1000000 in
theorem short_any (t : Tu) (h : sizesT t 140737488355328) (w : World) : Calls Tryz.prog 14 #[tuV t] w fun e w' => e = .returned (.bool (shortT t)) ∧ Below w.heap.size w w' := by
  obtain ⟨h1, h2, h3, h4, h5, h6⟩ := h
  obtain ⟨c0, c1, c2, c3, c4, c5⟩ := tcells w t 25
  have HB := Lib.hid (below_tu w t 25)
  have HS : Hid (shortT t = decide (t.ot.size + t.oi.size + t.re.size + t.st.size + t.si.size + t.us.size ≤ 1500)) := rfl
  have g1 : (t.ot.size : Int) ≤ 140737488355328 := by omega
  have g2 : (t.oi.size : Int) ≤ 140737488355328 := by omega
  have g3 : (t.re.size : Int) ≤ 140737488355328 := by omega
  have g4 : (t.st.size : Int) ≤ 140737488355328 := by omega
  have g5 : (t.si.size : Int) ≤ 140737488355328 := by omega
  have g6 : (t.us.size : Int) ≤ 140737488355328 := by omega
  clear h1 h2 h3 h4 h5 h6
  go_enter Tryz.func14, Tryz.ntmps14
  go_wp2_with fail
  go_ret
  refine ⟨ret_b ?_, HB.out⟩
  rw [HS.out]
  rw [Bool.eq_iff_iff]
  simp only [decide_eq_true_eq]
  omega
set_option maxRecDepth 100000 in
set_option maxHeartbeats 1000000 in
theorem rrightT_any (t : Tu) (h : sizesT t 1000000) (w : World) : Calls Tryz.prog 18 #[tuV t] w fun e w' => e = .returned (.bool (rightT t)) ∧ Below w.heap.size w w' := by
  have HZ := Lib.hid h
  obtain ⟨c0, c1, c2, c3, c4, c5⟩ := tcells w t 25
  have HB := Lib.hid (below_tu w t 25)
  have HX := Lib.hid (tu_new w t)
  have HR := Lib.hid (rightT_obj t)
  clear h
  go_enter Tryz.func18, Tryz.ntmps18
  go_wp2_with fail
  refine (right_any t.ot t.oi HZ.out.1 HZ.out.2.1 _).mono ?_
  rintro e w1 ⟨rfl, b1⟩
  have HB1 := Lib.hid (HB.out.trans (b1.mono HB.out.size))
  have HX1 := Lib.hid (HX.out.later b1)
  clear b1 c0 c1 c2 c3 c4 c5 HB HX
  cases ha : objB t.ot t.oi with
  | false =>
    have HR2 : Hid (rightT t = false) := by show _ = _; rw [HR.out, ha]; rfl
    clear ha
    go_wp2_with fail
    go_ret
    exact ⟨by rw [HR2.out]; rfl, HB1.out⟩
  | true =>
    have HA := Lib.hid ha
    clear ha
    obtain ⟨c0, c1, c2, c3, c4, c5⟩ := TuAt.cells HX1.out
    go_wp2_with fail
    refine (risName_any t.re HZ.out.2.2.1 _).mono ?_
    rintro e w2 ⟨rfl, hw2⟩
    subst hw2
    cases hb : isName t.re with
    | false =>
      have HR2 : Hid (rightT t = false) := by show _ = _; rw [HR.out, HA.out, hb]; rfl
      clear hb
      go_wp2_with fail
      go_ret
      exact ⟨by rw [HR2.out]; rfl, HB1.out⟩
    | true =>
      have HBN := Lib.hid hb
      clear hb
      go_wp2_with fail
      refine (right_any t.st t.si HZ.out.2.2.2.1 HZ.out.2.2.2.2.1 _).mono ?_
      rintro e w3 ⟨rfl, b3⟩
      have HB3 := Lib.hid (HB1.out.trans (b3.mono HB1.out.size))
      have HX3 := Lib.hid (HX1.out.later b3)
      clear b3 c0 c1 c2 c3 c4 c5 HB1 HX1
      cases hc : objB t.st t.si with
      | false =>
        have HR2 : Hid (rightT t = false) := by show _ = _; rw [HR.out, HA.out, HBN.out, hc]; rfl
        clear hc
        go_wp2_with fail
        go_ret
        exact ⟨by rw [HR2.out]; rfl, HB3.out⟩
      | true =>
        have HCN := Lib.hid hc
        obtain ⟨c0, c1, c2, c3, c4, c5⟩ := TuAt.cells HX3.out
        clear hc
        by_cases hu : t.us = e0
        · have HR2 : Hid (rightT t = true) := by show _ = _; rw [HR.out, HA.out, HBN.out, HCN.out, hu]; rfl
          rw [hu] at c5
          unfold e0 at c5
          clear hu
          go_wp2_with fail
          go_ret
          exact ⟨by rw [HR2.out]; rfl, HB3.out⟩
        · obtain ⟨n1, n2⟩ := empty_ne hu
          have HR2 : Hid (rightT t = isName t.us) := by show _ = _; rw [HR.out, HA.out, HBN.out, HCN.out]; simp [hu]
          clear hu
          go_wp2_with fail
          refine (risName_any t.us HZ.out.2.2.2.2.2 _).mono ?_
          rintro e w4 ⟨rfl, hw4⟩
          subst hw4
          go_wp2_with fail
          go_ret
          exact ⟨by rw [HR2.out]; rfl, HB3.out⟩
theorem text_cat0 (t : Tu) (h : t.us = e0) : t.ot ++ ⟨#[58]⟩ ++ t.oi ++ ⟨#[35]⟩ ++ t.re ++ ⟨#[64]⟩ ++ t.st ++ ⟨#[58]⟩ ++ t.si = textT t := by
  unfold textT
  apply bytes_inj
  rw [bstr_data]
  simp [textL, frontL, backL, usL, h]
theorem text_cat1 (t : Tu) (h : ¬ t.us = e0) : t.ot ++ ⟨#[58]⟩ ++ t.oi ++ ⟨#[35]⟩ ++ t.re ++ ⟨#[64]⟩ ++ t.st ++ ⟨#[58]⟩ ++ t.si ++ ⟨#[35]⟩ ++ t.us = textT t := by
  unfold textT
  apply bytes_inj
  rw [bstr_data]
  simp [textL, frontL, backL, usL, h]
theorem objS_yes {a b : ByteArray} (h1 : isName a = true) (h2 : isId b = true) : objS a b = a ++ ⟨#[58]⟩ ++ b ∧ objB a b = true := by
  unfold objS objB
  rw [if_pos ⟨h1, h2⟩, h1, h2]; exact ⟨rfl, rfl⟩
theorem text_obj0 (t : Tu) (h : t.us = e0) {O S : ByteArray} (hO : O = t.ot ++ ⟨#[58]⟩ ++ t.oi) (hS : S = t.st ++ ⟨#[58]⟩ ++ t.si) : O ++ ⟨#[35]⟩ ++ t.re ++ ⟨#[64]⟩ ++ S = textT t := by
  rw [← text_cat0 t h, hO, hS]; simp only [ByteArray.append_assoc]
theorem text_obj1 (t : Tu) (h : ¬ t.us = e0) {O S : ByteArray} (hO : O = t.ot ++ ⟨#[58]⟩ ++ t.oi) (hS : S = t.st ++ ⟨#[58]⟩ ++ t.si) : O ++ ⟨#[35]⟩ ++ t.re ++ ⟨#[64]⟩ ++ S ++ (⟨#[35]⟩ ++ t.us) = textT t := by
  rw [← text_cat1 t h, hO, hS]; simp only [ByteArray.append_assoc]
set_option maxRecDepth 100000 in
set_option maxHeartbeats 1000000 in
theorem rtextT_any (t : Tu) (h : sizesT t 1000000) (w : World) : Calls Tryz.prog 21 #[tuV t] w fun e w' => e = .returned (.string (textT t)) ∧ Below w.heap.size w w' := by
  obtain ⟨h1, h2, h3, h4, h5, h6⟩ := h
  obtain ⟨c0, c1, c2, c3, c4, c5⟩ := tcells w t 25
  have HB := Lib.hid (below_tu w t 25)
  have g1 : (t.ot.size : Int) ≤ 1000000 := by omega
  have g2 : (t.oi.size : Int) ≤ 1000000 := by omega
  have g3 : (t.re.size : Int) ≤ 1000000 := by omega
  have g4 : (t.st.size : Int) ≤ 1000000 := by omega
  have g5 : (t.si.size : Int) ≤ 1000000 := by omega
  have g6 : (t.us.size : Int) ≤ 1000000 := by omega
  clear h1 h2 h3 h4 h5 h6
  by_cases hu : t.us = e0
  · have HT := Lib.hid (text_cat0 t hu)
    rw [hu] at c5
    unfold e0 at c5
    clear hu
    go_enter Tryz.func21, Tryz.ntmps21
    go_wp2_with fail
    go_ret
    exact ⟨by rw [← HT.out]; rfl, HB.out⟩
  · have HT := Lib.hid (text_cat1 t hu)
    obtain ⟨n1, n2⟩ := empty_ne hu
    clear hu
    go_enter Tryz.func21, Tryz.ntmps21
    go_wp2_with fail
    go_ret
    exact ⟨by rw [← HT.out]; rfl, HB.out⟩
set_option maxRecDepth 100000 in
theorem text_no (t : Tu) (ht : rightT t = false) (w : World) (h : Env w) : Calls Tryz.prog 15 #[tuV t] w fun e w' => e = .returned (.tuple #[.string ⟨#[]⟩, .bool false]) ∧ Below w.heap.size w w' := by
  have b0 := below_tu w t 25
  have HB0 := Lib.hid b0
  have HA0 := Lib.hid (tu_new w t)
  have HR := Lib.hid (h.1.below b0 h.1.lt)
  have HY := Lib.hid ht
  clear b0 h ht
  go_enter Tryz.func15, Tryz.ntmps15
  go_wp2_with ((with_reducible refine loadT (x := .tmp 1) (o := ⟨some _, _, _, _, _, _⟩) HA0.out ?_ ?_); exact ⟨rfl, rfl, rfl⟩)
  refine (right_any' t _ HR.out).mono ?_
  rintro e w1 ⟨rfl, b1⟩
  rw [HY.out]
  have HB1 := Lib.hid (HB0.out.trans (b1.mono HB0.out.size))
  clear b1
  go_wp2_with fail
  go_ret2
  exact ⟨rfl, HB1.out⟩
set_option maxRecDepth 100000 in
set_option maxHeartbeats 1000000 in
theorem text_yes (t : Tu) (ht : rightT t = true) (w : World) (h : Env w) : Calls Tryz.prog 15 #[tuV t] w fun e w' => e = .returned (.tuple #[.string (textT t), .bool true]) ∧ Below w.heap.size w w' := by
  have b0 := below_tu w t 25
  have HB0 := Lib.hid b0
  have HA0 := Lib.hid (tu_new w t)
  have HE := Lib.hid (h.below b0)
  have HY := Lib.hid ht
  have HZ := Lib.hid (sizes_right ht)
  obtain ⟨r1, r2, r3, r4, r5, r6⟩ := rightT_all ht
  have HO := Lib.hid (objS_yes r1 r2)
  have HS := Lib.hid (objS_yes r4 r5)
  have HU := Lib.hid (And.intro (text_obj0 t) (text_obj1 t))
  clear b0 h ht r1 r2 r3 r4 r5 r6
  go_enter Tryz.func15, Tryz.ntmps15
  go_wp2_with ((with_reducible refine loadT (x := .tmp 1) (o := ⟨some _, _, _, _, _, _⟩) HA0.out ?_ ?_); exact ⟨rfl, rfl, rfl⟩)
  refine (right_any' t _ HE.out.1).mono ?_
  rintro e w1 ⟨rfl, b1⟩
  rw [HY.out]
  have HB1 := Lib.hid (HB0.out.trans (b1.mono HB0.out.size))
  have HX1 := Lib.hid (HA0.out.later b1)
  have HE1 := Lib.hid (HE.out.below b1)
  clear b1 HB0 HA0 HE
  obtain ⟨c0, c1, c2, c3, c4, c5⟩ := TuAt.cells HX1.out
  go_wp2_with fail
  refine (object_any t.ot t.oi _ HE1.out (by have := HZ.out.1; omega) (by have := HZ.out.2.1; omega)).mono ?_
  rintro e w2 ⟨rfl, b2⟩
  rw [HO.out.2, HO.out.1]
  have HB2 := Lib.hid (HB1.out.trans (b2.mono HB1.out.size))
  have HX2 := Lib.hid (HX1.out.later b2)
  have HE2 := Lib.hid (HE1.out.below b2)
  clear b2 HB1 HX1 HE1 c0 c1 c2 c3 c4 c5
  obtain ⟨O, hO⟩ : ∃ O, O = t.ot ++ ⟨#[58]⟩ ++ t.oi := ⟨_, rfl⟩
  have hOs : (O.size : Int) ≤ 1000 := by
    have : O.size = t.ot.size + 1 + t.oi.size := by rw [hO, ByteArray.size_append, ByteArray.size_append]; rfl
    have := HZ.out
    unfold sizesT at this
    omega
  rw [← hO]
  have HOE := Lib.hid hO
  clear hO
  obtain ⟨c0, c1, c2, c3, c4, c5⟩ := TuAt.cells HX2.out
  go_wp2_with fail
  refine (object_any t.st t.si _ HE2.out (by have := HZ.out.2.2.2.1; omega) (by have := HZ.out.2.2.2.2.1; omega)).mono ?_
  rintro e w3 ⟨rfl, b3⟩
  rw [HS.out.2, HS.out.1]
  have HB3 := Lib.hid (HB2.out.trans (b3.mono HB2.out.size))
  have HX3 := Lib.hid (HX2.out.later b3)
  clear b3 HB2 HX2 HE2 c0 c1 c2 c3 c4 c5
  obtain ⟨S, hS⟩ : ∃ S, S = t.st ++ ⟨#[58]⟩ ++ t.si := ⟨_, rfl⟩
  have hSs : (S.size : Int) ≤ 1000 := by
    have : S.size = t.st.size + 1 + t.si.size := by rw [hS, ByteArray.size_append, ByteArray.size_append]; rfl
    have := HZ.out
    unfold sizesT at this
    omega
  rw [← hS]
  have HSE := Lib.hid hS
  clear hS
  have z2 : (t.re.size : Int) ≤ 128 := by have := HZ.out.2.2.1; omega
  have z5 : (t.us.size : Int) ≤ 128 := by have := HZ.out.2.2.2.2.2; omega
  obtain ⟨c0, c1, c2, c3, c4, c5⟩ := TuAt.cells HX3.out
  clear c0 c1 c3 c4 HO HS
  by_cases hu : t.us = e0
  · have HT := Lib.hid (HU.out.1 hu HOE.out HSE.out)
    rw [hu] at c5
    unfold e0 at c5
    clear hu
    go_wp2_with fail
    go_ret2
    exact ⟨by rw [← HT.out]; rfl, HB3.out⟩
  · have HT := Lib.hid (HU.out.2 hu HOE.out HSE.out)
    obtain ⟨n1, n2⟩ := empty_ne hu
    clear hu
    go_wp2_with fail
    go_ret2
    exact ⟨by rw [← HT.out]; rfl, HB3.out⟩
end Go.Proofs.YtnnebfcggdbgpaaGreatDoor
/-
  cmp.Or, tuple.Compare.
-/
namespace Go.Proofs.YtnnebfcggdbgpaaGreatDoor
open Go.ChangeShapes Go.WideShapes Go.ChangeAt Go.RowKit
set_option linter.unusedVariables false

/-- The first that is not zero. -/
def orL : List Int → Int
  | [] => 0
  | x :: r => if x = 0 then orL r else x
theorem orL_drop : ∀ {l : List Int} {i : Nat}, (∀ j, j < i → l.getD j 0 = 0) → orL l = orL (l.drop i)
  | l, 0, _ => rfl
  | [], i + 1, _ => rfl
  | x :: r, i + 1, h => by
    have h0 := h 0 (by omega)
    simp only [List.getD_cons_zero] at h0
    rw [List.drop_succ_cons, ← orL_drop (l := r) (i := i) (fun j hj => by have := h (j + 1) (by omega); simpa using this)]
    conv => lhs; unfold orL
    rw [if_pos h0]
theorem orL_at {l : List Int} {i : Nat} (hi : i < l.length) (h : ∀ j, j < i → l.getD j 0 = 0) (hx : ¬ l.getD i 0 = 0) : orL l = l.getD i 0 := by
  rw [orL_drop h, List.drop_eq_getElem_cons hi]
  have e : l.getD i 0 = l[i] := by rw [List.getD_eq_getElem?_getD, List.getElem?_eq_getElem hi]; rfl
  rw [e] at hx ⊢
  conv => lhs; unfold orL
  rw [if_neg hx]
set_option maxRecDepth 100000 in
set_option maxHeartbeats 1000000 in
theorem or_any (l : List Int) (hl : l.length ≤ 1000) (g : Nat) (w : World) (hA : Arr w 3 g (l.map fun x => .int .i64 x)) : Calls Tryz.prog 81 #[.slice (some ⟨g, 0, none⟩) l.length l.length] w fun r w' => r = .returned (.int .i64 (orL l)) ∧ w = w' := by
  have HA := Lib.hid hA
  clear hA
  go_enter Tryz.func81, Tryz.ntmps81
  go_wp2_with fail
  go_loop [8] (fun iv => ∃ i : Nat, i ≤ l.length ∧ iv = .int .i64 i ∧ Hid (∀ j, j < i → l.getD j 0 = 0)) (fun iv => l.length - (intOf iv).toNat)
  case atStart => exact ⟨0, Nat.zero_le _, rfl, fun j hj => absurd hj (Nat.not_lt_zero _)⟩
  case round =>
    obtain ⟨i, hi, rfl, HG⟩ := hrel
    have hi0 : (0 : Int) ≤ i := by omega
    by_cases hlt : i < l.length
    · have hi1 : (i : Int) < l.length := by omega
      have hx0 := HA.out.cell i
      rw [List.getElem?_map, List.getElem?_eq_getElem hlt] at hx0
      obtain ⟨x, hx⟩ : ∃ x, x = l.getD i 0 := ⟨_, rfl⟩
      have e : l.getD i 0 = l[i] := by rw [List.getD_eq_getElem?_getD, List.getElem?_eq_getElem hlt]; rfl
      have X0 : w.cell? ⟨g, i, none⟩ = some (.int .i64 x) := by rw [hx, e]; exact hx0
      have HX := Lib.hid hx
      have HLT : Hid (i < l.length) := hlt
      clear hx0 e hx
      by_cases hz : x = 0
      · have bz : (x != 0) = false := by rw [hz]; rfl
        have HZ := Lib.hid hz
        clear hz
        go_wp2_with fail
        go_round
        case rel =>
          refine ⟨i + 1, by omega, by go_num, fun j hj => ?_⟩
          by_cases e : j = i
          · subst e; rw [← HX.out]; exact HZ.out
          · exact HG.out j (by omega)
        case measure => simp [intOf]; omega
      · have bz : (x != 0) = true := by rw [bne_iff_ne]; exact hz
        have HR : Hid (orL l = x) := by show _ = _; rw [HX.out]; exact orL_at HLT.out HG.out (by rw [← HX.out]; exact hz)
        clear hz
        go_wp2_with fail
        go_ret
        exact ⟨by rw [HR.out]; rfl, rfl⟩
    · have hi1 : ¬ (i : Int) < l.length := by omega
      have HR : Hid (orL l = 0) := by
        show _ = _
        rw [orL_drop HG.out, List.drop_of_length_le (by omega)]; rfl
      go_wp2_with fail
      go_ret
      exact ⟨by rw [HR.out]; rfl, rfl⟩
theorem ordT_or (a b : Tu) : ordT a b = orL [ord a.ot b.ot, ord a.oi b.oi, ord a.re b.re, ord a.st b.st, ord a.si b.si, ord a.us b.us] := by
  unfold ordT Tu.l
  simp only [ordL, orL]
theorem or6 (x0 x1 x2 x3 x4 x5 : Int) (w : World) :
    Calls Tryz.prog 81 #[.slice (some ⟨w.heap.size, 0, none⟩) 6 6] (w.alloc (.cells #[.int .i64 x0, .int .i64 x1, .int .i64 x2, .int .i64 x3, .int .i64 x4, .int .i64 x5] 3)) fun e w' => e = .returned (.int .i64 (orL [x0, x1, x2, x3, x4, x5])) ∧ w.alloc (.cells #[.int .i64 x0, .int .i64 x1, .int .i64 x2, .int .i64 x3, .int .i64 x4, .int .i64 x5] 3) = w' :=
  or_any [x0, x1, x2, x3, x4, x5] (by simp) w.heap.size _ (Arr.new' w _ _ _ rfl)
set_option maxRecDepth 100000 in
set_option maxHeartbeats 2000000 in
theorem tcompare_any (a b : Tu) (w : World) : Calls Tryz.prog 35 #[tuV a, tuV b] w fun e w' => e = .returned (.int .i64 (ordT a b)) ∧ ∃ q os, w' = Go.Sort.grow (w.drewN q) os := by
  obtain ⟨w0, hw0⟩ : ∃ w0, w0 = (w.alloc (.cells (tc a).toArray 25)).alloc (.cells (tc b).toArray 25) := ⟨_, rfl⟩
  have h1 : TuAt w0 w.heap.size a := by rw [hw0]; exact (tu_new w a).alloc _
  have h2 : TuAt w0 (w.heap.size + 1) b := by rw [hw0]; exact Arr.new2 w _ _ _ _ rfl
  obtain ⟨a0, a1, a2, a3, a4, a5⟩ := TuAt.cells h1
  obtain ⟨b0, b1, b2, b3, b4, b5⟩ := TuAt.cells h2
  have HO := Lib.hid (ordT_or a b)
  have HW := Lib.hid hw0
  have H0 := Lib.hid (Tryz.strings_Compare a.ot b.ot)
  have H1 := Lib.hid (Tryz.strings_Compare a.oi b.oi)
  have H2 := Lib.hid (Tryz.strings_Compare a.re b.re)
  have H3 := Lib.hid (Tryz.strings_Compare a.st b.st)
  have H4 := Lib.hid (Tryz.strings_Compare a.si b.si)
  have H5 := Lib.hid (Tryz.strings_Compare a.us b.us)
  clear h1 h2 hw0
  go_enter Tryz.func35, Tryz.ntmps35
  go_wp2_with fail
  rw [show (w.alloc (.cells (tc a).toArray 25)).alloc (.cells (tc b).toArray 25) = w0 from HW.out.symm]
  refine wp_region_still_tail 38 (by kernel_rfl) (by kernel_rfl) ?_
  simp only [List.take_succ_cons, List.take_zero, List.drop_succ_cons, List.drop_zero]
  repeat first | still_step | still_call (H0.out _) | still_call (H1.out _) | still_call (H2.out _) | still_call (H3.out _) | still_call (H4.out _) | still_call (H5.out _)
  refine wpStill_nil ?_
  change wpList _ _ _ _ _ w0.drew
  have HG : Hid (w0.drew = Go.Sort.grow (w.drewN 1) #[.cells (tc a).toArray 25, .cells (tc b).toArray 25]) := by
    show _ = _
    rw [HW.out, Go.Sort.alloc_eq_grow, Go.Sort.alloc_eq_grow, Go.Sort.grow_grow]; rfl
  generalize w0.drew = w2 at HG ⊢
  rw [show Lib.compareBytes a.ot.data.toList b.ot.data.toList = ord a.ot b.ot from rfl]
  rw [show Lib.compareBytes a.oi.data.toList b.oi.data.toList = ord a.oi b.oi from rfl]
  rw [show Lib.compareBytes a.re.data.toList b.re.data.toList = ord a.re b.re from rfl]
  rw [show Lib.compareBytes a.st.data.toList b.st.data.toList = ord a.st b.st from rfl]
  rw [show Lib.compareBytes a.si.data.toList b.si.data.toList = ord a.si b.si from rfl]
  rw [show Lib.compareBytes a.us.data.toList b.us.data.toList = ord a.us b.us from rfl]
  obtain ⟨x0, hx0⟩ : ∃ x, ord a.ot b.ot = x := ⟨_, rfl⟩
  obtain ⟨x1, hx1⟩ : ∃ x, ord a.oi b.oi = x := ⟨_, rfl⟩
  obtain ⟨x2, hx2⟩ : ∃ x, ord a.re b.re = x := ⟨_, rfl⟩
  obtain ⟨x3, hx3⟩ : ∃ x, ord a.st b.st = x := ⟨_, rfl⟩
  obtain ⟨x4, hx4⟩ : ∃ x, ord a.si b.si = x := ⟨_, rfl⟩
  obtain ⟨x5, hx5⟩ : ∃ x, ord a.us b.us = x := ⟨_, rfl⟩
  rw [hx0, hx1, hx2, hx3, hx4, hx5] at HO ⊢
  clear hx0 H0 a0 b0 hx1 H1 a1 b1 hx2 H2 a2 b2 hx3 H3 a3 b3 hx4 H4 a4 b4 hx5 H5 a5 b5 HW
  go_wp2_with fail
  refine (or6 x0 x1 x2 x3 x4 x5 _).mono ?_
  rintro e w3 ⟨rfl, rfl⟩
  rw [← HO.out]
  go_wp2_with fail
  go_ret
  exact ⟨rfl, 1, _, by rw [Go.Sort.alloc_eq_grow, HG.out, Go.Sort.grow_grow]⟩
theorem grow_below {w : World} (q : Nat) (os : Array Obj) : Below w.heap.size w (Go.Sort.grow (w.drewN q) os) :=
  ⟨rfl, rfl, rfl, by show w.heap.size ≤ (w.heap ++ os).size; simp, fun b hb => by
    show (w.heap ++ os)[b]? = w.heap[b]?
    rw [Array.getElem?_append_left hb]⟩
theorem tcompare_below (a b : Tu) (w : World) : Calls Tryz.prog 35 #[tuV a, tuV b] w fun e w' => e = .returned (.int .i64 (ordT a b)) ∧ Below w.heap.size w w' :=
  (tcompare_any a b w).mono fun e w' ⟨h, q, os, hw⟩ => ⟨h, by rw [hw]; exact grow_below q os⟩
end Go.Proofs.YtnnebfcggdbgpaaGreatDoor
/-
  slices.Compact at a slice of tuples.
-/
namespace Go.Proofs.YtnnebfcggdbgpaaGreatDoor
open Go.ChangeShapes Go.WideShapes Go.ChangeAt Go.RowKit Go.Lib Go.Sort
set_option linter.unusedVariables false

instance : Inhabited Tu := ⟨t0⟩
instance : DecidableEq Tu := fun a b => if h : eqT a b = true then .isTrue ((eqT_iff a b).1 h) else .isFalse fun e => h ((eqT_iff a b).2 e)
theorem HoldsK.rangeT {w : World} {blk off : Nat} {d : Array Tu} (h : HoldsK tc 6 w blk off d) {i : Nat} (hi : i < d.size) : w.rangeAt blk (off + i * 6) (tc d[i]!) := fun j v hv => by
  have hj : j < 6 := (List.getElem?_eq_some_iff.1 hv).1
  rw [(HoldsK.cell h hi hj).1, List.getElem!_eq_getElem?_getD, hv]; rfl
theorem HoldsK.thereT {w : World} {blk off : Nat} {d : Array Tu} (h : HoldsK tc 6 w blk off d) {i : Nat} (hi : i < d.size) : w.there blk (off + i * 6) 6 := fun j hj => by
  obtain ⟨h1, h2⟩ := HoldsK.cell h hi hj
  rw [h1, h2]; exact ⟨rfl, rfl⟩
theorem setManyT (d : Array Tu) (i : Nat) (x : Tu) (hi : i < d.size) : setMany (flatK tc 6 d) (i * 6) (tc x) = flatK tc 6 (d.setIfInBounds i x) := by
  refine ext_get! (by simp) fun t ht => ?_
  have ht' : t < d.size * 6 := by simpa using ht
  rw [get_setMany _ _ _ t (by simpa using ht'), get_flatK _ _ _ t ht', get_flatK _ _ _ t (by simpa using ht')]
  rw [show (tc x).length = 6 from rfl]
  by_cases a : t / 6 = i
  · rw [if_pos ((blk_iff 6 i t (by omega)).2 a)]
    subst a
    rw [show t - t / 6 * 6 = t % 6 by omega, show (d.setIfInBounds (t / 6) x)[t / 6]! = x by simp [hi]]
  · rw [if_neg (fun h => a ((blk_iff 6 i t (by omega)).1 h)), getElem!_set_other d i (t / 6) x a]
theorem putRowT_set (w : World) (blk off : Nat) (d : Array Tu) (i : Nat) (x : Tu) (hi : i < d.size) : (putRowK tc 6 w blk off d).setCells blk (off + i * 6) (tc x) = putRowK tc 6 w blk off (d.setIfInBounds i x) := by
  unfold putRowK
  rw [setCells_putRow _ _ _ _ _ _ (by rw [show (tc x).length = 6 from rfl, size_flatK]; omega), setManyT d i x hi]
theorem setCells_appT (b : Nat) : ∀ (xs ys : List Value) (o : Nat) (w : World), w.setCells b o (xs ++ ys) = (w.setCells b o xs).setCells b (o + xs.length) ys
  | [], ys, o, w => by simp [World.setCells]
  | v :: r, ys, o, w => by
    rw [List.cons_append, World.setCells, World.setCells, setCells_appT b r ys (o + 1), List.length_cons, show o + 1 + r.length = o + (r.length + 1) by omega]
theorem putRowT_lay (w : World) (blk off : Nat) : ∀ (xs : List Tu) (d : Array Tu) (k : Nat), k + xs.length ≤ d.size → (putRowK tc 6 w blk off d).setCells blk (off + k * 6) (xs.flatMap tc) = putRowK tc 6 w blk off (lay d k xs)
  | [], _, _, _ => rfl
  | x :: r, d, k, h => by
    have hl : k + (r.length + 1) ≤ d.size := by simpa using h
    rw [List.flatMap_cons, setCells_appT, putRowT_set _ _ _ _ _ _ (by omega), show (tc x).length = 6 from rfl, show off + k * 6 + 6 = off + (k + 1) * 6 by omega, putRowT_lay w blk off r _ (k + 1) (by simp; omega)]
    rfl
theorem zerosT (n : Nat) : (List.replicate n t0).flatMap tc = List.replicate (n * 6) (.string ⟨#[]⟩) := by
  induction n with
  | zero => rfl
  | succ n ih =>
    rw [List.replicate_succ, List.flatMap_cons, ih, show (n + 1) * 6 = 6 + n * 6 by omega, ← List.replicate_append_replicate]
    rfl
theorem zeroCellsT (n : Nat) : (Builtin.zeroCells (tc t0).toArray n).toList = List.replicate (n * 6) (.string ⟨#[]⟩) := by
  refine List.eq_replicate_iff.2 ⟨by simp [Builtin.zeroCells, tc], fun b hb => ?_⟩
  simp only [Builtin.zeroCells, Array.toList_map, List.mem_map] at hb
  obtain ⟨i, _, rfl⟩ := hb
  have : i % (tc t0).toArray.size < 6 := Nat.mod_lt _ (by decide)
  generalize i % (tc t0).toArray.size = m at this ⊢
  rcases m with _ | _ | _ | _ | _ | _ | m <;> first | rfl | omega
/-- clear, at a slice of tuples. -/
theorem run_clearT (w : World) (ty : TypeId) (b o n c : Nat) (hn : 0 < n) (hT : ∀ i, i < n → w.there b (o + i * 6) 6) :
    (Builtin.clear_ #[52] ty #[.slice (some ⟨b, o, none⟩) n c]).run Tryz.prog w = .ok (.tuple #[]) (w.setCells b o ((List.replicate n t0).flatMap tc)) := by
  have hv : ∀ w, (zeroValue 25).run Tryz.prog w = .ok (tuV t0) w := fun w => by kernel_rfl
  have ht : ∀ j, j < n * 6 → (w.cell? ⟨b, o + j, none⟩).isSome = true ∧ w.frozen? ⟨b, o + j, none⟩ = false := fun j hj => by
    have := hT (j / 6) (by omega) (j % 6) (by omega)
    rwa [show o + j / 6 * 6 + j % 6 = o + j by omega] at this
  have hst := run_storeCells_cells (P := Tryz.prog) b o (List.replicate (n * 6) (.string ⟨#[]⟩)) 0 w (fun j hj => (ht j (by simpa using hj)).1) (fun j hj => (ht j (by simpa using hj)).2) (by intro v hv'; rw [List.eq_of_mem_replicate hv']; rfl)
  simp only [Nat.add_zero] at hst
  rw [zerosT]
  have hz := zeroCellsT n
  obtain ⟨m, rfl⟩ : ∃ m, n = m + 1 := ⟨n - 1, by omega⟩
  simp only [Builtin.clear_]
  simp only [List.size_toArray, List.length_cons, List.length_nil, getElem?_pos, List.getElem_toArray, List.getElem_cons_zero, Nat.zero_add, Nat.lt_add_one, Sem.run_bind, run_underlying Tryz.underlying52, Result.andThen_ok, hv, Value.cells, hz, hst, Sem.run_pure]
section
variable {ops : Array Oper} {rest : List Oper} {o : Oper} {a : Act} {Q : Exit → Act → World → Prop} {w : World} {b off : Nat} {x y : Operand} {u v : Tu}
theorem loadM (hr : w.rangeAt b off (tc u)) (hs : o.guard = none ∧ o.op = .load 25 x ∧ a.eval x = .pointer (some ⟨b, off, none⟩))
    (hk : wpList Tryz.prog ops Q rest (a.put o.dst (tuV u)) w) : wpList Tryz.prog ops Q (o :: rest) a w :=
  wpList_load_mid hs.1 _ x hs.2.1 b off hs.2.2 _ _ hr Tryz.underlying25 rfl (by kernel_rfl) hk
theorem stillM {Q' : Act → Prop} (hr : w.rangeAt b off (tc u)) (hs : o.guard = none ∧ o.op = .load 25 x ∧ a.eval x = .pointer (some ⟨b, off, none⟩))
    (hk : wpStill Tryz.prog ops w Q' rest (a.put o.dst (tuV u))) : wpStill Tryz.prog ops w Q' (o :: rest) a :=
  still_load hs.1 _ x hs.2.1 b off hs.2.2 _ _ hr Tryz.underlying25 rfl (by kernel_rfl) hk
theorem storeM (ht : w.there b off 6) (hs : o.guard = none ∧ o.op = .store 25 x y ∧ a.eval x = .pointer (some ⟨b, off, none⟩) ∧ a.eval y = tuV u)
    (hk : wpList Tryz.prog ops Q rest (a.put o.dst undef) (w.setCells b off (tc u))) : wpList Tryz.prog ops Q (o :: rest) a w :=
  wpList_store_mid hs.1 _ x y hs.2.1 b off (tc u).toArray hs.2.2.1 hs.2.2.2 ht (by kernel_rfl) (all_oneCell_toArray (tc_one u)) hk
theorem eqM {t : TypeId} (hs : o.guard = none ∧ o.op = .binOp .eql 25 x y t ∧ a.eval x = tuV u ∧ a.eval y = tuV v)
    (hk : wpList Tryz.prog ops Q rest (a.put o.dst (.bool (eqT u v))) w) : wpList Tryz.prog ops Q (o :: rest) a w :=
  wpList_plain hs.1 fun K hK => by
    have hg : Tryz.prog.eqGuardType Tryz.prog.depth 25 = false := by kernel_rfl
    unfold Oper.wp execOp
    simp only [hs.2.1, hs.2.2.1, hs.2.2.2, Sem.run_bind, run_eqGuard_agg (hm := hg), Result.andThen_ok, eqlT, Sem.run_pure]
    exact hK _ _ hk
theorem neM {t : TypeId} (hs : o.guard = none ∧ o.op = .binOp .neq 25 x y t ∧ a.eval x = tuV u ∧ a.eval y = tuV v)
    (hk : wpList Tryz.prog ops Q rest (a.put o.dst (.bool (!eqT u v))) w) : wpList Tryz.prog ops Q (o :: rest) a w :=
  wpList_plain hs.1 fun K hK => by
    have hg : Tryz.prog.eqGuardType Tryz.prog.depth 25 = false := by kernel_rfl
    unfold Oper.wp execOp
    simp only [hs.2.1, hs.2.2.1, hs.2.2.2, Sem.run_bind, run_eqGuard_agg (hm := hg), Result.andThen_ok, neqT, Sem.run_pure]
    exact hK _ _ hk
end
theorem store_worldT {w wr : World} {n blk off : Nat} {dk : Array Tu} {i : Nat} (hi : i < dk.size) (hwr : wr = putRowK tc 6 (Sort.ahead w n) blk off dk) (x : Tu) :
    (wr.drew).setCells blk (off + i * 6) (tc x) = putRowK tc 6 (Sort.ahead w (n + 1)) blk off (dk.setIfInBounds i x) := by
  rw [← putRowT_set (Sort.ahead w (n + 1)) blk off dk i x hi, ← putRowK_drewN, ← hwr]
  rfl
/-- What Compact keeps of a list in order is the sorted list without repeats. -/
theorem keptRis {d : Array Tu} (h : ∀ i j, i < j → j < d.size → ¬ 0 < ordT d[i]! d[j]!) : Ris (compactUpTo d d.size) := by
  unfold Ris compactUpTo
  rw [List.pairwise_map]
  refine List.Pairwise.imp_of_mem ?_ ((List.pairwise_lt_range (n := d.size)).filter _)
  intro i j hi hj hij
  simp only [List.mem_filter, List.mem_range, keeps, decide_eq_true_eq] at hi hj
  have hne : d[j]! ≠ d[j - 1]! := by
    rcases hj.2 with e | e
    · omega
    · exact e
  have h1 := h (j - 1) j (by omega) hj.1
  have h0 : ¬ ordT d[j - 1]! d[j]! = 0 := fun e => hne (ordT_eq e).symm
  by_cases e : i = j - 1
  · subst e; omega
  · have h2 := h i (j - 1) (by omega) (by omega)
    have h3 := ordT_up (a := d[i]!) (b := d[j - 1]!) (c := d[j]!)
    by_cases e2 : ordT d[i]! d[j - 1]! = 0
    · rw [ordT_eq e2]; omega
    · exact h3 (by omega) (by omega)
theorem kept_mem (d : Array Tu) (x : Tu) : x ∈ compactUpTo d d.size ↔ x ∈ d.toList := by
  have key : ∀ m, m ≤ d.size → (x ∈ compactUpTo d m ↔ ∃ j, j < m ∧ d[j]! = x) := by
    intro m
    induction m with
    | zero => intro _; simp [compactUpTo]
    | succ m ih =>
      intro hm
      have ih := ih (by omega)
      rw [compactUpTo_succ, List.mem_append, ih]
      constructor
      · rintro (⟨j, hj, e⟩ | h)
        · exact ⟨j, by omega, e⟩
        · split at h
          · exact ⟨m, by omega, (List.mem_singleton.1 h).symm⟩
          · cases h
      · rintro ⟨j, hj, e⟩
        by_cases e1 : j < m
        · exact .inl ⟨j, e1, e⟩
        · obtain rfl : j = m := by omega
          by_cases hk : keeps d j = true
          · right; rw [if_pos hk, e]; exact List.mem_singleton.2 rfl
          · left
            simp only [keeps, decide_eq_true_eq, not_or, Decidable.not_not] at hk
            exact ⟨j - 1, by omega, by rw [← hk.2]; exact e⟩
  rw [key _ (Nat.le_refl _)]
  constructor
  · rintro ⟨j, hj, rfl⟩
    rw [getElem!_pos d j hj]
    exact Array.getElem_mem_toList hj
  · intro h
    obtain ⟨j, hj, e⟩ := List.getElem_of_mem h
    exact ⟨j, by simpa using hj, by rw [getElem!_pos d j (by simpa using hj)]; simpa using e⟩
theorem kept_sorted {l : List Tu} {d : Array Tu} (h : ∀ i j, i < j → j < d.size → ¬ 0 < ordT d[i]! d[j]!) (hm : ∀ x, x ∈ d.toList ↔ x ∈ l) : compactUpTo d d.size = sortedT l :=
  ris_ext (keptRis h) (sorted_ris l) fun x => by rw [kept_mem, sorted_mem, hm]
end Go.Proofs.YtnnebfcggdbgpaaGreatDoor
/-
  slices.Compact at a slice of tuples: the walk.
-/
namespace Go.Proofs.YtnnebfcggdbgpaaGreatDoor
open Go.ChangeShapes Go.WideShapes Go.ChangeAt Go.RowKit Go.Lib Go.Sort
set_option linter.unusedVariables false

set_option maxHeartbeats 4000000 in
set_option maxRecDepth 1000000 in
theorem tcompact_any (blk off cap : Nat) (d : Array Tu) (w : World) (hH : HoldsK tc 6 w blk off d) (hsz : d.size ≤ 9223372036854775807) (hcap : d.size ≤ cap) :
    Calls Tryz.prog 79 #[.slice (some ⟨blk, off, none⟩) d.size cap] w fun e w' => e = .returned (.slice (some ⟨blk, off, none⟩) (compactUpTo d d.size).length cap) ∧ ∃ q, w' = putRowK tc 6 (Sort.ahead w q) blk off (compactUpTo d d.size ++ List.replicate (d.size - (compactUpTo d d.size).length) t0).toArray := by
  have same : ∀ q, (∀ j, j < d.size → keeps d j = true) → (compactUpTo d d.size).length = d.size ∧ w.drewN q = putRowK tc 6 (Sort.ahead w q) blk off (compactUpTo d d.size ++ List.replicate (d.size - (compactUpTo d d.size).length) t0).toArray := by
    intro q hall
    have e : compactUpTo d d.size = d.toList := by rw [compactUpTo_all d _ hall, range_map_get]
    rw [e]
    refine ⟨by simp, ?_⟩
    simp only [Array.length_toList, Nat.sub_self, List.replicate_zero, List.append_nil, Array.toArray_toList]
    exact (putRowK_self tc 6 (Sort.ahead w q) blk off d (holdsK_ahead tc 6 w q blk off d hH)).symm
  have HS := Lib.hid same
  clear same
  by_cases h2 : d.size < 2
  · have HH := Lib.hid hH
    clear hH
    go_enter Tryz.func79, Tryz.ntmps79
    go_wp2_with fail
    go_ret
    obtain ⟨e1, e2⟩ := HS.out 0 (fun j hj => keeps_lt_one d j (by omega))
    exact ⟨by rw [e1]; rfl, 0, e2⟩
  · have HH := Lib.hid hH
    clear hH
    go_enter Tryz.func79, Tryz.ntmps79
    go_wp2_with fail
    go_loopg [3] d.size (fun g s3 wr => ∃ k q : Nat, 1 ≤ k ∧ k ≤ d.size ∧ d.size - k ≤ g ∧ s3 = .int .i64 k ∧ wr = w.drewN q ∧ ∀ j, j < k → keeps d j = true)
    case atStart => exact ⟨1, 0, Nat.le_refl _, by omega, by omega, rfl, rfl, keeps_lt_one d⟩
    case round =>
      obtain ⟨k, q, hk1, hk, hg, rfl, rfl, hall⟩ := hrel
      by_cases hlt : k < d.size
      · have HW : Hid (IntKind.i64.wrap ((k : Int) - 1) = ((k - 1 : Nat) : Int)) := by show _ = _; rw [IntKind.wrap_i64]; omega
        have hk1' : k - 1 < d.size := by omega
        have c1 := Lib.hid (HoldsK.rangeT (w := (w.drewN q).drew) HH.out hlt)
        have c0 := Lib.hid (HoldsK.rangeT (w := (w.drewN q).drew) HH.out (i := k - 1) (by omega))
        have A : Aside (∀ j, j < k → keeps d j = true) := hall
        clear hall
        generalize hx : d[k]! = x at c1
        generalize hy : d[k - 1]! = y at c0
        have B : Aside (d[k]! = x ∧ d[k - 1]! = y) := ⟨hx, hy⟩
        clear hx hy
        go_wp2_with fail
        refine region_tail 9 (by kernel_rfl) (by kernel_rfl) ?_
        simp only [List.take_succ_cons, List.take_zero, List.drop_succ_cons, List.drop_zero]
        repeat first
          | still_step
          | (rw [HW.out]; still_step)
          | ((with_reducible refine stillM (x := .tmp 18) (o := ⟨some 19, _, _, _, _, _⟩) c1.out ?_ ?_); exact ⟨rfl, rfl, by go_simp⟩)
          | ((with_reducible refine stillM (x := .tmp 23) (o := ⟨some 24, _, _, _, _, _⟩) c0.out ?_ ?_); exact ⟨rfl, rfl, by go_simp⟩)
        refine wpStill_nil ?_
        by_cases hdup : x = y
        · have he : eqT x y = true := (eqT_iff x y).2 hdup
          refine eqM (u := x) (v := y) (o := ⟨some 25, _, _, _, _, _⟩) ⟨rfl, rfl, rfl, rfl⟩ ?_
          rw [he]
          clear c0 c1
          generalize hw2 : (w.drewN q).drew = w2
          have W0 := Lib.hid hw2
          clear hw2
          go_wp2_with fail
          go_loopg [3, 5] d.size (fun g s3 s5 wr => ∃ (kk k2 q2 : Nat) (dk : Array Tu), s3 = .int .i64 kk ∧ s5 = .int .i64 k2 ∧ 1 ≤ k2 ∧ k + k2 ≤ d.size ∧ d.size - (k + k2) ≤ g ∧ wr = putRowK tc 6 (Sort.ahead w q2) blk off dk ∧ CompInv d (k + k2) kk dk)
          case atStart => exact ⟨k, 1, q + 1, d, rfl, rfl, Nat.le_refl _, by omega, by omega, by rw [← W0.out]; exact (putRowK_self tc 6 (Sort.ahead w (q + 1)) blk off d (holdsK_ahead tc 6 w (q + 1) blk off d HH.out)).symm, CompInv.start A.out (keeps_neg (by omega) (by rw [B.out.1, B.out.2, hdup]))⟩
          case round =>
            obtain ⟨kk, k2, q2, dk, rfl, rfl, h1, hle, hg2, hwr, hI⟩ := hrel
            have hkk := hI.lt
            have hds := hI.size
            have hHk : HoldsK tc 6 wr.drew blk off dk := by rw [hwr]; exact holdsK_putRowK tc 6 _ blk off d dk (holdsK_ahead tc 6 w q2 blk off d HH.out) hds
            have W2 : Aside (wr = putRowK tc 6 (Sort.ahead w q2) blk off dk) := hwr
            have I2 : Aside (CompInv d (k + k2) kk dk) := hI
            clear hwr
            by_cases hlt2 : k + k2 < d.size
            · have cm := Lib.hid (HoldsK.rangeT hHk (i := k + k2) (by omega))
              have cp := Lib.hid (HoldsK.rangeT hHk (i := k + k2 - 1) (by omega))
              have ck := Lib.hid (HoldsK.thereT hHk (i := kk) (by omega))
              have hk2' : k2 - 1 < d.size - k := by omega
              have HW2 : Hid (IntKind.i64.wrap ((k2 : Int) - 1) = ((k2 - 1 : Nat) : Int)) := by show _ = _; rw [IntKind.wrap_i64]; omega
              rw [hI.high (k + k2) (by omega), show off + (k + k2) * 6 = off + k * 6 + k2 * 6 by omega] at cm
              rw [hI.high (k + k2 - 1) (by omega), show off + (k + k2 - 1) * 6 = off + k * 6 + (k2 - 1) * 6 by omega] at cp
              clear hHk hI
              generalize hu : d[k + k2]! = u at cm
              generalize hv : d[k + k2 - 1]! = v at cp
              have C : Aside (d[k + k2]! = u ∧ d[k + k2 - 1]! = v) := ⟨hu, hv⟩
              clear hu hv
              go_wp2_with fail
              refine region_tail 9 (by kernel_rfl) (by kernel_rfl) ?_
              simp only [List.take_succ_cons, List.take_zero, List.drop_succ_cons, List.drop_zero]
              repeat first
                | still_step
                | (rw [HW2.out]; still_step)
                | ((with_reducible refine stillM (x := .tmp 37) (o := ⟨some 38, _, _, _, _, _⟩) cm.out ?_ ?_); exact ⟨rfl, rfl, by go_simp⟩)
                | ((with_reducible refine stillM (x := .tmp 42) (o := ⟨some 43, _, _, _, _, _⟩) cp.out ?_ ?_); exact ⟨rfl, rfl, by go_simp⟩)
              refine wpStill_nil ?_
              refine neM (u := u) (v := v) (o := ⟨some 44, _, _, _, _, _⟩) ⟨rfl, rfl, rfl, rfl⟩ ?_
              by_cases huv : u = v
              · have he2 : eqT u v = true := (eqT_iff u v).2 huv
                rw [he2]
                have H2 : Hid (wr.drew = putRowK tc 6 (Sort.ahead w (q2 + 1)) blk off dk) := by show _ = _; rw [W2.out]; rfl
                clear cm cp ck
                generalize wr.drew = w3 at H2 ⊢
                go_wp2_with fail
                go_roundg (d.size - (k + (k2 + 1)))
                case measure => omega
                case rel => exact ⟨kk, k2 + 1, q2 + 1, dk, rfl, by go_num, by omega, by omega, Nat.le_refl _, H2.out, I2.out.skip (keeps_neg (by omega) (by rw [C.out.1, C.out.2, huv]))⟩
              · have he2 : eqT u v = false := by rcases hb : eqT u v with _ | _; · rfl
                                                 · exact absurd ((eqT_iff u v).1 hb) huv
                rw [he2]
                have H2 : Hid ((wr.drew).setCells blk (off + kk * 6) (tc u) = putRowK tc 6 (Sort.ahead w (q2 + 1)) blk off (dk.setIfInBounds kk u)) := store_worldT (by omega) W2.out u
                clear cp
                have hkd : kk < d.size := by omega
                go_wp2_with (first
                  | ((with_reducible refine loadM (x := .tmp 49) (o := ⟨some 50, _, _, _, _, _⟩) cm.out ?_ ?_); exact ⟨rfl, rfl, by go_simp⟩)
                  | ((with_reducible refine storeM (x := .tmp 51) (y := .tmp 50) (u := u) (o := ⟨none, .store _ _ _, _, _, _, _⟩) ck.out ?_ ?_); exact ⟨rfl, rfl, by go_simp, rfl⟩))
                go_roundg (d.size - (k + (k2 + 1)))
                case measure => omega
                case rel => exact ⟨kk + 1, k2 + 1, q2 + 1, dk.setIfInBounds kk u, by go_num, by go_num, by omega, by omega, Nat.le_refl _, H2.out, by have := I2.out.keep hlt2 (keeps_pos (by rw [C.out.1, C.out.2]; exact huv)); rwa [C.out.1] at this⟩
            · have hend : k + k2 = d.size := by omega
              have hcl : ∀ ty, (Builtin.clear_ #[52] ty #[.slice (some ⟨blk, off + kk * 6, none⟩) (d.size - kk) (cap - kk)]).run Tryz.prog wr = .ok (.tuple #[]) (wr.setCells blk (off + kk * 6) ((List.replicate (d.size - kk) t0).flatMap tc)) :=
                fun ty => run_clearT wr ty blk (off + kk * 6) (d.size - kk) _ (by omega) (fun i hi => by
                  have := HoldsK.thereT hHk (i := kk + i) (by omega)
                  rwa [show off + (kk + i) * 6 = off + kk * 6 + i * 6 by omega] at this)
              clear hHk hI
              go_wp2_with fail
              go_ret
              have hI := I2.out
              rw [hend] at hI
              refine ⟨by rw [hI.len]; rfl, q2, ?_⟩
              rw [hI.len, ← hI.done t0, ← putRowT_lay _ blk off _ dk kk (by simp; omega), ← W2.out]
        · have he : eqT x y = false := by rcases hb : eqT x y with _ | _; · rfl
                                          · exact absurd ((eqT_iff x y).1 hb) hdup
          refine eqM (u := x) (v := y) (o := ⟨some 25, _, _, _, _, _⟩) ⟨rfl, rfl, rfl, rfl⟩ ?_
          rw [he]
          clear c0 c1
          generalize hw2 : (w.drewN q).drew = w2
          have W0 := Lib.hid hw2
          clear hw2
          go_wp2_with fail
          go_roundg (d.size - (k + 1))
          case measure => omega
          case rel =>
            refine ⟨k + 1, q + 1, by omega, by omega, Nat.le_refl _, by go_num, W0.out.symm, fun j hj => ?_⟩
            by_cases e : j = k
            · subst e
              exact keeps_pos (by rw [B.out.1, B.out.2]; exact hdup)
            · exact A.out j (by omega)
      · have : k = d.size := by omega
        subst this
        go_wp2_with fail
        go_ret
        obtain ⟨e1, e2⟩ := HS.out q hall
        exact ⟨by rw [e1]; rfl, q, e2⟩
theorem tcompact_nil (a : Option Addr) (cap : Nat) (w : World) : Calls Tryz.prog 79 #[.slice a 0 cap] w fun e w' => e = .returned (.slice a 0 cap) ∧ w = w' := by
  go_enter Tryz.func79, Tryz.ntmps79
  go_wp2_with fail
  go_ret
  exact ⟨rfl, rfl⟩
end Go.Proofs.YtnnebfcggdbgpaaGreatDoor
/-
  vestryref01.Read at any offset, and the method Cursor.Text, on any bytes.
-/
namespace Go.Proofs.YtnnebfcggdbgpaaGreatDoor
open Go.ChangeShapes Go.WideShapes Go.ChangeAt Go.RowKit
set_option linter.unusedVariables false

theorem partP_num {most : Nat} {r : List UInt8} (h : (num r).2.2 ≠ 0) : partP most r = ([], 0, (num r).2.2) := by unfold partP; rw [if_pos h]
theorem partP_lim {most : Nat} {r : List UInt8} (h : (num r).2.2 = 0) (h2 : most < (num r).1) : partP most r = ([], 0, 15) := by unfold partP; rw [if_neg (by omega), if_pos h2]
theorem partP_short {most : Nat} {r : List UInt8} (h : (num r).2.2 = 0) (h2 : ¬ most < (num r).1) (h3 : r.length < (num r).2.1 + (num r).1) : partP most r = ([], 0, 1) := by unfold partP; rw [if_neg (by omega), if_neg h2, if_pos h3]
theorem partP_yes {most : Nat} {r : List UInt8} (h : (num r).2.2 = 0) (h2 : ¬ most < (num r).1) (h3 : ¬ r.length < (num r).2.1 + (num r).1) : partP most r = ((r.drop (num r).2.1).take (num r).1, (num r).2.1 + (num r).1, 0) := by unfold partP; rw [if_neg (by omega), if_neg h2, if_neg h3]
/-- Bytes in the middle of a slice, as a slice. -/
theorem rd_mid {B : Nat} {w : World} {b off cap cap' N n : Nat} {l : List UInt8} (h1 : l.length ≤ cap) (h2 : cap ≤ maxLen) (h3 : b < B) (hc : ∀ i, i < l.length → w.cell? ⟨b, off + i, none⟩ = some (bv (l.getD i 0))) (hn : N + n ≤ l.length) (hcap : n ≤ cap' ∧ cap' ≤ cap) :
    Rd B w (.slice (some ⟨b, off + N, none⟩) n cap') ((l.drop N).take n) := by
  have hl : ((l.drop N).take n).length = n := by rw [List.length_take, List.length_drop]; omega
  refine .inr ⟨b, off + N, cap', by rw [hl], by omega, by omega, h3, fun i hi => ?_⟩
  rw [hl] at hi
  have := hc (N + i) (by omega)
  rw [← Nat.add_assoc] at this
  rw [this]
  congr 2
  simp [List.getD_eq_getElem?_getD, List.getElem?_drop, hi]

set_option maxRecDepth 100000 in
set_option maxHeartbeats 800000 in
theorem rread_num {w : World} {L cap A most c : Nat} {oa : Option Addr} (hc : c ≠ 0) (HC : Hid (Calls Tryz.prog 93 #[.slice oa L cap, .int .i64 A] w fun e w' => e = .returned (.tuple #[.int .u64 0, .int .i64 A, .int .i64 c]) ∧ w = w')) : Calls Tryz.prog 75 #[.slice oa L cap, .int .i64 A, .int .i64 most] w fun e w' => e = .returned (.tuple #[.string ByteArray.empty, .int .i64 A, .int .i64 c]) ∧ w = w' := by
  have hc1 : ¬ (c : Int) = 0 := by omega
  have hc2 : ((c : Int) != 0) = true := by rw [bne_iff_ne]; exact hc1
  clear hc
  go_enter Tryz.func75, Tryz.ntmps75
  go_wp2_with fail
  refine HC.out.mono ?_
  rintro e w1 ⟨rfl, rfl⟩
  go_wp2_with fail
  go_ret3
  exact ⟨rfl, rfl⟩
set_option maxRecDepth 100000 in
set_option maxHeartbeats 800000 in
theorem rread_lim {w : World} {L cap A most n N : Nat} {oa : Option Addr} (hm : most ≤ 1000) (h : most < n) (HC : Hid (Calls Tryz.prog 93 #[.slice oa L cap, .int .i64 A] w fun e w' => e = .returned (.tuple #[.int .u64 n, .int .i64 N, .int .i64 0]) ∧ w = w')) : Calls Tryz.prog 75 #[.slice oa L cap, .int .i64 A, .int .i64 most] w fun e w' => e = .returned (.tuple #[.string ByteArray.empty, .int .i64 A, .int .i64 15]) ∧ w = w' := by
  have hw0 : ¬ (most : Int) < 0 := by omega
  have hw1 : IntKind.u64.wrap (most : Int) = most := by rw [IntKind.wrap_u64]; omega
  have h1 : (most : Int) < n := by omega
  clear h hm
  go_enter Tryz.func75, Tryz.ntmps75
  go_wp2_with fail
  refine HC.out.mono ?_
  rintro e w1 ⟨rfl, rfl⟩
  go_wp2_with fail
  go_ret3
  exact ⟨rfl, rfl⟩
set_option maxRecDepth 100000 in
set_option maxHeartbeats 800000 in
theorem rread_short {w : World} {L cap A most n N : Nat} {oa : Option Addr} (hm : most ≤ 1000) (h : n ≤ most) (hN : N ≤ L) (hL : L ≤ 1000000) (hs : L - N < n) (HC : Hid (Calls Tryz.prog 93 #[.slice oa L cap, .int .i64 A] w fun e w' => e = .returned (.tuple #[.int .u64 n, .int .i64 N, .int .i64 0]) ∧ w = w')) : Calls Tryz.prog 75 #[.slice oa L cap, .int .i64 A, .int .i64 most] w fun e w' => e = .returned (.tuple #[.string ByteArray.empty, .int .i64 A, .int .i64 1]) ∧ w = w' := by
  have hw0 : ¬ (most : Int) < 0 := by omega
  have hw1 : IntKind.u64.wrap (most : Int) = most := by rw [IntKind.wrap_u64]; omega
  have h1 : ¬ (most : Int) < n := by omega
  have h2 : IntKind.u64.wrap ((L : Int) - N) = (L : Int) - N := by rw [IntKind.wrap_u64]; omega
  have h3 : (L : Int) - N < n := by omega
  have h4 : (L : Int) ≤ 1000000 := by omega
  clear h hm
  go_enter Tryz.func75, Tryz.ntmps75
  go_wp2_with fail
  refine HC.out.mono ?_
  rintro e w1 ⟨rfl, rfl⟩
  go_wp2_with fail
  go_ret3
  exact ⟨rfl, rfl⟩
set_option maxRecDepth 100000 in
set_option maxHeartbeats 800000 in
theorem rread_yes {w : World} {L cap A most n N : Nat} {b off : Nat} {S : ByteArray} (hm : most ≤ 1000) (h : n ≤ most) (h0 : 0 < n) (hN : N + n ≤ L) (hL : L ≤ 1000000) (hcap : L ≤ cap) (hcm : cap ≤ maxLen) (hS : (convert 30 9 (.slice (some ⟨b, off + N, none⟩) n (cap - N))).run Tryz.prog w = .ok (.string S) w) (HC : Hid (Calls Tryz.prog 93 #[.slice (some ⟨b, off, none⟩) L cap, .int .i64 A] w fun e w' => e = .returned (.tuple #[.int .u64 n, .int .i64 N, .int .i64 0]) ∧ w = w')) : Calls Tryz.prog 75 #[.slice (some ⟨b, off, none⟩) L cap, .int .i64 A, .int .i64 most] w fun e w' => e = .returned (.tuple #[.string S, .int .i64 ((N + n : Nat) : Int), .int .i64 0]) ∧ w = w' := by
  have hw0 : ¬ (most : Int) < 0 := by omega
  have hw1 : IntKind.u64.wrap (most : Int) = most := by rw [IntKind.wrap_u64]; omega
  have h4 : (L : Int) ≤ 1000000 := by omega
  unfold maxLen at hcm
  have h1 : ¬ (most : Int) < n := by omega
  have h2 : IntKind.u64.wrap ((L : Int) - N) = (L : Int) - N := by rw [IntKind.wrap_u64]; omega
  have h3 : ¬ (L : Int) - N < n := by omega
  have h5 : IntKind.i64.wrap (n : Int) = n := by rw [IntKind.wrap_i64]; omega
  have h6 : (N : Int) + n ≤ L := by omega
  have h7 : (0 : Int) < n := by omega
  have h8 : N < cap := by omega
  have h9 : ¬ cap = N := by omega
  clear h hm
  go_enter Tryz.func75, Tryz.ntmps75
  go_wp2_with fail
  refine HC.out.mono ?_
  rintro e w1 ⟨rfl, rfl⟩
  go_wp2_with fail
  go_ret3
  exact ⟨rfl, rfl⟩
set_option maxRecDepth 100000 in
set_option maxHeartbeats 800000 in
theorem rread_nil {w : World} {L cap A most n N : Nat} {b off : Nat} {S : ByteArray} (hm : most ≤ 1000) (h : n ≤ most) (h0 : n = 0) (hck : N < cap) (hN : N + n ≤ L) (hL : L ≤ 1000000) (hcap : L ≤ cap) (hcm : cap ≤ maxLen) (hS : (convert 30 9 (.slice (some ⟨b, off + N, none⟩) 0 (cap - N))).run Tryz.prog w = .ok (.string S) w) (HC : Hid (Calls Tryz.prog 93 #[.slice (some ⟨b, off, none⟩) L cap, .int .i64 A] w fun e w' => e = .returned (.tuple #[.int .u64 n, .int .i64 N, .int .i64 0]) ∧ w = w')) : Calls Tryz.prog 75 #[.slice (some ⟨b, off, none⟩) L cap, .int .i64 A, .int .i64 most] w fun e w' => e = .returned (.tuple #[.string S, .int .i64 ((N + n : Nat) : Int), .int .i64 0]) ∧ w = w' := by
  have hw0 : ¬ (most : Int) < 0 := by omega
  have hw1 : IntKind.u64.wrap (most : Int) = most := by rw [IntKind.wrap_u64]; omega
  have h4 : (L : Int) ≤ 1000000 := by omega
  unfold maxLen at hcm
  subst h0
  rw [show (((0 : Nat) : Int)) = 0 from rfl] at HC
  rw [show N + 0 = N from rfl] at hN ⊢
  have h1 : (0 : Int) ≤ most := by omega
  have h2 : IntKind.u64.wrap ((L : Int) - N) = (L : Int) - N := by rw [IntKind.wrap_u64]; omega
  have h3 : (0 : Int) ≤ (L : Int) - N := by omega
  have h6 : (N : Int) ≤ L := by omega
  have h9 : ¬ cap = N := by omega
  clear h hm
  go_enter Tryz.func75, Tryz.ntmps75
  go_wp2_with fail
  refine HC.out.mono ?_
  rintro e w1 ⟨rfl, rfl⟩
  go_wp2_with fail
  go_ret3
  exact ⟨rfl, rfl⟩
set_option maxRecDepth 100000 in
set_option maxHeartbeats 800000 in
theorem rread_end {w : World} {L cap A most n N : Nat} {b off : Nat} {S : ByteArray} (hm : most ≤ 1000) (h : n ≤ most) (h0 : n = 0) (hck : N = cap) (hN : N + n ≤ L) (hL : L ≤ 1000000) (hcap : L ≤ cap) (hcm : cap ≤ maxLen) (hS : (convert 30 9 (.slice (some ⟨b, off, none⟩) 0 0)).run Tryz.prog w = .ok (.string S) w) (HC : Hid (Calls Tryz.prog 93 #[.slice (some ⟨b, off, none⟩) L cap, .int .i64 A] w fun e w' => e = .returned (.tuple #[.int .u64 n, .int .i64 N, .int .i64 0]) ∧ w = w')) : Calls Tryz.prog 75 #[.slice (some ⟨b, off, none⟩) L cap, .int .i64 A, .int .i64 most] w fun e w' => e = .returned (.tuple #[.string S, .int .i64 ((N + n : Nat) : Int), .int .i64 0]) ∧ w = w' := by
  have hw0 : ¬ (most : Int) < 0 := by omega
  have hw1 : IntKind.u64.wrap (most : Int) = most := by rw [IntKind.wrap_u64]; omega
  have h4 : (L : Int) ≤ 1000000 := by omega
  unfold maxLen at hcm
  subst h0
  rw [show (((0 : Nat) : Int)) = 0 from rfl] at HC
  rw [show N + 0 = N from rfl] at hN ⊢
  have h1 : (0 : Int) ≤ most := by omega
  have h2 : IntKind.u64.wrap ((L : Int) - N) = (L : Int) - N := by rw [IntKind.wrap_u64]; omega
  have h3 : (0 : Int) ≤ (L : Int) - N := by omega
  have h6 : (N : Int) ≤ L := by omega
  have h9 : cap = N := by omega
  clear hck
  subst h9
  clear h hm
  go_enter Tryz.func75, Tryz.ntmps75
  go_wp2_with fail
  refine HC.out.mono ?_
  rintro e w1 ⟨rfl, rfl⟩
  go_wp2_with fail
  go_ret3
  exact ⟨rfl, rfl⟩
end Go.Proofs.YtnnebfcggdbgpaaGreatDoor
/-
  vestryref01.Read at any offset and the method Cursor.Text, together.
-/
namespace Go.Proofs.YtnnebfcggdbgpaaGreatDoor
open Go.ChangeShapes Go.WideShapes Go.ChangeAt Go.RowKit
set_option linter.unusedVariables false

theorem eqNC (d : Int) (w : World) : (binOp BinOp.neq 34 (.iface 93 (.int .i64 d)) .nilIface).run Tryz.prog w = .ok (.bool true) w := by kernel_rfl
set_option maxRecDepth 100000 in
set_option maxHeartbeats 800000 in
theorem rread_at {B : Nat} {w : World} {vb : Value} {l : List UInt8} (hr : Rd B w vb l) (hlen : l.length ≤ 1000000) (A : Nat) (hA : A ≤ l.length) (most : Nat) (hm : most ≤ 1000) :
    Calls Tryz.prog 75 #[vb, .int .i64 A, .int .i64 most] w fun e w' => e = .returned (.tuple #[.string (str (partP most (l.drop A)).1), .int .i64 ((A + (partP most (l.drop A)).2.1 : Nat) : Int), .int .i64 ((partP most (l.drop A)).2.2 : Nat)]) ∧ w = w' := by
  obtain ⟨oa, cap, rfl, _, hcell⟩ := hr.form
  have HC := rnumber_at hr hlen A hA
  obtain ⟨r, hrr⟩ : ∃ r, r = l.drop A := ⟨_, rfl⟩
  have hrl : r.length = l.length - A := by rw [hrr, List.length_drop]
  rw [← hrr] at HC ⊢
  by_cases hc0 : (num r).2.2 = 0
  · obtain ⟨hk0, hk1, hk2⟩ := num_at hc0
    rw [hc0] at HC
    obtain ⟨n, hn⟩ : ∃ n, n = (num r).1 := ⟨_, rfl⟩
    obtain ⟨k, hk⟩ : ∃ k, k = (num r).2.1 := ⟨_, rfl⟩
    obtain ⟨N, hN⟩ : ∃ N, N = A + k := ⟨_, rfl⟩
    rw [← hk] at hk0 hk1 HC
    rw [← hn, ← hN] at HC
    by_cases h1 : most < n
    · rw [partP_lim hc0 (by rw [← hn]; exact h1)]
      exact rread_lim hm h1 (Lib.hid HC)
    · by_cases h2 : r.length < k + n
      · rw [partP_short hc0 (by rw [← hn]; exact h1) (by rw [← hn, ← hk]; exact h2)]
        exact rread_short hm (by omega) (by omega) hlen (by omega) (Lib.hid HC)
      · have HP := partP_yes (most := most) hc0 (by rw [← hn]; exact h1) (by rw [← hn, ← hk]; exact h2)
        rw [← hn, ← hk] at HP
        rw [HP]
        obtain ⟨b, off, rfl, g1, g2, g3, hc⟩ := hcell (by omega)
        clear hcell
        have e1 : (r.drop k).take n = (l.drop N).take n := by rw [hrr, List.drop_drop, hN]
        have hcv := conv_bytes (rd_mid (N := N) (n := n) (cap' := cap - N) g1 g2 g3 hc (by omega) (by omega))
        rw [← e1] at hcv
        show Calls _ _ _ _ fun e w' => e = .returned (.tuple #[.string (str ((r.drop k).take n)), .int .i64 ((A + (k + n) : Nat) : Int), .int .i64 ((0 : Nat) : Int)]) ∧ w = w'
        rw [show A + (k + n) = N + n by omega]
        by_cases h0 : n = 0
        · have hcv0 : (convert 30 9 (.slice (some ⟨b, off, none⟩) 0 0)).run Tryz.prog w = .ok (.string (str ((r.drop k).take n))) w := by
            rw [h0, List.take_zero]
            exact conv_bytes (B := B) (.inl ⟨_, rfl, rfl⟩)
          by_cases hck : N = cap
          · exact rread_end hm (by omega) h0 hck (by omega) hlen g1 g2 hcv0 (Lib.hid HC)
          · rw [show Value.slice (some ⟨b, off + N, none⟩) n (cap - N) = .slice (some ⟨b, off + N, none⟩) 0 (cap - N) by rw [h0]] at hcv
            exact rread_nil hm (by omega) h0 (by omega) (by omega) hlen g1 g2 hcv (Lib.hid HC)
        · exact rread_yes hm (by omega) (by omega) (by omega) hlen g1 g2 hcv (Lib.hid HC)
  · rw [partP_num (most := most) hc0]
    have hb' : (num r).2.1 = 0 := (numGo_bad r 0 0 hc0).2
    have hb2 : (num r).1 = 0 := (numGo_bad r 0 0 hc0).1
    rw [hb', Nat.add_zero, hb2] at HC
    exact rread_num hc0 (Lib.hid HC)
set_option maxRecDepth 100000 in
set_option maxHeartbeats 1000000 in
theorem ctext_num {w : World} {c at' : Nat} {l : List UInt8} (h : Cur w c l at') (most : Nat) (hm : most ≤ 1000) {k : Nat} (hk : k ≠ 0) (hn : num (l.drop at') = (0, 0, k)) :
    Calls Tryz.prog 74 #[.pointer (some ⟨c, 0, none⟩), .int .i64 most] w fun e w' => e = .returned (.tuple #[.string ByteArray.empty, .iface 93 (.int .i64 k)]) ∧ ∃ n, w' = w.drewN n := by
  have HN := Lib.hid hn
  have HR := Lib.hid (rest_any h)
  have hw0 : ¬ (most : Int) < 0 := by omega
  have hw1 : IntKind.u64.wrap (most : Int) = most := by rw [IntKind.wrap_u64]; omega
  have HK := Lib.hid hk
  have hq := eqNC
  clear hn h hk
  go_enter Tryz.func74, Tryz.ntmps74
  go_wp2_with fail
  refine HR.out.mono ?_
  rintro e w1 ⟨v, rfl, hr0, nq, rfl⟩
  have hr1 : Rd c (w.drewN nq) v (l.drop at') := hr0
  clear hr0
  have HNU := Lib.hid (number_any hr1)
  rw [HN.out] at HNU
  obtain ⟨ov, cv, hv⟩ := rd_form hr1
  rw [List.length_drop] at hv
  obtain ⟨L, hL⟩ : ∃ L, L = l.length - at' := ⟨_, rfl⟩
  rw [← hL] at hv
  subst hv
  clear hr1 hL
  go_wp2_with fail
  refine HNU.out.mono ?_
  rintro e w2 ⟨rfl, rfl⟩
  simp only [errV, HK.out, if_false]
  go_wp2_with fail
  go_ret2
  exact ⟨rfl, _, rfl⟩
set_option maxRecDepth 100000 in
set_option maxHeartbeats 1000000 in
theorem ctext_lim {w : World} {c at' : Nat} {l : List UInt8} (h : Cur w c l at') (most : Nat) (hm : most ≤ 1000) {n k : Nat} (hlt : most < n) (hn : num (l.drop at') = (n, k, 0)) :
    Calls Tryz.prog 74 #[.pointer (some ⟨c, 0, none⟩), .int .i64 most] w fun e w' => e = .returned (.tuple #[.string ByteArray.empty, .iface 93 (.int .i64 15)]) ∧ ∃ n, w' = w.drewN n := by
  have HN := Lib.hid hn
  have HR := Lib.hid (rest_any h)
  have hw0 : ¬ (most : Int) < 0 := by omega
  have hw1 : IntKind.u64.wrap (most : Int) = most := by rw [IntKind.wrap_u64]; omega
  have h1 : (most : Int) < n := by omega
  clear hn h hlt
  go_enter Tryz.func74, Tryz.ntmps74
  go_wp2_with fail
  refine HR.out.mono ?_
  rintro e w1 ⟨v, rfl, hr0, nq, rfl⟩
  have hr1 : Rd c (w.drewN nq) v (l.drop at') := hr0
  clear hr0
  have HNU := Lib.hid (number_any hr1)
  rw [HN.out] at HNU
  obtain ⟨ov, cv, hv⟩ := rd_form hr1
  rw [List.length_drop] at hv
  obtain ⟨L, hL⟩ : ∃ L, L = l.length - at' := ⟨_, rfl⟩
  rw [← hL] at hv
  subst hv
  clear hr1 hL
  go_wp2_with fail
  refine HNU.out.mono ?_
  rintro e w2 ⟨rfl, rfl⟩
  simp only [errV, if_true]
  go_wp2_with fail
  go_ret2
  exact ⟨rfl, _, rfl⟩
set_option maxRecDepth 100000 in
set_option maxHeartbeats 1000000 in
theorem ctext_short {w : World} {c at' : Nat} {l : List UInt8} (h : Cur w c l at') (most : Nat) (hm : most ≤ 1000) {n k : Nat} (hle : n ≤ most) (hk : k ≤ l.length - at') (hs : l.length - at' - k < n) (hn : num (l.drop at') = (n, k, 0)) :
    Calls Tryz.prog 74 #[.pointer (some ⟨c, 0, none⟩), .int .i64 most] w fun e w' => e = .returned (.tuple #[.string ByteArray.empty, .iface 93 (.int .i64 1)]) ∧ ∃ n, w' = w.drewN n := by
  have HN := Lib.hid hn
  have HR := Lib.hid (rest_any h)
  have hw0 : ¬ (most : Int) < 0 := by omega
  have hw1 : IntKind.u64.wrap (most : Int) = most := by rw [IntKind.wrap_u64]; omega
  have hlen : l.length ≤ 140737488355328 := by obtain ⟨_, _, _, _, h⟩ := h; exact h
  have h1 : ¬ (most : Int) < n := by omega
  clear hn h hle
  go_enter Tryz.func74, Tryz.ntmps74
  go_wp2_with fail
  refine HR.out.mono ?_
  rintro e w1 ⟨v, rfl, hr0, nq, rfl⟩
  have hr1 : Rd c (w.drewN nq) v (l.drop at') := hr0
  clear hr0
  have HNU := Lib.hid (number_any hr1)
  rw [HN.out] at HNU
  obtain ⟨ov, cv, hv⟩ := rd_form hr1
  rw [List.length_drop] at hv
  obtain ⟨L, hL⟩ : ∃ L, L = l.length - at' := ⟨_, rfl⟩
  rw [← hL] at hv
  subst hv
  rw [← hL] at hk hs
  have h2 : (L : Int) - k < n := by omega
  have h4 : IntKind.u64.wrap ((L : Int) - k) = (L : Int) - k := by rw [IntKind.wrap_u64]; omega
  have h5 : L ≤ 140737488355328 := by omega
  clear hr1 hL hlen
  go_wp2_with fail
  refine HNU.out.mono ?_
  rintro e w2 ⟨rfl, rfl⟩
  simp only [errV, if_true]
  go_wp2_with fail
  go_ret2
  exact ⟨rfl, _, rfl⟩
set_option maxRecDepth 100000 in
set_option maxHeartbeats 1000000 in
theorem ctext_yes {w : World} {c at' : Nat} {l : List UInt8} (h : Cur w c l at') (most : Nat) (hm : most ≤ 1000) {n k : Nat} (h0 : 0 < n) (hle : n ≤ most) (hk : 0 < k) (hs : k + n ≤ l.length - at') (hn : num (l.drop at') = (n, k, 0)) :
    Calls Tryz.prog 74 #[.pointer (some ⟨c, 0, none⟩), .int .i64 most] w fun e w' => e = .returned (.tuple #[.string (str (((l.drop at').drop k).take n)), .nilIface]) ∧ Cur w' c l (at' + (k + n)) ∧ w.grownBy w' (some c) := by
  have HN := Lib.hid hn
  have HR := Lib.hid (rest_any h)
  have hw0 : ¬ (most : Int) < 0 := by omega
  have hw1 : IntKind.u64.wrap (most : Int) = most := by rw [IntKind.wrap_u64]; omega
  have hlen : l.length ≤ 140737488355328 := by obtain ⟨_, _, _, _, h⟩ := h; exact h
  have h1 : ¬ (most : Int) < n := by omega
  obtain ⟨_, _, hc1, hf1, _, hle1, _⟩ := h.cells
  have HCU := Lib.hid h
  have HCL := Lib.hid h.lt
  clear hn h
  go_enter Tryz.func74, Tryz.ntmps74
  go_wp2_with fail
  refine HR.out.mono ?_
  rintro e w1 ⟨v, rfl, hr0, nq, rfl⟩
  have hr1 : Rd c (w.drewN nq) v (l.drop at') := hr0
  clear hr0
  have HNU := Lib.hid (number_any hr1)
  rw [HN.out] at HNU
  have hll : (l.drop at').length = l.length - at' := List.length_drop
  rcases hr1 with ⟨oa, rfl, hnil⟩ | ⟨b, off, cap, rfl, g1, g2, g3, hcl⟩
  · exfalso
    rw [hnil] at hll
    simp at hll
    omega
  obtain ⟨L, hL⟩ : ∃ L, L = l.length - at' := ⟨_, rfl⟩
  rw [hll, ← hL] at g1 HNU ⊢
  rw [← hL] at hs
  have hcv : ∀ x : Value, (convert 30 9 (.slice (some ⟨b, off + k, none⟩) n n)).run Tryz.prog ((w.drewN nq).setCell ⟨c, 1, none⟩ x) = .ok (.string (str (((l.drop at').drop k).take n))) ((w.drewN nq).setCell ⟨c, 1, none⟩ x) := by
    intro x
    have hb2 : Below c (w.drewN nq) ((w.drewN nq).setCell ⟨c, 1, none⟩ x) := (Below.refl c (w.drewN nq)).setCell (p := ⟨c, 1, none⟩) (Nat.le_refl c) x
    exact conv_bytes ((rd_mid (N := k) (n := n) (cap' := n) (by omega) g2 g3 hcl (by omega) (by omega)).below hb2 (Nat.le_refl _))
  obtain ⟨S, hS⟩ : ∃ S, S = str (((l.drop at').drop k).take n) := ⟨_, rfl⟩
  rw [← hS] at hcv
  have HS := Lib.hid hS
  unfold maxLen at g2
  have h5 : L ≤ 140737488355328 := by omega
  have h4 : IntKind.u64.wrap ((L : Int) - k) = (L : Int) - k := by rw [IntKind.wrap_u64]; omega
  have h3 : ¬ (L : Int) - k < n := by omega
  have h6 : IntKind.i64.wrap (n : Int) = n := by rw [IntKind.wrap_i64]; omega
  have h7 : (k : Int) + n ≤ cap := by omega
  have HK : Hid (at' + (k + n) ≤ l.length) := by show _ ≤ _; omega
  have h8 : (at' : Int) + (k + n) ≤ 140737488355328 := by omega
  obtain ⟨M, hM⟩ : ∃ M : Nat, M = at' + (k + n) := ⟨_, rfl⟩
  have HM : Hid ((at' : Int) + (k + n) = (M : Int)) := by show _ = _; omega
  have HFIN : Hid (Cur ((w.drewN nq).setCell ⟨c, 1, none⟩ (.int .i64 (M : Int))) c l M ∧ w.grownBy ((w.drewN nq).setCell ⟨c, 1, none⟩ (.int .i64 (M : Int))) (some c)) := ⟨HCU.out.moved (n := nq) M (by rw [hM]; exact HK.out), grown_set _ _ _ _ _⟩
  clear hcl hS hll hL hle1 hlen
  clear hs hk hle
  go_wp2_with fail
  refine HNU.out.mono ?_
  rintro e w2 ⟨rfl, rfl⟩
  simp only [errV, if_true]
  go_wp2_with fail
  go_ret2
  exact ⟨by rw [HS.out]; rfl, by rw [← hM, HM.out]; exact HFIN.out.1, by rw [HM.out]; exact HFIN.out.2⟩
set_option maxRecDepth 100000 in
set_option maxHeartbeats 1000000 in
theorem ctext_nil {w : World} {c at' : Nat} {l : List UInt8} (h : Cur w c l at') (most : Nat) (hm : most ≤ 1000) {n k : Nat} (h0 : n = 0) (hle : n ≤ most) (hk : 0 < k) (hs : k + n ≤ l.length - at') (hn : num (l.drop at') = (n, k, 0)) :
    Calls Tryz.prog 74 #[.pointer (some ⟨c, 0, none⟩), .int .i64 most] w fun e w' => e = .returned (.tuple #[.string (str (((l.drop at').drop k).take n)), .nilIface]) ∧ Cur w' c l (at' + (k + n)) ∧ w.grownBy w' (some c) := by
  have HN := Lib.hid hn
  have HR := Lib.hid (rest_any h)
  have hw0 : ¬ (most : Int) < 0 := by omega
  have hw1 : IntKind.u64.wrap (most : Int) = most := by rw [IntKind.wrap_u64]; omega
  have hlen : l.length ≤ 140737488355328 := by obtain ⟨_, _, _, _, h⟩ := h; exact h
  have h1 : ¬ (most : Int) < n := by omega
  obtain ⟨_, _, hc1, hf1, _, hle1, _⟩ := h.cells
  have HCU := Lib.hid h
  have HCL := Lib.hid h.lt
  subst h0
  have h10 : (0 : Int) ≤ most := by omega
  clear hn h h1
  go_enter Tryz.func74, Tryz.ntmps74
  go_wp2_with fail
  refine HR.out.mono ?_
  rintro e w1 ⟨v, rfl, hr0, nq, rfl⟩
  have hr1 : Rd c (w.drewN nq) v (l.drop at') := hr0
  clear hr0
  have HNU := Lib.hid (number_any hr1)
  rw [HN.out] at HNU
  have hll : (l.drop at').length = l.length - at' := List.length_drop
  rcases hr1 with ⟨oa, rfl, hnil⟩ | ⟨b, off, cap, rfl, g1, g2, g3, hcl⟩
  · exfalso
    rw [hnil] at hll
    simp at hll
    omega
  obtain ⟨L, hL⟩ : ∃ L, L = l.length - at' := ⟨_, rfl⟩
  rw [hll, ← hL] at g1 HNU ⊢
  rw [← hL] at hs
  have hcv : ∀ x : Value, (convert 30 9 (.slice (some ⟨b, off, none⟩) 0 0)).run Tryz.prog ((w.drewN nq).setCell ⟨c, 1, none⟩ x) = .ok (.string (str (((l.drop at').drop k).take 0))) ((w.drewN nq).setCell ⟨c, 1, none⟩ x) := by
    intro x
    have hb2 : Below c (w.drewN nq) ((w.drewN nq).setCell ⟨c, 1, none⟩ x) := (Below.refl c (w.drewN nq)).setCell (p := ⟨c, 1, none⟩) (Nat.le_refl c) x
    rw [List.take_zero]
    exact conv_bytes (B := c) (.inl ⟨_, rfl, rfl⟩)
  obtain ⟨S, hS⟩ : ∃ S, S = str (((l.drop at').drop k).take 0) := ⟨_, rfl⟩
  rw [← hS] at hcv
  have HS := Lib.hid hS
  unfold maxLen at g2
  have h5 : L ≤ 140737488355328 := by omega
  have h4 : IntKind.u64.wrap ((L : Int) - k) = (L : Int) - k := by rw [IntKind.wrap_u64]; omega
  have h3 : (0 : Int) ≤ (L : Int) - k := by omega
  have h7 : (k : Int) ≤ cap := by omega
  have HK : Hid (at' + (k + 0) ≤ l.length) := by show _ ≤ _; omega
  have h8 : (at' : Int) + k ≤ 140737488355328 := by omega
  obtain ⟨M, hM⟩ : ∃ M : Nat, M = at' + (k + 0) := ⟨_, rfl⟩
  have HM : Hid ((at' : Int) + k = (M : Int)) := by show _ = _; omega
  have HFIN : Hid (Cur ((w.drewN nq).setCell ⟨c, 1, none⟩ (.int .i64 (M : Int))) c l M ∧ w.grownBy ((w.drewN nq).setCell ⟨c, 1, none⟩ (.int .i64 (M : Int))) (some c)) := ⟨HCU.out.moved (n := nq) M (by rw [hM]; exact HK.out), grown_set _ _ _ _ _⟩
  clear hcl hS hll hL hle1 hlen
  clear hs hk hle
  go_wp2_with fail
  refine HNU.out.mono ?_
  rintro e w2 ⟨rfl, rfl⟩
  simp only [errV, if_true]
  go_wp2_with fail
  go_ret2
  exact ⟨by rw [HS.out]; rfl, by rw [← hM, HM.out]; exact HFIN.out.1, by rw [HM.out]; exact HFIN.out.2⟩
end Go.Proofs.YtnnebfcggdbgpaaGreatDoor
/-
  tuple.Read's visitor.
-/
namespace Go.Proofs.YtnnebfcggdbgpaaGreatDoor
open Go.ChangeShapes Go.WideShapes Go.ChangeAt Go.RowKit
open errAs (ErrT)
set_option linter.unusedVariables false

theorem grown_trans {w w1 w2 : World} {r : Option Nat} (h1 : w.grownBy w1 r) (h2 : w1.grownBy w2 r) : w.grownBy w2 r :=
  ⟨h2.os.trans h1.os, h2.tape.trans h1.tape, h2.output.trans h1.output, Nat.le_trans h1.size h2.size, fun k hk hne => (h2.block k (Nat.lt_of_lt_of_le hk h1.size) hne).trans (h1.block k hk hne)⟩
theorem grown_of {w w' : World} (h : Below w.heap.size w w') (r : Option Nat) : w.grownBy w' r := ⟨h.os, h.tape, h.output, h.size, fun k hk _ => h.block k hk⟩
theorem grown_cell {w w' : World} {r : Option Nat} (h : w.grownBy w' r) {a : Addr} (ha : w.heap.size ≤ a.block) (v : Value) : w.grownBy (w'.setCell a v) r :=
  ⟨h.os, h.tape, h.output, Nat.le_trans h.size (by simp [World.setCell]), fun k hk hne => (Below.heap_setCell w' a v k (by omega)).trans (h.block k hk hne)⟩
theorem grown_below' {w w' : World} {c C : Nat} (h : w.grownBy w' (some c)) (hC : C ≤ c) (hw : C ≤ w.heap.size) : Below C w w' := (Below.refl _ _).grown h hw (fun k hk => by injection hk with hk; omega)
theorem Arr.grown {w w' : World} {t : TypeId} {g c : Nat} {cs : List Value} (h : Arr w t g cs) (hg : w.grownBy w' (some c)) (hne : g ≠ c) : Arr w' t g cs := (hg.block g h.lt (fun e => hne (Option.some.inj e))).trans h
theorem errF_zero (n : Nat) : errF 0 n = .nilIface := rfl
theorem eqEC (d : Int) (w : World) : (binOp BinOp.eql 34 (.iface 93 (.int .i64 d)) .nilIface).run Tryz.prog w = .ok (.bool false) w := by kernel_rfl
theorem eqNF (d e : Int) (w : World) : (binOp BinOp.neq 34 (.iface 141 (.agg #[.int .i64 d, .int .i64 e])) .nilIface).run Tryz.prog w = .ok (.bool true) w := by kernel_rfl
/-- The method Cursor.Text, all of it. -/
theorem ctext_all {w : World} {c at' : Nat} {l : List UInt8} (h : Cur w c l at') (most : Nat) (hm : most ≤ 1000) :
    ((partP most (l.drop at')).2.2 ≠ 0 → Calls Tryz.prog 74 #[.pointer (some ⟨c, 0, none⟩), .int .i64 most] w fun e w' => e = .returned (.tuple #[.string ByteArray.empty, .iface 93 (.int .i64 (partP most (l.drop at')).2.2)]) ∧ ∃ n, w' = w.drewN n) ∧
    ((partP most (l.drop at')).2.2 = 0 → Calls Tryz.prog 74 #[.pointer (some ⟨c, 0, none⟩), .int .i64 most] w fun e w' => e = .returned (.tuple #[.string (str (partP most (l.drop at')).1), .nilIface]) ∧ Cur w' c l (at' + (partP most (l.drop at')).2.1) ∧ w.grownBy w' (some c)) := by
  have hle : at' ≤ l.length := by obtain ⟨_, _, _, h3, _⟩ := h; exact h3
  obtain ⟨r, hr⟩ : ∃ r, r = l.drop at' := ⟨_, rfl⟩
  have hrl : r.length = l.length - at' := by rw [hr, List.length_drop]
  rw [← hr]
  by_cases h0 : (num r).2.2 = 0
  · obtain ⟨k0, k1, k2⟩ := num_at h0
    obtain ⟨n, hn⟩ : ∃ n, n = (num r).1 := ⟨_, rfl⟩
    obtain ⟨k, hk⟩ : ∃ k, k = (num r).2.1 := ⟨_, rfl⟩
    have hnum : num (l.drop at') = (n, k, 0) := by rw [← hr, hn, hk, ← h0]
    rw [← hk] at k0 k1
    by_cases h1 : most < n
    · rw [partP_lim h0 (by rw [← hn]; exact h1)]
      exact ⟨fun _ => ctext_lim h most hm h1 hnum, fun e => by cases e⟩
    · by_cases h2 : r.length < k + n
      · rw [partP_short h0 (by rw [← hn]; exact h1) (by rw [← hn, ← hk]; exact h2)]
        exact ⟨fun _ => ctext_short h most hm (by omega) (by omega) (by omega) hnum, fun e => by cases e⟩
      · have hp := partP_yes (most := most) h0 (by rw [← hn]; exact h1) (by rw [← hn, ← hk]; exact h2)
        rw [← hn, ← hk] at hp
        rw [hp, hr]
        refine ⟨fun e => absurd rfl e, fun _ => ?_⟩
        by_cases hz : n = 0
        · exact ctext_nil h most hm hz (by omega) k0 (by omega) hnum
        · exact ctext_yes h most hm (by omega) (by omega) k0 (by omega) hnum
  · rw [partP_num (most := most) h0]
    have hb := numGo_bad r 0 0 h0
    have e1 : (num r).1 = 0 := hb.1
    have e2 : (num r).2.1 = 0 := hb.2
    have hnum : num (l.drop at') = (0, 0, (num r).2.2) := by rw [← hr]; exact Prod.ext e1 (Prod.ext e2 rfl)
    exact ⟨fun _ => ctext_num h most hm h0 hnum, fun e => absurd e h0⟩
/-- The laid variables hold since before the cursor was made. -/
def EnvC (c : Nat) (W : World) : Prop := ∃ wE, Env wE ∧ wE.heap.size ≤ c ∧ Below wE.heap.size wE W
theorem EnvC.env {c : Nat} {W : World} (h : EnvC c W) : Env W := by
  obtain ⟨wE, h1, _, h3⟩ := h
  exact h1.below h3
theorem EnvC.grown {c : Nat} {W W' : World} (h : EnvC c W) (hg : W.grownBy W' (some c)) : EnvC c W' := by
  obtain ⟨wE, h1, h2, h3⟩ := h
  exact ⟨wE, h1, h2, h3.trans (grown_below' hg h2 h3.size)⟩
theorem EnvC.cell {c : Nat} {W : World} (h : EnvC c W) {a : Addr} (ha : c ≤ a.block) (v : Value) : EnvC c (W.setCell a v) := by
  obtain ⟨wE, h1, h2, h3⟩ := h
  exact ⟨wE, h1, h2, h3.setCell (Nat.le_trans h2 ha) v⟩
/-- What Read's visitor keeps: the cursor's cell, the result's cell, the tuple's, the failure's; the cursor. -/
def DI (w0 : World) (c bc br bt bf : Nat) (b : List UInt8) (S : Tu × Nat × Nat) (W : World) : Prop :=
  TuAt W bt S.1 ∧ Arr W 34 bf [errF S.2.2 S.2.1] ∧ Arr W 46 bc [.pointer (some ⟨c, 0, none⟩)] ∧ TuAt W br t0 ∧ Cur W c b S.2.1 ∧ w0.grownBy W (some c) ∧ EnvC c W ∧ (c < w0.heap.size ∧ w0.heap.size ≤ bc ∧ bc < br ∧ br < bt ∧ bt < bf)
variable {w0 W W' : World} {c bc br bt bf A A' : Nat} {b : List UInt8} {t : Tu} {S : Tu × Nat × Nat}
theorem DI.later (h : DI w0 c bc br bt bf b S W) (hb : Below W.heap.size W W') : DI w0 c bc br bt bf b S W' :=
  ⟨h.1.later hb, h.2.1.later hb, h.2.2.1.later hb, h.2.2.2.1.later hb, h.2.2.2.2.1.below hb h.2.2.2.2.1.lt, grown_trans h.2.2.2.2.2.1 (grown_of hb _), h.2.2.2.2.2.2.1.grown (grown_of hb _), h.2.2.2.2.2.2.2⟩
theorem DI.moved (h : DI w0 c bc br bt bf b (t, A, 0) W) (hg : W.grownBy W' (some c)) (hc : Cur W' c b A') : DI w0 c bc br bt bf b (t, A', 0) W' := by
  obtain ⟨h1, h2, h3, h4, h5, h6, h7, h8⟩ := h
  exact ⟨h1.grown hg (by omega), h2.grown hg (by omega), h3.grown hg (by omega), h4.grown hg (by omega), hc, grown_trans h6 hg, h7.grown hg, h8⟩
theorem DI.fails (h : DI w0 c bc br bt bf b (t, A, 0) W) (k : Nat) (hk : k ≠ 0) : DI w0 c bc br bt bf b (t, A, k) (W.setCell ⟨bf, 0, none⟩ (faultN k A)) := by
  obtain ⟨h1, h2, h3, h4, h5, h6, h7, h8⟩ := h
  have e : errF k A = faultN k A := by unfold errF; rw [if_neg hk]
  refine ⟨h1.setCell (a := ⟨bf, 0, none⟩) (by show bt ≠ bf; omega) _, ?_, h3.setCell (a := ⟨bf, 0, none⟩) (by show bc ≠ bf; omega) _, h4.setCell (a := ⟨bf, 0, none⟩) (by show br ≠ bf; omega) _, ?_, grown_cell h6 (by show _ ≤ bf; omega) _, h7.cell (by show c ≤ bf; omega) _, h8⟩
  · show Arr _ _ _ [errF k A]
    rw [e]; exact h2.set 0 _
  · exact h5.below ((Below.refl (c + 1) W).setCell (p := ⟨bf, 0, none⟩) (by show c + 1 ≤ bf; omega) _) (Nat.lt_succ_self _)
theorem tc_set (t : Tu) (i : Nat) (hi : i < 6) (s : ByteArray) : (tc t).set i (.string s) = tc (t.set i s) := by
  rcases (show i = 0 ∨ i = 1 ∨ i = 2 ∨ i = 3 ∨ i = 4 ∨ i = 5 by omega) with rfl | rfl | rfl | rfl | rfl | rfl <;> rfl
theorem tc_cell (t : Tu) (i : Nat) (hi : i < 6) : ∃ s, (tc t)[i]? = some (.string s) := by
  rcases (show i = 0 ∨ i = 1 ∨ i = 2 ∨ i = 3 ∨ i = 4 ∨ i = 5 by omega) with rfl | rfl | rfl | rfl | rfl | rfl <;> exact ⟨_, rfl⟩
theorem DI.part (h : DI w0 c bc br bt bf b (t, A, 0) W) (i : Nat) (hi : i < 6) (s : ByteArray) : DI w0 c bc br bt bf b (t.set i s, A, 0) (W.setCell ⟨bt, i, none⟩ (.string s)) := by
  obtain ⟨h1, h2, h3, h4, h5, h6, h7, h8⟩ := h
  refine ⟨?_, h2.setCell (a := ⟨bt, i, none⟩) (by show bf ≠ bt; omega) _, h3.setCell (a := ⟨bt, i, none⟩) (by show bc ≠ bt; omega) _, h4.setCell (a := ⟨bt, i, none⟩) (by show br ≠ bt; omega) _, ?_, grown_cell h6 (by show _ ≤ bt; omega) _, h7.cell (by show c ≤ bt; omega) _, h8⟩
  · show Arr _ _ _ (tc (t.set i s))
    rw [← tc_set t i hi]; exact Arr.set h1 i _
  · exact h5.below ((Below.refl (c + 1) W).setCell (p := ⟨bt, i, none⟩) (by show c + 1 ≤ bt; omega) _) (Nat.lt_succ_self _)
/-- The cursor's two cells. -/
theorem Cur.two (h : Cur W c b A) : ∃ q p, Arr W 108 c [.slice q b.length p, .int .i64 A] ∧ Rd c W (.slice q b.length p) b ∧ A ≤ b.length ∧ b.length ≤ 140737488355328 := by
  obtain ⟨v, h1, h2, h3, h4⟩ := h
  obtain ⟨q, p, hv⟩ := rd_form h2
  subst hv
  exact ⟨q, p, h1, h2, h3, h4⟩
theorem cur_of {q : Option Addr} {p : Nat} (h1 : Arr W 108 c [.slice q b.length p, .int .i64 A]) (h2 : Rd c W (.slice q b.length p) b) (h3 : A ≤ b.length) (h4 : b.length ≤ 140737488355328) : Cur W c b A := ⟨_, h1, h2, h3, h4⟩
theorem DI.back {q : Option Addr} {p : Nat} (h : DI w0 c bc br bt bf b (t, A', 0) W) (hr : Rd c W (.slice q b.length p) b) (hA : A ≤ b.length) :
    DI w0 c bc br bt bf b (t, A, 0) ((W.setCell ⟨c, 0, none⟩ (.slice q b.length p)).setCell ⟨c, 1, none⟩ (.int .i64 A)) := by
  have hl : b.length ≤ 140737488355328 := by obtain ⟨_, _, _, _, hl⟩ := h.2.2.2.2.1; exact hl
  obtain ⟨q', p', k1, _, _, _⟩ := h.2.2.2.2.1.two
  have k2 := (k1.set 0 (.slice q b.length p)).set 1 (.int .i64 A)
  have hg : W.grownBy ((W.setCell ⟨c, 0, none⟩ (.slice q b.length p)).setCell ⟨c, 1, none⟩ (.int .i64 A)) (some c) := grown_trans (grown_set W 0 c 0 _) (grown_set _ 0 c 1 _)
  exact h.moved hg (cur_of k2 (hr.below (grown_below' hg (Nat.le_refl _) (Nat.le_of_lt k1.lt)) (Nat.le_refl _)) hA hl)
theorem fault_size (k n : Nat) : (match faultN k n with | .agg cs => cs | v => #[v]) = #[faultN k n] := rfl

set_option maxRecDepth 100000 in
set_option maxHeartbeats 2000000 in
theorem readC0 (i : Nat) (hi : i < 6) (h : DI w0 c bc br bt bf b S W) (hbl : b.length ≤ 1000000) : Calls Tryz.prog 73 #[.pointer (some ⟨bt, i, none⟩), .int .i64 64, .func (.func 64) #[] #[], .pointer (some ⟨bf, 0, none⟩), .pointer (some ⟨bc, 0, none⟩)] W fun e W' => e = .returned (.tuple #[]) ∧ DI w0 c bc br bt bf b (stepR b 0 i S) W' := by
  obtain ⟨t, A, cd⟩ := S
  have H := Lib.hid h
  have HBL := Lib.hid hbl
  have HI := Lib.hid hi
  have c0 := h.2.1.cell 0
  simp only [List.getElem?_cons_zero] at c0
  by_cases hc : cd = 0
  · subst hc
    rw [errF_zero] at c0
    have c1 := h.2.2.1.cell 0
    simp only [List.getElem?_cons_zero] at c1
    obtain ⟨q, p, k1, k2, k3, k4⟩ := h.2.2.2.2.1.two
    have d0 := k1.cell 0
    have d1 := k1.cell 1
    simp only [List.getElem?_cons_zero, List.getElem?_cons_succ] at d0 d1
    have HK := Lib.hid (And.intro k2 (And.intro k3 k4))
    have hb1 : Below W.heap.size W (W.alloc (.cells #[.slice q b.length p, .int .i64 A] 108)) := (Below.refl _ _).alloc (Nat.le_refl _) _
    have H1 := Lib.hid (h.later hb1)
    have HN1 := Lib.hid (Arr.new' W 108 #[.slice q b.length p, .int .i64 A] _ rfl)
    have HR1 := Lib.hid (k2.below hb1 (Nat.le_of_lt k1.lt))
    have HT := Lib.hid (ctext_all (h.later hb1).2.2.2.2.1 64 (by omega))
    have HCB : Hid (c < W.heap.size) := k1.lt
    have c2 := (h.later hb1).2.2.1.cell 0
    simp only [List.getElem?_cons_zero] at c2
    have hq := eqNC
    have hq2 := eqEC
    clear k1 k2 k3 k4 hb1 h hi hbl
    go_enter Tryz.func73, Tryz.ntmps73
    go_wp2_with fail
    generalize W.alloc (.cells #[.slice q b.length p, .int .i64 A] 108) = w1 at H1 HN1 HR1 HT c2 ⊢
    generalize W.heap.size = g at HN1 HCB ⊢
    obtain ⟨P, hP⟩ : ∃ P, P = (partP 64 (b.drop A)) := ⟨_, rfl⟩
    have HSB := Lib.hid (fun h2 : P.2.2 ≠ 0 => stepR_bad (b := b) (k := 0) (i := i) (S := (t, A, 0)) rfl (by show (partP (mostK 0) (b.drop A)).2.2 ≠ 0; rw [show mostK 0 = 64 from rfl, ← hP]; exact h2))
    have HSN := Lib.hid (fun (h2 : P.2.2 = 0) (h3 : isName (str P.1) = false) => stepR_name (b := b) (k := 0) (i := i) (S := (t, A, 0)) rfl (by show (partP (mostK 0) (b.drop A)).2.2 = 0; rw [show mostK 0 = 64 from rfl, ← hP]; exact h2) (by show testK 0 (str (partP (mostK 0) (b.drop A)).1) = false; rw [show mostK 0 = 64 from rfl, ← hP]; exact h3))
    have HSY := Lib.hid (fun (h2 : P.2.2 = 0) (h3 : isName (str P.1) = true) => stepR_yes (b := b) (k := 0) (i := i) (S := (t, A, 0)) rfl (by show (partP (mostK 0) (b.drop A)).2.2 = 0; rw [show mostK 0 = 64 from rfl, ← hP]; exact h2) (by show testK 0 (str (partP (mostK 0) (b.drop A)).1) = true; rw [show mostK 0 = 64 from rfl, ← hP]; exact h3))
    rw [show mostK 0 = 64 from rfl] at HSB HSY
    simp only [← hP] at HSB HSN HSY HT
    clear hP
    by_cases h2 : P.2.2 = 0
    · have HT2 := Lib.hid (HT.out.2 h2)
      obtain ⟨s, hs⟩ : ∃ s, s = str P.1 := ⟨_, rfl⟩
      have HSN2 := Lib.hid (HSN.out h2)
      have HSY2 := Lib.hid (HSY.out h2)
      rw [← hs] at HT2 HSN2 HSY2
      obtain ⟨A2, hA2⟩ : ∃ A2, A2 = A + P.2.1 := ⟨_, rfl⟩
      simp only [← hA2] at HT2 HSY2
      clear hs hA2 HT HSB HSN HSY h2
      refine HT2.out.mono ?_
      rintro e w2 ⟨rfl, u2, g2⟩
      have HI2 := Lib.hid (H1.out.moved g2 u2)
      have HN2 := Lib.hid (HN1.out.grown g2 (by have := HCB.out; omega))
      have HR2 := Lib.hid (HR1.out.below (grown_below' g2 (Nat.le_refl c) (Nat.le_of_lt H1.out.2.2.2.2.1.lt)) (Nat.le_refl _))
      have HRES := Lib.hid HI2.out.2.2.2.2.2.2.1.env.1
      clear u2 g2 H1 HN1 HR1 HT2
      cases hv : isName s with
      | true =>
        have HV := Lib.hid hv
        have HST := Lib.hid (HSY2.out HV.out)
        clear hv HSY2 HSN2
        go_wp2_with fail
        refine (isName_any s _ HRES.out).mono ?_
        rintro e w3 ⟨rfl, b3⟩
        rw [HV.out]
        have HI3 := Lib.hid (HI2.out.later b3)
        obtain ⟨s0, hs0⟩ := tc_cell t i HI.out
        have d3 := Arr.cell HI3.out.1 i
        have f3 := Arr.free HI3.out.1 i
        rw [hs0] at d3
        clear b3 hs0 HI2 HN2 HR2 HRES
        go_wp2_with fail
        go_end0
        exact ⟨rfl, by rw [HST.out]; exact HI3.out.part i HI.out s⟩
      | false =>
        have HV := Lib.hid hv
        have HST := Lib.hid (HSN2.out HV.out)
        clear hv HSY2 HSN2
        go_wp2_with fail
        refine (isName_any s _ HRES.out).mono ?_
        rintro e w3 ⟨rfl, b3⟩
        rw [HV.out]
        have HI3 := Lib.hid (HI2.out.later b3)
        have HN3 := Lib.hid (HN2.out.later b3)
        have HR3 := Lib.hid (HR2.out.below b3 (Nat.le_of_lt HI2.out.2.2.2.2.1.lt))
        have e1 := HI3.out.2.2.1.cell 0
        have e2 := HN3.out.cell 0
        have e3 := HN3.out.cell 1
        obtain ⟨q4, p4, k4, _⟩ := HI3.out.2.2.2.2.1.two
        have e4 := k4.cell 0
        have e5 := k4.cell 1
        have e6 := k4.free 0
        have e7 := k4.free 1
        simp only [List.getElem?_cons_zero, List.getElem?_cons_succ] at e1 e2 e3 e4 e5
        have HI4 := Lib.hid (HI3.out.back HR3.out HK.out.2.1)
        have HN4 := Lib.hid ((HN3.out.setCell (a := ⟨c, 0, none⟩) (by show g ≠ c; have := HCB.out; omega) (.slice q b.length p)).setCell (a := ⟨c, 1, none⟩) (by show g ≠ c; have := HCB.out; omega) (.int .i64 A))
        have HERR := Lib.hid HI4.out.2.2.2.2.2.2.1.env.2.1
        have HC3 : Hid (Cur ((w3.setCell ⟨c, 0, none⟩ (.slice q b.length p)).setCell ⟨c, 1, none⟩ (.int .i64 A)) g b A) := cur_of HN4.out ((HR3.out.below (grown_below' (grown_trans (grown_set w3 0 c 0 (.slice q b.length p)) (grown_set _ 0 c 1 (.int .i64 A))) (Nat.le_refl c) (Nat.le_of_lt HI3.out.2.2.2.2.1.lt)) (Nat.le_refl c)).mono (Nat.le_of_lt HCB.out)) HK.out.2.1 HK.out.2.2
        have HAL : A ≤ 1000000 := by have := HK.out.2.1; have := HBL.out; omega
        clear b3 k4 HI2 HN2 HR2 HRES HN3 HR3 HN4 HI3
        have HI3 := HI4
        clear HI4
        go_wp2_with fail
        refine (at_any HC3.out).mono ?_
        rintro e w4 ⟨rfl, hw4⟩
        subst hw4
        have HSH := Lib.hid (shift_Cn 5 A _ HERR.out (by omega))
        unfold faultN at HSH
        go_wp2_with fail
        refine HSH.out.mono ?_
        rintro e w5 ⟨rfl, b5⟩
        have HI5 := Lib.hid (HI3.out.later b5)
        have f5 := HI5.out.2.1.free 0
        have c5 := HI5.out.2.1.cell 0
        simp only [List.getElem?_cons_zero, errF_zero] at c5
        clear b5 HSH HI3 HC3 HERR
        go_wp2_with fail
        refine bodyPost_ret (results_none rfl _ _ _) rfl ?_
        exact ⟨rfl, by rw [HST.out]; exact HI5.out.fails 5 (by decide)⟩
    · have HT2 := Lib.hid (HT.out.1 h2)
      have HST := Lib.hid (HSB.out h2)
      obtain ⟨cd, hcd⟩ : ∃ cd, cd = P.2.2 := ⟨_, rfl⟩
      rw [← hcd] at HT2 h2 HST
      have H2 := Lib.hid h2
      clear HT HSB HSN HSY h2 hcd
      refine HT2.out.mono ?_
      rintro e w2 ⟨rfl, n2, rfl⟩
      have b2 := below_drewN (Below.refl w1.heap.size w1) n2
      have HI3 := Lib.hid (H1.out.later b2)
      have HR2 := HR1.out.below b2 (Nat.le_of_lt H1.out.2.2.2.2.1.lt)
      have HC3 : Hid (Cur (w1.drewN n2) g b A) := cur_of (HN1.out.later b2) (HR2.mono (Nat.le_of_lt HCB.out)) HK.out.2.1 HK.out.2.2
      have HERR := Lib.hid HI3.out.2.2.2.2.2.2.1.env.2.1
      have HAL : A ≤ 1000000 := by have := HK.out.2.1; have := HBL.out; omega
      clear b2 HR2 H1 HN1 HR1 HT2
      generalize w1.drewN n2 = w2 at HI3 HC3 HERR ⊢
      go_wp2_with fail
      refine (at_any HC3.out).mono ?_
      rintro e w4 ⟨rfl, hw4⟩
      subst hw4
      have HSH := Lib.hid (shift_Cn cd A _ HERR.out (by omega))
      unfold faultN at HSH
      go_wp2_with fail
      refine HSH.out.mono ?_
      rintro e w5 ⟨rfl, b5⟩
      have HI5 := Lib.hid (HI3.out.later b5)
      have f5 := HI5.out.2.1.free 0
      have c5 := HI5.out.2.1.cell 0
      simp only [List.getElem?_cons_zero, errF_zero] at c5
      clear b5 HSH HI3 HC3 HERR
      go_wp2_with fail
      refine bodyPost_ret (results_none rfl _ _ _) rfl ?_
      exact ⟨rfl, by rw [HST.out]; exact HI5.out.fails cd H2.out⟩
  · have hs : stepR b 0 i (t, A, cd) = (t, A, cd) := stepR_stop hc
    rw [hs]
    have c0' : W.cell? ⟨bf, 0, none⟩ = some (.iface 141 (.agg #[.int .i64 cd, .int .i64 A])) := by
      rw [c0]; unfold errF; rw [if_neg hc]; rfl
    have hq : ∀ w, (binOp BinOp.neq 34 (.iface 141 (.agg #[.int .i64 cd, .int .i64 A])) .nilIface).run Tryz.prog w = .ok (.bool true) w := fun w => eqNF cd A w
    clear c0 h hc hs hi hbl
    go_enter Tryz.func73, Tryz.ntmps73
    go_wp2_with fail
    refine bodyPost_ret (results_none rfl _ _ _) rfl ?_
    exact ⟨rfl, H.out⟩
end Go.Proofs.YtnnebfcggdbgpaaGreatDoor
/-
  tuple.Sorted.
-/
namespace Go.Proofs.YtnnebfcggdbgpaaGreatDoor
open Go.ChangeShapes Go.WideShapes Go.ChangeAt Go.RowKit Go.Lib Go.Sort
set_option linter.unusedVariables false

/-- The value sv is a slice that holds the tuples l. -/
def TuSl (w : World) (sv : Value) (l : List Tu) : Prop :=
  (sv = .slice none 0 0 ∧ l = []) ∨ ∃ b off c, sv = .slice (some ⟨b, off, none⟩) l.length c ∧ l.length ≤ c ∧ b < w.heap.size ∧ w.rangeAt b off (l.flatMap tc)
theorem flat_get : ∀ (l : List Tu) (t : Nat), (l.flatMap tc)[t]? = (l[t / 6]?).bind fun x => (tc x)[t % 6]?
  | [], t => by simp
  | x :: l, t => by
    rw [List.flatMap_cons]
    by_cases h : t < 6
    · rw [List.getElem?_append_left (by exact h), show t / 6 = 0 by omega, show t % 6 = t by omega]; rfl
    · rw [List.getElem?_append_right (by exact Nat.le_of_not_lt h), show (tc x).length = 6 from rfl, flat_get l (t - 6), show t / 6 = (t - 6) / 6 + 1 by omega, show t % 6 = (t - 6) % 6 by omega]; rfl
theorem flat_len : ∀ (l : List Tu), (l.flatMap tc).length = l.length * 6
  | [] => rfl
  | x :: l => by rw [List.flatMap_cons, List.length_append, flat_len l, List.length_cons, show (tc x).length = 6 from rfl]; omega
theorem flat_row {w : World} {b off : Nat} {l : List Tu} (h : w.rangeAt b off (l.flatMap tc)) {i : Nat} (hi : i < l.length) : w.rangeAt b (off + i * 6) (tc l[i]) := fun j v hv => by
  have hj : j < 6 := (List.getElem?_eq_some_iff.1 hv).1
  have := h (i * 6 + j) v (by rw [flat_get, show (i * 6 + j) / 6 = i by omega, show (i * 6 + j) % 6 = j by omega, List.getElem?_eq_getElem hi]; exact hv)
  rwa [← Nat.add_assoc] at this
theorem flatK_list (l : List Tu) : flatK tc 6 l.toArray = (l.flatMap tc).toArray := by
  apply Array.ext_getElem?
  intro t
  rw [show ((l.flatMap tc).toArray)[t]? = (l.flatMap tc)[t]? from List.getElem?_toArray, flat_get]
  by_cases h : t < l.length * 6
  · have h6 : t / 6 < l.length := by omega
    have hm : t % 6 < (tc l[t / 6]).length := by rw [show (tc l[t / 6]).length = 6 from rfl]; omega
    rw [List.getElem?_eq_getElem h6, Option.bind_some, List.getElem?_eq_getElem hm, flatK, Array.getElem?_map]
    rw [Array.getElem?_eq_getElem (by simpa using h), Option.map_some, Array.getElem_range]
    rw [show (l.toArray[t / 6]! : Tu) = l[t / 6] by simp [h6], List.getElem!_eq_getElem?_getD, List.getElem?_eq_getElem hm]; rfl
  · rw [Array.getElem?_eq_none (by simpa using h), List.getElem?_eq_none (by omega)]; rfl
theorem holds_of_row {w : World} {g : Nat} {cur : Array Value} {e : TypeId} {l : List Tu} (hb : w.heap[g]? = some (.cells cur e (0, 0))) (ht : cur.toList.take (l.length * 6) = l.flatMap tc) : HoldsK tc 6 w g 0 l.toArray := by
  intro j hj
  have hj' : j < l.length * 6 := by simpa using hj
  refine ⟨?_, by simp [World.frozen?, hb]⟩
  have h1 : (cur.toList.take (l.length * 6))[j]? = (l.flatMap tc)[j]? := by rw [ht]
  rw [List.getElem?_take_of_lt hj'] at h1
  simp only [World.cell?, hb, Nat.zero_add]
  simp only [Option.isSome_none, Bool.false_eq_true, if_false]
  rw [← Array.getElem?_toList, h1, flatK_list]
  have hlt : j < (l.flatMap tc).length := by rw [flat_len]; exact hj'
  rw [List.getElem?_eq_getElem hlt]
  simp
  rw [List.getElem?_eq_getElem hlt]; rfl
theorem row_of_holds {w : World} {g : Nat} {l r : List Tu} (h : HoldsK tc 6 w g 0 (l ++ r).toArray) : w.rangeAt g 0 (l.flatMap tc) := fun j v hv => by
  have hj : j < l.length * 6 := by rw [← flat_len]; exact (List.getElem?_eq_some_iff.1 hv).1
  have := (h j (by simp; omega)).1
  rw [this, flatK_list, List.flatMap_append]
  have hlt : j < (l.flatMap tc).length := (List.getElem?_eq_some_iff.1 hv).1
  rw [show (((l.flatMap tc ++ r.flatMap tc).toArray)[j]! : Value) = v by
    rw [List.getElem!_toArray, List.getElem!_eq_getElem?_getD, List.getElem?_append_left hlt, hv]; rfl]
  rfl
theorem grownBy_sortK {w : World} {g n : Nat} {os : Array Obj} (d : Array Tu) : w.grownBy (sortWorldK tc 6 w g 0 n d os) (some g) := by
  refine ⟨rfl, rfl, rfl, by simp [sortWorldK, putRowK, putRow, mapBlock, Sort.ahead], fun k hk hne => ?_⟩
  unfold sortWorldK
  rw [heap_grow_old _ _ (by simpa [putRowK, putRow, mapBlock, Sort.ahead] using hk)]
  have : g ≠ k := fun e => hne (by rw [e])
  simp [putRowK, putRow, mapBlock, Sort.ahead, Array.getElem?_modify, this]
theorem swoT : SWO (ltOf ordT) where
  irrefl x := by simp [ltOf, ordT_self]
  trans x y z h1 h2 := by
    simp only [ltOf, decide_eq_true_eq] at *
    exact ordT_up h1 h2
  ntrans x y z h1 h2 := by
    simp only [ltOf, decide_eq_false_iff_not] at *
    have f1 := ordT_flip x y; have f2 := ordT_flip y z; have f3 := ordT_flip x z
    have := ordT_le (a := z) (b := y) (c := x) (by omega) (by omega)
    omega
theorem cmpT (blk off size : Nat) (w : World) : CmpLays Tryz.prog 35 #[] tc 6 ordT blk off size w :=
  fun _ _ _ _ x y => tcompare_any x y _
theorem insNone (w : World) (p : Option Addr) (cap : Nat) (fv : Value) : Calls Tryz.prog 131 #[.slice p 0 cap, .int .i64 0, .int .i64 0, fv] w fun e w' => e = .returned (.tuple #[]) ∧ w = w' := by
  go_enter Tryz.func131, Tryz.ntmps131
  go_wp2_with fail
  refine wp_loop_rounds 1 ?_
  rw [rounds_succ]
  go_wp2_with fail
  go_end0
  exact ⟨rfl, rfl⟩
theorem pdqNone (w : World) (p : Option Addr) (cap : Nat) (lim : Int) (fv : Value) : Calls Tryz.prog 114 #[.slice p 0 cap, .int .i64 0, .int .i64 0, .int .i64 lim, fv] w fun e w' => e = .returned (.tuple #[]) ∧ w = w' := by
  have HI := Lib.hid (insNone w p cap fv)
  go_enter Tryz.func114, Tryz.ntmps114
  go_wp2_with fail
  refine wp_loop_rounds 1 ?_
  rw [rounds_succ]
  go_wp2_with fail
  refine HI.out.mono ?_
  rintro e w1 ⟨rfl, rfl⟩
  go_wp2_with fail
  (try simp only [Exit.inBlock, Exit.then]); refine bodyPost_ret (results_none rfl _ _ _) rfl ?_
  exact ⟨rfl, rfl⟩
theorem len0 (w : World) : Calls Tryz.prog 115 #[.int .u64 0] w fun e w' => e = .returned (.int .i64 (Lib.bitLen 0 : Nat)) ∧ w' = w :=
  Any.bits_Len (SlLaysF0.n15.bits (P := Tryz.prog) (ρ := Tryz.sortTu_ren) { Tryz.sortTu with }) 0 w (by omega) (by omega)
theorem sortNone (w : World) (p : Option Addr) (cap : Nat) (fv : Value) : Calls Tryz.prog 78 #[.slice p 0 cap, fv] w fun e w' => e = .returned (.tuple #[]) ∧ w = w' := by
  have HP := fun lim => Lib.hid (pdqNone w p cap lim fv)
  have HL := Lib.hid (len0 w)
  generalize (Lib.bitLen 0 : Nat) = L at HL
  go_enter Tryz.func78, Tryz.ntmps78
  go_wp2_with fail
  refine HL.out.mono ?_
  rintro e w1 ⟨rfl, rfl⟩
  go_wp2_with fail
  refine (HP _).out.mono ?_
  rintro e w1 ⟨rfl, rfl⟩
  go_wp2_with fail
  go_end0
  exact ⟨rfl, rfl⟩
/-- The three calls, the list nil or laid. -/
theorem clone_any {w : World} {sv : Value} {l : List Tu} (h : TuSl w sv l) (hl : l.length ≤ 1000000) :
    Calls Tryz.prog 77 #[sv] w fun e w' => ∃ v', e = .returned v' ∧ Below w.heap.size w w' ∧
      ((v' = .slice none 0 0 ∧ l = []) ∨ ∃ g c, v' = .slice (some ⟨g, 0, none⟩) l.length c ∧ l.length ≤ c ∧ w.heap.size ≤ g ∧ g < w'.heap.size ∧ HoldsK tc 6 w' g 0 l.toArray) := by
  rcases h with ⟨rfl, rfl⟩ | ⟨b, off, c, rfl, h1, h2, h3⟩
  · refine (AnyE.slices_Clone_nil Tryz.cloneTu 0 0 w).mono ?_
    rintro e w1 ⟨rfl, rfl⟩
    exact ⟨_, rfl, Below.refl _ _, .inl ⟨rfl, rfl⟩⟩
  · obtain ⟨i0, hi0⟩ : ∃ i, Tryz.prog.info? 25 = some i := Option.isSome_iff_exists.1 (by kernel_rfl)
    have q1 : (Tryz.prog.info? 25).bind (·.zero) = some (tuV t0) := by kernel_rfl
    have q2 : (Tryz.prog.info? 25).map (·.size) = some 6 := by kernel_rfl
    have q3 : (Tryz.prog.info? 25).map (·.bytes) = some 96 := by kernel_rfl
    rw [hi0] at q1 q2 q3
    refine (AnyE.slices_Clone Tryz.cloneTu i0 (tuV t0) 6 96 hi0 q1 (Option.some.inj q2) (Option.some.inj q3) (by kernel_rfl) (by omega) (fun _ => by kernel_rfl) b off l.length c (l.flatMap tc) w (flat_len l) (Nat.le_trans hl (by decide)) (by omega) h3 ?_).mono ?_
    · intro u hu
      obtain ⟨x, _, hx⟩ := List.mem_flatMap.1 hu
      exact tc_one x u hx
    · rintro e w1 ⟨v', rfl, ho, hn, hb⟩
      refine ⟨v', rfl, hb, ?_⟩
      rcases ho.2 with ⟨h0, _⟩ | ⟨g, cap, cur, rfl, g1, g2, g3, g4, g5, g6⟩
      · exact absurd h0 hn
      · exact .inr ⟨g, cap, rfl, g3, g1, (Array.getElem?_eq_some_iff.1 g2).1, holds_of_row g2 g6⟩
theorem sortT_any {w : World} {g c : Nat} {l : List Tu} (hH : HoldsK tc 6 w g 0 l.toArray) (hg : g < w.heap.size) (hl : l.length ≤ 1000000) :
    Calls Tryz.prog 78 #[.slice (some ⟨g, 0, none⟩) l.length c, .func (.func 35) #[] #[]] w fun e w' => e = .returned (.tuple #[]) ∧ w.grownBy w' (some g) ∧ g < w'.heap.size ∧
      ∃ d, HoldsK tc 6 w' g 0 d ∧ d.size = l.length ∧ compactUpTo d d.size = sortedT l := by
  have eg : ∀ args w, (callFunc 35 args).run Tryz.prog w = .ok (.enter 35 args) w := enters_of Tryz.func35 (by kernel_rfl) rfl
  have hcon := AnyQ.slices_SortFunc Tryz.sortTu 6 (fun _ => by kernel_rfl) (fun _ => by kernel_rfl) tc (fun _ => rfl) tc_one ordT swoT 35 #[] g 0 c l.toArray w eg (cmpT g 0 _ w) hH hg (by simp; omega)
  change Calls Tryz.prog 78 _ _ _ at hcon
  refine hcon.mono ?_
  rintro e w1 ⟨rfl, d, n, os, hp, hs, rfl⟩
  have hd : d.size = l.length := by simpa using hp.1
  refine ⟨rfl, grownBy_sortK d, lt_sortWorldK tc 6 w g 0 n d os hg, d, holdsK_sortWorldK tc 6 w g 0 n l.toArray d os hg hH (by simpa using hd), hd, ?_⟩
  refine kept_sorted (fun i j hij hj => ?_) (fun x => ?_)
  · have := hs i j (Nat.zero_le _) hij (by simpa [hd] using hj)
    simp only [ltOf, decide_eq_false_iff_not] at this
    have := ordT_flip d[i]! d[j]!
    omega
  · have := hp.2.2
    rw [show d.extract 0 l.toArray.size = d by rw [Array.extract_eq_self_of_le (by simp [hd])], show l.toArray.extract 0 l.toArray.size = l.toArray by rw [Array.extract_eq_self_of_le (Nat.le_refl _)]] at this
    exact this.mem_iff
theorem compT_any {w : World} {g c : Nat} {d : Array Tu} {l : List Tu} (hH : HoldsK tc 6 w g 0 d) (hd : d.size = l.length) (hg : g < w.heap.size) (hk : compactUpTo d d.size = sortedT l) (hl : l.length ≤ 1000000) (hc : l.length ≤ c) :
    Calls Tryz.prog 79 #[.slice (some ⟨g, 0, none⟩) l.length c] w fun e w' => ∃ v', e = .returned v' ∧ w.grownBy w' (some g) ∧ TuSl w' v' (sortedT l) := by
  rw [← hd]
  refine (tcompact_any g 0 c d w hH (by omega) (by omega)).mono ?_
  rintro e w1 ⟨rfl, q, rfl⟩
  rw [hk]
  have hle : (sortedT l).length ≤ d.size := by rw [← hk]; unfold compactUpTo; rw [List.length_map]; exact Nat.le_trans (List.length_filter_le _ _) (by simp)
  have hs : putRowK tc 6 (Sort.ahead w q) g 0 (sortedT l ++ List.replicate (d.size - (sortedT l).length) t0).toArray = sortWorldK tc 6 w g 0 q (sortedT l ++ List.replicate (d.size - (sortedT l).length) t0).toArray #[] := by unfold sortWorldK; rw [grow_empty]
  rw [hs]
  refine ⟨_, rfl, grownBy_sortK _, .inr ⟨g, 0, c, rfl, by omega, lt_sortWorldK tc 6 w g 0 q _ #[] hg, ?_⟩⟩
  exact row_of_holds (r := List.replicate (d.size - (sortedT l).length) t0) (holdsK_sortWorldK tc 6 w g 0 q d _ #[] hg hH (by simp; omega))
set_option maxHeartbeats 1000000 in
theorem tsorted_any {w : World} {sv : Value} {l : List Tu} (h : TuSl w sv l) (hl : l.length ≤ 1000000) :
    Calls Tryz.prog 32 #[sv] w fun e w' => ∃ v', e = .returned v' ∧ Below w.heap.size w w' ∧ TuSl w' v' (sortedT l) := by
  have HC := Lib.hid (clone_any h hl)
  have HLN := Lib.hid hl
  clear h hl
  go_enter Tryz.func32, Tryz.ntmps32
  go_wp2_with fail
  refine HC.out.mono ?_
  rintro e w1 ⟨v', rfl, hb, hv⟩
  have HB := Lib.hid hb
  clear HC hb
  rcases hv with ⟨rfl, rfl⟩ | ⟨g, c, rfl, h1, h2, h3, h4⟩
  · go_wp2_with fail
    refine (sortNone _ none 0 _).mono ?_
    rintro e w2 ⟨rfl, rfl⟩
    go_wp2_with fail
    refine (tcompact_nil none 0 _).mono ?_
    rintro e w2 ⟨rfl, rfl⟩
    go_wp2_with fail
    go_ret
    exact ⟨_, rfl, HB.out, .inl ⟨rfl, rfl⟩⟩
  · have HS := Lib.hid (sortT_any (c := c) h4 h3 HLN.out)
    have H1 := Lib.hid h1
    have H2 := Lib.hid h2
    have H3 := Lib.hid h3
    clear h1 h2 h3 h4
    go_wp2_with fail
    refine HS.out.mono ?_
    rintro e w2 ⟨rfl, hg, hg2, d, hd1, hd2, hd3⟩
    have HB2 := Lib.hid (HB.out.trans (grown_below' hg H2.out HB.out.size))
    have HK := Lib.hid (compT_any hd1 hd2 hg2 hd3 HLN.out H1.out)
    have HZ := Lib.hid (Nat.le_trans HB.out.size hg.size)
    clear HS hg hg2 hd1 hd2 hd3
    go_wp2_with fail
    refine HK.out.mono ?_
    rintro e w3 ⟨v3, rfl, hg3, hsl⟩
    have HB3 := Lib.hid (HB2.out.trans (grown_below' hg3 H2.out HZ.out))
    have HV := Lib.hid hsl
    clear HK hg3 hsl
    go_wp2_with fail
    go_ret
    exact ⟨_, rfl, HB3.out, HV.out⟩
end Go.Proofs.YtnnebfcggdbgpaaGreatDoor
/-
  A tuple among the arguments, opened.
-/
namespace Go.Proofs.YtnnebfcggdbgpaaGreatDoor
open Go.ChangeShapes Go.WideShapes Go.ChangeAt Go.RowKit
set_option linter.unusedVariables false
section
variable {H : Type} {enc : TypeId × Value → H}
theorem cellsTu : Tryz.prog.cellsOf 25 = 6 := by kernel_rfl
theorem list4 {α : Type} {l : List α} (h : l.length = 4) : ∃ a b c d, l = [a, b, c, d] := by
  match l, h with
  | [a, b, c, d], _ => exact ⟨a, b, c, d, rfl⟩
set_option maxRecDepth 100000 in
theorem tu_open {w : World} {base : Nat} {v : Value} {d : DataW H} {p : List MemPlace} (hv : Value.okWide Tryz.prog w .any base 25 v) (h : DataW.Trod enc Tryz.prog w 0 (fun _ => true) true 25 v d p) :
    ∃ t : Tu, v = tuV t ∧ ((∀ n ∈ d.weights Tryz.prog 25, n ≤ reachBytes) → sizesT t 140737488355328) := by
  obtain ⟨cs, rfl, hsz⟩ := okWide_struct Tryz.underlying25 hv
  obtain ⟨fuel, hf⟩ := h
  have hf' : DataW.trod enc Tryz.prog w 0 (fun _ => true) true fuel 25 cs.toList = some (d, p) := hf
  obtain ⟨xs, n, _, hx, _, hlen, hel⟩ := DataW.trod_struct Tryz.underlying25 hf'
  rw [cellsTu] at hsz
  have hl : cs.toList.length = 6 := by simpa using hsz
  obtain ⟨c0, c1, c2, c3, c4, c5, hcs⟩ : ∃ c0 c1 c2 c3 c4 c5, cs.toList = [c0, c1, c2, c3, c4, c5] := by
    match cs.toList, hl with
    | [c0, c1, c2, c3, c4, c5], _ => exact ⟨c0, c1, c2, c3, c4, c5, rfl⟩
  rw [hcs] at hel
  obtain ⟨x0, x1, x2, x3, rfl⟩ := list4 (show xs.length = 4 from hlen)
  have k0 := hel 0 _ rfl
  have k1 := hel 1 _ rfl
  have k2 := hel 2 _ rfl
  have k3 := hel 3 _ rfl
  obtain ⟨y0, y1, m0, hx0, _, q0, q1⟩ := trod_struct2 Tryz.underlying23 (show DataW.trod enc Tryz.prog w 0 (fun _ => true) true n 23 [c0, c1] = some x0 from k0)
  obtain ⟨s2, e2, rfl, _⟩ := DataW.trod_string Tryz.underlying9 (show DataW.trod enc Tryz.prog w 0 (fun _ => true) true n 9 [c2] = some x1 from k1)
  obtain ⟨y3, y4, m2, hx2, _, q3, q4⟩ := trod_struct2 Tryz.underlying23 (show DataW.trod enc Tryz.prog w 0 (fun _ => true) true n 23 [c3, c4] = some x2 from k2)
  obtain ⟨s5, e5, rfl, _⟩ := DataW.trod_string Tryz.underlying9 (show DataW.trod enc Tryz.prog w 0 (fun _ => true) true n 9 [c5] = some x3 from k3)
  obtain ⟨s0, e0, rfl, _⟩ := DataW.trod_string Tryz.underlying9 (show DataW.trod enc Tryz.prog w 0 (fun _ => true) true m0 9 [c0] = some y0 from q0)
  obtain ⟨s1, e1, rfl, _⟩ := DataW.trod_string Tryz.underlying9 (show DataW.trod enc Tryz.prog w 0 (fun _ => true) true m0 9 [c1] = some y1 from q1)
  obtain ⟨s3, e3, rfl, _⟩ := DataW.trod_string Tryz.underlying9 (show DataW.trod enc Tryz.prog w 0 (fun _ => true) true m2 9 [c3] = some y3 from q3)
  obtain ⟨s4, e4, rfl, _⟩ := DataW.trod_string Tryz.underlying9 (show DataW.trod enc Tryz.prog w 0 (fun _ => true) true m2 9 [c4] = some y4 from q4)
  subst hx0 hx2
  obtain rfl : c0 = .string s0 := by simpa using e0
  obtain rfl : c1 = .string s1 := by simpa using e1
  obtain rfl : c2 = .string s2 := by simpa using e2
  obtain rfl : c3 = .string s3 := by simpa using e3
  obtain rfl : c4 = .string s4 := by simpa using e4
  obtain rfl : c5 = .string s5 := by simpa using e5
  refine ⟨⟨s0, s1, s2, s3, s4, s5⟩, ?_, fun hw => ?_⟩
  · have : cs = (tc ⟨s0, s1, s2, s3, s4, s5⟩).toArray := by rw [← Array.toArray_toList (xs := cs), hcs]; rfl
    rw [this]
  · have hd := congrArg Prod.fst hx
    simp only [List.map_cons, List.map_nil] at hd
    subst hd
    have hr : reachBytes ≤ 140737488355328 := Nat.le_of_lt reachBytes_lt
    simp only [DataW.weights, Tryz.underlying25, Tryz.underlying23, DataW.weightsEach, List.map_cons, List.map_nil, List.append_nil, List.mem_cons, List.not_mem_nil, or_false, List.cons_append, List.nil_append] at hw
    refine ⟨?_, ?_, ?_, ?_, ?_, ?_⟩
    · exact Nat.le_trans (hw s0.data.toList.length (by simp)) hr
    · exact Nat.le_trans (hw s1.data.toList.length (by simp)) hr
    · exact Nat.le_trans (hw s2.data.toList.length (by simp)) hr
    · exact Nat.le_trans (hw s3.data.toList.length (by simp)) hr
    · exact Nat.le_trans (hw s4.data.toList.length (by simp)) hr
    · exact Nat.le_trans (hw s5.data.toList.length (by simp)) hr
end
end Go.Proofs.YtnnebfcggdbgpaaGreatDoor
/-
  A slice of structs among the arguments, opened, for any kind of element.
-/
namespace Go.Proofs.YtnnebfcggdbgpaaGreatDoor
open Go.ChangeShapes Go.WideShapes Go.ChangeAt Go.RowKit Go.Deep
set_option linter.unusedVariables false

theorem flat_lenK {α : Type} {c : α → List Value} {k : Nat} (hc : ∀ t, (c t).length = k) : ∀ (l : List α), (l.flatMap c).length = l.length * k
  | [] => by simp
  | x :: l => by rw [List.flatMap_cons, List.length_append, flat_lenK hc l, List.length_cons, hc x, Nat.succ_mul]; omega
theorem flat_getK {α : Type} {c : α → List Value} {k : Nat} (hc : ∀ t, (c t).length = k) (hk : 0 < k) : ∀ (l : List α) (t : Nat), (l.flatMap c)[t]? = (l[t / k]?).bind fun x => (c x)[t % k]?
  | [], t => by simp
  | x :: l, t => by
    rw [List.flatMap_cons]
    by_cases h : t < k
    · rw [List.getElem?_append_left (by rw [hc]; exact h), Nat.div_eq_of_lt h, Nat.mod_eq_of_lt h]; rfl
    · have h2 : k ≤ t := Nat.le_of_not_lt h
      rw [List.getElem?_append_right (by rw [hc]; exact h2), hc, flat_getK hc hk l (t - k), Nat.div_eq_sub_div hk h2, Nat.mod_eq_sub_mod h2]; rfl
/-- The value v is a slice whose elements l lie as their cells c say; an empty one may point anywhere. -/
def RdS {α : Type} (c : α → List Value) (w : World) (v : Value) (l : List α) : Prop :=
  (v = .slice none 0 0 ∧ l = []) ∨ ∃ (a : Addr) (cap : Nat), v = .slice (some a) l.length cap ∧ l.length ≤ cap ∧ (0 < l.length → ∃ b off, a = ⟨b, off, none⟩ ∧ b < w.heap.size ∧ w.rangeAt b off (l.flatMap c))
theorem RdS.below {α : Type} {c : α → List Value} {w w' : World} {v : Value} {l : List α} (h : RdS c w v l) (hb : Below w.heap.size w w') : RdS c w' v l := by
  rcases h with h | ⟨a, cap, h1, h2, h3⟩
  · exact .inl h
  · refine .inr ⟨a, cap, h1, h2, fun h0 => ?_⟩
    obtain ⟨b, off, e, hlt, hr⟩ := h3 h0
    refine ⟨b, off, e, Nat.lt_of_lt_of_le hlt hb.size, fun j u hu => ?_⟩
    have := hr j u hu
    unfold World.cell? at this ⊢
    rw [hb.block b hlt]
    exact this
theorem flat_rowK {α : Type} {c : α → List Value} {k : Nat} (hc : ∀ t, (c t).length = k) (hk : 0 < k) {w : World} {b off : Nat} {l : List α} (h : w.rangeAt b off (l.flatMap c)) {i : Nat} (hi : i < l.length) : w.rangeAt b (off + i * k) (c l[i]) := fun j v hv => by
  have hj : j < k := by rw [← hc l[i]]; exact (List.getElem?_eq_some_iff.1 hv).1
  have h1 : (i * k + j) / k = i := by rw [Nat.mul_comm, Nat.mul_add_div hk, Nat.div_eq_of_lt hj, Nat.add_zero]
  have h2 : (i * k + j) % k = j := by rw [Nat.mul_comm, Nat.mul_add_mod, Nat.mod_eq_of_lt hj]
  have := h (i * k + j) v (by rw [flat_getK hc hk, h1, h2, List.getElem?_eq_getElem hi]; exact hv)
  rwa [← Nat.add_assoc] at this
/-- What a walk needs of a slice that is read: where its elements lie. -/
theorem RdS.form {α : Type} {c : α → List Value} {k : Nat} (hc : ∀ t, (c t).length = k) (hk : 0 < k) {w : World} {v : Value} {l : List α} (h : RdS c w v l) :
    ∃ p cap, v = .slice p l.length cap ∧ ∀ i, (hi : i < l.length) → ∃ b off, p = some ⟨b, off, none⟩ ∧ b < w.heap.size ∧ w.rangeAt b (off + i * k) (c l[i]) := by
  rcases h with ⟨h1, h2⟩ | ⟨a, cap, h1, h2, h3⟩
  · subst h1 h2
    exact ⟨none, 0, rfl, fun i hi => absurd hi (by simp)⟩
  · refine ⟨some a, cap, h1, fun i hi => ?_⟩
    obtain ⟨b, off, e, hlt, hr⟩ := h3 (by omega)
    exact ⟨b, off, by rw [e], hlt, flat_rowK hc hk hr hi⟩
section
variable {H : Type} {enc : TypeId × Value → H}
theorem wAll_mem {P : Program} {e : TypeId} : ∀ {l : List (DataW H)} {d : DataW H}, d ∈ l → ∀ n ∈ d.weights P e, n ∈ DataW.weightsAll P e l
  | [], _, h, _, _ => by cases h
  | d0 :: l, d, h, n, hn => by
    simp only [DataW.weightsAll, List.mem_append]
    rcases List.mem_cons.1 h with rfl | h
    · exact .inl hn
    · exact .inr (wAll_mem h n hn)
theorem sl_open {α : Type} (inh : α) {T E : TypeId} {k : Nat} (c : α → List Value) (hc : ∀ t, (c t).length = k) (hk : 0 < k) (R Sz : α → Prop) {w : World} (hT : Tryz.prog.underlying T = some (.slice E)) (hC : Tryz.prog.cellsOf E = k) (hB : 1 ≤ Tryz.prog.bytesOf E)
    (hE : ∀ (fuel : Nat) (cs : List Value) (d : DataW H) (p : List MemPlace), cs.length = k → DataW.trod enc Tryz.prog w 0 (fun _ => true) true fuel E cs = some (d, p) → ∃ t, cs = c t ∧ R t ∧ ((∀ n ∈ d.weights Tryz.prog E, n ≤ reachBytes) → Sz t))
    {v : Value} {d : DataW H} {p : List MemPlace} {fuel : Nat} (hf : DataW.trod enc Tryz.prog w 0 (fun _ => true) true fuel T [v] = some (d, p)) :
    ∃ l : List α, RdS c w v l ∧ (∀ t ∈ l, R t) ∧ ((∀ n ∈ d.weights Tryz.prog T, n ≤ reachBytes) → l.length ≤ 140737488355328 ∧ ∀ t ∈ l, Sz t) := by
  rcases open_slice hT hf with ⟨hcs, hx⟩ | ⟨a, len, cap, m, n, D, Pl, hcs, _, hlc, hcm, hm, hx, hi⟩
  · obtain rfl : v = .slice none 0 0 := by simpa using hcs
    exact ⟨[], .inl ⟨rfl, rfl⟩, fun t ht => absurd ht List.not_mem_nil, fun _ => ⟨by simp, fun t ht => absurd ht List.not_mem_nil⟩⟩
  · obtain rfl : v = .slice (some a) len cap := by simpa using hcs
    simp only [if_true] at hm
    subst hm
    have key : ∀ i, ∃ t : α, i < len → w.cells? 0 (a.add (i * k)) k = some (c t) ∧ R t ∧ ((∀ n ∈ (D i).weights Tryz.prog E, n ≤ reachBytes) → Sz t) := by
      intro i
      by_cases hil : i < len
      · obtain ⟨cs', h1, h2⟩ := hi i (by omega)
        rw [hC] at h1
        obtain ⟨t, rfl, hr, hs⟩ := hE _ _ _ _ (World.cells?_some h1).2.1 h2
        exact ⟨t, fun _ => ⟨h1, hr, hs⟩⟩
      · exact ⟨inh, fun h => absurd h hil⟩
    obtain ⟨f, hf2⟩ := Classical.axiomOfChoice key
    have hlen : ((List.range len).map f).length = len := by simp
    refine ⟨(List.range len).map f, .inr ⟨a, m, by rw [hlen], by rw [hlen]; omega, fun h0 => ?_⟩, fun t ht => ?_, fun hw => ⟨?_, fun t ht => ?_⟩⟩
    · rw [hlen] at h0
      obtain ⟨b, off, spot⟩ := a
      have hat0 := (World.cells?_some (hf2 0 h0).1).2.2 0 hk
      have hc0 : w.cell? (Addr.add ⟨b, off, spot⟩ 0) = (c (f 0))[0]? := by
        rw [← hat0, Go.Deep.add_add, Nat.zero_mul]
      rw [List.getElem?_eq_getElem (by rw [hc]; exact hk)] at hc0
      have hspot : spot = none := by simpa [Addr.add] using World.cell?_spot hc0
      subst hspot
      have hb := World.block_lt_of_cell? w _ hc0
      refine ⟨b, off, rfl, by simpa [Addr.add] using hb, fun j u hu => ?_⟩
      rw [flat_getK hc hk] at hu
      obtain ⟨x, hx1, hx2⟩ := Option.bind_eq_some_iff.1 hu
      have hlt : j / k < len := by rw [← hlen]; exact (List.getElem?_eq_some_iff.1 hx1).1
      rw [List.getElem?_map, List.getElem?_range hlt] at hx1
      obtain rfl : f (j / k) = x := by simpa using hx1
      have hat := (World.cells?_some (hf2 _ hlt).1).2.2 (j % k) (Nat.mod_lt _ hk)
      rw [hx2] at hat
      have hj : j / k * k + j % k = j := by rw [Nat.mul_comm]; exact Nat.div_add_mod j k
      rw [← hat, Go.Deep.add_add, hj, show (Addr.add ⟨b, off, none⟩ j) = ⟨b, off + j, none⟩ by cases j <;> simp [Addr.add]]
    · obtain ⟨i, hi1, rfl⟩ := List.mem_map.1 ht
      exact (hf2 i (List.mem_range.1 hi1)).2.1
    · obtain ⟨rfl, _⟩ := Prod.mk.inj hx
      have h1 := hw (((List.range len).map D).length + ((List.range (m - len)).map fun j => D (len + j)).length |>.mul (Tryz.prog.bytesOf E)) (by
        unfold DataW.weights
        rw [hT]
        exact List.mem_cons_self)
      have h2 := reachBytes_lt
      have h3 : ((List.range len).map D).length + ((List.range (m - len)).map fun j => D (len + j)).length ≤ (((List.range len).map D).length + ((List.range (m - len)).map fun j => D (len + j)).length) * Tryz.prog.bytesOf E := Nat.le_mul_of_pos_right _ hB
      have h4 : (((List.range len).map D).length + ((List.range (m - len)).map fun j => D (len + j)).length) * Tryz.prog.bytesOf E ≤ reachBytes := h1
      rw [hlen]
      simp only [List.length_map, List.length_range] at h3 h4
      omega
    · obtain ⟨i, hi1, rfl⟩ := List.mem_map.1 ht
      obtain ⟨rfl, _⟩ := Prod.mk.inj hx
      refine (hf2 i (List.mem_range.1 hi1)).2.2 fun n hn => hw n ?_
      unfold DataW.weights
      rw [hT]
      simp only [List.mem_cons, List.mem_append]
      exact .inr (.inl (wAll_mem (d := D i) (List.mem_map.2 ⟨i, hi1, rfl⟩) n hn))
end
end Go.Proofs.YtnnebfcggdbgpaaGreatDoor
/-
  A tuple by its cells, and a slice of tuples among the arguments, opened.
-/
namespace Go.Proofs.YtnnebfcggdbgpaaGreatDoor
open Go.ChangeShapes Go.WideShapes Go.ChangeAt Go.RowKit Go.Deep
set_option linter.unusedVariables false
section
variable {H : Type} {enc : TypeId × Value → H}
set_option maxRecDepth 100000 in
theorem tu_trod {w : World} (fuel : Nat) (cs : List Value) (d : DataW H) (p : List MemPlace) (hl : cs.length = 6) (hf' : DataW.trod enc Tryz.prog w 0 (fun _ => true) true fuel 25 cs = some (d, p)) :
    ∃ t : Tu, cs = tc t ∧ True ∧ ((∀ n ∈ d.weights Tryz.prog 25, n ≤ reachBytes) → sizesT t 140737488355328) := by
  obtain ⟨xs, n, _, hx, _, hlen, hel⟩ := DataW.trod_struct Tryz.underlying25 hf'
  obtain ⟨c0, c1, c2, c3, c4, c5, rfl⟩ : ∃ c0 c1 c2 c3 c4 c5, cs = [c0, c1, c2, c3, c4, c5] := by
    match cs, hl with
    | [c0, c1, c2, c3, c4, c5], _ => exact ⟨c0, c1, c2, c3, c4, c5, rfl⟩
  obtain ⟨x0, x1, x2, x3, rfl⟩ := list4 (show xs.length = 4 from hlen)
  have k0 := hel 0 _ rfl
  have k1 := hel 1 _ rfl
  have k2 := hel 2 _ rfl
  have k3 := hel 3 _ rfl
  obtain ⟨y0, y1, m0, hx0, _, q0, q1⟩ := trod_struct2 Tryz.underlying23 (show DataW.trod enc Tryz.prog w 0 (fun _ => true) true n 23 [c0, c1] = some x0 from k0)
  obtain ⟨s2, e2, rfl, _⟩ := DataW.trod_string Tryz.underlying9 (show DataW.trod enc Tryz.prog w 0 (fun _ => true) true n 9 [c2] = some x1 from k1)
  obtain ⟨y3, y4, m2, hx2, _, q3, q4⟩ := trod_struct2 Tryz.underlying23 (show DataW.trod enc Tryz.prog w 0 (fun _ => true) true n 23 [c3, c4] = some x2 from k2)
  obtain ⟨s5, e5, rfl, _⟩ := DataW.trod_string Tryz.underlying9 (show DataW.trod enc Tryz.prog w 0 (fun _ => true) true n 9 [c5] = some x3 from k3)
  obtain ⟨s0, e0, rfl, _⟩ := DataW.trod_string Tryz.underlying9 (show DataW.trod enc Tryz.prog w 0 (fun _ => true) true m0 9 [c0] = some y0 from q0)
  obtain ⟨s1, e1, rfl, _⟩ := DataW.trod_string Tryz.underlying9 (show DataW.trod enc Tryz.prog w 0 (fun _ => true) true m0 9 [c1] = some y1 from q1)
  obtain ⟨s3, e3, rfl, _⟩ := DataW.trod_string Tryz.underlying9 (show DataW.trod enc Tryz.prog w 0 (fun _ => true) true m2 9 [c3] = some y3 from q3)
  obtain ⟨s4, e4, rfl, _⟩ := DataW.trod_string Tryz.underlying9 (show DataW.trod enc Tryz.prog w 0 (fun _ => true) true m2 9 [c4] = some y4 from q4)
  subst hx0 hx2
  obtain rfl : c0 = .string s0 := by simpa using e0
  obtain rfl : c1 = .string s1 := by simpa using e1
  obtain rfl : c2 = .string s2 := by simpa using e2
  obtain rfl : c3 = .string s3 := by simpa using e3
  obtain rfl : c4 = .string s4 := by simpa using e4
  obtain rfl : c5 = .string s5 := by simpa using e5
  refine ⟨⟨s0, s1, s2, s3, s4, s5⟩, rfl, trivial, fun hw => ?_⟩
  have hd := congrArg Prod.fst hx
  simp only [List.map_cons, List.map_nil] at hd
  subst hd
  have hr : reachBytes ≤ 140737488355328 := Nat.le_of_lt reachBytes_lt
  simp only [DataW.weights, Tryz.underlying25, Tryz.underlying23, DataW.weightsEach, List.map_cons, List.map_nil, List.append_nil, List.mem_cons, List.not_mem_nil, or_false, List.cons_append, List.nil_append] at hw
  refine ⟨?_, ?_, ?_, ?_, ?_, ?_⟩
  · exact Nat.le_trans (hw s0.data.toList.length (by simp)) hr
  · exact Nat.le_trans (hw s1.data.toList.length (by simp)) hr
  · exact Nat.le_trans (hw s2.data.toList.length (by simp)) hr
  · exact Nat.le_trans (hw s3.data.toList.length (by simp)) hr
  · exact Nat.le_trans (hw s4.data.toList.length (by simp)) hr
  · exact Nat.le_trans (hw s5.data.toList.length (by simp)) hr
/-- A slice of tuples that is read. -/
abbrev TuRd (w : World) (v : Value) (l : List Tu) : Prop := RdS tc w v l
set_option maxRecDepth 100000 in
theorem tus_open {w : World} {base : Nat} {v : Value} {d : DataW H} {p : List MemPlace} (hv : Value.okWide Tryz.prog w .any base 52 v) (h : DataW.Trod enc Tryz.prog w 0 (fun _ => true) true 52 v d p) :
    ∃ l : List Tu, TuRd w v l ∧ ((∀ n ∈ d.weights Tryz.prog 52, n ≤ reachBytes) → l.length ≤ 140737488355328 ∧ ∀ t ∈ l, sizesT t 140737488355328) := by
  obtain ⟨a, len, cap, rfl⟩ := okWide_slice Tryz.underlying52 hv
  obtain ⟨fuel, hf⟩ := h
  obtain ⟨l, h1, _, h2⟩ := sl_open t0 tc tc_length (by decide) (fun _ => True) (fun t => sizesT t 140737488355328) Tryz.underlying52 (by kernel_rfl) (of_decide_eq_true (by kernel_rfl)) tu_trod (show DataW.trod enc Tryz.prog w 0 (fun _ => true) true fuel 52 [.slice a len cap] = some (d, p) from hf)
  exact ⟨l, h1, h2⟩
end
end Go.Proofs.YtnnebfcggdbgpaaGreatDoor
/-
  The reference's Few and Same at slices of tuples.
-/
namespace Go.Proofs.YtnnebfcggdbgpaaGreatDoor
open Go.ChangeShapes Go.WideShapes Go.ChangeAt Go.RowKit
set_option linter.unusedVariables false

theorem TuSl.below {w w' : World} {sv : Value} {l : List Tu} (h : TuSl w sv l) (hb : Below w.heap.size w w') : TuSl w' sv l := by
  rcases h with ⟨h1, h2⟩ | ⟨b, off, c, h1, h2, h3, h4⟩
  · exact .inl ⟨h1, h2⟩
  · refine .inr ⟨b, off, c, h1, h2, Nat.lt_of_lt_of_le h3 hb.size, fun j v hv => ?_⟩
    have := h4 j v hv
    unfold World.cell? at this ⊢
    rw [hb.block b h3]
    exact this
theorem TuSl.form {w : World} {sv : Value} {l : List Tu} (h : TuSl w sv l) : ∃ p c, sv = .slice p l.length c ∧ ∀ i, (hi : i < l.length) → ∃ b off, p = some ⟨b, off, none⟩ ∧ b < w.heap.size ∧ w.rangeAt b (off + i * 6) (tc l[i]) := by
  rcases h with ⟨h1, h2⟩ | ⟨b, off, c, h1, h2, h3, h4⟩
  · subst h1 h2
    exact ⟨none, 0, rfl, fun i hi => absurd hi (by simp)⟩
  · exact ⟨_, _, h1, fun i hi => ⟨b, off, rfl, h3, flat_row h4 hi⟩⟩
def fewT (l : List Tu) : Bool := l.all shortT && decide (l.length ≤ 60)
theorem TuSl.rd {w : World} {sv : Value} {l : List Tu} (h : TuSl w sv l) : TuRd w sv l := by
  rcases h with h | ⟨b, off, c, h1, h2, h3, h4⟩
  · exact .inl h
  · exact .inr ⟨⟨b, off, none⟩, c, h1, h2, fun _ => ⟨b, off, rfl, h3, h4⟩⟩
set_option maxRecDepth 100000 in
set_option maxHeartbeats 2000000 in
theorem few_any {w : World} {sv : Value} {l : List Tu} (h : TuRd w sv l) (hz : ∀ t ∈ l, sizesT t 140737488355328) (hl : l.length ≤ 140737488355328) :
    Calls Tryz.prog 31 #[sv] w fun e w' => e = .returned (.bool (fewT l)) ∧ Below w.heap.size w w' := by
  have HS := Lib.hid h
  have HZ := Lib.hid hz
  obtain ⟨p, c, rfl, _⟩ := h.form tc_length (by decide)
  clear h hz
  go_enter Tryz.func31, Tryz.ntmps31
  go_wp2_with fail
  go_loopg [3] l.length (fun g s3 wr => ∃ k : Nat, k ≤ l.length ∧ l.length - k ≤ g ∧ s3 = .int .i64 k ∧ Below w.heap.size w wr ∧ ∀ j, (hj : j < l.length) → j < k → shortT l[j] = true)
  case atStart => exact ⟨0, by omega, by omega, rfl, Below.refl _ _, fun j _ hj => absurd hj (by omega)⟩
  case round =>
    obtain ⟨k, hk, hg, rfl, hb, hall⟩ := hrel
    have HB := Lib.hid hb
    have HA := Lib.hid hall
    clear hb hall
    by_cases hlt : k < l.length
    · obtain ⟨p', c', he, hrow⟩ := (HS.out.below HB.out).form tc_length (by decide)
      obtain ⟨b, off, hp, _, hr⟩ := hrow k hlt
      obtain rfl : p = some ⟨b, off, none⟩ := by simp only [Value.slice.injEq] at he; rw [he.1, hp]
      have HR := Lib.hid hr
      have HQ := Lib.hid (short_any l[k] (HZ.out _ (List.getElem_mem hlt)) wr)
      clear he hrow hp hr
      obtain ⟨t, ht⟩ : ∃ t, t = l[k] := ⟨_, rfl⟩
      rw [← ht] at HR HQ
      have HT := Lib.hid ht
      clear ht
      go_wp2_with ((with_reducible refine loadM (x := .tmp 12) (o := ⟨some 13, _, _, _, _, _⟩) HR.out ?_ ?_); exact ⟨rfl, rfl, by go_simp⟩)
      refine HQ.out.mono ?_
      rintro e w2 ⟨rfl, b2⟩
      have HB2 := Lib.hid (HB.out.trans (b2.mono HB.out.size))
      clear b2 HQ HR HB
      rcases hs : shortT t with _ | _
      · go_wp2_with fail
        go_ret
        refine ⟨?_, HB2.out⟩
        have : fewT l = false := by
          unfold fewT
          rw [Bool.and_eq_false_iff]
          left
          rw [List.all_eq_false]
          exact ⟨l[k], List.getElem_mem hlt, by rw [← HT.out, hs]; simp⟩
        rw [this]; rfl
      · go_wp2_with fail
        go_roundg (l.length - (k + 1))
        case measure => omega
        case rel =>
          refine ⟨k + 1, by omega, Nat.le_refl _, by go_num, HB2.out, fun j hj hjk => ?_⟩
          by_cases e : j = k
          · subst e; rw [← HT.out]; exact hs
          · exact HA.out j hj (by omega)
    · have : k = l.length := by omega
      subst this
      have hall : l.all shortT = true := by
        rw [List.all_eq_true]
        intro x hx
        obtain ⟨j, hj, rfl⟩ := List.getElem_of_mem hx
        exact HA.out j hj hj
      have hf : fewT l = decide (l.length ≤ 60) := by unfold fewT; rw [hall]; rfl
      have HF : Hid (fewT l = decide ((l.length : Int) ≤ 60)) := by
        show _ = _
        rw [hf]
        exact decide_eq_decide.2 (by omega)
      clear hall hf
      go_wp2_with fail
      go_ret
      exact ⟨by rw [HF.out]; rfl, HB.out⟩
def sameT (a b : List Tu) : Bool := decide (a = b)
set_option maxRecDepth 100000 in
set_option maxHeartbeats 2000000 in
theorem samel_any {w : World} {va vb : Value} {la lb : List Tu} (ha : TuRd w va la) (hb : TuRd w vb lb) (hl : la.length ≤ 140737488355328) (hm : lb.length ≤ 140737488355328) :
    Calls Tryz.prog 33 #[va, vb] w fun e w' => e = .returned (.bool (sameT la lb)) ∧ Below w.heap.size w w' := by
  obtain ⟨pa, ca, rfl, ra⟩ := ha.form tc_length (by decide)
  obtain ⟨pb, cb, rfl, rb⟩ := hb.form tc_length (by decide)
  have RA := Lib.hid ra
  have RB := Lib.hid rb
  clear ha hb ra rb
  by_cases hn : la.length = lb.length
  · obtain ⟨n, hna⟩ : ∃ n, n = la.length := ⟨_, rfl⟩
    have hnb : n = lb.length := hna.trans hn
    rw [← hna, ← hnb]
    have HNA := Lib.hid hna
    have HNB := Lib.hid hnb
    have HN := Lib.hid hn
    rw [← hna] at hl
    clear hn hna hnb hm
    go_enter Tryz.func33, Tryz.ntmps33
    go_wp2_with fail
    go_loopg [5] n (fun g s5 wr => ∃ k q : Nat, k ≤ n ∧ n - k ≤ g ∧ s5 = .int .i64 k ∧ wr = w.drewN q ∧ ∀ j, (h1 : j < la.length) → (h2 : j < lb.length) → j < k → la[j] = lb[j])
    case atStart => exact ⟨0, 0, by omega, by omega, rfl, rfl, fun j _ _ hj => absurd hj (by omega)⟩
    case round =>
      obtain ⟨k, q, hk, hg, rfl, rfl, hall⟩ := hrel
      have HA := Lib.hid hall
      clear hall
      by_cases hlt : k < n
      · have k1 : k < la.length := by have := HNA.out; omega
        have k2 : k < lb.length := by have := HNB.out; omega
        obtain ⟨b1, o1, rfl, _, r1⟩ := RA.out k k1
        obtain ⟨b2, o2, rfl, _, r2⟩ := RB.out k k2
        have R1 : Hid ((w.drewN q).drew.rangeAt b1 (o1 + k * 6) (tc la[k])) := r1
        have R2 : Hid ((w.drewN q).drew.rangeAt b2 (o2 + k * 6) (tc lb[k])) := r2
        clear r1 r2
        obtain ⟨x, hx⟩ : ∃ x, x = la[k] := ⟨_, rfl⟩
        obtain ⟨y, hy⟩ : ∃ y, y = lb[k] := ⟨_, rfl⟩
        rw [← hx] at R1
        rw [← hy] at R2
        have HX : Hid (la[k]? = some x) := by show _ = _; rw [hx, List.getElem?_eq_getElem k1]
        have HY : Hid (lb[k]? = some y) := by show _ = _; rw [hy, List.getElem?_eq_getElem k2]
        clear hx hy k1 k2
        go_wp2_with fail
        refine region_tail 8 (by kernel_rfl) (by kernel_rfl) ?_
        simp only [List.take_succ_cons, List.take_zero, List.drop_succ_cons, List.drop_zero]
        repeat first
          | still_step
          | ((with_reducible refine stillM (x := .tmp 19) (o := ⟨some 20, _, _, _, _, _⟩) R1.out ?_ ?_); exact ⟨rfl, rfl, by go_simp⟩)
          | ((with_reducible refine stillM (x := .tmp 23) (o := ⟨some 24, _, _, _, _, _⟩) R2.out ?_ ?_); exact ⟨rfl, rfl, by go_simp⟩)
        refine wpStill_nil ?_
        refine neM (u := x) (v := y) (o := ⟨some 25, _, _, _, _, _⟩) ⟨rfl, rfl, rfl, rfl⟩ ?_
        clear R1 R2
        generalize hw2 : (w.drewN q).drew = w2
        have W0 := Lib.hid hw2
        clear hw2
        rcases he : eqT x y with _ | _
        · go_wp2_with fail
          go_ret
          refine ⟨?_, by rw [← W0.out]; exact below_drewN (Below.refl _ _) (q + 1)⟩
          have : sameT la lb = false := decide_eq_false fun h => by
            subst h
            have e := HX.out.symm.trans HY.out
            rw [Option.some.inj e, eqT_refl] at he
            cases he
          rw [this]; rfl
        · go_wp2_with fail
          go_roundg (n - (k + 1))
          case measure => omega
          case rel =>
            refine ⟨k + 1, q + 1, by omega, Nat.le_refl _, by go_num, W0.out.symm, fun j h1 h2 hjk => ?_⟩
            by_cases e : j = k
            · subst e
              have e1 := HX.out
              have e2 := HY.out
              rw [List.getElem?_eq_getElem h1] at e1
              rw [List.getElem?_eq_getElem h2] at e2
              rw [Option.some.inj e1, Option.some.inj e2]; exact (eqT_iff _ _).1 he
            · exact HA.out j h1 h2 (by omega)
      · have : k = n := by omega
        subst this
        have HE : Hid (sameT la lb = true) := decide_eq_true (List.ext_getElem HN.out fun j h1 h2 => HA.out j h1 h2 (by have := HNA.out; omega))
        go_wp2_with fail
        go_ret
        exact ⟨by rw [HE.out]; rfl, below_drewN (Below.refl _ _) q⟩
  · have h0 : ((la.length : Int) != lb.length) = true := by rw [bne_iff_ne]; omega
    have HE : Hid (sameT la lb = false) := decide_eq_false fun h => hn (by rw [h])
    go_enter Tryz.func33, Tryz.ntmps33
    go_wp2_with fail
    go_ret
    exact ⟨by rw [HE.out]; rfl, Below.refl _ _⟩
end Go.Proofs.YtnnebfcggdbgpaaGreatDoor
/-
  The reference's Compare.
-/
namespace Go.Proofs.YtnnebfcggdbgpaaGreatDoor
open Go.ChangeShapes Go.WideShapes Go.ChangeAt Go.RowKit
set_option linter.unusedVariables false

def strs (t : Tu) : List Value := t.l.map .string
theorem sizesT.l {t : Tu} {n : Nat} (h : sizesT t n) : ∀ s ∈ t.l, s.size ≤ n := by
  intro s hs
  obtain ⟨h1, h2, h3, h4, h5, h6⟩ := h
  simp only [Tu.l, List.mem_cons, List.not_mem_nil, or_false] at hs
  rcases hs with rfl | rfl | rfl | rfl | rfl | rfl <;> assumption
def CS (w : World) (a b : Tu) (g1 g2 : Nat) (W : World) : Prop := Below w.heap.size w W ∧ Arr W 9 g1 (strs a) ∧ Arr W 9 g2 (strs b)
theorem CS.later {w W W' : World} {a b : Tu} {g1 g2 : Nat} (h : CS w a b g1 g2 W) (hb : Below W.heap.size W W') : CS w a b g1 g2 W' := ⟨h.1.trans (hb.mono h.1.size), h.2.1.later hb, h.2.2.later hb⟩
set_option maxRecDepth 100000 in
set_option maxHeartbeats 2000000 in
theorem rcompare_any (a b : Tu) (ha : sizesT a 1000000) (hb : sizesT b 1000000) (w : World) : Calls Tryz.prog 36 #[tuV a, tuV b] w fun e w' => e = .returned (.int .i64 (ordT a b)) ∧ Below w.heap.size w w' := by
  have b0 : Below w.heap.size w ((w.alloc (.cells (tc a).toArray 25)).alloc (.cells (tc b).toArray 25)) := ((Below.refl _ _).alloc (Nat.le_refl _) _).alloc (by simp) _
  have HB0 := Lib.hid b0
  obtain ⟨w0, hw0⟩ : ∃ w0, w0 = (w.alloc (.cells (tc a).toArray 25)).alloc (.cells (tc b).toArray 25) := ⟨_, rfl⟩
  have h1 : TuAt w0 w.heap.size a := by rw [hw0]; exact (tu_new w a).alloc _
  have h2 : TuAt w0 (w.heap.size + 1) b := by rw [hw0]; exact Arr.new2 w _ _ _ _ rfl
  rw [← hw0] at HB0
  have HW := Lib.hid hw0
  have H1 := Lib.hid h1
  have H2 := Lib.hid h2
  have HZ1 := Lib.hid ha.l
  have HZ2 := Lib.hid hb.l
  clear h1 h2 hw0 b0 ha hb
  go_enter Tryz.func36, Tryz.ntmps36
  go_upto_region 1 with fail
  rw [show (w.alloc (.cells (tc a).toArray 25)).alloc (.cells (tc b).toArray 25) = w0 from HW.out.symm]
  clear HW
  obtain ⟨a0, a1, a2, a3, a4, a5⟩ := TuAt.cells H1.out
  go_upto_region 2 with fail
  have HB1 : Hid (Below w.heap.size w (w0.alloc (.cells (strs a).toArray 9))) := HB0.out.alloc HB0.out.size _
  have HA1 : Hid (Arr (w0.alloc (.cells (strs a).toArray 9)) 9 w0.heap.size (strs a)) := Arr.new' w0 _ _ _ rfl
  have HX1 := Lib.hid (H2.out.alloc (.cells (strs a).toArray 9))
  rw [show w0.alloc (.cells #[.string a.ot, .string a.oi, .string a.re, .string a.st, .string a.si, .string a.us] 9) = w0.alloc (.cells (strs a).toArray 9) from rfl]
  generalize w0.alloc (.cells (strs a).toArray 9) = w1 at HB1 HA1 HX1 ⊢
  generalize w0.heap.size = g1 at HA1 ⊢
  clear a0 a1 a2 a3 a4 a5 H1 H2 HB0
  obtain ⟨b0, b1, b2, b3, b4, b5⟩ := TuAt.cells HX1.out
  go_upto_region 3 with fail
  have HM : Hid (CS w a b g1 w1.heap.size (w1.alloc (.cells (strs b).toArray 9))) := ⟨HB1.out.alloc HB1.out.size _, HA1.out.alloc _, Arr.new' w1 _ _ _ rfl⟩
  rw [show w1.alloc (.cells #[.string b.ot, .string b.oi, .string b.re, .string b.st, .string b.si, .string b.us] 9) = w1.alloc (.cells (strs b).toArray 9) from rfl]
  generalize w1.alloc (.cells (strs b).toArray 9) = w2 at HM ⊢
  generalize w1.heap.size = g2 at HM ⊢
  clear b0 b1 b2 b3 b4 b5 HX1 HA1 HB1
  go_wp2_with fail
  go_loopg [7] 6 (fun g s7 wr => ∃ k : Nat, k ≤ 6 ∧ 6 - k ≤ g ∧ s7 = .int .i64 k ∧ CS w a b g1 g2 wr ∧ ordT a b = ordL (a.l.drop k) (b.l.drop k))
  case atStart => exact ⟨0, by omega, by omega, rfl, HM.out, rfl⟩
  case round =>
    obtain ⟨k, hk, hg, rfl, hm, ho⟩ := hrel
    have HR := Lib.hid hm
    have HO := Lib.hid ho
    clear hm ho
    by_cases hlt : k < 6
    · have l1 : k < a.l.length := hlt
      have l2 : k < b.l.length := hlt
      obtain ⟨x, hx⟩ : ∃ x, x = a.l[k] := ⟨_, rfl⟩
      obtain ⟨y, hy⟩ : ∃ y, y = b.l[k] := ⟨_, rfl⟩
      have c1 : (wr.drew).cell? ⟨g1, k, none⟩ = some (.string x) := by
        have := HR.out.2.1.cell k
        rw [show (strs a)[k]? = some (.string x) by unfold strs; rw [List.getElem?_map, List.getElem?_eq_getElem l1, hx]; rfl] at this
        exact this
      have c2 : (wr.drew).cell? ⟨g2, k, none⟩ = some (.string y) := by
        have := HR.out.2.2.cell k
        rw [show (strs b)[k]? = some (.string y) by unfold strs; rw [List.getElem?_map, List.getElem?_eq_getElem l2, hy]; rfl] at this
        exact this
      have HD : Hid (ordT a b = if ord x y = 0 then ordL (a.l.drop (k + 1)) (b.l.drop (k + 1)) else ord x y) := by
        show _ = _
        rw [HO.out, List.drop_eq_getElem_cons l1, List.drop_eq_getElem_cons l2, hx, hy]
        rfl
      have HOR := Lib.hid (order_any x y (by rw [hx]; exact HZ1.out _ (List.getElem_mem l1)) (by rw [hy]; exact HZ2.out _ (List.getElem_mem l2)) wr.drew)
      clear hx hy l1 l2 HO
      go_wp2_with fail
      refine region_tail 8 (by kernel_rfl) (by kernel_rfl) ?_
      simp only [List.take_succ_cons, List.take_zero, List.drop_succ_cons, List.drop_zero]
      repeat still_step
      refine wpStill_nil ?_
      clear c1 c2
      go_wp2_with fail
      refine HOR.out.mono ?_
      rintro e w3 ⟨rfl, b3⟩
      have HR3 := Lib.hid ((HR.out.later (Below.refl _ _).drew).later b3)
      clear b3 HOR HR
      by_cases hc : ord x y = 0
      · rw [hc] at HD ⊢
        rw [if_pos rfl] at HD
        go_wp2_with fail
        go_roundg (6 - (k + 1))
        case measure => omega
        case rel => exact ⟨k + 1, by omega, Nat.le_refl _, by go_num, HR3.out, HD.out⟩
      · rw [if_neg hc] at HD
        obtain ⟨c, hcc⟩ : ∃ c, c = ord x y := ⟨_, rfl⟩
        rw [← hcc] at hc HD ⊢
        have hc1 : (c != 0) = true := by rw [bne_iff_ne]; exact hc
        clear hcc
        go_wp2_with fail
        go_ret
        exact ⟨by rw [HD.out]; rfl, HR3.out.1⟩
    · have : k = 6 := by omega
      subst this
      have HD : Hid (ordT a b = 0) := HO.out
      go_wp2_with fail
      go_ret
      exact ⟨by rw [HD.out]; rfl, HR.out.1⟩
end Go.Proofs.YtnnebfcggdbgpaaGreatDoor
/-
  tuple.Read's visitor at identifiers and sets of users.
-/
namespace Go.Proofs.YtnnebfcggdbgpaaGreatDoor
open Go.ChangeShapes Go.WideShapes Go.ChangeAt Go.RowKit
open errAs (ErrT)
set_option linter.unusedVariables false
variable {w0 W W' : World} {c bc br bt bf A A' : Nat} {b : List UInt8} {t : Tu} {S : Tu × Nat × Nat}

set_option maxRecDepth 100000 in
set_option maxHeartbeats 2000000 in
theorem readC1 (i : Nat) (hi : i < 6) (h : DI w0 c bc br bt bf b S W) (hbl : b.length ≤ 1000000) : Calls Tryz.prog 73 #[.pointer (some ⟨bt, i, none⟩), .int .i64 128, .func (.func 99) #[] #[], .pointer (some ⟨bf, 0, none⟩), .pointer (some ⟨bc, 0, none⟩)] W fun e W' => e = .returned (.tuple #[]) ∧ DI w0 c bc br bt bf b (stepR b 1 i S) W' := by
  obtain ⟨t, A, cd⟩ := S
  have H := Lib.hid h
  have HBL := Lib.hid hbl
  have HI := Lib.hid hi
  have c0 := h.2.1.cell 0
  simp only [List.getElem?_cons_zero] at c0
  by_cases hc : cd = 0
  · subst hc
    rw [errF_zero] at c0
    have c1 := h.2.2.1.cell 0
    simp only [List.getElem?_cons_zero] at c1
    obtain ⟨q, p, k1, k2, k3, k4⟩ := h.2.2.2.2.1.two
    have d0 := k1.cell 0
    have d1 := k1.cell 1
    simp only [List.getElem?_cons_zero, List.getElem?_cons_succ] at d0 d1
    have HK := Lib.hid (And.intro k2 (And.intro k3 k4))
    have hb1 : Below W.heap.size W (W.alloc (.cells #[.slice q b.length p, .int .i64 A] 108)) := (Below.refl _ _).alloc (Nat.le_refl _) _
    have H1 := Lib.hid (h.later hb1)
    have HN1 := Lib.hid (Arr.new' W 108 #[.slice q b.length p, .int .i64 A] _ rfl)
    have HR1 := Lib.hid (k2.below hb1 (Nat.le_of_lt k1.lt))
    have HT := Lib.hid (ctext_all (h.later hb1).2.2.2.2.1 128 (by omega))
    have HCB : Hid (c < W.heap.size) := k1.lt
    have c2 := (h.later hb1).2.2.1.cell 0
    simp only [List.getElem?_cons_zero] at c2
    have hq := eqNC
    have hq2 := eqEC
    clear k1 k2 k3 k4 hb1 h hi hbl
    go_enter Tryz.func73, Tryz.ntmps73
    go_wp2_with fail
    generalize W.alloc (.cells #[.slice q b.length p, .int .i64 A] 108) = w1 at H1 HN1 HR1 HT c2 ⊢
    generalize W.heap.size = g at HN1 HCB ⊢
    obtain ⟨P, hP⟩ : ∃ P, P = (partP 128 (b.drop A)) := ⟨_, rfl⟩
    have HSB := Lib.hid (fun h2 : P.2.2 ≠ 0 => stepR_bad (b := b) (k := 1) (i := i) (S := (t, A, 0)) rfl (by show (partP (mostK 1) (b.drop A)).2.2 ≠ 0; rw [show mostK 1 = 128 from rfl, ← hP]; exact h2))
    have HSN := Lib.hid (fun (h2 : P.2.2 = 0) (h3 : isId (str P.1) = false) => stepR_name (b := b) (k := 1) (i := i) (S := (t, A, 0)) rfl (by show (partP (mostK 1) (b.drop A)).2.2 = 0; rw [show mostK 1 = 128 from rfl, ← hP]; exact h2) (by show testK 1 (str (partP (mostK 1) (b.drop A)).1) = false; rw [show mostK 1 = 128 from rfl, ← hP]; exact h3))
    have HSY := Lib.hid (fun (h2 : P.2.2 = 0) (h3 : isId (str P.1) = true) => stepR_yes (b := b) (k := 1) (i := i) (S := (t, A, 0)) rfl (by show (partP (mostK 1) (b.drop A)).2.2 = 0; rw [show mostK 1 = 128 from rfl, ← hP]; exact h2) (by show testK 1 (str (partP (mostK 1) (b.drop A)).1) = true; rw [show mostK 1 = 128 from rfl, ← hP]; exact h3))
    rw [show mostK 1 = 128 from rfl] at HSB HSY
    simp only [← hP] at HSB HSN HSY HT
    clear hP
    by_cases h2 : P.2.2 = 0
    · have HT2 := Lib.hid (HT.out.2 h2)
      obtain ⟨s, hs⟩ : ∃ s, s = str P.1 := ⟨_, rfl⟩
      have HSN2 := Lib.hid (HSN.out h2)
      have HSY2 := Lib.hid (HSY.out h2)
      rw [← hs] at HT2 HSN2 HSY2
      obtain ⟨A2, hA2⟩ : ∃ A2, A2 = A + P.2.1 := ⟨_, rfl⟩
      simp only [← hA2] at HT2 HSY2
      clear hs hA2 HT HSB HSN HSY h2
      refine HT2.out.mono ?_
      rintro e w2 ⟨rfl, u2, g2⟩
      have HI2 := Lib.hid (H1.out.moved g2 u2)
      have HN2 := Lib.hid (HN1.out.grown g2 (by have := HCB.out; omega))
      have HR2 := Lib.hid (HR1.out.below (grown_below' g2 (Nat.le_refl c) (Nat.le_of_lt H1.out.2.2.2.2.1.lt)) (Nat.le_refl _))
      have HRES := Lib.hid HI2.out.2.2.2.2.2.2.1.env.1
      clear u2 g2 H1 HN1 HR1 HT2
      cases hv : isId s with
      | true =>
        have HV := Lib.hid hv
        have HST := Lib.hid (HSY2.out HV.out)
        clear hv HSY2 HSN2
        go_wp2_with fail
        refine (isId_any s _).mono ?_
        rintro e w3 ⟨rfl, b3⟩
        rw [HV.out]
        have HI3 := Lib.hid (HI2.out.later b3)
        obtain ⟨s0, hs0⟩ := tc_cell t i HI.out
        have d3 := Arr.cell HI3.out.1 i
        have f3 := Arr.free HI3.out.1 i
        rw [hs0] at d3
        clear b3 hs0 HI2 HN2 HR2 HRES
        go_wp2_with fail
        go_end0
        exact ⟨rfl, by rw [HST.out]; exact HI3.out.part i HI.out s⟩
      | false =>
        have HV := Lib.hid hv
        have HST := Lib.hid (HSN2.out HV.out)
        clear hv HSY2 HSN2
        go_wp2_with fail
        refine (isId_any s _).mono ?_
        rintro e w3 ⟨rfl, b3⟩
        rw [HV.out]
        have HI3 := Lib.hid (HI2.out.later b3)
        have HN3 := Lib.hid (HN2.out.later b3)
        have HR3 := Lib.hid (HR2.out.below b3 (Nat.le_of_lt HI2.out.2.2.2.2.1.lt))
        have e1 := HI3.out.2.2.1.cell 0
        have e2 := HN3.out.cell 0
        have e3 := HN3.out.cell 1
        obtain ⟨q4, p4, k4, _⟩ := HI3.out.2.2.2.2.1.two
        have e4 := k4.cell 0
        have e5 := k4.cell 1
        have e6 := k4.free 0
        have e7 := k4.free 1
        simp only [List.getElem?_cons_zero, List.getElem?_cons_succ] at e1 e2 e3 e4 e5
        have HI4 := Lib.hid (HI3.out.back HR3.out HK.out.2.1)
        have HN4 := Lib.hid ((HN3.out.setCell (a := ⟨c, 0, none⟩) (by show g ≠ c; have := HCB.out; omega) (.slice q b.length p)).setCell (a := ⟨c, 1, none⟩) (by show g ≠ c; have := HCB.out; omega) (.int .i64 A))
        have HERR := Lib.hid HI4.out.2.2.2.2.2.2.1.env.2.1
        have HC3 : Hid (Cur ((w3.setCell ⟨c, 0, none⟩ (.slice q b.length p)).setCell ⟨c, 1, none⟩ (.int .i64 A)) g b A) := cur_of HN4.out ((HR3.out.below (grown_below' (grown_trans (grown_set w3 0 c 0 (.slice q b.length p)) (grown_set _ 0 c 1 (.int .i64 A))) (Nat.le_refl c) (Nat.le_of_lt HI3.out.2.2.2.2.1.lt)) (Nat.le_refl c)).mono (Nat.le_of_lt HCB.out)) HK.out.2.1 HK.out.2.2
        have HAL : A ≤ 1000000 := by have := HK.out.2.1; have := HBL.out; omega
        clear b3 k4 HI2 HN2 HR2 HRES HN3 HR3 HN4 HI3
        have HI3 := HI4
        clear HI4
        go_wp2_with fail
        refine (at_any HC3.out).mono ?_
        rintro e w4 ⟨rfl, hw4⟩
        subst hw4
        have HSH := Lib.hid (shift_Cn 5 A _ HERR.out (by omega))
        unfold faultN at HSH
        go_wp2_with fail
        refine HSH.out.mono ?_
        rintro e w5 ⟨rfl, b5⟩
        have HI5 := Lib.hid (HI3.out.later b5)
        have f5 := HI5.out.2.1.free 0
        have c5 := HI5.out.2.1.cell 0
        simp only [List.getElem?_cons_zero, errF_zero] at c5
        clear b5 HSH HI3 HC3 HERR
        go_wp2_with fail
        refine bodyPost_ret (results_none rfl _ _ _) rfl ?_
        exact ⟨rfl, by rw [HST.out]; exact HI5.out.fails 5 (by decide)⟩
    · have HT2 := Lib.hid (HT.out.1 h2)
      have HST := Lib.hid (HSB.out h2)
      obtain ⟨cd, hcd⟩ : ∃ cd, cd = P.2.2 := ⟨_, rfl⟩
      rw [← hcd] at HT2 h2 HST
      have H2 := Lib.hid h2
      clear HT HSB HSN HSY h2 hcd
      refine HT2.out.mono ?_
      rintro e w2 ⟨rfl, n2, rfl⟩
      have b2 := below_drewN (Below.refl w1.heap.size w1) n2
      have HI3 := Lib.hid (H1.out.later b2)
      have HR2 := HR1.out.below b2 (Nat.le_of_lt H1.out.2.2.2.2.1.lt)
      have HC3 : Hid (Cur (w1.drewN n2) g b A) := cur_of (HN1.out.later b2) (HR2.mono (Nat.le_of_lt HCB.out)) HK.out.2.1 HK.out.2.2
      have HERR := Lib.hid HI3.out.2.2.2.2.2.2.1.env.2.1
      have HAL : A ≤ 1000000 := by have := HK.out.2.1; have := HBL.out; omega
      clear b2 HR2 H1 HN1 HR1 HT2
      generalize w1.drewN n2 = w2 at HI3 HC3 HERR ⊢
      go_wp2_with fail
      refine (at_any HC3.out).mono ?_
      rintro e w4 ⟨rfl, hw4⟩
      subst hw4
      have HSH := Lib.hid (shift_Cn cd A _ HERR.out (by omega))
      unfold faultN at HSH
      go_wp2_with fail
      refine HSH.out.mono ?_
      rintro e w5 ⟨rfl, b5⟩
      have HI5 := Lib.hid (HI3.out.later b5)
      have f5 := HI5.out.2.1.free 0
      have c5 := HI5.out.2.1.cell 0
      simp only [List.getElem?_cons_zero, errF_zero] at c5
      clear b5 HSH HI3 HC3 HERR
      go_wp2_with fail
      refine bodyPost_ret (results_none rfl _ _ _) rfl ?_
      exact ⟨rfl, by rw [HST.out]; exact HI5.out.fails cd H2.out⟩
  · have hs : stepR b 1 i (t, A, cd) = (t, A, cd) := stepR_stop hc
    rw [hs]
    have c0' : W.cell? ⟨bf, 0, none⟩ = some (.iface 141 (.agg #[.int .i64 cd, .int .i64 A])) := by
      rw [c0]; unfold errF; rw [if_neg hc]; rfl
    have hq : ∀ w, (binOp BinOp.neq 34 (.iface 141 (.agg #[.int .i64 cd, .int .i64 A])) .nilIface).run Tryz.prog w = .ok (.bool true) w := fun w => eqNF cd A w
    clear c0 h hc hs hi hbl
    go_enter Tryz.func73, Tryz.ntmps73
    go_wp2_with fail
    refine bodyPost_ret (results_none rfl _ _ _) rfl ?_
    exact ⟨rfl, H.out⟩

set_option maxRecDepth 100000 in
set_option maxHeartbeats 2000000 in
theorem readC2 (i : Nat) (hi : i < 6) (h : DI w0 c bc br bt bf b S W) (hbl : b.length ≤ 1000000) : Calls Tryz.prog 73 #[.pointer (some ⟨bt, i, none⟩), .int .i64 64, .func (.func 100) #[] #[], .pointer (some ⟨bf, 0, none⟩), .pointer (some ⟨bc, 0, none⟩)] W fun e W' => e = .returned (.tuple #[]) ∧ DI w0 c bc br bt bf b (stepR b 2 i S) W' := by
  obtain ⟨t, A, cd⟩ := S
  have H := Lib.hid h
  have HBL := Lib.hid hbl
  have HI := Lib.hid hi
  have c0 := h.2.1.cell 0
  simp only [List.getElem?_cons_zero] at c0
  by_cases hc : cd = 0
  · subst hc
    rw [errF_zero] at c0
    have c1 := h.2.2.1.cell 0
    simp only [List.getElem?_cons_zero] at c1
    obtain ⟨q, p, k1, k2, k3, k4⟩ := h.2.2.2.2.1.two
    have d0 := k1.cell 0
    have d1 := k1.cell 1
    simp only [List.getElem?_cons_zero, List.getElem?_cons_succ] at d0 d1
    have HK := Lib.hid (And.intro k2 (And.intro k3 k4))
    have hb1 : Below W.heap.size W (W.alloc (.cells #[.slice q b.length p, .int .i64 A] 108)) := (Below.refl _ _).alloc (Nat.le_refl _) _
    have H1 := Lib.hid (h.later hb1)
    have HN1 := Lib.hid (Arr.new' W 108 #[.slice q b.length p, .int .i64 A] _ rfl)
    have HR1 := Lib.hid (k2.below hb1 (Nat.le_of_lt k1.lt))
    have HT := Lib.hid (ctext_all (h.later hb1).2.2.2.2.1 64 (by omega))
    have HCB : Hid (c < W.heap.size) := k1.lt
    have c2 := (h.later hb1).2.2.1.cell 0
    simp only [List.getElem?_cons_zero] at c2
    have hq := eqNC
    have hq2 := eqEC
    clear k1 k2 k3 k4 hb1 h hi hbl
    go_enter Tryz.func73, Tryz.ntmps73
    go_wp2_with fail
    generalize W.alloc (.cells #[.slice q b.length p, .int .i64 A] 108) = w1 at H1 HN1 HR1 HT c2 ⊢
    generalize W.heap.size = g at HN1 HCB ⊢
    obtain ⟨P, hP⟩ : ∃ P, P = (partP 64 (b.drop A)) := ⟨_, rfl⟩
    have HSB := Lib.hid (fun h2 : P.2.2 ≠ 0 => stepR_bad (b := b) (k := 2) (i := i) (S := (t, A, 0)) rfl (by show (partP (mostK 2) (b.drop A)).2.2 ≠ 0; rw [show mostK 2 = 64 from rfl, ← hP]; exact h2))
    have HSN := Lib.hid (fun (h2 : P.2.2 = 0) (h3 : isUs (str P.1) = false) => stepR_name (b := b) (k := 2) (i := i) (S := (t, A, 0)) rfl (by show (partP (mostK 2) (b.drop A)).2.2 = 0; rw [show mostK 2 = 64 from rfl, ← hP]; exact h2) (by show testK 2 (str (partP (mostK 2) (b.drop A)).1) = false; rw [show mostK 2 = 64 from rfl, ← hP]; exact h3))
    have HSY := Lib.hid (fun (h2 : P.2.2 = 0) (h3 : isUs (str P.1) = true) => stepR_yes (b := b) (k := 2) (i := i) (S := (t, A, 0)) rfl (by show (partP (mostK 2) (b.drop A)).2.2 = 0; rw [show mostK 2 = 64 from rfl, ← hP]; exact h2) (by show testK 2 (str (partP (mostK 2) (b.drop A)).1) = true; rw [show mostK 2 = 64 from rfl, ← hP]; exact h3))
    rw [show mostK 2 = 64 from rfl] at HSB HSY
    simp only [← hP] at HSB HSN HSY HT
    clear hP
    by_cases h2 : P.2.2 = 0
    · have HT2 := Lib.hid (HT.out.2 h2)
      obtain ⟨s, hs⟩ : ∃ s, s = str P.1 := ⟨_, rfl⟩
      have HSN2 := Lib.hid (HSN.out h2)
      have HSY2 := Lib.hid (HSY.out h2)
      rw [← hs] at HT2 HSN2 HSY2
      obtain ⟨A2, hA2⟩ : ∃ A2, A2 = A + P.2.1 := ⟨_, rfl⟩
      simp only [← hA2] at HT2 HSY2
      clear hs hA2 HT HSB HSN HSY h2
      refine HT2.out.mono ?_
      rintro e w2 ⟨rfl, u2, g2⟩
      have HI2 := Lib.hid (H1.out.moved g2 u2)
      have HN2 := Lib.hid (HN1.out.grown g2 (by have := HCB.out; omega))
      have HR2 := Lib.hid (HR1.out.below (grown_below' g2 (Nat.le_refl c) (Nat.le_of_lt H1.out.2.2.2.2.1.lt)) (Nat.le_refl _))
      have HRES := Lib.hid HI2.out.2.2.2.2.2.2.1.env.1
      clear u2 g2 H1 HN1 HR1 HT2
      cases hv : isUs s with
      | true =>
        have HV := Lib.hid hv
        have HST := Lib.hid (HSY2.out HV.out)
        clear hv HSY2 HSN2
        go_wp2_with fail
        refine (isUs_any s _ HRES.out).mono ?_
        rintro e w3 ⟨rfl, b3⟩
        rw [HV.out]
        have HI3 := Lib.hid (HI2.out.later b3)
        obtain ⟨s0, hs0⟩ := tc_cell t i HI.out
        have d3 := Arr.cell HI3.out.1 i
        have f3 := Arr.free HI3.out.1 i
        rw [hs0] at d3
        clear b3 hs0 HI2 HN2 HR2 HRES
        go_wp2_with fail
        go_end0
        exact ⟨rfl, by rw [HST.out]; exact HI3.out.part i HI.out s⟩
      | false =>
        have HV := Lib.hid hv
        have HST := Lib.hid (HSN2.out HV.out)
        clear hv HSY2 HSN2
        go_wp2_with fail
        refine (isUs_any s _ HRES.out).mono ?_
        rintro e w3 ⟨rfl, b3⟩
        rw [HV.out]
        have HI3 := Lib.hid (HI2.out.later b3)
        have HN3 := Lib.hid (HN2.out.later b3)
        have HR3 := Lib.hid (HR2.out.below b3 (Nat.le_of_lt HI2.out.2.2.2.2.1.lt))
        have e1 := HI3.out.2.2.1.cell 0
        have e2 := HN3.out.cell 0
        have e3 := HN3.out.cell 1
        obtain ⟨q4, p4, k4, _⟩ := HI3.out.2.2.2.2.1.two
        have e4 := k4.cell 0
        have e5 := k4.cell 1
        have e6 := k4.free 0
        have e7 := k4.free 1
        simp only [List.getElem?_cons_zero, List.getElem?_cons_succ] at e1 e2 e3 e4 e5
        have HI4 := Lib.hid (HI3.out.back HR3.out HK.out.2.1)
        have HN4 := Lib.hid ((HN3.out.setCell (a := ⟨c, 0, none⟩) (by show g ≠ c; have := HCB.out; omega) (.slice q b.length p)).setCell (a := ⟨c, 1, none⟩) (by show g ≠ c; have := HCB.out; omega) (.int .i64 A))
        have HERR := Lib.hid HI4.out.2.2.2.2.2.2.1.env.2.1
        have HC3 : Hid (Cur ((w3.setCell ⟨c, 0, none⟩ (.slice q b.length p)).setCell ⟨c, 1, none⟩ (.int .i64 A)) g b A) := cur_of HN4.out ((HR3.out.below (grown_below' (grown_trans (grown_set w3 0 c 0 (.slice q b.length p)) (grown_set _ 0 c 1 (.int .i64 A))) (Nat.le_refl c) (Nat.le_of_lt HI3.out.2.2.2.2.1.lt)) (Nat.le_refl c)).mono (Nat.le_of_lt HCB.out)) HK.out.2.1 HK.out.2.2
        have HAL : A ≤ 1000000 := by have := HK.out.2.1; have := HBL.out; omega
        clear b3 k4 HI2 HN2 HR2 HRES HN3 HR3 HN4 HI3
        have HI3 := HI4
        clear HI4
        go_wp2_with fail
        refine (at_any HC3.out).mono ?_
        rintro e w4 ⟨rfl, hw4⟩
        subst hw4
        have HSH := Lib.hid (shift_Cn 5 A _ HERR.out (by omega))
        unfold faultN at HSH
        go_wp2_with fail
        refine HSH.out.mono ?_
        rintro e w5 ⟨rfl, b5⟩
        have HI5 := Lib.hid (HI3.out.later b5)
        have f5 := HI5.out.2.1.free 0
        have c5 := HI5.out.2.1.cell 0
        simp only [List.getElem?_cons_zero, errF_zero] at c5
        clear b5 HSH HI3 HC3 HERR
        go_wp2_with fail
        refine bodyPost_ret (results_none rfl _ _ _) rfl ?_
        exact ⟨rfl, by rw [HST.out]; exact HI5.out.fails 5 (by decide)⟩
    · have HT2 := Lib.hid (HT.out.1 h2)
      have HST := Lib.hid (HSB.out h2)
      obtain ⟨cd, hcd⟩ : ∃ cd, cd = P.2.2 := ⟨_, rfl⟩
      rw [← hcd] at HT2 h2 HST
      have H2 := Lib.hid h2
      clear HT HSB HSN HSY h2 hcd
      refine HT2.out.mono ?_
      rintro e w2 ⟨rfl, n2, rfl⟩
      have b2 := below_drewN (Below.refl w1.heap.size w1) n2
      have HI3 := Lib.hid (H1.out.later b2)
      have HR2 := HR1.out.below b2 (Nat.le_of_lt H1.out.2.2.2.2.1.lt)
      have HC3 : Hid (Cur (w1.drewN n2) g b A) := cur_of (HN1.out.later b2) (HR2.mono (Nat.le_of_lt HCB.out)) HK.out.2.1 HK.out.2.2
      have HERR := Lib.hid HI3.out.2.2.2.2.2.2.1.env.2.1
      have HAL : A ≤ 1000000 := by have := HK.out.2.1; have := HBL.out; omega
      clear b2 HR2 H1 HN1 HR1 HT2
      generalize w1.drewN n2 = w2 at HI3 HC3 HERR ⊢
      go_wp2_with fail
      refine (at_any HC3.out).mono ?_
      rintro e w4 ⟨rfl, hw4⟩
      subst hw4
      have HSH := Lib.hid (shift_Cn cd A _ HERR.out (by omega))
      unfold faultN at HSH
      go_wp2_with fail
      refine HSH.out.mono ?_
      rintro e w5 ⟨rfl, b5⟩
      have HI5 := Lib.hid (HI3.out.later b5)
      have f5 := HI5.out.2.1.free 0
      have c5 := HI5.out.2.1.cell 0
      simp only [List.getElem?_cons_zero, errF_zero] at c5
      clear b5 HSH HI3 HC3 HERR
      go_wp2_with fail
      refine bodyPost_ret (results_none rfl _ _ _) rfl ?_
      exact ⟨rfl, by rw [HST.out]; exact HI5.out.fails cd H2.out⟩
  · have hs : stepR b 2 i (t, A, cd) = (t, A, cd) := stepR_stop hc
    rw [hs]
    have c0' : W.cell? ⟨bf, 0, none⟩ = some (.iface 141 (.agg #[.int .i64 cd, .int .i64 A])) := by
      rw [c0]; unfold errF; rw [if_neg hc]; rfl
    have hq : ∀ w, (binOp BinOp.neq 34 (.iface 141 (.agg #[.int .i64 cd, .int .i64 A])) .nilIface).run Tryz.prog w = .ok (.bool true) w := fun w => eqNF cd A w
    clear c0 h hc hs hi hbl
    go_enter Tryz.func73, Tryz.ntmps73
    go_wp2_with fail
    refine bodyPost_ret (results_none rfl _ _ _) rfl ?_
    exact ⟨rfl, H.out⟩
end Go.Proofs.YtnnebfcggdbgpaaGreatDoor
/-
  tuple.Read, tuple.ParseBytes.
-/
namespace Go.Proofs.YtnnebfcggdbgpaaGreatDoor
open Go.ChangeShapes Go.WideShapes Go.ChangeAt Go.RowKit
open errAs (ErrT)
set_option linter.unusedVariables false

theorem setRow_same' {w : World} {t : TypeId} {g : Nat} {cs : List Value} (h : Arr w t g cs) : w.setRow g cs.toArray = w := by
  have hg : g < w.heap.size := h.lt
  cases w
  simp only [World.setRow] at *
  congr 1
  apply Array.ext_getElem?
  intro i
  rw [Array.getElem?_modify]
  split
  · next h' => subst h'; rw [show _ = _ from h]; rfl
  · rfl
theorem stepw_storeT0 {ops : Array Oper} {o : Oper} {a : Act} {w : World} {K : Act → World → Prop} {Q : Exit → Act → World → Prop} {E : Prop} {g : Nat} {u : Tu} (hw : Region.wanted o (yielded ops a.tmps) = true) (x y : Operand) (ho : o.op = .store 25 x y) (hx : a.eval x = .pointer (some ⟨g, 0, none⟩)) (hy : a.eval y = tuV u) (hA : TuAt w g u)
    (hK : K (a.put o.dst undef) w) : if Region.wanted o (yielded ops a.tmps) = true then Oper.wp Tryz.prog o a w K Q else E := by
  rw [if_pos hw]
  exact wp_store_row _ x y ho g (tc u).toArray hx hy _ (tc u).toArray hA (by kernel_rfl) rfl (Array.all_eq_true_iff_forall_mem.2 (fun v hv => tc_one u v (by simpa using hv))) (by rw [setRow_same' hA]; exact hK)
theorem resT {fn : Func} {p q : Tmp} {tmps : Array Value} {w : World} {g : Nat} {t : TypeId} {u : Tu} (h : fn.results = #[.cell p 25, .tmp q]) (hA : Arr w t g (tc u)) (hp : tmps.getD p undef = .pointer (some ⟨g, 0, none⟩)) :
    (results fn tmps).run Tryz.prog w = .ok (.tuple #[tuV u, tmps.getD q undef]) w :=
  results_cell_tmp h tmps w g t (tc u).toArray (0, 0) _ hp hA Tryz.underlying25 rfl (by kernel_rfl)
theorem resT2 {fn : Func} {p q r' : Tmp} {tmps : Array Value} {w : World} {g : Nat} {t : TypeId} {u : Tu} (h : fn.results = #[.cell p 25, .tmp q, .tmp r']) (hA : Arr w t g (tc u)) (hp : tmps.getD p undef = .pointer (some ⟨g, 0, none⟩)) :
    (results fn tmps).run Tryz.prog w = .ok (.tuple #[tuV u, tmps.getD q undef, tmps.getD r' undef]) w := by
  have hp' : tmps[p]?.getD undef = .pointer (some ⟨g, 0, none⟩) := by simpa using hp
  have hl := run_loadVar_row (P := Tryz.prog) w g t 25 (tc u).toArray (0, 0) _ hA Tryz.underlying25 rfl (by kernel_rfl)
  simp [results, h, hp', asAddr, hl]
theorem atT {ops : Array Oper} {rest : List Oper} {o : Oper} {a : Act} {Q : Exit → Act → World → Prop} {w : World} {t : TypeId} {x y : Operand} {u : Tu} {cs : Array Value} (n : Nat)
    (hs : o.guard = none ∧ o.op = .store 25 x y ∧ a.eval x = .pointer (some ⟨n, 0, none⟩) ∧ a.eval y = tuV u ∧ cs.toList.length = 6 ∧ n = w.heap.size)
    (hk : wpList Tryz.prog ops Q rest (a.put o.dst undef) (w.alloc (.cells (tc u).toArray t))) : wpList Tryz.prog ops Q (o :: rest) a (w.alloc (.cells cs t)) := by
  obtain ⟨h1, h2, h3, h4, h5, rfl⟩ := hs
  exact store_arr h1 _ _ _ h2 (Arr.new w t cs) h3 h4 (by kernel_rfl) (by rw [h5]; rfl) (tc_one u) (by rw [World.setRow_alloc_new]; exact hk)
theorem visitD7 (I0 I1 I2 I3 I4 I5 I6 : World → Prop) {bt : Nat} {x y : Value} {w : World} (h0 : I0 w)
    (s0 : ∀ W, I0 W → Calls Tryz.prog 73 #[.pointer (some ⟨bt, 0, none⟩), .int .i64 64, .func (.func 64) #[] #[], x, y] W fun e W' => e = .returned (.tuple #[]) ∧ I1 W')
    (s1 : ∀ W, I1 W → Calls Tryz.prog 73 #[.pointer (some ⟨bt, 1, none⟩), .int .i64 128, .func (.func 99) #[] #[], x, y] W fun e W' => e = .returned (.tuple #[]) ∧ I2 W')
    (s2 : ∀ W, I2 W → Calls Tryz.prog 73 #[.pointer (some ⟨bt, 2, none⟩), .int .i64 64, .func (.func 64) #[] #[], x, y] W fun e W' => e = .returned (.tuple #[]) ∧ I3 W')
    (s3 : ∀ W, I3 W → Calls Tryz.prog 73 #[.pointer (some ⟨bt, 3, none⟩), .int .i64 64, .func (.func 64) #[] #[], x, y] W fun e W' => e = .returned (.tuple #[]) ∧ I4 W')
    (s4 : ∀ W, I4 W → Calls Tryz.prog 73 #[.pointer (some ⟨bt, 4, none⟩), .int .i64 128, .func (.func 99) #[] #[], x, y] W fun e W' => e = .returned (.tuple #[]) ∧ I5 W')
    (s5 : ∀ W, I5 W → Calls Tryz.prog 73 #[.pointer (some ⟨bt, 5, none⟩), .int .i64 64, .func (.func 100) #[] #[], x, y] W fun e W' => e = .returned (.tuple #[]) ∧ I6 W')
    : Calls Tryz.prog 55 #[.pointer (some ⟨bt, 0, none⟩), .func (.func 73) #[] #[x, y]] w fun e w' => e = .returned (.tuple #[]) ∧ I6 w' :=
  visitD (fun i W => match i with | 0 => I0 W | 1 => I1 W | 2 => I2 W | 3 => I3 W | 4 => I4 W | 5 => I5 W | _ => I6 W) h0 s0 s1 s2 s3 s4 s5
set_option maxRecDepth 100000 in
set_option maxHeartbeats 2000000 in
theorem tread_any {w : World} {c A : Nat} {b : List UInt8} (h : Cur w c b A) (hE : EnvC c w) (hb : b.length ≤ 1000000) :
    Calls Tryz.prog 28 #[.pointer (some ⟨c, 0, none⟩)] w fun e w' => e = .returned (.tuple #[tuV (readT b A).1, errF (readT b A).2.2 (readT b A).2.1]) ∧ Cur w' c b (readT b A).2.1 ∧ w.grownBy w' (some c) ∧ EnvC c w' := by
  obtain ⟨W, hW⟩ : ∃ W, W = (((w.alloc (.cells #[.pointer (some ⟨c, 0, none⟩)] 46)).alloc (.cells (tc t0).toArray 25)).alloc (.cells (tc t0).toArray 25)).alloc (.cells #[.nilIface] 34) := ⟨_, rfl⟩
  have hbW : Below w.heap.size w W := by
    rw [hW]
    exact ((((Below.refl _ _).alloc (Nat.le_refl _) _).alloc (by simp) _).alloc (by simp; omega) _).alloc (by simp; omega) _
  have HI : Hid (DI w c w.heap.size (w.heap.size + 1) (w.heap.size + 1 + 1) (w.heap.size + 1 + 1 + 1) b (t0, A, 0) W) := by
    refine ⟨?_, ?_, ?_, ?_, h.below hbW h.lt, grown_of hbW _, hE.grown (grown_of hbW _), h.lt, Nat.le_refl _, by omega, by omega, by omega⟩
    · rw [hW]; exact (Arr.new3 w _ _ _ _ _ rfl).alloc _
    · rw [hW]
      have := Arr.new' (((w.alloc (.cells #[.pointer (some ⟨c, 0, none⟩)] 46)).alloc (.cells (tc t0).toArray 25)).alloc (.cells (tc t0).toArray 25)) 34 #[.nilIface] [.nilIface] rfl
      rw [show (((w.alloc (.cells #[.pointer (some ⟨c, 0, none⟩)] 46)).alloc (.cells (tc t0).toArray 25)).alloc (.cells (tc t0).toArray 25)).heap.size = w.heap.size + 1 + 1 + 1 by simp] at this
      exact this
    · rw [hW]; exact ((Arr.new' w _ _ _ rfl).alloc _).alloc _ |>.alloc _
    · rw [hW]; exact ((Arr.new2 w _ _ _ _ rfl).alloc _).alloc _
  have HBL := Lib.hid hb
  obtain ⟨S1, hS1⟩ : ∃ S, S = stepR b 0 0 (t0, A, 0) := ⟨_, rfl⟩
  obtain ⟨S2, hS2⟩ : ∃ S, S = stepR b 1 1 S1 := ⟨_, rfl⟩
  obtain ⟨S3, hS3⟩ : ∃ S, S = stepR b 0 2 S2 := ⟨_, rfl⟩
  obtain ⟨S4, hS4⟩ : ∃ S, S = stepR b 0 3 S3 := ⟨_, rfl⟩
  obtain ⟨S5, hS5⟩ : ∃ S, S = stepR b 1 4 S4 := ⟨_, rfl⟩
  obtain ⟨S6, hS6⟩ : ∃ S, S = stepR b 2 5 S5 := ⟨_, rfl⟩
  have HS6 : Hid (readS b A = S6) := by show _ = _; rw [hS6, hS5, hS4, hS3, hS2, hS1]; rfl
  have HV := Lib.hid (visitD7 (DI w c w.heap.size (w.heap.size + 1) (w.heap.size + 1 + 1) (w.heap.size + 1 + 1 + 1) b (t0, A, 0)) (DI w c w.heap.size (w.heap.size + 1) (w.heap.size + 1 + 1) (w.heap.size + 1 + 1 + 1) b S1) (DI w c w.heap.size (w.heap.size + 1) (w.heap.size + 1 + 1) (w.heap.size + 1 + 1 + 1) b S2) (DI w c w.heap.size (w.heap.size + 1) (w.heap.size + 1 + 1) (w.heap.size + 1 + 1 + 1) b S3) (DI w c w.heap.size (w.heap.size + 1) (w.heap.size + 1 + 1) (w.heap.size + 1 + 1 + 1) b S4) (DI w c w.heap.size (w.heap.size + 1) (w.heap.size + 1 + 1) (w.heap.size + 1 + 1 + 1) b S5) (DI w c w.heap.size (w.heap.size + 1) (w.heap.size + 1 + 1) (w.heap.size + 1 + 1 + 1) b S6) (bt := w.heap.size + 1 + 1) (x := .pointer (some ⟨w.heap.size + 1 + 1 + 1, 0, none⟩)) (y := .pointer (some ⟨w.heap.size, 0, none⟩)) (w := W) HI.out
    (fun W h => (readC0 0 (by decide) h HBL.out).mono fun e W' ⟨he, hd⟩ => ⟨he, by rw [hS1]; exact hd⟩)
    (fun W h => (readC1 1 (by decide) h HBL.out).mono fun e W' ⟨he, hd⟩ => ⟨he, by rw [hS2]; exact hd⟩)
    (fun W h => (readC0 2 (by decide) h HBL.out).mono fun e W' ⟨he, hd⟩ => ⟨he, by rw [hS3]; exact hd⟩)
    (fun W h => (readC0 3 (by decide) h HBL.out).mono fun e W' ⟨he, hd⟩ => ⟨he, by rw [hS4]; exact hd⟩)
    (fun W h => (readC1 4 (by decide) h HBL.out).mono fun e W' ⟨he, hd⟩ => ⟨he, by rw [hS5]; exact hd⟩)
    (fun W h => (readC2 5 (by decide) h HBL.out).mono fun e W' ⟨he, hd⟩ => ⟨he, by rw [hS6]; exact hd⟩))
  clear hS1 hS2 hS3 hS4 hS5 hS6
  have HW := Lib.hid hW
  clear h hE hb hbW HI hW
  go_enter Tryz.func28, Tryz.ntmps28
  go_wp2_with fail
  rw [show (((w.alloc (.cells #[.pointer (some ⟨c, 0, none⟩)] 46)).alloc (.cells #[.string ⟨#[]⟩, .string ⟨#[]⟩, .string ⟨#[]⟩, .string ⟨#[]⟩, .string ⟨#[]⟩, .string ⟨#[]⟩] 25)).alloc (.cells #[.string ⟨#[]⟩, .string ⟨#[]⟩, .string ⟨#[]⟩, .string ⟨#[]⟩, .string ⟨#[]⟩, .string ⟨#[]⟩] 25)).alloc (.cells #[.nilIface] 34) = W from HW.out.symm]
  refine HV.out.mono ?_
  rintro e w1 ⟨rfl, h6⟩
  have hRT : readT b A = if S6.2.2 = 0 then S6 else (t0, S6.2.1, S6.2.2) := by unfold readT; rw [HS6.out]
  have HRT := Lib.hid hRT
  clear HS6 hRT
  obtain ⟨t, n, cd⟩ := S6
  have H := Lib.hid h6
  have c0 := h6.2.1.cell 0
  simp only [List.getElem?_cons_zero] at c0
  clear h6 HV HW
  by_cases hc : cd = 0
  · subst hc
    have HR2 : Hid (readT b A = (t, n, 0)) := by show _ = _; rw [HRT.out]; rfl
    rw [errF_zero] at c0
    have HT := Lib.hid H.out.1
    have HX := Lib.hid H.out.2.2.2.1
    clear HRT
    go_wp2_with (first
      | ((with_reducible refine loadT (x := .tmp 4) (o := ⟨some 15, _, _, _, _, _⟩) HT.out ?_ ?_); exact ⟨rfl, rfl, rfl⟩)
      | ((with_reducible refine storeT (x := .tmp 2) (y := .tmp 15) (u := t) (o := ⟨none, .store _ _ _, _, _, _, _⟩) HX.out ?_ ?_); exact ⟨rfl, rfl, rfl, rfl⟩))
    refine bodyPost_ret (resT rfl (HX.out.row _) rfl) rfl ?_
    obtain ⟨_, _, _, _, h5, h6, h7, h8⟩ := H.out
    rw [HR2.out]
    have hg : w1.grownBy (w1.setRow (w.heap.size + 1) (tc t).toArray) (some (w.heap.size + 1)) := ⟨rfl, rfl, rfl, by simp [World.setRow], fun k _ hne => by
      simp only [World.setRow, Array.getElem?_modify]
      rw [if_neg (fun e => hne (by rw [e]))]⟩
    have hbb := grown_below' hg (Nat.le_refl _) (Nat.le_of_lt HX.out.lt)
    refine ⟨rfl, h5.below hbb (by omega), ⟨h6.os, h6.tape, h6.output, Nat.le_trans h6.size hg.size, fun k hk hne => (hbb.block k (by omega)).trans (h6.block k hk hne)⟩, ?_⟩
    obtain ⟨wE, e1, e2, e3⟩ := h7
    exact ⟨wE, e1, e2, e3.trans (hbb.mono (by omega))⟩
  · have HR2 : Hid (readT b A = (t0, n, cd)) := by show _ = _; rw [HRT.out, if_neg hc]
    have HC := Lib.hid hc
    have e0 : errF cd n = faultN cd n := by unfold errF; rw [if_neg hc]
    rw [e0] at c0
    unfold faultN at c0
    have HF : Hid (errF cd n = .iface 141 (.agg #[.int .i64 cd, .int .i64 n])) := by show _ = _; rw [e0]; rfl
    have hq := eqNF cd n
    have HX := Lib.hid H.out.2.2.2.1
    clear HRT hc e0
    go_wp2_with fail
    refine wp_region_noPanic ?_
    refine wp_region_held_drew (S := DI w c w.heap.size (w.heap.size + 1) (w.heap.size + 1 + 1) (w.heap.size + 1 + 1 + 1) b (t, n, cd)) (by kernel_rfl) (H.out.later (Below.refl _ _).drew) (fun hHeld => ?_)
    try simp only [Act.put]
    generalize w1.drew = w2 at hHeld ⊢
    refine wpAnyH_take (i := 0) (oi := ⟨some 13, _, _, _, _, _⟩) (v := .agg #[.string ⟨#[]⟩, .string ⟨#[]⟩, .string ⟨#[]⟩, .string ⟨#[]⟩, .string ⟨#[]⟩, .string ⟨#[]⟩]) rfl (by kernel_rfl) (by kernel_rfl) (by kernel_rfl) (fun _ _ _ h => h) (.inl ⟨by rfl, fun w' hSw => ?_⟩) hHeld ?_
    focus (skip; clear hHeld; go_simp)
    try simp only [Act.put, List.setIfInBounds_toArray, List.set_cons_zero, List.set_cons_succ]
    refine wpAnyH_take (i := 1) (oi := ⟨some 14, _, _, _, _, _⟩) (v := .iface 141 (.agg #[.int .i64 cd, .int .i64 n])) rfl (by kernel_rfl) (by kernel_rfl) (by kernel_rfl) (fun _ _ _ h => h) (.inl ⟨by rfl, fun w' hSw => ?_⟩) hHeld ?_
    focus ((have q0 := hSw.2.1.cell 0; simp only [List.getElem?_cons_zero, HF.out] at q0); clear hHeld; go_simp)
    try simp only [Act.put, List.setIfInBounds_toArray, List.set_cons_zero, List.set_cons_succ]
    refine wpAnyH_ready (rs := [2]) (by kernel_rfl) (by simp) ?_
    refine AllReadyH.cons (o := ⟨none, _, _, _, _, _⟩) rfl (fun K' hK' => ?_) AllReadyH.nil
    refine stepw_storeT0 (by rfl) (.tmp 2) (.tmp 13) rfl rfl rfl hHeld.2.2.2.1 ?_
    have hkn := hHeld
    refine hK'.out _ _ hkn (fun _ => ?_)
    clear hK' K' hHeld
    have hHeld := hkn
    clear hkn
    try simp only [Act.put]
    refine wpAnyH_take (i := 3) (oi := ⟨some 3, _, _, _, _, _⟩) (v := .iface 141 (.agg #[.int .i64 cd, .int .i64 n])) rfl (by kernel_rfl) (by kernel_rfl) (by kernel_rfl) (fun _ _ _ h => h) (.inl ⟨by rfl, fun w' hSw => ?_⟩) hHeld ?_
    focus (skip; clear hHeld; go_simp)
    try simp only [Act.put, List.setIfInBounds_toArray, List.set_cons_zero, List.set_cons_succ]
    refine wpAnyH_done (by kernel_rfl) ?_ _
    refine NoPanic.normal ?_
    go_wp2_with fail
    refine bodyPost_ret (resT rfl hHeld.2.2.2.1 rfl) rfl ?_
    rw [HR2.out]
    exact ⟨by rw [HF.out]; rfl, hHeld.2.2.2.2.1, hHeld.2.2.2.2.2.1, hHeld.2.2.2.2.2.2.1⟩
theorem end_done' {w : World} {c at' : Nat} {l : List UInt8} (h : Cur w c l at') (hl : at' = l.length) :
    Calls Tryz.prog 66 #[.pointer (some ⟨c, 0, none⟩)] w fun e w' => e = .returned .nilIface ∧ ∃ n, w' = w.drewN n := by
  have HL := Lib.hid (left_any h)
  rw [hl, Nat.sub_self] at HL
  go_enter Tryz.func66, Tryz.ntmps66
  go_wp2_with fail
  refine HL.out.mono ?_
  rintro e w1 ⟨rfl, nq, rfl⟩
  go_wp2_with fail
  go_ret
  exact ⟨rfl, _, rfl⟩
/-- What ParseBytes hands back. -/
theorem below_rowT {w W : World} {g : Nat} (h : Below w.heap.size w W) (hg : w.heap.size ≤ g) (u : Tu) : Below w.heap.size w (W.setRow g (tc u).toArray) := below_row h hg _
set_option maxRecDepth 100000 in
set_option maxHeartbeats 2000000 in
theorem tparseB_any {B : Nat} {w : World} {vb : Value} {l : List UInt8} (hr : Rd B w vb l) (hB : B ≤ w.heap.size) (hl : l.length ≤ 1000000) (hE : Env w) :
    Calls Tryz.prog 20 #[vb] w fun e w' => e = .returned (.tuple #[tuV (parseB l).1, errF (parseB l).2.1 (parseB l).2.2]) ∧ Below w.heap.size w w' := by
  have b0 : Below w.heap.size w (w.alloc (.cells (tc t0).toArray 25)) := (Below.refl _ _).alloc (Nat.le_refl _) _
  have HB0 := Lib.hid b0
  have HX0 := Lib.hid (tu_new w t0)
  have HE0 := Lib.hid hE
  have HN := Lib.hid (new_any (hr.below b0 hB) (Nat.le_trans hB b0.size) (by omega))
  have HLN := Lib.hid hl
  obtain ⟨ov, cv, rfl⟩ := rd_form hr
  clear hr hE b0 hl
  go_enter Tryz.func20, Tryz.ntmps20
  go_wp2_with fail
  refine HN.out.mono ?_
  rintro e w1 ⟨c, rfl, hc, hcur, b1⟩
  have HB1 := Lib.hid (HB0.out.trans (b1.mono HB0.out.size))
  have HX1 := Lib.hid (HX0.out.later b1)
  have hgc : w.heap.size < c := Nat.lt_of_lt_of_le HX0.out.lt hc
  have HC := Lib.hid hgc
  have HCL := Lib.hid hcur.lt
  have HT := Lib.hid (tread_any hcur ⟨w, HE0.out, Nat.le_of_lt hgc, HB1.out⟩ HLN.out)
  obtain ⟨T, hT⟩ : ∃ T, T = readT l 0 := ⟨_, rfl⟩
  have hP : parseB l = endB l.length T := by rw [hT]; rfl
  rw [← hT] at HT
  have HP := Lib.hid hP
  have hAt : T.2.1 ≤ l.length := by rw [hT]; exact (readT_at (Nat.zero_le _)).2
  have HAT := Lib.hid hAt
  clear b1 HB0 HX0 HN hc hcur hgc hT hP hAt
  obtain ⟨t, n, cd⟩ := T
  go_wp2_with fail
  refine HT.out.mono ?_
  rintro e w2 ⟨rfl, u2, g2, e2⟩
  have b2 := grown_below' g2 (Nat.le_refl c) (Nat.le_of_lt HCL.out)
  have HB2 := Lib.hid (HB1.out.trans (b2.mono (Nat.le_of_lt HC.out)))
  have HX2 := Lib.hid (HX1.out.below b2 HC.out)
  have b3 : Below w2.heap.size w2 (w2.alloc (.cells (tc t).toArray 25)) := (Below.refl _ _).alloc (Nat.le_refl _) _
  have HB3 := Lib.hid (HB2.out.trans (b3.mono HB2.out.size))
  have HX3 := Lib.hid (HX2.out.later b3)
  have HT3 := Lib.hid (tu_new w2 t)
  have HU3 := Lib.hid (u2.below b3 u2.lt)
  clear b2 b3 u2 g2 e2 HT HB1 HX1 HB2 HX2 HCL HC
  by_cases hc : cd = 0
  · subst hc
    rw [errF_zero]
    go_upto_region 3 with ((with_reducible refine atT w2.heap.size (x := .tmp 5) (y := .tmp 12) (u := t) (o := ⟨none, .store _ _ _, _, _, _, _⟩) ?_ ?_); exact ⟨rfl, rfl, rfl, rfl, rfl, rfl⟩)
    generalize w2.alloc (.cells (tc t).toArray 25) = w3 at HB3 HX3 HT3 HU3 ⊢
    generalize w2.heap.size = g3 at HT3 ⊢
    by_cases hlt : n < l.length
    · have HP2 : Hid (parseB l = (t0, 16, n)) := by show _ = _; rw [HP.out]; exact endB_long rfl hlt
      have HEN := Lib.hid (end_left HU3.out hlt)
      have hq := eqNC
      clear HP hlt
      go_wp2_with fail
      refine HEN.out.mono ?_
      rintro e w4 ⟨rfl, k, rfl⟩
      have b4 := below_drewN (Below.refl w3.heap.size w3) k
      have HB4 := Lib.hid (HB3.out.trans (b4.mono HB3.out.size))
      have HX4 := Lib.hid (HX3.out.later b4)
      have HU4 := Lib.hid (HU3.out.below b4 HU3.out.lt)
      clear b4 HB3 HX3 HU3 HEN
      generalize w3.drewN k = w4 at HB4 HX4 HU4 ⊢
      go_wp2_with fail
      refine (at_any HU4.out).mono ?_
      rintro e w5 ⟨rfl, hw5⟩
      subst hw5
      go_wp2_with fail
      refine (fnew_any _ _ _).mono ?_
      rintro e w6 ⟨rfl, hw6⟩
      subst hw6
      have hA := HX4.out
      go_wp2_with ((with_reducible refine storeT (x := .tmp 2) (y := .tmp 21) (u := t0) (o := ⟨none, .store _ _ _, _, _, _, _⟩) hA ?_ ?_); exact ⟨rfl, rfl, rfl, rfl⟩)
      refine bodyPost_ret (resT rfl (hA.row _) rfl) rfl ⟨?_, below_rowT HB4.out (Nat.le_refl _) _⟩
      rw [HP2.out]; rfl
    · have HP2 : Hid (parseB l = (t, 0, 0)) := by show _ = _; rw [HP.out]; exact endB_yes rfl hlt
      have HEN := Lib.hid (end_done' HU3.out (by have := HAT.out; omega))
      clear HP hlt
      go_wp2_with fail
      refine HEN.out.mono ?_
      rintro e w4 ⟨rfl, k, rfl⟩
      have b4 := below_drewN (Below.refl w3.heap.size w3) k
      have HB4 := Lib.hid (HB3.out.trans (b4.mono HB3.out.size))
      have HX4 := Lib.hid (HX3.out.later b4)
      have HT4 := Lib.hid (HT3.out.later b4)
      clear b4 HB3 HX3 HU3 HT3 HEN
      generalize w3.drewN k = w4 at HB4 HX4 HT4 ⊢
      have hA := HX4.out
      go_wp2_with (first
        | ((with_reducible refine loadT (x := .tmp 5) (o := ⟨some 25, _, _, _, _, _⟩) HT4.out ?_ ?_); exact ⟨rfl, rfl, rfl⟩)
        | ((with_reducible refine storeT (x := .tmp 2) (y := .tmp 25) (u := t) (o := ⟨none, .store _ _ _, _, _, _, _⟩) hA ?_ ?_); exact ⟨rfl, rfl, rfl, rfl⟩))
      refine bodyPost_ret (resT rfl (hA.row _) rfl) rfl ⟨?_, below_rowT HB4.out (Nat.le_refl _) _⟩
      rw [HP2.out]; rfl
  · have HP2 : Hid (parseB l = (t0, cd, n)) := by show _ = _; rw [HP.out]; exact endB_bad hc
    have e0 : errF cd n = faultN cd n := by unfold errF; rw [if_neg hc]
    have HF : Hid (errF cd n = .iface 141 (.agg #[.int .i64 cd, .int .i64 n])) := by show _ = _; rw [e0]; rfl
    rw [HF.out]
    have hq := eqNF cd n
    clear HP hc e0
    go_upto_region 3 with ((with_reducible refine atT w2.heap.size (x := .tmp 5) (y := .tmp 12) (u := t) (o := ⟨none, .store _ _ _, _, _, _, _⟩) ?_ ?_); exact ⟨rfl, rfl, rfl, rfl, rfl, rfl⟩)
    generalize w2.alloc (.cells (tc t).toArray 25) = w3 at HB3 HX3 HT3 HU3 ⊢
    generalize w2.heap.size = g3 at HT3 ⊢
    have hA := HX3.out
    go_wp2_with ((with_reducible refine storeT (x := .tmp 2) (y := .tmp 16) (u := t0) (o := ⟨none, .store _ _ _, _, _, _, _⟩) hA ?_ ?_); exact ⟨rfl, rfl, rfl, rfl⟩)
    refine bodyPost_ret (resT rfl (hA.row _) rfl) rfl ⟨?_, below_rowT HB3.out (Nat.le_refl _) _⟩
    rw [HP2.out]
    show _ = Ending.returned (.tuple #[tuV t0, errF cd n])
    rw [HF.out]; rfl

end Go.Proofs.YtnnebfcggdbgpaaGreatDoor
/-
  tuple.Put.
-/
namespace Go.Proofs.YtnnebfcggdbgpaaGreatDoor
open Go.ChangeShapes Go.WideShapes Go.ChangeAt Go.RowKit
set_option linter.unusedVariables false

theorem Held.setCell {base : Nat} {w : World} {v : Value} {l : List UInt8} (h : Held base w v l) {p : Addr} (hk : p.block < base) (x : Value) : Held base (w.setCell p x) v l := by
  rcases h with h | ⟨g, off, cap, hv, h1, h2, h3, h4, h5, h6⟩
  · exact .inl h
  · have hb : ∀ o, (w.setCell p x).heap[(⟨g, o, none⟩ : Addr).block]? = w.heap[(⟨g, o, none⟩ : Addr).block]? := fun o => Below.heap_setCell w p x g (by omega)
    exact .inr ⟨g, off, cap, hv, h1, h2, h3, by simpa [World.setCell] using h4, fun i hi => (World.cell?_of_block (hb _)).trans (h5 i hi), fun i hi => by
      rw [World.cell?_of_block (hb _), World.frozen?_of_block (hb _)]; exact h6 i hi⟩
theorem held_sl {base : Nat} {w : World} {v : Value} {l : List UInt8} (h : Held base w v l) : ∃ q n c, v = .slice q n c := by
  obtain ⟨q, c, hv, _⟩ := h.form
  exact ⟨q, _, c, hv⟩
set_option maxRecDepth 100000 in
set_option maxHeartbeats 2000000 in
theorem putC_any {W : World} {bt i bb base : Nat} {s : ByteArray} {l : List UInt8} {v x : Value} {m : Int} (hs : W.cell? ⟨bt, i, none⟩ = some (.string s)) (hb : Arr W 30 bb [v]) (hh : Held base W v l) (hbb : bb < base) (hbt : bt < bb) (hbase : base ≤ W.heap.size) (hsz : s.size ≤ 1000) (hl : l.length ≤ 1000000) :
    Calls Tryz.prog 56 #[.pointer (some ⟨bt, i, none⟩), .int .i64 m, x, .pointer (some ⟨bb, 0, none⟩)] W fun e W' => e = .returned (.tuple #[]) ∧ ∃ v', Arr W' 30 bb [v'] ∧ Held base W' v' (l ++ putS s) ∧ Below bb W W' := by
  have HT := Lib.hid (fun W' => text_any s (by omega) W')
  have HH := Lib.hid hh
  have HB := Lib.hid hb
  have HP := Lib.hid (putS_len s (by unfold lim64; omega))
  have HLE : Hid (l.length + (putS s).length ≤ 140737488355328) := by have := HP.out; show _ ≤ _; omega
  have HBB : Hid (bt < bb ∧ bb < base ∧ base ≤ W.heap.size) := ⟨hbt, hbb, hbase⟩
  have HS := Lib.hid hs
  have c0 := hb.cell 0
  have f0 := hb.free 0
  simp only [List.getElem?_cons_zero] at c0
  clear hh hb hbb hbt hbase hsz hl
  go_enter Tryz.func56, Tryz.ntmps56
  go_wp2_with fail
  have HD : Hid (Below W.heap.size W W.drew) := (Below.refl _ _).drew
  go_region_law (first
    | (refine step_held rfl (.tmp 7) (.tmp 11) rfl rfl HH2.out rfl HO2.out HLE.out HBS2.out ?_; intro v3 w3 hA bA; have hb3 := HB2.out.below bA HBB.out.2.1; have HB3 := Lib.hid hb3; have c3 := hb3.cell 0; have f3 := hb3.free 0; simp only [List.getElem?_cons_zero] at c3; have HA3 := Lib.hid hA; obtain ⟨q3, n3, p3, hv3⟩ := held_sl hA; subst hv3; have HW3 := Lib.hid ((HW2.out.mono (Nat.le_of_lt (Nat.lt_of_lt_of_le HBB.out.2.1 HBB.out.2.2))).trans (bA.mono (Nat.le_of_lt HBB.out.2.1))); clear hA bA hb3)
    | (go_simp; go_at_call 57; (with_reducible refine (HT.out _).mono ?_); rintro e w2 ⟨v2, rfl, o2, b2⟩; (try simp only []); have HW2 : Hid (Below W.heap.size W w2) := HD.out.trans b2; have hb2 := HB.out.later HW2.out; have HB2 := Lib.hid hb2; have c2 := hb2.cell 0; have f2 := hb2.free 0; simp only [List.getElem?_cons_zero] at c2; have HH2 := Lib.hid (HH.out.later HW2.out); have HO2 := Lib.hid (Rd.of_own o2); have HBS2 := Lib.hid (Nat.le_trans HBB.out.2.2 HW2.out.size); clear o2 b2 hb2))
  all_goals
    go_wp2_with fail
    go_end0
    exact ⟨rfl, _, HB3.out.set 0 _, HA3.out.setCell (p := ⟨bb, 0, none⟩) HBB.out.2.1 _, HW3.out.setCell (p := ⟨bb, 0, none⟩) (Nat.le_refl _) _⟩

/-- What Put's visitor keeps: the tuple in block bt, the slice in block bb, its bytes behind them. -/
def PI (w0 : World) (bt bb : Nat) (t : Tu) (l : List UInt8) (W : World) : Prop :=
  TuAt W bt t ∧ Below w0.heap.size w0 W ∧ bb + 1 ≤ W.heap.size ∧ w0.heap.size ≤ bt ∧ bt < bb ∧ ∃ v, Arr W 30 bb [v] ∧ Held (bb + 1) W v l
theorem PI.step {w0 W W' : World} {bt bb : Nat} {t : Tu} {l m : List UInt8} (h : PI w0 bt bb t l W) (hb : Below bb W W') {v' : Value} (h1 : Arr W' 30 bb [v']) (h2 : Held (bb + 1) W' v' m) : PI w0 bt bb t m W' := by
  obtain ⟨a, b, c, d, e, _⟩ := h
  exact ⟨a.below hb e, b.trans (hb.mono (by omega)), Nat.le_trans c hb.size, d, e, v', h1, h2⟩
def accP (t : Tu) : Nat → List UInt8
  | 0 => []
  | 1 => ([] ++ putS t.ot)
  | 2 => (([] ++ putS t.ot) ++ putS t.oi)
  | 3 => ((([] ++ putS t.ot) ++ putS t.oi) ++ putS t.re)
  | 4 => (((([] ++ putS t.ot) ++ putS t.oi) ++ putS t.re) ++ putS t.st)
  | 5 => ((((([] ++ putS t.ot) ++ putS t.oi) ++ putS t.re) ++ putS t.st) ++ putS t.si)
  | _ => (((((([] ++ putS t.ot) ++ putS t.oi) ++ putS t.re) ++ putS t.st) ++ putS t.si) ++ putS t.us)
theorem accP0 (t : Tu) : accP t 1 = accP t 0 ++ putS t.ot := rfl
theorem accP1 (t : Tu) : accP t 2 = accP t 1 ++ putS t.oi := rfl
theorem accP2 (t : Tu) : accP t 3 = accP t 2 ++ putS t.re := rfl
theorem accP3 (t : Tu) : accP t 4 = accP t 3 ++ putS t.st := rfl
theorem accP4 (t : Tu) : accP t 5 = accP t 4 ++ putS t.si := rfl
theorem accP5 (t : Tu) : accP t 6 = accP t 5 ++ putS t.us := rfl
theorem accP_all (t : Tu) : accP t 6 = putT t := by
  simp only [accP, putT, List.nil_append, List.append_assoc]
theorem putS_small (s : ByteArray) (h : s.size ≤ 1000) : (putS s).length ≤ 1010 := by
  have := putS_len s (by unfold lim64; omega)
  omega
set_option maxRecDepth 100000 in
set_option maxHeartbeats 1000000 in
theorem accP_len (t : Tu) (ht : rightT t = true) (n : Nat) : (accP t n).length ≤ 1000000 := by
  obtain ⟨h1, h2, h3, h4, h5, h6⟩ := rightT_all ht
  have a1 := putS_small t.ot (by have := name_size h1; omega)
  have a2 := putS_small t.oi (by have := id_size h2; omega)
  have a3 := putS_small t.re (by have := name_size h3; omega)
  have a4 := putS_small t.st (by have := name_size h4; omega)
  have a5 := putS_small t.si (by have := id_size h5; omega)
  have a6 := putS_small t.us (by have := us_size h6; omega)
  unfold accP
  split <;> simp only [List.length_append, List.length_nil] <;> omega
set_option maxRecDepth 100000 in
set_option maxHeartbeats 1000000 in
theorem put_yes (t : Tu) (ht : rightT t = true) (w : World) (hr : ResT w) : Calls Tryz.prog 16 #[tuV t] w fun e w' => ∃ v, e = .returned (.tuple #[v, .bool true]) ∧ Held w.heap.size w' v (putT t) ∧ Below w.heap.size w w' := by
  have b0 : Below w.heap.size w (w.alloc (.cells (tc t).toArray 25)) := (Below.refl _ _).alloc (Nat.le_refl _) _
  have HB0 := Lib.hid b0
  have HA0 := Lib.hid (tu_new w t)
  have HR := Lib.hid (hr.below b0 hr.lt)
  have HSZ := Lib.hid (rightT_all ht)
  have HLN := Lib.hid (accP_len t ht)
  have HY := Lib.hid ht
  have HG : Hid (w.heap.size < (w.alloc (.cells (tc t).toArray 25)).heap.size) := by show _ < _; simp
  clear b0 hr ht
  go_enter Tryz.func16, Tryz.ntmps16
  go_wp2_with ((with_reducible refine loadT (x := .tmp 1) (o := ⟨some _, _, _, _, _, _⟩) HA0.out ?_ ?_); exact ⟨rfl, rfl, rfl⟩)
  refine (right_any' t _ HR.out).mono ?_
  rintro e w1 ⟨rfl, b1⟩
  rw [HY.out]
  have HI : Hid (PI w w.heap.size w1.heap.size t [] (w1.alloc (.cells #[.slice none 0 0] 30))) := by
    have hb := (Below.refl w1.heap.size w1).alloc (Nat.le_refl _) (.cells #[.slice none 0 0] 30)
    exact ⟨(HA0.out.later b1).alloc _, (HB0.out.trans (b1.mono HB0.out.size)).trans (hb.mono (Nat.le_trans HB0.out.size b1.size)), by simp, Nat.le_refl _, Nat.lt_of_lt_of_le HG.out b1.size, _, Arr.new' w1 _ _ _ rfl, .inl ⟨rfl, rfl⟩⟩
  have HV := Lib.hid (visitP (fun i W => PI w w.heap.size w1.heap.size t (accP t i) W) (bt := w.heap.size) (x := .pointer (some ⟨w1.heap.size, 0, none⟩)) HI.out
    (fun W h => (putC_any (TuAt.cells h.1).1 h.2.2.2.2.2.choose_spec.1 h.2.2.2.2.2.choose_spec.2 (Nat.lt_succ_self _) h.2.2.2.2.1 h.2.2.1 (by have := name_size HSZ.out.1; omega) (HLN.out 0)).mono fun e W' ⟨he, v', k1, k2, k3⟩ => ⟨he, by show PI _ _ _ t (accP t 1) W'; rw [accP0]; exact h.step k3 k1 k2⟩)
    (fun W h => (putC_any (TuAt.cells h.1).2.1 h.2.2.2.2.2.choose_spec.1 h.2.2.2.2.2.choose_spec.2 (Nat.lt_succ_self _) h.2.2.2.2.1 h.2.2.1 (by have := id_size HSZ.out.2.1; omega) (HLN.out 1)).mono fun e W' ⟨he, v', k1, k2, k3⟩ => ⟨he, by show PI _ _ _ t (accP t 2) W'; rw [accP1]; exact h.step k3 k1 k2⟩)
    (fun W h => (putC_any (TuAt.cells h.1).2.2.1 h.2.2.2.2.2.choose_spec.1 h.2.2.2.2.2.choose_spec.2 (Nat.lt_succ_self _) h.2.2.2.2.1 h.2.2.1 (by have := name_size HSZ.out.2.2.1; omega) (HLN.out 2)).mono fun e W' ⟨he, v', k1, k2, k3⟩ => ⟨he, by show PI _ _ _ t (accP t 3) W'; rw [accP2]; exact h.step k3 k1 k2⟩)
    (fun W h => (putC_any (TuAt.cells h.1).2.2.2.1 h.2.2.2.2.2.choose_spec.1 h.2.2.2.2.2.choose_spec.2 (Nat.lt_succ_self _) h.2.2.2.2.1 h.2.2.1 (by have := name_size HSZ.out.2.2.2.1; omega) (HLN.out 3)).mono fun e W' ⟨he, v', k1, k2, k3⟩ => ⟨he, by show PI _ _ _ t (accP t 4) W'; rw [accP3]; exact h.step k3 k1 k2⟩)
    (fun W h => (putC_any (TuAt.cells h.1).2.2.2.2.1 h.2.2.2.2.2.choose_spec.1 h.2.2.2.2.2.choose_spec.2 (Nat.lt_succ_self _) h.2.2.2.2.1 h.2.2.1 (by have := id_size HSZ.out.2.2.2.2.1; omega) (HLN.out 4)).mono fun e W' ⟨he, v', k1, k2, k3⟩ => ⟨he, by show PI _ _ _ t (accP t 5) W'; rw [accP4]; exact h.step k3 k1 k2⟩)
    (fun W h => (putC_any (TuAt.cells h.1).2.2.2.2.2 h.2.2.2.2.2.choose_spec.1 h.2.2.2.2.2.choose_spec.2 (Nat.lt_succ_self _) h.2.2.2.2.1 h.2.2.1 (by have := us_size HSZ.out.2.2.2.2.2; omega) (HLN.out 5)).mono fun e W' ⟨he, v', k1, k2, k3⟩ => ⟨he, by show PI _ _ _ t (accP t 6) W'; rw [accP5]; exact h.step k3 k1 k2⟩))
  clear b1 HI HR HB0 HA0 HG
  go_wp2_with fail
  generalize w1.alloc (.cells #[.slice none 0 0] 30) = w1a at HV ⊢
  generalize w1.heap.size = bb at HV ⊢
  refine HV.out.mono ?_
  rintro e w2 ⟨rfl, h6⟩
  rw [accP_all] at h6
  obtain ⟨h1, h2, h3, h4, h5, v, h7, h8⟩ := h6
  have c2 := h7.cell 0
  simp only [List.getElem?_cons_zero] at c2
  have HB2 := Lib.hid h2
  have HH2 := Lib.hid (h8.mono (show w.heap.size ≤ bb + 1 by omega))
  obtain ⟨q, c, hv, _, _⟩ := h8.form
  obtain ⟨n, hn⟩ : ∃ n, n = (putT t).length := ⟨_, rfl⟩
  rw [← hn] at hv
  subst hv
  clear h1 h2 h3 h4 h5 h7 h8 hn HV
  go_wp2_with fail
  go_ret2
  exact ⟨_, rfl, HH2.out, HB2.out⟩
set_option maxRecDepth 100000 in
theorem put_no (t : Tu) (ht : rightT t = false) (w : World) (hr : ResT w) : Calls Tryz.prog 16 #[tuV t] w fun e w' => e = .returned (.tuple #[.slice none 0 0, .bool false]) ∧ Below w.heap.size w w' := by
  have b0 : Below w.heap.size w (w.alloc (.cells (tc t).toArray 25)) := (Below.refl _ _).alloc (Nat.le_refl _) _
  have HB0 := Lib.hid b0
  have HA0 := Lib.hid (tu_new w t)
  have HR := Lib.hid (hr.below b0 hr.lt)
  have HY := Lib.hid ht
  clear b0 hr ht
  go_enter Tryz.func16, Tryz.ntmps16
  go_wp2_with ((with_reducible refine loadT (x := .tmp 1) (o := ⟨some _, _, _, _, _, _⟩) HA0.out ?_ ?_); exact ⟨rfl, rfl, rfl⟩)
  refine (right_any' t _ HR.out).mono ?_
  rintro e w1 ⟨rfl, b1⟩
  rw [HY.out]
  have HB1 := Lib.hid (HB0.out.trans (b1.mono HB0.out.size))
  clear b1
  go_wp2_with fail
  go_ret2
  exact ⟨rfl, HB1.out⟩
end Go.Proofs.YtnnebfcggdbgpaaGreatDoor
/-
  tuple.Parse.
-/
namespace Go.Proofs.YtnnebfcggdbgpaaGreatDoor
open Go.ChangeShapes Go.WideShapes Go.ChangeAt Go.RowKit
open errAs (ErrT)
set_option linter.unusedVariables false

set_option maxRecDepth 100000 in
theorem shift_F (c n m : Nat) (w : World) (hg : ErrT w) (hn : n ≤ 1000000000000) (hm : m ≤ 1000000000000) :
    Calls Tryz.prog 65 #[faultN c n, .int .i64 m] w fun e w' => e = .returned (faultN c (n + m)) ∧ Below w.heap.size w w' := by
  have HE := Lib.hid hg
  have h0 : -9223372036854775808 ≤ (n : Int) + m := by omega
  have h1 : (n : Int) + m ≤ 9223372036854775807 := by omega
  clear hg
  unfold faultN
  go_enter Tryz.func65, Tryz.ntmps65
  go_wp2_with fail
  refine (errAs.code_F c n _ HE.out).mono ?_
  rintro e w1 ⟨rfl, b1⟩
  have HE1 := Lib.hid (errT_below HE.out b1)
  have HB1 := Lib.hid b1
  clear b1
  go_wp2_with fail
  refine (errAs.at_F c n _ HE1.out).mono ?_
  rintro e w2 ⟨rfl, b2⟩
  have HB2 := Lib.hid (HB1.out.trans (b2.mono HB1.out.size))
  clear b2
  go_wp2_with fail
  refine (fnew_any _ _ _).mono ?_
  rintro e w3 ⟨rfl, rfl⟩
  go_wp2_with fail
  go_ret
  exact ⟨by rw [Int.natCast_add]; rfl, HB2.out⟩
theorem errOr_F {c n : Nat} (h : c ≠ 0) : errOr c n = .iface 141 (.agg #[.int .i64 c, .int .i64 n]) := by unfold errOr; rw [if_neg h]; rfl
theorem errOr_0 (n : Nat) : errOr 0 n = .nilIface := rfl
theorem parseW_1 {n : Nat} {f ob re sub us : ByteArray} {k1 k2 k3 : Bool} (h : k1 = false ∨ k2 = false) : parseW n f k1 ob re k2 sub us k3 = (t0, 6, n) := by unfold parseW; rw [if_pos h]
theorem parseW_2 {n : Nat} {f ob re sub us : ByteArray} {k3 : Bool} (h : (parseObj ob).2.2.1 ≠ 0) : parseW n f true ob re true sub us k3 = (t0, (parseObj ob).2.2.1, (parseObj ob).2.2.2) := by unfold parseW; rw [if_neg (by simp), if_pos h]
theorem parseW_3 {n : Nat} {f ob re sub us : ByteArray} {k3 : Bool} (h : (parseObj ob).2.2.1 = 0) (h2 : isName re = false) : parseW n f true ob re true sub us k3 = (t0, 5, ob.size + 1) := by unfold parseW; rw [if_neg (by simp), if_neg (by omega), if_pos h2]
theorem parseW_4 {n : Nat} {f ob re sub us : ByteArray} {k3 : Bool} (h : (parseObj ob).2.2.1 = 0) (h2 : isName re = true) (h3 : (parseObj sub).2.2.1 ≠ 0) : parseW n f true ob re true sub us k3 = (t0, (parseObj sub).2.2.1, (parseObj sub).2.2.2 + (f.size + 1)) := by
  unfold parseW; rw [if_neg (by simp), if_neg (by omega), if_neg (by rw [h2]; simp), if_pos h3]
theorem parseW_5 {n : Nat} {f ob re sub us : ByteArray} (h : (parseObj ob).2.2.1 = 0) (h2 : isName re = true) (h3 : (parseObj sub).2.2.1 = 0) (h4 : isName us = false) : parseW n f true ob re true sub us true = (t0, 5, f.size + 1 + sub.size + 1) := by
  unfold parseW; rw [if_neg (by simp), if_neg (by omega), if_neg (by rw [h2]; simp), if_neg (by omega), if_pos ⟨rfl, h4⟩]
theorem parseW_6 {n : Nat} {f ob re sub us : ByteArray} {k3 : Bool} (h : (parseObj ob).2.2.1 = 0) (h2 : isName re = true) (h3 : (parseObj sub).2.2.1 = 0) (h4 : ¬ (k3 = true ∧ isName us = false)) : parseW n f true ob re true sub us k3 = (⟨(parseObj ob).1, (parseObj ob).2.1, re, (parseObj sub).1, (parseObj sub).2.1, us⟩, 0, 0) := by
  unfold parseW; rw [if_neg (by simp), if_neg (by omega), if_neg (by rw [h2]; simp), if_neg (by omega), if_neg h4]
set_option maxRecDepth 100000 in
set_option maxHeartbeats 4000000 in
theorem tparse_any (s : ByteArray) (w : World) (h : Env w) (hs : s.size ≤ 1000000) : Calls Tryz.prog 19 #[.string s] w fun e w' => e = .returned (.tuple #[tuV (parseT s).1, errF (parseT s).2.1 (parseT s).2.2]) ∧ Below w.heap.size w w' := by
  have b0 : Below w.heap.size w (w.alloc (.cells (tc t0).toArray 25)) := (Below.refl _ _).alloc (Nat.le_refl _) _
  have HB0 := Lib.hid b0
  have HX0 := Lib.hid (tu_new w t0)
  have HE0 := Lib.hid (h.below b0)
  have hsz := Lib.hid hs
  obtain ⟨f, bk, k1, hc1⟩ : ∃ a b c, cut3 s atA = (a, b, c) := ⟨_, _, _, rfl⟩
  obtain ⟨ob, re, k2, hc2⟩ : ∃ a b c, cut3 f hashA = (a, b, c) := ⟨_, _, _, rfl⟩
  obtain ⟨sub, us, k3, hc3⟩ : ∃ a b c, cut3 bk hashA = (a, b, c) := ⟨_, _, _, rfl⟩
  have HP : Hid (parseT s = parseW s.size f k1 ob re k2 sub us k3) := by show _ = _; unfold parseT; rw [hc1]; simp only []; rw [hc2, hc3]
  have zf : f.size ≤ 1000000 := by have := cut_size s atA; rw [hc1] at this; simp only [] at this; omega
  have zb : bk.size ≤ 1000000 := by have := cut_size2 s atA; rw [hc1] at this; simp only [] at this; omega
  have zo : ob.size ≤ 1000000 := by have := cut_size f hashA; rw [hc2] at this; simp only [] at this; omega
  have zs : sub.size ≤ 1000000 := by have := cut_size bk hashA; rw [hc3] at this; simp only [] at this; omega
  have H1 := Lib.hid hc1
  have H2 := Lib.hid hc2
  have H3 := Lib.hid hc3
  have HZ := Lib.hid (And.intro zf (And.intro zb (And.intro zo zs)))
  clear hc1 hc2 hc3 zf zb zo zs h b0 hs
  go_enter Tryz.func19, Tryz.ntmps19
  have HC := Lib.hid (cut_any s atA _ HE0.out hsz.out)
  rw [H1.out] at HC
  go_wp2_with fail
  refine HC.out.mono ?_
  rintro e w' ⟨rfl, n1, rfl⟩
  have b1 := below_drewN (Below.refl (w.alloc (.cells (tc t0).toArray 25)).heap.size (w.alloc (.cells (tc t0).toArray 25))) n1
  have HB1 := Lib.hid (HB0.out.trans (b1.mono HB0.out.size))
  have HX1 := Lib.hid (HX0.out.later b1)
  have HE1 := Lib.hid (HE0.out.below b1)
  clear b1 HB0 HX0 HE0
  clear HC
  generalize (w.alloc (.cells (tc t0).toArray 25)).drewN n1 = w1 at HB1 HX1 HE1 ⊢
  have HC2 := Lib.hid (cut_any f hashA w1 HE1.out (HZ.out.1))
  rw [H2.out] at HC2
  go_wp2_with fail
  refine HC2.out.mono ?_
  rintro e w' ⟨rfl, n2, rfl⟩
  clear HC2
  have b2 := below_drewN (Below.refl w1.heap.size w1) n2
  have HB2 := Lib.hid (HB1.out.trans (b2.mono HB1.out.size))
  have HX2 := Lib.hid (HX1.out.later b2)
  have HE2 := Lib.hid (HE1.out.below b2)
  clear b2 HB1 HX1 HE1
  generalize w1.drewN n2 = w2 at HB2 HX2 HE2 ⊢
  by_cases hk : k1 = false ∨ k2 = false
  · have HR : Hid (parseT s = (t0, 6, s.size)) := by show _ = _; rw [HP.out]; exact parseW_1 hk
    have zss : (s.size : Int) ≤ 1000000 := by have := hsz.out; omega
    rcases Bool.eq_false_or_eq_true k1 with rfl | rfl
    · obtain rfl : k2 = false := hk.resolve_left (by simp)
      clear hk
      go_wp2_with fail
      refine (fnew_any _ _ _).mono ?_
      rintro e w3 ⟨rfl, hw3⟩
      subst hw3
      have hA := HX2.out
      go_wp2_with ((with_reducible refine storeT (x := .tmp 2) (y := .tmp 35) (u := t0) (o := ⟨none, .store _ _ _, _, _, _, _⟩) hA ?_ ?_); exact ⟨rfl, rfl, rfl, rfl⟩)
      refine bodyPost_ret (resT rfl (hA.row _) rfl) rfl ⟨?_, below_row HB2.out (Nat.le_refl _) _⟩
      rw [HR.out]; rfl
    · clear hk
      go_wp2_with fail
      refine (fnew_any _ _ _).mono ?_
      rintro e w3 ⟨rfl, hw3⟩
      subst hw3
      have hA := HX2.out
      go_wp2_with ((with_reducible refine storeT (x := .tmp 2) (y := .tmp 35) (u := t0) (o := ⟨none, .store _ _ _, _, _, _, _⟩) hA ?_ ?_); exact ⟨rfl, rfl, rfl, rfl⟩)
      refine bodyPost_ret (resT rfl (hA.row _) rfl) rfl ⟨?_, below_row HB2.out (Nat.le_refl _) _⟩
      rw [HR.out]; rfl
  · obtain rfl : k1 = true := by cases k1; exact absurd (.inl rfl) hk; rfl
    obtain rfl : k2 = true := by cases k2; exact absurd (.inr rfl) hk; rfl
    clear hk
    have HC3 := Lib.hid (cut_any bk hashA w2 HE2.out (HZ.out.2.1))
    rw [H3.out] at HC3
    go_wp2_with fail
    refine HC3.out.mono ?_
    rintro e w' ⟨rfl, n3, rfl⟩
    clear HC3
    have b3 := below_drewN (Below.refl w2.heap.size w2) n3
    have HB3 := Lib.hid (HB2.out.trans (b3.mono HB2.out.size))
    have HX3 := Lib.hid (HX2.out.later b3)
    have HE3 := Lib.hid (HE2.out.below b3)
    clear b3 HB2 HX2 HE2
    generalize w2.drewN n3 = w3 at HB3 HX3 HE3 ⊢
    have HO := Lib.hid (parseObj_any ob w3 HE3.out HZ.out.2.2.1)
    have HZO := Lib.hid (parseObj_at ob)
    obtain ⟨Q, hQ⟩ : ∃ Q, Q = parseObj ob := ⟨_, rfl⟩
    rw [← hQ] at HO HZO
    have HQ := Lib.hid hQ
    clear hQ
    obtain ⟨oa, oi, oc, on⟩ := Q
    go_wp2_with fail
    refine HO.out.mono ?_
    rintro e w4 ⟨rfl, b4⟩
    have HB4 := Lib.hid (HB3.out.trans (b4.mono HB3.out.size))
    have HX4 := Lib.hid (HX3.out.later b4)
    have HE4 := Lib.hid (HE3.out.below b4)
    clear b4 HB3 HX3 HE3
    clear HO
    have b5 : Below w4.heap.size w4 (w4.alloc (.cells #[.string oa, .string oi] 23)) := (Below.refl _ _).alloc (Nat.le_refl _) _
    have HO5 := Lib.hid (Arr.new' w4 23 #[.string oa, .string oi] _ rfl)
    have HB5 := Lib.hid (HB4.out.trans (b5.mono HB4.out.size))
    have HX5 := Lib.hid (HX4.out.later b5)
    have HE5 := Lib.hid (HE4.out.below b5)
    clear b5 HB4 HX4 HE4
    by_cases hoc : oc = 0
    · subst hoc
      rw [errOr_0]
      have HQ0 : Hid ((parseObj ob).2.2.1 = 0) := by show _ = _; rw [← HQ.out]
      go_upto_region 7 with fail
      generalize w4.alloc (.cells #[.string oa, .string oi] 23) = w5 at HB5 HX5 HE5 HO5 ⊢
      generalize w4.heap.size = g5 at HO5 ⊢
      go_wp2_with fail
      refine (isName_any re w5 HE5.out.1).mono ?_
      rintro e w6 ⟨rfl, b6⟩
      have HO6 := Lib.hid (HO5.out.later b6)
      have HB6 := Lib.hid (HB5.out.trans (b6.mono HB5.out.size))
      have HX6 := Lib.hid (HX5.out.later b6)
      have HE6 := Lib.hid (HE5.out.below b6)
      clear b6 HB5 HX5 HE5
      clear HO5
      cases hre : isName re with
      | false =>
        have HR : Hid (parseT s = (t0, 5, ob.size + 1)) := by show _ = _; rw [HP.out, parseW_3 HQ0.out hre]
        have zo : (ob.size : Int) ≤ 1000000 := by have := HZ.out.2.2.1; omega
        clear hre
        go_wp2_with fail
        refine (fnew_any _ _ _).mono ?_
        rintro e w7 ⟨rfl, hw7⟩
        subst hw7
        have hA := HX6.out
        go_wp2_with ((with_reducible refine storeT (x := .tmp 2) (y := .tmp 57) (u := t0) (o := ⟨none, .store _ _ _, _, _, _, _⟩) hA ?_ ?_); exact ⟨rfl, rfl, rfl, rfl⟩)
        refine bodyPost_ret (resT rfl (hA.row _) rfl) rfl ⟨?_, below_row HB6.out (Nat.le_refl _) _⟩
        rw [HR.out]; rfl
      | true =>
        have HRE := Lib.hid hre
        have zf : (f.size : Int) ≤ 1000000 := by have := HZ.out.1; omega
        clear hre
        have HU := Lib.hid (parseObj_any sub w6 HE6.out HZ.out.2.2.2)
        have HZU := Lib.hid (parseObj_at sub)
        obtain ⟨Q2, hQ2⟩ : ∃ Q, Q = parseObj sub := ⟨_, rfl⟩
        rw [← hQ2] at HU HZU
        have HQ2 := Lib.hid hQ2
        clear hQ2
        obtain ⟨ua, ui, uc, un⟩ := Q2
        go_wp2_with fail
        refine HU.out.mono ?_
        rintro e w7 ⟨rfl, b7⟩
        have HO7 := Lib.hid (HO6.out.later b7)
        have HB7 := Lib.hid (HB6.out.trans (b7.mono HB6.out.size))
        have HX7 := Lib.hid (HX6.out.later b7)
        have HE7 := Lib.hid (HE6.out.below b7)
        clear b7 HB6 HX6 HE6
        clear HU HO6
        have b8 : Below w7.heap.size w7 (w7.alloc (.cells #[.string ua, .string ui] 23)) := (Below.refl _ _).alloc (Nat.le_refl _) _
        have HU8 := Lib.hid (Arr.new' w7 23 #[.string ua, .string ui] _ rfl)
        have HO8 := Lib.hid (HO7.out.later b8)
        have HB8 := Lib.hid (HB7.out.trans (b8.mono HB7.out.size))
        have HX8 := Lib.hid (HX7.out.later b8)
        have HE8 := Lib.hid (HE7.out.below b8)
        clear b8 HB7 HX7 HE7
        clear HO7
        by_cases huc : uc = 0
        · subst huc
          rw [errOr_0]
          have HQ20 : Hid ((parseObj sub).2.2.1 = 0) := by show _ = _; rw [← HQ2.out]
          have HT : Hid ((⟨(parseObj ob).1, (parseObj ob).2.1, re, (parseObj sub).1, (parseObj sub).2.1, us⟩ : Tu) = ⟨oa, oi, re, ua, ui, us⟩) := by show _ = _; rw [← HQ.out, ← HQ2.out]
          go_upto_region 13 with fail
          generalize w7.alloc (.cells #[.string ua, .string ui] 23) = w8 at HB8 HX8 HE8 HU8 HO8 ⊢
          generalize w7.heap.size = g8 at HU8 ⊢
          cases k3 with
          | false =>
            have HR : Hid (parseT s = (⟨oa, oi, re, ua, ui, us⟩, 0, 0)) := by show _ = _; rw [HP.out, parseW_6 HQ0.out HRE.out HQ20.out (by rintro ⟨h, _⟩; cases h), HT.out]
            have o0 := HO8.out.cell 0
            have o1 := HO8.out.cell 1
            have u0 := HU8.out.cell 0
            have u1 := HU8.out.cell 1
            simp only [List.getElem?_cons_zero, List.getElem?_cons_succ] at o0 o1 u0 u1
            have hA := HX8.out
            go_wp2_with ((with_reducible refine storeT (x := .tmp 2) (y := .tmp 93) (u := ⟨oa, oi, re, ua, ui, us⟩) (o := ⟨none, .store _ _ _, _, _, _, _⟩) hA ?_ ?_); exact ⟨rfl, rfl, rfl, rfl⟩)
            refine bodyPost_ret (resT rfl (hA.row _) rfl) rfl ⟨?_, below_row HB8.out (Nat.le_refl _) _⟩
            rw [HR.out]; rfl
          | true =>
            go_wp2_with fail
            refine (isName_any us w8 HE8.out.1).mono ?_
            rintro e w9 ⟨rfl, b9⟩
            have HU9 := Lib.hid (HU8.out.later b9)
            have HO9 := Lib.hid (HO8.out.later b9)
            have HB9 := Lib.hid (HB8.out.trans (b9.mono HB8.out.size))
            have HX9 := Lib.hid (HX8.out.later b9)
            have HE9 := Lib.hid (HE8.out.below b9)
            clear b9 HB8 HX8 HE8
            clear HU8 HO8
            cases hus : isName us with
            | false =>
              have HR : Hid (parseT s = (t0, 5, f.size + 1 + sub.size + 1)) := by show _ = _; rw [HP.out, parseW_5 HQ0.out HRE.out HQ20.out hus]
              have zsu : (sub.size : Int) ≤ 1000000 := by have := HZ.out.2.2.2; omega
              clear hus
              go_wp2_with fail
              refine (fnew_any _ _ _).mono ?_
              rintro e w10 ⟨rfl, hw10⟩
              subst hw10
              have hA := HX9.out
              go_wp2_with ((with_reducible refine storeT (x := .tmp 2) (y := .tmp 82) (u := t0) (o := ⟨none, .store _ _ _, _, _, _, _⟩) hA ?_ ?_); exact ⟨rfl, rfl, rfl, rfl⟩)
              refine bodyPost_ret (resT rfl (hA.row _) rfl) rfl ⟨?_, below_row HB9.out (Nat.le_refl _) _⟩
              rw [HR.out]; rfl
            | true =>
              have HR : Hid (parseT s = (⟨oa, oi, re, ua, ui, us⟩, 0, 0)) := by show _ = _; rw [HP.out, parseW_6 HQ0.out HRE.out HQ20.out (by rintro ⟨_, h⟩; rw [hus] at h; cases h), HT.out]
              clear hus
              have o0 := HO9.out.cell 0
              have o1 := HO9.out.cell 1
              have u0 := HU9.out.cell 0
              have u1 := HU9.out.cell 1
              simp only [List.getElem?_cons_zero, List.getElem?_cons_succ] at o0 o1 u0 u1
              have hA := HX9.out
              go_wp2_with ((with_reducible refine storeT (x := .tmp 2) (y := .tmp 93) (u := ⟨oa, oi, re, ua, ui, us⟩) (o := ⟨none, .store _ _ _, _, _, _, _⟩) hA ?_ ?_); exact ⟨rfl, rfl, rfl, rfl⟩)
              refine bodyPost_ret (resT rfl (hA.row _) rfl) rfl ⟨?_, below_row HB9.out (Nat.le_refl _) _⟩
              rw [HR.out]; rfl
        · have HR : Hid (parseT s = (t0, uc, un + (f.size + 1))) := by show _ = _; rw [HP.out, parseW_4 HQ0.out HRE.out (by rw [← HQ2.out]; exact huc), ← HQ2.out]
          have hE := errOr_F (n := un) huc
          rw [hE]
          have hq := eqNF uc un
          have HOC := Lib.hid huc
          clear hE huc
          go_upto_region 13 with fail
          generalize w7.alloc (.cells #[.string ua, .string ui] 23) = w8 at HB8 HX8 HE8 HU8 HO8 ⊢
          have HSH := Lib.hid (shift_F uc un (f.size + 1) w8 HE8.out.2.1 (by have := HZU.out.1; have := HZ.out.2.2.2; omega) (by have := HZ.out.1; omega))
          unfold faultN at HSH
          rw [show ((f.size + 1 : Nat) : Int) = (f.size : Int) + 1 by omega] at HSH
          go_wp2_with fail
          refine HSH.out.mono ?_
          rintro e w9 ⟨rfl, b9⟩
          have HB9 := Lib.hid (HB8.out.trans (b9.mono HB8.out.size))
          have HX9 := Lib.hid (HX8.out.later b9)
          have HE9 := Lib.hid (HE8.out.below b9)
          clear b9 HB8 HX8 HE8
          clear HSH
          have hA := HX9.out
          go_wp2_with ((with_reducible refine storeT (x := .tmp 2) (y := .tmp 72) (u := t0) (o := ⟨none, .store _ _ _, _, _, _, _⟩) hA ?_ ?_); exact ⟨rfl, rfl, rfl, rfl⟩)
          refine bodyPost_ret (resT rfl (hA.row _) rfl) rfl ⟨?_, below_row HB9.out (Nat.le_refl _) _⟩
          rw [HR.out]
          show _ = Ending.returned (.tuple #[tuV t0, errF uc (un + (f.size + 1))])
          unfold errF
          rw [if_neg HOC.out]; rfl
    · have HR : Hid (parseT s = (t0, oc, on)) := by show _ = _; rw [HP.out, parseW_2 (by rw [← HQ.out]; exact hoc), ← HQ.out]
      have hE := errOr_F (n := on) hoc
      rw [hE]
      have hq := eqNF oc on
      have HOC := Lib.hid hoc
      clear hE hoc
      go_upto_region 7 with fail
      generalize w4.alloc (.cells #[.string oa, .string oi] 23) = w5 at HB5 HX5 HE5 HO5 ⊢
      have hA := HX5.out
      go_wp2_with ((with_reducible refine storeT (x := .tmp 2) (y := .tmp 52) (u := t0) (o := ⟨none, .store _ _ _, _, _, _, _⟩) hA ?_ ?_); exact ⟨rfl, rfl, rfl, rfl⟩)
      refine bodyPost_ret (resT rfl (hA.row _) rfl) rfl ⟨?_, below_row HB5.out (Nat.le_refl _) _⟩
      rw [HR.out]
      show _ = Ending.returned (.tuple #[tuV t0, errF oc on])
      unfold errF
      rw [if_neg HOC.out]; rfl
end Go.Proofs.YtnnebfcggdbgpaaGreatDoor
/-
  vestrylaw18.awake.
-/
namespace Go.Proofs.YtnnebfcggdbgpaaGreatDoor
open Go.ChangeShapes Go.WideShapes Go.ChangeAt Go.RowKit
open errAs (ErrT)
set_option linter.unusedVariables false

theorem eqW {ops : Array Oper} {rest : List Oper} {o : Oper} {a : Act} {Q : Exit → Act → World → Prop} {w : World} {x y : Operand} {u v : Tu} {r : Bool} {t : TypeId} (he : eqT u v = r) (hs : Region.wanted o (yielded ops a.tmps) = true ∧ o.op = .binOp .eql 25 x y t ∧ a.eval x = tuV u ∧ a.eval y = tuV v)
    (hk : wpList Tryz.prog ops Q rest (a.put o.dst (.bool r)) w) : wpList Tryz.prog ops Q (o :: rest) a w :=
  wpList_step fun K hK => by
    have hg : Tryz.prog.eqGuardType Tryz.prog.depth 25 = false := by kernel_rfl
    subst he
    rw [if_pos hs.1]
    unfold Oper.wp execOp
    simp only [hs.2.1, hs.2.2.1, hs.2.2.2, Sem.run_bind, run_eqGuard_agg (hm := hg), Result.andThen_ok, eqlT, Sem.run_pure]
    exact hK _ _ hk
theorem neW {ops : Array Oper} {rest : List Oper} {o : Oper} {a : Act} {Q : Exit → Act → World → Prop} {w : World} {x y : Operand} {u v : Tu} {r : Bool} {t : TypeId} (he : eqT u v = !r) (hs : Region.wanted o (yielded ops a.tmps) = true ∧ o.op = .binOp .neq 25 x y t ∧ a.eval x = tuV u ∧ a.eval y = tuV v)
    (hk : wpList Tryz.prog ops Q rest (a.put o.dst (.bool r)) w) : wpList Tryz.prog ops Q (o :: rest) a w :=
  wpList_step fun K hK => by
    have hg : Tryz.prog.eqGuardType Tryz.prog.depth 25 = false := by kernel_rfl
    rw [if_pos hs.1]
    unfold Oper.wp execOp
    simp only [hs.2.1, hs.2.2.1, hs.2.2.2, Sem.run_bind, run_eqGuard_agg (hm := hg), Result.andThen_ok, neqT, he, Bool.not_not, Sem.run_pure]
    exact hK _ _ hk
theorem loadX {ops : Array Oper} {rest : List Oper} {o : Oper} {a : Act} {Q : Exit → Act → World → Prop} {w : World} {g : Nat} {x : Operand} {k : TypeId} {t : Tu} (hA : Arr w k g (tc t)) (hs : Region.wanted o (yielded ops a.tmps) = true ∧ o.op = .load 25 x ∧ a.eval x = .pointer (some ⟨g, 0, none⟩))
    (hk : wpList Tryz.prog ops Q rest (a.put o.dst (.agg #[.string t.ot, .string t.oi, .string t.re, .string t.st, .string t.si, .string t.us])) w) : wpList Tryz.prog ops Q (o :: rest) a w := loadT hA hs hk
theorem sorted_two (t : Tu) : sortedT [t, t] = [t] := by
  have h : Ris [t] := List.pairwise_singleton _ _
  refine ris_ext (sorted_ris _) h fun x => ?_
  rw [sorted_mem]; simp
theorem TuSl.one {w : World} {v : Value} {t : Tu} (h : TuSl w v [t]) : ∃ b off c, v = .slice (some ⟨b, off, none⟩) 1 c := by
  rcases h with ⟨_, h⟩ | ⟨b, off, c, rfl, _⟩
  · cases h
  · exact ⟨b, off, c, rfl⟩
theorem rightT_t0 : rightT t0 = false := by decide +kernel
theorem awake_text : ∃ t, parseT ⟨#[100, 111, 99, 117, 109, 101, 110, 116, 58, 97, 35, 118, 105, 101, 119, 101, 114, 64, 103, 114, 111, 117, 112, 58, 98, 35, 109, 101, 109, 98, 101, 114]⟩ = (t, 0, 0) ∧ rightT t = true ∧ textT t = ⟨#[100, 111, 99, 117, 109, 101, 110, 116, 58, 97, 35, 118, 105, 101, 119, 101, 114, 64, 103, 114, 111, 117, 112, 58, 98, 35, 109, 101, 109, 98, 101, 114]⟩ ∧ t.us = ⟨#[109, 101, 109, 98, 101, 114]⟩ := by
  have h0 : (parseT ⟨#[100, 111, 99, 117, 109, 101, 110, 116, 58, 97, 35, 118, 105, 101, 119, 101, 114, 64, 103, 114, 111, 117, 112, 58, 98, 35, 109, 101, 109, 98, 101, 114]⟩).2.1 = 0 := by decide +kernel
  have hu : (parseT ⟨#[100, 111, 99, 117, 109, 101, 110, 116, 58, 97, 35, 118, 105, 101, 119, 101, 114, 64, 103, 114, 111, 117, 112, 58, 98, 35, 109, 101, 109, 98, 101, 114]⟩).1.us = ⟨#[109, 101, 109, 98, 101, 114]⟩ := by decide +kernel
  obtain ⟨h1, h2, h3⟩ := parseT_back h0
  exact ⟨_, Prod.ext rfl (Prod.ext h0 h3), h1, h2, hu⟩
theorem awake_fault : ∃ u, parseT ⟨#[97, 58, 98]⟩ = (u, 6, 3) := ⟨(parseT ⟨#[97, 58, 98]⟩).1, Prod.ext rfl (by decide +kernel)⟩
set_option maxRecDepth 100000 in
set_option maxHeartbeats 4000000 in
theorem tawake_any (w : World) (hE : Env w) : Calls Tryz.prog 13 #[] w fun e w' => e = .returned (.bool true) ∧ Below w.heap.size w w' := by
  obtain ⟨t, hp, hr, ht, hu⟩ := awake_text
  obtain ⟨u, hq⟩ := awake_fault
  have HE := Lib.hid hE
  have HR := Lib.hid hr
  have HQ := Lib.hid hq
  have HTX := Lib.hid ht
  have HU := Lib.hid hu
  have HP : Hid (Calls Tryz.prog 19 #[.string ⟨#[100, 111, 99, 117, 109, 101, 110, 116, 58, 97, 35, 118, 105, 101, 119, 101, 114, 64, 103, 114, 111, 117, 112, 58, 98, 35, 109, 101, 109, 98, 101, 114]⟩] w fun e w' => e = .returned (.tuple #[tuV t, .nilIface]) ∧ Below w.heap.size w w') := by
    have h := tparse_any ⟨#[100, 111, 99, 117, 109, 101, 110, 116, 58, 97, 35, 118, 105, 101, 119, 101, 114, 64, 103, 114, 111, 117, 112, 58, 98, 35, 109, 101, 109, 98, 101, 114]⟩ w hE (by decide)
    rw [hp] at h
    exact h
  clear hE hr hq ht hu hp
  go_enter Tryz.func13, Tryz.ntmps13
  go_wp2_with fail
  refine HP.out.mono ?_
  rintro e w1 ⟨rfl, b1⟩
  have hb2 : Below w1.heap.size w1 (w1.alloc (.cells (tc t).toArray 25)) := (Below.refl _ _).alloc (Nat.le_refl _) _
  have HB2 := Lib.hid (b1.trans (hb2.mono b1.size))
  have HE2 := Lib.hid ((HE.out.below b1).below hb2)
  have HA2 := Lib.hid (tu_new w1 t)
  clear b1 hb2 HP HE
  go_upto_region 3 with ((with_reducible refine atT w1.heap.size (x := .tmp 2) (y := .tmp 15) (u := t) (o := ⟨none, .store _ _ _, _, _, _, _⟩) ?_ ?_); exact ⟨rfl, rfl, rfl, rfl, rfl, rfl⟩)
  generalize w1.alloc (.cells (tc t).toArray 25) = w2 at HB2 HE2 HA2 ⊢
  generalize w1.heap.size = g2 at HA2 ⊢
  have HT := Lib.hid (text_yes t HR.out w2 HE2.out)
  rw [HTX.out] at HT
  go_wp2_with ((with_reducible refine loadT (x := .tmp 2) (u := t) (o := ⟨some 18, _, _, _, _, _⟩) HA2.out ?_ ?_); exact ⟨rfl, rfl, rfl⟩)
  refine HT.out.mono ?_
  rintro e w3 ⟨rfl, b3⟩
  have HB3 := Lib.hid (HB2.out.trans (b3.mono HB2.out.size))
  have HE3 := Lib.hid (HE2.out.below b3)
  have HA3 := Lib.hid (HA2.out.later b3)
  have HPU := Lib.hid (put_yes t HR.out w3 HE3.out.1)
  clear b3 HT HB2 HE2 HA2
  go_wp2_with ((with_reducible refine loadT (x := .tmp 2) (u := t) (o := ⟨some 23, _, _, _, _, _⟩) HA3.out ?_ ?_); exact ⟨rfl, rfl, rfl⟩)
  refine HPU.out.mono ?_
  rintro e w4 ⟨v, rfl, hh, b4⟩
  have HB4 := Lib.hid (HB3.out.trans (b4.mono HB3.out.size))
  have HE4 := Lib.hid (HE3.out.below b4)
  have HA4 := Lib.hid (HA3.out.later b4)
  have HPB : Hid (Calls Tryz.prog 20 #[v] w4 fun e w' => e = .returned (.tuple #[tuV t, .nilIface]) ∧ Below w4.heap.size w4 w') := by
    have h := tparseB_any hh.rd (Nat.le_refl _) (Nat.le_trans (putT_len HR.out) (by decide)) HE4.out
    rw [parseB_put HR.out] at h
    exact h
  obtain ⟨pv, cv, rfl⟩ := rd_form hh.rd
  clear hh b4 HPU HB3 HE3 HA3
  go_wp2_with fail
  refine HPB.out.mono ?_
  rintro e w5 ⟨rfl, b5⟩
  have hb6 : Below w5.heap.size w5 (w5.alloc (.cells (tc t).toArray 25)) := (Below.refl _ _).alloc (Nat.le_refl _) _
  have HB6 := Lib.hid ((HB4.out.trans (b5.mono HB4.out.size)).trans (hb6.mono (HB4.out.trans (b5.mono HB4.out.size)).size))
  have HE6 := Lib.hid ((HE4.out.below b5).below hb6)
  have HA6 := Lib.hid ((HA4.out.later b5).later hb6)
  have HX6 := Lib.hid (tu_new w5 t)
  clear b5 hb6 HPB HB4 HE4 HA4
  go_upto_region 6 with ((with_reducible refine atT w5.heap.size (x := .tmp 8) (y := .tmp 30) (u := t) (o := ⟨none, .store _ _ _, _, _, _, _⟩) ?_ ?_); exact ⟨rfl, rfl, rfl, rfl, rfl, rfl⟩)
  generalize w5.alloc (.cells (tc t).toArray 25) = w6 at HB6 HE6 HA6 HX6 ⊢
  generalize w5.heap.size = g6 at HX6 ⊢
  have HPC : Hid (Calls Tryz.prog 19 #[.string ⟨#[97, 58, 98]⟩] w6 fun e w' => e = .returned (.tuple #[tuV u, errF 6 3]) ∧ Below w6.heap.size w6 w') := by
    have h := tparse_any ⟨#[97, 58, 98]⟩ w6 HE6.out (by decide)
    rw [HQ.out] at h
    exact h
  go_wp2_with fail
  refine HPC.out.mono ?_
  rintro e w7 ⟨rfl, b7⟩
  have hb8 : Below w7.heap.size w7 (w7.alloc (.cells (tc u).toArray 25)) := (Below.refl _ _).alloc (Nat.le_refl _) _
  have HB8 := Lib.hid ((HB6.out.trans (b7.mono HB6.out.size)).trans (hb8.mono (HB6.out.trans (b7.mono HB6.out.size)).size))
  have HE8 := Lib.hid ((HE6.out.below b7).below hb8)
  have HA8 := Lib.hid ((HA6.out.later b7).later hb8)
  have HX8 := Lib.hid ((HX6.out.later b7).later hb8)
  clear b7 hb8 HPC HB6 HE6 HA6 HX6
  go_upto_region 7 with ((with_reducible refine atT w7.heap.size (x := .tmp 10) (y := .tmp 34) (u := u) (o := ⟨none, .store _ _ _, _, _, _, _⟩) ?_ ?_); exact ⟨rfl, rfl, rfl, rfl, rfl, rfl⟩)
  generalize w7.alloc (.cells (tc u).toArray 25) = w8 at HB8 HE8 HA8 HX8 ⊢
  generalize w7.heap.size = g7 at ⊢
  obtain ⟨_, _, _, _, _, c5⟩ := TuAt.cells HA8.out
  rw [HU.out] at c5
  have HTO := Lib.hid (told_any 6 3 w8 HE8.out.2.1)
  have hee : Hid (eqT t t = true) := eqT_refl t
  go_wp2_with (first
    | ((with_reducible refine loadT (x := .tmp 2) (u := t) (o := ⟨some 56, _, _, _, _, _⟩) HA8.out ?_ ?_); exact ⟨rfl, rfl, rfl⟩)
    | ((with_reducible refine loadT (x := .tmp 8) (u := t) (o := ⟨some 55, _, _, _, _, _⟩) HX8.out ?_ ?_); exact ⟨rfl, rfl, rfl⟩)
    | ((with_reducible refine eqW hee.out (t := 25) (x := .tmp 55) (y := .tmp 56) (o := ⟨some 57, _, _, _, _, _⟩) ?_ ?_); exact ⟨rfl, rfl, rfl, rfl⟩))
  refine HTO.out.mono ?_
  rintro e w9 ⟨rfl, b9⟩
  have HB9 := Lib.hid (HB8.out.trans (b9.mono HB8.out.size))
  have HE9 := Lib.hid (HE8.out.below b9)
  have HA9 := Lib.hid (HA8.out.later b9)
  have HRT := Lib.hid (right_any' t w9 HE9.out.1)
  rw [HR.out] at HRT
  clear b9 HTO HB8 HE8 HA8 HX8 c5
  go_wp2_with ((with_reducible refine loadT (x := .tmp 2) (u := t) (o := ⟨some 68, _, _, _, _, _⟩) HA9.out ?_ ?_); exact ⟨rfl, rfl, rfl⟩)
  refine HRT.out.mono ?_
  rintro e w10 ⟨rfl, b10⟩
  have HB10 := Lib.hid (HB9.out.trans (b10.mono HB9.out.size))
  have HE10 := Lib.hid (HE9.out.below b10)
  have HA10 := Lib.hid (HA9.out.later b10)
  have HR0 := Lib.hid (right_any' t0 w10 HE10.out.1)
  rw [rightT_t0] at HR0
  clear b10 HRT HB9 HE9 HA9
  go_wp2_with fail
  refine HR0.out.mono ?_
  rintro e w11 ⟨rfl, b11⟩
  have HB11 := Lib.hid (HB10.out.trans (b11.mono HB10.out.size))
  have HA11 := Lib.hid (HA10.out.later b11)
  have HCM := Lib.hid (tcompare_below t t w11)
  rw [ordT_self] at HCM
  clear b11 HR0 HB10 HE10 HA10
  go_wp2_with (first
    | ((with_reducible refine loadT (x := .tmp 2) (u := t) (o := ⟨some 77, _, _, _, _, _⟩) HA11.out ?_ ?_); exact ⟨rfl, rfl, rfl⟩)
    | ((with_reducible refine loadT (x := .tmp 2) (u := t) (o := ⟨some 78, _, _, _, _, _⟩) HA11.out ?_ ?_); exact ⟨rfl, rfl, rfl⟩))
  refine HCM.out.mono ?_
  rintro e w12 ⟨rfl, b12⟩
  have HB12 := Lib.hid (HB11.out.trans (b12.mono HB11.out.size))
  have HA12 := Lib.hid (HA11.out.later b12)
  clear b12 HCM HB11 HA11
  have hb13 : Below w12.heap.size w12 (w12.alloc (.cells #[.string t.ot, .string t.oi, .string t.re, .string t.st, .string t.si, .string t.us, .string t.ot, .string t.oi, .string t.re, .string t.st, .string t.si, .string t.us] 25)) := (Below.refl _ _).alloc (Nat.le_refl _) _
  have HSO : Hid (Calls Tryz.prog 32 #[.slice (some ⟨w12.heap.size, 0, none⟩) 2 2] (w12.alloc (.cells #[.string t.ot, .string t.oi, .string t.re, .string t.st, .string t.si, .string t.us, .string t.ot, .string t.oi, .string t.re, .string t.st, .string t.si, .string t.us] 25)) fun e w' => ∃ v', e = .returned v' ∧ Below (w12.alloc (.cells #[.string t.ot, .string t.oi, .string t.re, .string t.st, .string t.si, .string t.us, .string t.ot, .string t.oi, .string t.re, .string t.st, .string t.si, .string t.us] 25)).heap.size (w12.alloc (.cells #[.string t.ot, .string t.oi, .string t.re, .string t.st, .string t.si, .string t.us, .string t.ot, .string t.oi, .string t.re, .string t.st, .string t.si, .string t.us] 25)) w' ∧ TuSl w' v' [t]) := by
    have h := tsorted_any (w := w12.alloc (.cells #[.string t.ot, .string t.oi, .string t.re, .string t.st, .string t.si, .string t.us, .string t.ot, .string t.oi, .string t.re, .string t.st, .string t.si, .string t.us] 25)) (sv := .slice (some ⟨w12.heap.size, 0, none⟩) 2 2) (l := [t, t]) (.inr ⟨w12.heap.size, 0, 2, rfl, Nat.le_refl _, by simp, Arr.range (Arr.new' w12 25 _ _ rfl)⟩) (by show 2 ≤ 1000000; decide)
    rw [sorted_two] at h
    exact h
  have HB13 := Lib.hid (HB12.out.trans (hb13.mono HB12.out.size))
  clear hb13
  go_wp2_with (first
    | ((with_reducible refine loadX (x := .tmp 2) (t := t) (o := ⟨some 83, _, _, _, _, _⟩) HA12.out ?_ ?_); exact ⟨rfl, rfl, rfl⟩)
    | ((with_reducible refine loadX (x := .tmp 2) (t := t) (o := ⟨some 84, _, _, _, _, _⟩) HA12.out ?_ ?_); exact ⟨rfl, rfl, rfl⟩))
  refine HSO.out.mono ?_
  rintro e w14 ⟨v, rfl, b14, hsl⟩
  have HB14 := Lib.hid (HB13.out.trans (b14.mono HB13.out.size))
  obtain ⟨bb, oo, cc, rfl⟩ := hsl.one
  clear b14 hsl HSO HB13
  go_wp2_with fail
  go_ret
  exact ⟨rfl, HB14.out⟩
end Go.Proofs.YtnnebfcggdbgpaaGreatDoor
