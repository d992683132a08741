/-
  Tuples, their texts and their bytes; no program is spoken of.
-/
import Derived.Test.YtnnebfcggdbgpaaGreatDoorNumB
import Derived.Test.YtnnebfcggdbgpaaGreatDoorNameQ
import Derived.Test.YtnnebfcggdbgpaaGreatDoorConv
namespace Go.Proofs.YtnnebfcggdbgpaaGreatDoor
open Go.ChangeShapes Go.WideShapes Go.ChangeAt Go.RowKit
set_option linter.unusedVariables false

structure Tu where
  ot : ByteArray
  oi : ByteArray
  re : ByteArray
  st : ByteArray
  si : ByteArray
  us : ByteArray

def e0 : ByteArray := ⟨#[]⟩
def t0 : Tu := ⟨e0, e0, e0, e0, e0, e0⟩
def isUs (s : ByteArray) : Bool := decide (s = e0) || isName s
def rightT (t : Tu) : Bool := isName t.ot && (isId t.oi && (isName t.re && (isName t.st && (isId t.si && isUs t.us))))
theorem rightT_all {t : Tu} (h : rightT t = true) : isName t.ot = true ∧ isId t.oi = true ∧ isName t.re = true ∧ isName t.st = true ∧ isId t.si = true ∧ isUs t.us = true := by
  unfold rightT at h
  simp only [Bool.and_eq_true] at h
  exact h
theorem rightT_mk {t : Tu} (h : isName t.ot = true ∧ isId t.oi = true ∧ isName t.re = true ∧ isName t.st = true ∧ isId t.si = true ∧ isUs t.us = true) : rightT t = true := by
  unfold rightT
  simp only [Bool.and_eq_true]
  exact h
theorem consB_size {cap : Bool} {signs : ByteArray} {most : Nat} {s : ByteArray} (h : consB cap signs most s.data.toList = true) : s.size ≤ most ∧ ∀ c ∈ s.data.toList, hasB cap signs c = true := by
  have h := of_decide_eq_true h
  have hs : s.data.toList.length = s.size := by rw [Array.length_toList]; rfl
  exact ⟨by omega, h.2.2⟩
theorem name_size {s : ByteArray} (h : isName s = true) : s.size ≤ 64 := by
  unfold isName at h
  simp only [Bool.and_eq_true] at h
  exact (consB_size h.1.1).1
theorem id_size {s : ByteArray} (h : isId s = true) : s.size ≤ 128 := (consB_size h).1
theorem us_size {s : ByteArray} (h : isUs s = true) : s.size ≤ 64 := by
  unfold isUs at h
  simp only [Bool.or_eq_true, decide_eq_true_eq] at h
  rcases h with rfl | h
  · exact Nat.zero_le _
  · exact name_size h
theorem id_no {t : ByteArray} (h : isId t = true) (c : UInt8) (hc : hasB true ⟨#[95, 45, 46, 47, 61]⟩ c = false) : c ∉ t.data.toList := by
  intro hm
  have h1 := (consB_size h).2 c hm
  rw [hc] at h1; cases h1
theorem size_len (s : ByteArray) : s.data.toList.length = s.size := by rw [Array.length_toList]; rfl
theorem e0_iff (s : ByteArray) : s = e0 ↔ s.data.toList = [] := by
  constructor
  · rintro rfl; rfl
  · intro h; exact bytes_inj h

/-! ### texts -/
def usL (s : ByteArray) : List UInt8 := if s = e0 then [] else 35 :: s.data.toList
def frontL (t : Tu) : List UInt8 := t.ot.data.toList ++ 58 :: (t.oi.data.toList ++ 35 :: t.re.data.toList)
def backL (t : Tu) : List UInt8 := t.st.data.toList ++ 58 :: (t.si.data.toList ++ usL t.us)
def textL (t : Tu) : List UInt8 := frontL t ++ 64 :: backL t
def textT (t : Tu) : ByteArray := bstr (textL t)
def atA : ByteArray := ⟨#[64]⟩
def parseW (n : Nat) (f : ByteArray) (k1 : Bool) (ob re : ByteArray) (k2 : Bool) (sub us : ByteArray) (k3 : Bool) : Tu × Nat × Nat :=
  if k1 = false ∨ k2 = false then (t0, 6, n)
  else if (parseObj ob).2.2.1 ≠ 0 then (t0, (parseObj ob).2.2.1, (parseObj ob).2.2.2)
  else if isName re = false then (t0, 5, ob.size + 1)
  else if (parseObj sub).2.2.1 ≠ 0 then (t0, (parseObj sub).2.2.1, (parseObj sub).2.2.2 + (f.size + 1))
  else if k3 = true ∧ isName us = false then (t0, 5, f.size + 1 + sub.size + 1)
  else (⟨(parseObj ob).1, (parseObj ob).2.1, re, (parseObj sub).1, (parseObj sub).2.1, us⟩, 0, 0)
def parseT (s : ByteArray) : Tu × Nat × Nat :=
  parseW s.size (cut3 s atA).1 (cut3 s atA).2.2 (cut3 (cut3 s atA).1 hashA).1 (cut3 (cut3 s atA).1 hashA).2.1 (cut3 (cut3 s atA).1 hashA).2.2
    (cut3 (cut3 s atA).2.1 hashA).1 (cut3 (cut3 s atA).2.1 hashA).2.1 (cut3 (cut3 s atA).2.1 hashA).2.2
/-- A cut text is put together again. -/
theorem cut_back {s : ByteArray} {c : UInt8} (h : (cut3 s ⟨#[c]⟩).2.2 = true) : s.data.toList = (cut3 s ⟨#[c]⟩).1.data.toList ++ c :: (cut3 s ⟨#[c]⟩).2.1.data.toList := by
  have hs := size_len s
  rw [cut_fnd] at h ⊢
  by_cases hk : fnd s.data.toList c < s.size
  · rw [if_pos hk]
    have hc : (s.data.toList)[fnd s.data.toList c]'(by omega) = c := by
      have := List.findIdx_getElem (p := fun x => x == c) (xs := s.data.toList) (w := by show fnd s.data.toList c < _; omega)
      exact beq_iff_eq.1 this
    show s.data.toList = (bstr _).data.toList ++ c :: (bstr _).data.toList
    rw [bstr_data, bstr_data]
    conv => lhs; rw [← List.take_append_drop (fnd s.data.toList c) s.data.toList, List.drop_eq_getElem_cons (by omega), hc]
  · rw [if_neg hk] at h; cases h
theorem cut_none {s : ByteArray} {c : UInt8} (h : (cut3 s ⟨#[c]⟩).2.2 = false) : (cut3 s ⟨#[c]⟩).1 = s ∧ (cut3 s ⟨#[c]⟩).2.1 = e0 := by
  rw [cut_fnd] at h ⊢
  by_cases hk : fnd s.data.toList c < s.size
  · rw [if_pos hk] at h; cases h
  · rw [if_neg hk]; exact ⟨rfl, rfl⟩
theorem parseObj_back {s : ByteArray} (h : (parseObj s).2.2.1 = 0) : isName (parseObj s).1 = true ∧ isId (parseObj s).2.1 = true ∧ s.data.toList = (parseObj s).1.data.toList ++ 58 :: (parseObj s).2.1.data.toList := by
  unfold parseObj at h ⊢
  split at h
  · cases h
  · rename_i h1
    split at h
    · cases h
    · rename_i h2
      rw [if_neg h1, if_neg h2]
      have h1' : (cut3 s colonA).2.2 = true ∧ isName (cut3 s colonA).1 = true := by
        constructor
        · cases hb : (cut3 s colonA).2.2
          · exact absurd (.inl hb) h1
          · rfl
        · cases hb : isName (cut3 s colonA).1
          · exact absurd (.inr hb) h1
          · rfl
      exact ⟨h1'.2, by simpa using h2, cut_back (c := 58) h1'.1⟩
theorem parseObj_at (s : ByteArray) : (parseObj s).2.2.2 ≤ s.size + 1 ∧ ((parseObj s).2.2.1 = 0 ∨ (parseObj s).2.2.1 = 5) := by
  have := cut_size s colonA
  unfold parseObj
  split
  · exact ⟨Nat.zero_le _, .inr rfl⟩
  · split
    · exact ⟨by show (cut3 s colonA).1.size + 1 ≤ _; omega, .inr rfl⟩
    · exact ⟨Nat.zero_le _, .inl rfl⟩
theorem cut_size2 (s sep : ByteArray) : (cut3 s sep).2.1.size ≤ s.size := by
  show (Lib.cut s.data.toList sep.data.toList).2.1.toArray.size ≤ s.size
  rw [List.size_toArray]
  unfold Lib.cut
  split
  · simp only [List.length_drop, size_len]; omega
  · exact Nat.zero_le _
/-- What is read as a tuple is the text of the right tuple. -/
theorem parseT_back {s : ByteArray} (h : (parseT s).2.1 = 0) : rightT (parseT s).1 = true ∧ textT (parseT s).1 = s ∧ (parseT s).2.2 = 0 := by
  unfold parseT parseW at h ⊢
  obtain ⟨f, hf⟩ : ∃ f, f = (cut3 s atA).1 := ⟨_, rfl⟩
  obtain ⟨b, hb⟩ : ∃ b, b = (cut3 s atA).2.1 := ⟨_, rfl⟩
  rw [← hf, ← hb] at h ⊢
  split at h
  · cases h
  split at h
  · rename_i h1 h2; exact absurd h h2
  split at h
  · cases h
  split at h
  · rename_i h1 h2 h3 h4; exact absurd h h4
  split at h
  · cases h
  rename_i h1 h2 h3 h4 h5
  rw [if_neg h1, if_neg h2, if_neg h3, if_neg h4, if_neg h5]
  have k1 : (cut3 s atA).2.2 = true := by cases hx : (cut3 s atA).2.2 with | false => exact absurd (.inl hx) h1 | true => rfl
  have k2 : (cut3 f hashA).2.2 = true := by cases hx : (cut3 f hashA).2.2 with | false => exact absurd (.inr hx) h1 | true => rfl
  have c1 := cut_back (c := 64) k1
  have c2 := cut_back (c := 35) k2
  rw [show (⟨#[64]⟩ : ByteArray) = atA from rfl, ← hf, ← hb] at c1
  rw [show (⟨#[35]⟩ : ByteArray) = hashA from rfl] at c2
  obtain ⟨o1, o2, o3⟩ := parseObj_back (Classical.not_not.1 h2)
  obtain ⟨u1, u2, u3⟩ := parseObj_back (Classical.not_not.1 h4)
  have hre : isName (cut3 f hashA).2.1 = true := by simpa using h3
  have hus : isUs (cut3 b hashA).2.1 = true ∧ b.data.toList = (cut3 b hashA).1.data.toList ++ usL (cut3 b hashA).2.1 := by
    cases k3 : (cut3 b hashA).2.2 with
    | false =>
      obtain ⟨n1, n2⟩ := cut_none (c := 35) k3
      rw [show (⟨#[35]⟩ : ByteArray) = hashA from rfl] at n1 n2
      rw [n1, n2]
      exact ⟨rfl, by simp [usL]⟩
    | true =>
      have hn : isName (cut3 b hashA).2.1 = true := by
        cases hx : isName (cut3 b hashA).2.1 with
        | false => exact absurd ⟨k3, hx⟩ h5
        | true => rfl
      have c3 := cut_back (c := 35) k3
      rw [show (⟨#[35]⟩ : ByteArray) = hashA from rfl] at c3
      have hne : ¬ (cut3 b hashA).2.1 = e0 := by
        intro e; rw [e] at hn; exact absurd hn (by decide +kernel)
      refine ⟨by unfold isUs; rw [hn]; simp, ?_⟩
      unfold usL
      rw [if_neg hne]; exact c3
  refine ⟨rightT_mk ⟨o1, o2, hre, u1, u2, hus.1⟩, ?_, rfl⟩
  unfold textT
  apply bytes_inj
  rw [bstr_data, c1, c2, hus.2, o3, u3]
  simp [textL, frontL, backL]
theorem parseT_fail {s : ByteArray} (h : (parseT s).2.1 ≠ 0) : (parseT s).1 = t0 := by
  unfold parseT parseW at h ⊢
  split
  · rfl
  split
  · rfl
  split
  · rfl
  split
  · rfl
  split
  · rfl
  rename_i h1 h2 h3 h4 h5
  rw [if_neg h1, if_neg h2, if_neg h3, if_neg h4, if_neg h5] at h
  exact absurd rfl h
theorem parse_text {t : Tu} (h : rightT t = true) : parseT (textT t) = (t, 0, 0) := by
  obtain ⟨h1, h2, h3, h4, h5, h6⟩ := rightT_all h
  have e1 : textT t = bstr (frontL t) ++ ⟨#[64]⟩ ++ bstr (backL t) := bytes_inj (by unfold textT; rw [bstr_data]; simp [textL, bstr])
  have n1 : (64 : UInt8) ∉ (bstr (frontL t)).data.toList := by
    rw [bstr_data]
    unfold frontL
    simp only [List.mem_append, List.mem_cons, not_or]
    exact ⟨name_no h1 64 (by decide +kernel), by decide, id_no h2 64 (by decide +kernel), by decide, name_no h3 64 (by decide +kernel)⟩
  have c1 := cut_at 64 (bstr (frontL t)) (bstr (backL t)) n1
  rw [← e1] at c1
  have e2 : bstr (frontL t) = (t.ot ++ ⟨#[58]⟩ ++ t.oi) ++ ⟨#[35]⟩ ++ t.re := bytes_inj (by rw [bstr_data]; simp [frontL])
  have n2 : (35 : UInt8) ∉ (t.ot ++ ⟨#[58]⟩ ++ t.oi).data.toList := by
    rw [show (t.ot ++ ⟨#[58]⟩ ++ t.oi).data.toList = t.ot.data.toList ++ 58 :: t.oi.data.toList by simp]
    simp only [List.mem_append, List.mem_cons, not_or]
    exact ⟨name_no h1 35 (by decide +kernel), by decide, id_no h2 35 (by decide +kernel)⟩
  have c2 := cut_at 35 (t.ot ++ ⟨#[58]⟩ ++ t.oi) t.re n2
  rw [← e2] at c2
  have n3 : (35 : UInt8) ∉ (t.st ++ ⟨#[58]⟩ ++ t.si).data.toList := by
    rw [show (t.st ++ ⟨#[58]⟩ ++ t.si).data.toList = t.st.data.toList ++ 58 :: t.si.data.toList by simp]
    simp only [List.mem_append, List.mem_cons, not_or]
    exact ⟨name_no h4 35 (by decide +kernel), by decide, id_no h5 35 (by decide +kernel)⟩
  have c3 : ∃ k, cut3 (bstr (backL t)) ⟨#[35]⟩ = (t.st ++ ⟨#[58]⟩ ++ t.si, t.us, k) ∧ (k = true → isName t.us = true) := by
    by_cases hu : t.us = e0
    · have e3 : bstr (backL t) = t.st ++ ⟨#[58]⟩ ++ t.si := bytes_inj (by rw [bstr_data]; simp [backL, usL, hu])
      refine ⟨false, ?_, fun h => by cases h⟩
      rw [e3, hu]; exact cut_no 35 _ n3
    · have e3 : bstr (backL t) = (t.st ++ ⟨#[58]⟩ ++ t.si) ++ ⟨#[35]⟩ ++ t.us := bytes_inj (by rw [bstr_data]; simp [backL, usL, hu])
      refine ⟨true, ?_, fun _ => ?_⟩
      · rw [e3]; exact cut_at 35 _ _ n3
      · unfold isUs at h6
        simpa [hu] using h6
  obtain ⟨k, c3, hk⟩ := c3
  unfold parseT
  rw [show atA = ⟨#[64]⟩ from rfl, show hashA = ⟨#[35]⟩ from rfl, c1]
  simp only []
  rw [c2, c3]
  unfold parseW
  simp only [parse_obj t.ot t.oi h1 h2, parse_obj t.st t.si h4 h5]
  rw [if_neg (by simp), if_neg (by simp), if_neg (by simp [h3]), if_neg (by simp), if_neg (by rintro ⟨a, b⟩; rw [hk a] at b; cases b)]
theorem textT_len {t : Tu} (h : rightT t = true) : (textT t).size ≤ 520 := by
  obtain ⟨h1, h2, h3, h4, h5, h6⟩ := rightT_all h
  have a1 := name_size h1
  have a2 := id_size h2
  have a3 := name_size h3
  have a4 := name_size h4
  have a5 := id_size h5
  have a6 := us_size h6
  rw [← size_len]
  unfold textT
  rw [bstr_data]
  have hu : (usL t.us).length ≤ 1 + t.us.size := by
    unfold usL
    split
    · exact Nat.zero_le _
    · rw [List.length_cons, size_len]; omega
  simp only [textL, frontL, backL, List.length_append, List.length_cons, size_len]
  omega
theorem text_apart {a b : Tu} (ha : rightT a = true) (hb : rightT b = true) (h : textT a = textT b) : a = b := by
  have h1 := parse_text ha
  rw [h, parse_text hb] at h1
  exact (Prod.mk.inj h1).1.symm

/-! ### bytes -/
def putS (s : ByteArray) : List UInt8 := put s.size ++ s.data.toList
def putT (t : Tu) : List UInt8 := putS t.ot ++ (putS t.oi ++ (putS t.re ++ (putS t.st ++ (putS t.si ++ putS t.us))))
def partP (most : Nat) (r : List UInt8) : List UInt8 × Nat × Nat :=
  if (num r).2.2 ≠ 0 then ([], 0, (num r).2.2) else if most < (num r).1 then ([], 0, 15) else if r.length < (num r).2.1 + (num r).1 then ([], 0, 1)
  else ((r.drop (num r).2.1).take (num r).1, (num r).2.1 + (num r).1, 0)
theorem putS_len (s : ByteArray) (h : s.size < lim64) : (putS s).length ≤ 10 + s.size := by
  have := put_len10 h
  unfold putS
  rw [List.length_append, size_len]; omega
theorem part_put {most : Nat} {s : ByteArray} (r : List UInt8) (h : s.size ≤ most) (hm : most ≤ 1000) : partP most (putS s ++ r) = (s.data.toList, (putS s).length, 0) := by
  have hn := num_put (x := s.size) (by unfold lim64; omega) (s.data.toList ++ r)
  have e : putS s ++ r = put s.size ++ (s.data.toList ++ r) := by simp [putS]
  have hl := size_len s
  unfold partP
  rw [e, hn]
  simp only []
  rw [if_neg (by simp), if_neg (by omega), if_neg (by simp only [List.length_append, size_len]; omega)]
  rw [List.drop_left' rfl, List.take_left' hl]
  simp only [putS, List.length_append, size_len]
theorem part_back {most : Nat} {r : List UInt8} (h : (partP most r).2.2 = 0) : (partP most r).1.length ≤ most ∧ putS (str (partP most r).1) = r.take (partP most r).2.1 ∧ (partP most r).2.1 ≤ r.length ∧ (partP most r).2.1 = (putS (str (partP most r).1)).length := by
  unfold partP at h ⊢
  split at h
  · rename_i h1; exact absurd h h1
  split at h
  · cases h
  split at h
  · cases h
  rename_i h1 h2 h3
  rw [if_neg h1, if_neg h2, if_neg h3]
  have h1' := Classical.not_not.1 h1
  obtain ⟨b1, b2⟩ := num_back h1'
  obtain ⟨n, hn⟩ : ∃ n, n = (num r).1 := ⟨_, rfl⟩
  obtain ⟨k, hk⟩ : ∃ k, k = (num r).2.1 := ⟨_, rfl⟩
  rw [← hn] at h2 h3 b1 b2 ⊢
  rw [← hk] at h3 b1 b2 ⊢
  have hlen : ((r.drop k).take n).length = n := by rw [List.length_take, List.length_drop]; omega
  have e : putS (str ((r.drop k).take n)) = r.take (k + n) := by
    unfold putS
    rw [str_size, hlen, show (str ((r.drop k).take n)).data.toList = (r.drop k).take n from rfl, ← b1, List.take_add]
  refine ⟨by simp only []; omega, e, by simp only []; omega, ?_⟩
  simp only []
  rw [e, List.length_take]; omega
theorem partP_small (most : Nat) (r : List UInt8) : (partP most r).2.1 ≤ r.length := by
  by_cases h : (partP most r).2.2 = 0
  · exact (part_back h).2.2.1
  · unfold partP at h ⊢
    split
    · exact Nat.zero_le _
    split
    · exact Nat.zero_le _
    split
    · exact Nat.zero_le _
    rename_i h1 h2 h3
    rw [if_neg h1, if_neg h2, if_neg h3] at h
    exact absurd rfl h
theorem partP_bad {most : Nat} {r : List UInt8} (h : (partP most r).2.2 ≠ 0) : (partP most r).1 = [] ∧ (partP most r).2.1 = 0 := by
  unfold partP at h ⊢
  split
  · exact ⟨rfl, rfl⟩
  split
  · exact ⟨rfl, rfl⟩
  split
  · exact ⟨rfl, rfl⟩
  rename_i h1 h2 h3
  rw [if_neg h1, if_neg h2, if_neg h3] at h
  exact absurd rfl h

/-- The kinds of a tuple's parts: names, identifiers, sets of users. -/
def mostK (k : Nat) : Nat := if k = 1 then 128 else 64
def testK (k : Nat) (s : ByteArray) : Bool := if k = 0 then isName s else if k = 1 then isId s else isUs s
theorem testK_size {k : Nat} {s : ByteArray} (h : testK k s = true) : s.size ≤ mostK k := by
  unfold testK at h
  unfold mostK
  split at h
  · rw [if_neg (by omega)]; exact name_size h
  split at h
  · rename_i h1; rw [if_pos h1]; exact id_size h
  · rename_i h1; rw [if_neg h1]; exact us_size h
theorem mostK_le (k : Nat) : mostK k ≤ 128 := by unfold mostK; split <;> omega
def Tu.set (t : Tu) (i : Nat) (s : ByteArray) : Tu :=
  if i = 0 then { t with ot := s } else if i = 1 then { t with oi := s } else if i = 2 then { t with re := s } else if i = 3 then { t with st := s } else if i = 4 then { t with si := s } else { t with us := s }
theorem sets6 (a b c d e f : ByteArray) : ((((((t0.set 0 a).set 1 b).set 2 c).set 3 d).set 4 e).set 5 f) = ⟨a, b, c, d, e, f⟩ := by
  have h0 : t0.set 0 a = ⟨a, e0, e0, e0, e0, e0⟩ := rfl
  have h1 : (⟨a, e0, e0, e0, e0, e0⟩ : Tu).set 1 b = ⟨a, b, e0, e0, e0, e0⟩ := rfl
  have h2 : (⟨a, b, e0, e0, e0, e0⟩ : Tu).set 2 c = ⟨a, b, c, e0, e0, e0⟩ := rfl
  have h3 : (⟨a, b, c, e0, e0, e0⟩ : Tu).set 3 d = ⟨a, b, c, d, e0, e0⟩ := rfl
  have h4 : (⟨a, b, c, d, e0, e0⟩ : Tu).set 4 e = ⟨a, b, c, d, e, e0⟩ := rfl
  have h5 : (⟨a, b, c, d, e, e0⟩ : Tu).set 5 f = ⟨a, b, c, d, e, f⟩ := rfl
  rw [h0, h1, h2, h3, h4, h5]
/-- One part is read: the tuple so far, where the bytes have been read to, the code of the error. -/
def stepR (b : List UInt8) (k i : Nat) (S : Tu × Nat × Nat) : Tu × Nat × Nat :=
  if S.2.2 ≠ 0 then S
  else if (partP (mostK k) (b.drop S.2.1)).2.2 ≠ 0 then (S.1, S.2.1, (partP (mostK k) (b.drop S.2.1)).2.2)
  else if testK k (str (partP (mostK k) (b.drop S.2.1)).1) = false then (S.1, S.2.1, 5)
  else (S.1.set i (str (partP (mostK k) (b.drop S.2.1)).1), S.2.1 + (partP (mostK k) (b.drop S.2.1)).2.1, 0)
theorem stepR_stop {b : List UInt8} {k i : Nat} {S : Tu × Nat × Nat} (h : S.2.2 ≠ 0) : stepR b k i S = S := by unfold stepR; rw [if_pos h]
theorem stepR_bad {b : List UInt8} {k i : Nat} {S : Tu × Nat × Nat} (h : S.2.2 = 0) (h2 : (partP (mostK k) (b.drop S.2.1)).2.2 ≠ 0) : stepR b k i S = (S.1, S.2.1, (partP (mostK k) (b.drop S.2.1)).2.2) := by
  unfold stepR; rw [if_neg (by omega), if_pos h2]
theorem stepR_name {b : List UInt8} {k i : Nat} {S : Tu × Nat × Nat} (h : S.2.2 = 0) (h2 : (partP (mostK k) (b.drop S.2.1)).2.2 = 0) (h3 : testK k (str (partP (mostK k) (b.drop S.2.1)).1) = false) : stepR b k i S = (S.1, S.2.1, 5) := by
  unfold stepR; rw [if_neg (by omega), if_neg (by omega), if_pos h3]
theorem stepR_yes {b : List UInt8} {k i : Nat} {S : Tu × Nat × Nat} (h : S.2.2 = 0) (h2 : (partP (mostK k) (b.drop S.2.1)).2.2 = 0) (h3 : testK k (str (partP (mostK k) (b.drop S.2.1)).1) = true) :
    stepR b k i S = (S.1.set i (str (partP (mostK k) (b.drop S.2.1)).1), S.2.1 + (partP (mostK k) (b.drop S.2.1)).2.1, 0) := by
  unfold stepR; rw [if_neg (by omega), if_neg (by omega), if_neg (by rw [h3]; simp)]
theorem stepR_at {b : List UInt8} {k i : Nat} {S : Tu × Nat × Nat} (h : S.2.1 ≤ b.length) : S.2.1 ≤ (stepR b k i S).2.1 ∧ (stepR b k i S).2.1 ≤ b.length := by
  have hp := partP_small (mostK k) (b.drop S.2.1)
  rw [List.length_drop] at hp
  unfold stepR
  split
  · exact ⟨Nat.le_refl _, h⟩
  split
  · exact ⟨Nat.le_refl _, h⟩
  split
  · exact ⟨Nat.le_refl _, h⟩
  · exact ⟨Nat.le_add_right _ _, by simp only []; omega⟩
/-- A step without an error read a right part. -/
theorem stepR_back {b : List UInt8} {k i : Nat} {S : Tu × Nat × Nat} (h : (stepR b k i S).2.2 = 0) :
    ∃ s, testK k s = true ∧ S.2.2 = 0 ∧ stepR b k i S = (S.1.set i s, S.2.1 + (putS s).length, 0) ∧ b.drop S.2.1 = putS s ++ b.drop (S.2.1 + (putS s).length) := by
  by_cases h0 : S.2.2 = 0
  · by_cases h2 : (partP (mostK k) (b.drop S.2.1)).2.2 = 0
    · cases h3 : testK k (str (partP (mostK k) (b.drop S.2.1)).1) with
      | false => rw [stepR_name h0 h2 h3] at h; cases h
      | true =>
        obtain ⟨p1, p2, p3, p4⟩ := part_back h2
        refine ⟨_, h3, h0, ?_, ?_⟩
        · rw [stepR_yes h0 h2 h3, p4]
        · rw [← p4, p2, ← List.drop_drop, List.take_append_drop]
    · rw [stepR_bad h0 h2] at h; exact absurd h h2
  · rw [stepR_stop h0] at h; exact absurd h h0
theorem stepR_put {b r : List UInt8} {k i at' : Nat} {t : Tu} {s : ByteArray} (hs : testK k s = true) (h : b.drop at' = putS s ++ r) : stepR b k i (t, at', 0) = (t.set i s, at' + (putS s).length, 0) := by
  have hp := part_put r (testK_size hs) (by have := mostK_le k; omega)
  have e : str s.data.toList = s := rfl
  have h2 : partP (mostK k) (b.drop at') = (s.data.toList, (putS s).length, 0) := by rw [h]; exact hp
  have := stepR_yes (b := b) (k := k) (i := i) (S := (t, at', 0)) rfl (by show (partP (mostK k) (b.drop at')).2.2 = 0; rw [h2]) (by show testK k (str (partP (mostK k) (b.drop at')).1) = true; rw [h2]; exact hs)
  rw [this]
  show (t.set i (str (partP (mostK k) (b.drop at')).1), at' + (partP (mostK k) (b.drop at')).2.1, 0) = _
  rw [h2]; rfl
def readS (b : List UInt8) (at' : Nat) : Tu × Nat × Nat := stepR b 2 5 (stepR b 1 4 (stepR b 0 3 (stepR b 0 2 (stepR b 1 1 (stepR b 0 0 (t0, at', 0))))))
def readT (b : List UInt8) (at' : Nat) : Tu × Nat × Nat := if (readS b at').2.2 = 0 then readS b at' else (t0, (readS b at').2.1, (readS b at').2.2)
theorem readT_fail {b : List UInt8} {at' : Nat} (h : (readT b at').2.2 ≠ 0) : (readT b at').1 = t0 := by
  unfold readT at h ⊢
  split
  · rename_i h1; rw [if_pos h1] at h; exact absurd h1 h
  · rfl
theorem readT_code (b : List UInt8) (at' : Nat) : (readT b at').2 = (readS b at').2 := by
  unfold readT
  generalize readS b at' = R
  split <;> rfl
theorem readT_at {b : List UInt8} {at' : Nat} (h : at' ≤ b.length) : at' ≤ (readT b at').2.1 ∧ (readT b at').2.1 ≤ b.length := by
  rw [readT_code]
  have s0 := stepR_at (b := b) (k := 0) (i := 0) (S := (t0, at', 0)) h
  have s1 := stepR_at (k := 1) (i := 1) s0.2
  have s2 := stepR_at (k := 0) (i := 2) s1.2
  have s3 := stepR_at (k := 0) (i := 3) s2.2
  have s4 := stepR_at (k := 1) (i := 4) s3.2
  have s5 := stepR_at (k := 2) (i := 5) s4.2
  unfold readS
  refine ⟨?_, s5.2⟩
  have := s0.1
  simp only [] at this
  omega
theorem read_put {t : Tu} (h : rightT t = true) {b r : List UInt8} {at' : Nat} (hb : b.drop at' = putT t ++ r) : readT b at' = (t, at' + (putT t).length, 0) := by
  obtain ⟨h1, h2, h3, h4, h5, h6⟩ := rightT_all h
  have key : ∀ (s : ByteArray) (q : List UInt8) (n : Nat), b.drop n = putS s ++ q → b.drop (n + (putS s).length) = q := by
    intro s q n e
    rw [← List.drop_drop, e, List.drop_left' rfl]
  unfold putT at hb
  simp only [List.append_assoc] at hb
  have q0 := key _ _ _ hb
  have q1 := key _ _ _ q0
  have q2 := key _ _ _ q1
  have q3 := key _ _ _ q2
  have q4 := key _ _ _ q3
  have e : readS b at' = (t, at' + (putT t).length, 0) := by
    unfold readS
    rw [stepR_put (k := 0) h1 hb, stepR_put (k := 1) h2 q0, stepR_put (k := 0) h3 q1, stepR_put (k := 0) h4 q2, stepR_put (k := 1) h5 q3, stepR_put (k := 2) h6 q4]
    refine Prod.ext ?_ (Prod.ext ?_ rfl)
    · rw [sets6]
    · simp only [putT, List.length_append]; omega
  unfold readT
  rw [e, if_pos rfl]
theorem read_back {b : List UInt8} {at' : Nat} (h : (readT b at').2.2 = 0) : rightT (readT b at').1 = true ∧ (readT b at').2.1 = at' + (putT (readT b at').1).length ∧ b.drop at' = putT (readT b at').1 ++ b.drop (readT b at').2.1 := by
  have hc := readT_code b at'
  have hs : (readS b at').2.2 = 0 := by rw [← hc]; exact h
  have e : readT b at' = readS b at' := by unfold readT; rw [if_pos hs]
  rw [e]
  unfold readS at hs ⊢
  obtain ⟨s5, t5, z5, e5, d5⟩ := stepR_back hs
  obtain ⟨s4, t4, z4, e4, d4⟩ := stepR_back z5
  obtain ⟨s3, t3, z3, e3, d3⟩ := stepR_back z4
  obtain ⟨s2, t2, z2, e2, d2⟩ := stepR_back z3
  obtain ⟨s1, t1, z1, e1, d1⟩ := stepR_back z2
  obtain ⟨s0, t0', z0, e0', d0⟩ := stepR_back z1
  rw [e5]
  rw [e4] at d5 ⊢
  rw [e3] at d4 d5 ⊢
  rw [e2] at d3 d4 d5 ⊢
  rw [e1] at d2 d3 d4 d5 ⊢
  rw [e0'] at d1 d2 d3 d4 d5 ⊢
  simp only [] at d0 d1 d2 d3 d4 d5 ⊢
  rw [sets6]
  refine ⟨rightT_mk ⟨t0', t1, t2, t3, t4, t5⟩, ?_, ?_⟩
  · simp only [putT, List.length_append]; omega
  · rw [d0, d1, d2, d3, d4, d5]
    simp only [putT, List.append_assoc]
def endB (n : Nat) (R : Tu × Nat × Nat) : Tu × Nat × Nat := if R.2.2 ≠ 0 then (t0, R.2.2, R.2.1) else if R.2.1 < n then (t0, 16, R.2.1) else (R.1, 0, 0)
def parseB (b : List UInt8) : Tu × Nat × Nat := endB b.length (readT b 0)
theorem endB_bad {n : Nat} {R : Tu × Nat × Nat} (h : R.2.2 ≠ 0) : endB n R = (t0, R.2.2, R.2.1) := by unfold endB; rw [if_pos h]
theorem endB_long {n : Nat} {R : Tu × Nat × Nat} (h : R.2.2 = 0) (h2 : R.2.1 < n) : endB n R = (t0, 16, R.2.1) := by unfold endB; rw [if_neg (by omega), if_pos h2]
theorem endB_yes {n : Nat} {R : Tu × Nat × Nat} (h : R.2.2 = 0) (h2 : ¬ R.2.1 < n) : endB n R = (R.1, 0, 0) := by unfold endB; rw [if_neg (by omega), if_neg h2]
theorem endB_back {n : Nat} {R : Tu × Nat × Nat} (h : (endB n R).2.1 = 0) : R.2.2 = 0 ∧ ¬ R.2.1 < n ∧ endB n R = (R.1, 0, 0) := by
  by_cases h1 : R.2.2 = 0
  · by_cases h2 : R.2.1 < n
    · rw [endB_long h1 h2] at h; cases h
    · exact ⟨h1, h2, endB_yes h1 h2⟩
  · rw [endB_bad h1] at h; exact absurd h h1
theorem endB_fail {n : Nat} {R : Tu × Nat × Nat} (h : (endB n R).2.1 ≠ 0) : (endB n R).1 = t0 := by
  by_cases h1 : R.2.2 = 0
  · by_cases h2 : R.2.1 < n
    · rw [endB_long h1 h2]
    · rw [endB_yes h1 h2] at h; exact absurd rfl h
  · rw [endB_bad h1]
theorem parseB_put {t : Tu} (h : rightT t = true) : parseB (putT t) = (t, 0, 0) := by
  have := read_put h (b := putT t) (r := []) (at' := 0) (by simp)
  show endB (putT t).length (readT (putT t) 0) = _
  rw [this]
  exact endB_yes rfl (by simp)
theorem parseB_back {b : List UInt8} (h : (parseB b).2.1 = 0) : rightT (parseB b).1 = true ∧ putT (parseB b).1 = b ∧ (parseB b).2.2 = 0 := by
  have e : parseB b = endB b.length (readT b 0) := rfl
  obtain ⟨R, hR⟩ : ∃ R, R = readT b 0 := ⟨_, rfl⟩
  rw [e, ← hR] at h ⊢
  obtain ⟨h1, h2, h3⟩ := endB_back h
  have hb := read_back (b := b) (at' := 0) (by rw [← hR]; exact h1)
  rw [← hR] at hb
  obtain ⟨r1, r2, r3⟩ := hb
  rw [h3]
  refine ⟨r1, ?_, rfl⟩
  rw [List.drop_zero] at r3
  have : b.drop R.2.1 = [] := List.drop_eq_nil_of_le (by omega)
  rw [this, List.append_nil] at r3
  exact r3.symm
theorem parseB_fail {b : List UInt8} (h : (parseB b).2.1 ≠ 0) : (parseB b).1 = t0 := by
  have e : parseB b = endB b.length (readT b 0) := rfl
  obtain ⟨R, hR⟩ : ∃ R, R = readT b 0 := ⟨_, rfl⟩
  rw [e, ← hR] at h ⊢
  exact endB_fail h
theorem put_apart {a b : Tu} (ha : rightT a = true) (hb : rightT b = true) (h : putT a = putT b) : a = b := by
  have h1 := parseB_put ha
  rw [h, parseB_put hb] at h1
  exact (Prod.mk.inj h1).1.symm
theorem putT_len {t : Tu} (h : rightT t = true) : (putT t).length ≤ 600 := by
  obtain ⟨h1, h2, h3, h4, h5, h6⟩ := rightT_all h
  have a1 := name_size h1
  have a2 := id_size h2
  have a3 := name_size h3
  have a4 := name_size h4
  have a5 := id_size h5
  have a6 := us_size h6
  have b1 := putS_len t.ot (by unfold lim64; omega)
  have b2 := putS_len t.oi (by unfold lim64; omega)
  have b3 := putS_len t.re (by unfold lim64; omega)
  have b4 := putS_len t.st (by unfold lim64; omega)
  have b5 := putS_len t.si (by unfold lim64; omega)
  have b6 := putS_len t.us (by unfold lim64; omega)
  simp only [putT, List.length_append]
  omega
/-- Are two tuples the same? -/
def eqT (a b : Tu) : Bool := decide (a.ot = b.ot) && (decide (a.oi = b.oi) && (decide (a.re = b.re) && (decide (a.st = b.st) && (decide (a.si = b.si) && decide (a.us = b.us)))))
theorem eqT_iff (a b : Tu) : eqT a b = true ↔ a = b := by
  cases a; cases b
  simp [eqT]
theorem eqT_refl (a : Tu) : eqT a a = true := (eqT_iff a a).2 rfl
end Go.Proofs.YtnnebfcggdbgpaaGreatDoor
