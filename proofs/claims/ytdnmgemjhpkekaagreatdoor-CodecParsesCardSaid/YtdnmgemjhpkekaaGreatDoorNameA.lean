/-
  name.isSmall, set.has, consists, Reserved, Is, IsID, by plain functions on bytes.
-/
import Derived.Test.YtdnmgemjhpkekaaGreatDoorRows
import Derived.Test.YtdnmgemjhpkekaaGreatDoorPlain
import Derived.Test.YtdnmgemjhpkekaaGreatDoorShelf
import Derived.WalkKit
import Derived.ProofKit
import Derived.OpenShut
import Derived.Below
import Derived.Lib.Hide
import Derived.WalkLawsBesides
import Derived.WalkSpells
namespace Go.Proofs.YtdnmgemjhpkekaaGreatDoor
open Go.ChangeShapes Go.WideShapes Go.ChangeAt Go.RowKit
set_option linter.unusedVariables false

def smallB (c : UInt8) : Bool := decide (97 ≤ c.toNat ∧ c.toNat ≤ 122)
def digitB (c : UInt8) : Bool := decide (48 ≤ c.toNat ∧ c.toNat ≤ 57)
def upperB (c : UInt8) : Bool := decide (65 ≤ c.toNat ∧ c.toNat ≤ 90)
def hasB (cap : Bool) (signs : ByteArray) (c : UInt8) : Bool := if smallB c = true ∨ digitB c = true then true else if upperB c = true then cap else decide (0 ≤ Lib.indexByte signs.data.toList c)

theorem loopx (s : ByteArray) : ∀ (n i : Nat) (r : List UInt8), s.size - i = n → ByteArray.toList.loop s i r = r.reverse ++ s.data.toList.drop i
  | 0, i, r, h => by
    unfold ByteArray.toList.loop
    rw [if_neg (by omega), List.drop_eq_nil_of_le (by rw [Array.length_toList]; show s.size ≤ i; omega), List.append_nil]
  | n + 1, i, r, h => by
    unfold ByteArray.toList.loop
    have hi : i < s.size := by omega
    rw [if_pos hi, loopx s n (i + 1) _ (by omega)]
    rw [List.drop_eq_getElem_cons (i := i) (by rw [Array.length_toList]; exact hi)]
    rw [List.reverse_cons, List.append_assoc]
    congr 2
    show (s.get! i :: _) = _
    congr 1
    cases s with | mk d =>
    show d[i]! = d.toList[i]
    rw [getElem!_pos d i hi]; rfl
theorem toList_data (s : ByteArray) : s.toList = s.data.toList := by
  unfold ByteArray.toList
  rw [loopx s _ 0 [] rfl]; simp

theorem u8le (n : Nat) (c : UInt8) : decide ((n : Int) ≤ (c.toNat : Int)) = decide (n ≤ c.toNat) := by simp
theorem ret_b {a b : Bool} (h : a = b) : Ending.returned (.bool a) = .returned (.bool b) := by rw [h]

set_option maxRecDepth 100000 in
theorem small_any (c : UInt8) (w : World) : Calls Tryz.prog 92 #[.int .u8 c.toNat] w fun e w' => e = .returned (.bool (smallB c)) ∧ w = w' := by
  go_enter Tryz.func92, Tryz.ntmps92
  go_wp2_with fail
  all_goals
    go_ret
    refine ⟨ret_b ?_, rfl⟩
    unfold smallB
    rw [Bool.eq_iff_iff]
    simp only [decide_eq_true_eq, Bool.false_eq_true, false_iff]
    omega

theorem hasB_t {cap : Bool} {signs : ByteArray} {c : UInt8} (h : smallB c = true ∨ digitB c = true) : hasB cap signs c = true := if_pos h
theorem hasB_u {cap : Bool} {signs : ByteArray} {c : UInt8} (h : ¬ (smallB c = true ∨ digitB c = true)) (h2 : upperB c = true) : hasB cap signs c = cap := by unfold hasB; rw [if_neg h, if_pos h2]
theorem hasB_s {cap : Bool} {signs : ByteArray} {c : UInt8} (h : ¬ (smallB c = true ∨ digitB c = true)) (h2 : ¬ upperB c = true) : hasB cap signs c = decide (0 ≤ Lib.indexByte signs.data.toList c) := by unfold hasB; rw [if_neg h, if_neg h2]

set_option maxRecDepth 100000 in
theorem has_any (cap : Bool) (signs : ByteArray) (c : UInt8) (w : World) : Calls Tryz.prog 91 #[.agg #[.bool cap, .string signs], .int .u8 c.toNat] w fun e w' => e = .returned (.bool (hasB cap signs c)) ∧ Below w.heap.size w w' := by
  by_cases hs : smallB c = true
  · have H := Lib.hid (hasB_t (cap := cap) (signs := signs) (.inl hs))
    have HS := Lib.hid hs
    clear hs
    go_enter Tryz.func91, Tryz.ntmps91
    go_wp2_with fail
    refine (small_any c _).mono ?_
    rintro e w1 ⟨rfl, rfl⟩
    rw [HS.out]
    go_wp2_with fail
    go_ret
    exact ⟨by rw [H.out]; rfl, (Below.refl _ _).alloc (Nat.le_refl _) _⟩
  · have hs' : smallB c = false := by simpa using hs
    have HS := Lib.hid hs'
    by_cases hd : digitB c = true
    · have H := Lib.hid (hasB_t (cap := cap) (signs := signs) (.inr hd))
      have hd' : 48 ≤ c.toNat ∧ c.toNat ≤ 57 := of_decide_eq_true hd
      have d1 : (48 : Int) ≤ c.toNat := by omega
      have d2 : (c.toNat : Int) ≤ 57 := by omega
      clear hs hs' hd hd'
      go_enter Tryz.func91, Tryz.ntmps91
      go_wp2_with fail
      refine (small_any c _).mono ?_
      rintro e w1 ⟨rfl, rfl⟩
      rw [HS.out]
      go_wp2_with fail
      go_ret
      exact ⟨by rw [H.out]; rfl, (Below.refl _ _).alloc (Nat.le_refl _) _⟩
    · have hn : ¬ (smallB c = true ∨ digitB c = true) := fun h => h.elim hs hd
      have hd' : ¬ (48 ≤ c.toNat ∧ c.toNat ≤ 57) := fun h => hd (decide_eq_true h)
      by_cases hu : upperB c = true
      · have H := Lib.hid (hasB_u (cap := cap) (signs := signs) hn hu)
        have hu' : 65 ≤ c.toNat ∧ c.toNat ≤ 90 := of_decide_eq_true hu
        have d1 : (65 : Int) ≤ c.toNat := by omega
        have d2 : (c.toNat : Int) ≤ 90 := by omega
        have d3 : (48 : Int) ≤ c.toNat := by omega
        have d4 : ¬ (c.toNat : Int) ≤ 57 := by omega
        clear hs hs' hd hd' hu hu' hn
        go_enter Tryz.func91, Tryz.ntmps91
        go_wp2_with fail
        refine (small_any c _).mono ?_
        rintro e w1 ⟨rfl, rfl⟩
        rw [HS.out]
        go_wp2_with fail
        go_ret
        exact ⟨by rw [H.out]; rfl, (Below.refl _ _).alloc (Nat.le_refl _) _⟩
      · have H := Lib.hid (hasB_s (cap := cap) (signs := signs) hn hu)
        have hu' : ¬ (65 ≤ c.toNat ∧ c.toNat ≤ 90) := fun h => hu (decide_eq_true h)
        have HC := Lib.hid (fun w => Tryz.strings_IndexByte signs (c.toNat : Int) w)
        have HI : Hid (((c.toNat : Int)).toNat.toUInt8 = c) := by
          show UInt8.ofNat c.toNat = c
          rw [UInt8.ofNat_toNat]
        have HK : Hid (¬ (48 ≤ c.toNat ∧ c.toNat ≤ 57) ∧ ¬ (65 ≤ c.toNat ∧ c.toNat ≤ 90)) := ⟨hd', hu'⟩
        have hcases : (c.toNat : Int) < 48 ∨ ((57 : Int) < c.toNat ∧ (c.toNat : Int) < 65) ∨ (90 : Int) < c.toNat := by omega
        clear hs hs' hd hd' hu hu' hn
        rcases hcases with h1 | ⟨h1, h2⟩ | h1
        · have g1 : ¬ (48 : Int) ≤ c.toNat := by omega
          have g2 : ¬ (65 : Int) ≤ c.toNat := by omega
          go_enter Tryz.func91, Tryz.ntmps91
          go_wp2_with fail
          refine (small_any c _).mono ?_
          rintro e w1 ⟨rfl, rfl⟩
          rw [HS.out]
          go_wp2_with fail
          refine (HC.out _).mono ?_
          rintro e w2 ⟨rfl, hw⟩
          subst hw
          rw [HI.out]
          go_wp2_with fail
          go_ret
          exact ⟨by rw [H.out]; rfl, (Below.refl _ _).alloc (Nat.le_refl _) _⟩
        · have g1 : (48 : Int) ≤ c.toNat := by omega
          have g2 : ¬ (65 : Int) ≤ c.toNat := by omega
          have g3 : ¬ (c.toNat : Int) ≤ 57 := by omega
          go_enter Tryz.func91, Tryz.ntmps91
          go_wp2_with fail
          refine (small_any c _).mono ?_
          rintro e w1 ⟨rfl, rfl⟩
          rw [HS.out]
          go_wp2_with fail
          refine (HC.out _).mono ?_
          rintro e w2 ⟨rfl, hw⟩
          subst hw
          rw [HI.out]
          go_wp2_with fail
          go_ret
          exact ⟨by rw [H.out]; rfl, (Below.refl _ _).alloc (Nat.le_refl _) _⟩
        · have g1 : (48 : Int) ≤ c.toNat := by omega
          have g2 : (65 : Int) ≤ c.toNat := by omega
          have g3 : ¬ (c.toNat : Int) ≤ 57 := by omega
          have g4 : ¬ (c.toNat : Int) ≤ 90 := by omega
          go_enter Tryz.func91, Tryz.ntmps91
          go_wp2_with fail
          refine (small_any c _).mono ?_
          rintro e w1 ⟨rfl, rfl⟩
          rw [HS.out]
          go_wp2_with fail
          refine (HC.out _).mono ?_
          rintro e w2 ⟨rfl, hw⟩
          subst hw
          rw [HI.out]
          go_wp2_with fail
          go_ret
          exact ⟨by rw [H.out]; rfl, (Below.refl _ _).alloc (Nat.le_refl _) _⟩

/-- At least one byte, at most 'most', all of which are in the set. -/
def consB (cap : Bool) (signs : ByteArray) (most : Nat) (l : List UInt8) : Bool := decide (1 ≤ l.length ∧ l.length ≤ most ∧ ∀ c ∈ l, hasB cap signs c = true)

set_option maxRecDepth 100000 in
theorem cons_any (cap : Bool) (signs s : ByteArray) (most : Nat) (hm : most ≤ 1000) (w : World) : Calls Tryz.prog 90 #[.string s, .int .i64 most, .func (.func 91) #[.agg #[.bool cap, .string signs]] #[]] w fun e w' => e = .returned (.bool (consB cap signs most s.data.toList)) ∧ Below w.heap.size w w' := by
  have hsl : s.data.toList.length = s.size := by rw [Array.length_toList]; rfl
  by_cases h0 : s.size = 0
  · have hs : s = ⟨#[]⟩ := by
      cases s with | mk d => congr 1; exact Array.eq_empty_of_size_eq_zero h0
    subst hs
    go_enter Tryz.func90, Tryz.ntmps90
    go_wp2_with fail
    go_ret
    exact ⟨rfl, Below.refl _ _⟩
  · have hne : ¬ s.data.toList = [] := by intro h; rw [h] at hsl; simp at hsl; omega
    have he2 : ¬ s.toList = [] := by
      intro h
      have h2 := congrArg List.length h
      rw [toList_data] at h2
      exact hne (List.eq_nil_of_length_eq_zero (by simpa using h2))
    have he1 : s.toList.isEmpty = false := by
      cases h : s.toList with
      | nil => exact absurd h he2
      | cons a b => rfl
    have he0 : s.data.toList.isEmpty = false := by
      cases h : s.data.toList with
      | nil => exact absurd h hne
      | cons a b => rfl
    have HN := Lib.hid hne
    have HSL := Lib.hid hsl
    have hp : (0 : Int) < s.size := by omega
    clear hne hsl
    by_cases hb : most < s.size
    · have hb' : (most : Int) < s.size := by omega
      have H : Hid (consB cap signs most s.data.toList = false) := decide_eq_false (fun h => by have := HSL.out; omega)
      go_enter Tryz.func90, Tryz.ntmps90
      go_wp2_with fail
      go_ret
      exact ⟨by rw [H.out]; rfl, Below.refl _ _⟩
    · have hb' : ¬ (most : Int) < s.size := by omega
      have hsz : (s.size : Int) ≤ 1000 := by omega
      go_enter Tryz.func90, Tryz.ntmps90
      go_wp2_with fail
      go_loopw [18] (fun iv wr => ∃ k : Nat, k ≤ s.size ∧ iv = .int .i64 k ∧ Below w.heap.size w wr ∧ Hid (∀ j, j < k → hasB cap signs (s.data.toList.getD j 0) = true)) (fun iv _ => s.size - (intOf iv).toNat)
      case atStart => exact ⟨0, Nat.zero_le _, rfl, Below.refl _ _, fun j hj => by omega⟩
      case round =>
        obtain ⟨k, hk, rfl, B1, HP⟩ := hrel
        by_cases hlt : k < s.size
        · have hk0 : (0 : Int) ≤ k := by omega
          have hk1 : (k : Int) < s.size := by omega
          have hx : s[k] = s.data.toList.getD k 0 := by
            rw [List.getD_eq_getElem?_getD, List.getElem?_eq_getElem (by rw [HSL.out]; exact hlt)]; rfl
          have HX := Lib.hid hx
          clear hx
          go_wp2_with fail
          refine (has_any cap signs s[k] _).mono ?_
          rintro e w1 ⟨rfl, b1⟩
          have B2 := B1.trans (b1.mono B1.size)
          clear b1 B1
          by_cases hh : hasB cap signs s[k] = true
          · rw [hh]
            have HH := Lib.hid hh
            clear hh
            go_wp2_with fail
            go_roundw
            case rel =>
              refine ⟨k + 1, by omega, by go_num, B2, fun j hj => ?_⟩
              by_cases e : j = k
              · subst e; rw [← HX.out]; exact HH.out
              · exact HP.out j (by omega)
            case measure => simp [intOf]; omega
          · have hh' : hasB cap signs s[k] = false := by simpa using hh
            rw [hh']
            have H : Hid (consB cap signs most s.data.toList = false) := by
              refine decide_eq_false (fun h => ?_)
              have h1 := h.2.2 (s.data.toList.getD k 0) (by
                rw [List.getD_eq_getElem?_getD, List.getElem?_eq_getElem (by rw [HSL.out]; exact hlt)]
                exact List.getElem_mem _)
              rw [← HX.out] at h1
              exact hh h1
            clear hh hh'
            go_wp2_with fail
            go_ret
            exact ⟨by rw [H.out]; rfl, B2⟩
        · obtain rfl : k = s.size := by omega
          have H : Hid (consB cap signs most s.data.toList = true) := by
            refine decide_eq_true ⟨by have := HSL.out; omega, by have := HSL.out; omega, fun c hc => ?_⟩
            obtain ⟨j, hj, rfl⟩ := List.getElem_of_mem hc
            have h1 := HP.out j (by rw [← HSL.out]; exact hj)
            rw [List.getD_eq_getElem?_getD, List.getElem?_eq_getElem hj] at h1
            exact h1
          go_wp2_with fail
          go_ret
          exact ⟨by rw [H.out]; rfl, B1⟩
end Go.Proofs.YtdnmgemjhpkekaaGreatDoor
