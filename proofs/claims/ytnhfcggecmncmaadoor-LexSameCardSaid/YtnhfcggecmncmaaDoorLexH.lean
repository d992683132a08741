/-
  lex.Line and vestryref09.Line.
-/
import Derived.Test.YtnhfcggecmncmaaDoorLexG
namespace Go.Proofs.YtnhfcggecmncmaaDoor
open Go.ChangeShapes Go.WideShapes Go.ChangeAt Go.RowKit
set_option linter.unusedVariables false

def stepL (p : Nat × Nat) (c : UInt8) : Nat × Nat := if c = 10 then (p.1 + 1, 1) else (p.1, p.2 + 1)
def lnF (m : List UInt8) : Nat × Nat := m.foldl stepL (1, 1)
theorem lnF_snoc (m : List UInt8) (c : UInt8) : lnF (m ++ [c]) = stepL (lnF m) c := by unfold lnF; rw [List.foldl_append]; rfl
theorem foldl_none : ∀ (m : List UInt8) (p : Nat × Nat), (∀ c ∈ m, c ≠ 10) → m.foldl stepL p = (p.1, p.2 + m.length)
  | [], p, _ => rfl
  | c :: r, p, h => by
    rw [List.foldl_cons, show stepL p c = (p.1, p.2 + 1) from if_neg (h c (List.mem_cons_self)), foldl_none r _ (fun x hx => h x (List.mem_cons_of_mem _ hx))]
    simp; omega
theorem foldl_fst : ∀ (m : List UInt8) (p : Nat × Nat), (m.foldl stepL p).1 = p.1 + m.count 10
  | [], p => by simp
  | c :: r, p => by
    rw [List.foldl_cons, foldl_fst r, List.count_cons]
    unfold stepL
    by_cases h : c = 10
    · subst h; simp; omega
    · simp [h]
theorem lnF_none {m : List UInt8} (h : ∀ j, j < m.length → m.getD j 0 ≠ 10) : lnF m = (m.count 10 + 1, m.length + 1) := by
  have h2 : ∀ c ∈ m, c ≠ 10 := fun c hc => by
    obtain ⟨j, hj, rfl⟩ := List.getElem_of_mem hc
    have := h j hj
    simpa [List.getD_eq_getElem?_getD, hj] using this
  have h3 := foldl_fst m (1, 1)
  unfold lnF
  rw [foldl_none m _ h2] at h3 ⊢
  simp only at h3 ⊢
  rw [show m.count 10 + 1 = 1 by omega, Nat.add_comm]
theorem lnF_some {m : List UInt8} {i : Nat} (hi : i < m.length) (h1 : m.getD i 0 = 10) (h : ∀ j, i < j → j < m.length → m.getD j 0 ≠ 10) : lnF m = (m.count 10 + 1, m.length - i) := by
  have e : m = m.take i ++ (10 :: m.drop (i + 1)) := by
    conv => lhs; rw [← List.take_append_drop i m]
    rw [drop_cons' hi, h1]
  have h2 : ∀ c ∈ m.drop (i + 1), c ≠ 10 := fun c hc => by
    obtain ⟨j, hj, rfl⟩ := List.getElem_of_mem hc
    rw [List.length_drop] at hj
    have := h (i + 1 + j) (by omega) (by omega)
    rw [List.getElem_drop]
    simpa [List.getD_eq_getElem?_getD, show i + 1 + j < m.length by omega] using this
  have h3 := foldl_fst m (1, 1)
  have h4 : (m.foldl stepL (1, 1)).2 = m.length - i := by
    conv => lhs; rw [e]
    rw [List.foldl_append, List.foldl_cons, foldl_none _ _ h2]
    unfold stepL
    simp; omega
  unfold lnF
  refine Prod.ext ?_ h4
  rw [h3]
  exact Nat.add_comm _ _
def lineR (s : ByteArray) (x : Int) : Nat × Nat := if x < 0 ∨ (s.size : Int) < x then (0, 0) else lnF (s.data.toList.take x.toNat)
theorem lnF_le (l : List UInt8) : ∀ k, k ≤ l.length → (lnF (l.take k)).1 ≤ k + 1 ∧ (lnF (l.take k)).2 ≤ k + 1
  | 0, _ => by simp [lnF]
  | k + 1, h => by
    obtain ⟨h1, h2⟩ := lnF_le l k (by omega)
    rw [List.take_succ_eq_append_getElem (by omega), lnF_snoc]
    unfold stepL
    split <;> simp <;> omega

set_option maxRecDepth 100000 in
set_option maxHeartbeats 2000000 in
theorem rline_any (s : ByteArray) (x : Int) (hs : s.size ≤ 1000000) (w : World) : Calls Tryd.prog 18 #[.string s, .int .i64 x] w fun e w' => e = .returned (.tuple #[.int .i64 ((lineR s x).1 : Nat), .int .i64 ((lineR s x).2 : Nat)]) ∧ w = w' := by
  by_cases h1 : x < 0
  · have H : Hid (lineR s x = (0, 0)) := if_pos (.inl h1)
    go_enter Tryd.func18, Tryd.ntmps18
    go_wp2_with fail
    go_ret2
    exact ⟨by rw [H.out]; rfl, rfl⟩
  by_cases h2 : (s.size : Int) < x
  · have H : Hid (lineR s x = (0, 0)) := if_pos (.inr h2)
    go_enter Tryd.func18, Tryd.ntmps18
    go_wp2_with fail
    go_ret2
    exact ⟨by rw [H.out]; rfl, rfl⟩
  obtain ⟨n, rfl⟩ : ∃ n : Nat, x = n := ⟨x.toNat, by omega⟩
  have H : Hid (lineR s n = lnF (s.data.toList.take n)) := by show _ = _; unfold lineR; rw [if_neg (by omega)]; simp
  have hn : n ≤ s.size := by omega
  have hs2 : (s.size : Int) ≤ 1000000 := by omega
  clear hs
  go_enter Tryd.func18, Tryd.ntmps18
  go_wp2_with fail
  go_loop [6, 7, 8] (fun a b iv => ∃ k : Nat, k ≤ n ∧ iv = .int .i64 k ∧ a = .int .i64 ((lnF (s.data.toList.take k)).1 : Nat) ∧ b = .int .i64 ((lnF (s.data.toList.take k)).2 : Nat)) (fun _ _ iv => n - (intOf iv).toNat)
  case atStart => exact ⟨0, Nat.zero_le _, rfl, rfl, rfl⟩
  case round =>
    obtain ⟨k, hk, rfl, rfl, rfl⟩ := hrel
    have hi0 : (0 : Int) ≤ k := by omega
    have HLE := lnF_le s.data.toList k (by rw [size_len]; omega)
    obtain ⟨a, ha⟩ : ∃ a, a = (lnF (s.data.toList.take k)).1 := ⟨_, rfl⟩
    obtain ⟨b, hb⟩ : ∃ b, b = (lnF (s.data.toList.take k)).2 := ⟨_, rfl⟩
    rw [← ha, ← hb] at HLE
    rw [← ha, ← hb]
    have hA := HLE.1
    have hB := HLE.2
    have HAB := Lib.hid (And.intro ha hb)
    clear ha hb HLE
    by_cases hlt : k < n
    · have hi1 : (k : Int) < n := by omega
      have hks : k < s.size := by omega
      have hi2 : (k : Int) < s.size := by omega
      have HS : Hid (lnF (s.data.toList.take (k + 1)) = stepL (a, b) s[k]) := by
        show _ = _
        rw [List.take_succ_eq_append_getElem (by rw [size_len]; exact hks), lnF_snoc, HAB.out.1, HAB.out.2]; rfl
      by_cases hc : s[k] = 10
      · have b1 : ((s[k].toNat : Int) == 10) = true := by rw [hc]; rfl
        have HS2 : Hid (lnF (s.data.toList.take (k + 1)) = (a + 1, 1)) := by show _ = _; rw [HS.out, hc]; rfl
        clear hc
        go_wp2_with fail
        go_round
        case rel => exact ⟨k + 1, by omega, by go_num, by rw [HS2.out]; go_num, by rw [HS2.out]; rfl⟩
        case measure => simp [intOf]; omega
      · have b1 : ((s[k].toNat : Int) == 10) = false := by
          rw [beq_eq_false_iff_ne]; intro e; exact hc (UInt8.toNat_inj.1 (by have h0 : (((10 : UInt8).toNat : Nat) : Int) = 10 := rfl; omega))
        have HS2 : Hid (lnF (s.data.toList.take (k + 1)) = (a, b + 1)) := by show _ = _; rw [HS.out]; unfold stepL; rw [if_neg hc]
        clear hc
        go_wp2_with fail
        go_round
        case rel => exact ⟨k + 1, by omega, by go_num, by rw [HS2.out], by rw [HS2.out]; go_num⟩
        case measure => simp [intOf]; omega
    · obtain rfl : k = n := by omega
      go_wp2_with fail
      go_ret2
      exact ⟨by rw [H.out, ← HAB.out.1, ← HAB.out.2]; rfl, rfl⟩
theorem data_get (s : ByteArray) (j : Nat) (h : j < s.size) : ((s.data[j]!).toNat : Int) = ((s.data.toList.getD j 0).toNat : Int) := by
  have h2 : j < s.data.size := h
  rw [getElem!_pos s.data j h2, List.getD_eq_getElem?_getD, List.getElem?_eq_getElem (by rw [Array.length_toList]; exact h2)]; rfl
set_option maxRecDepth 100000 in
set_option maxHeartbeats 2000000 in
theorem lline_any (s : ByteArray) (x : Int) (hs : s.size ≤ 1000000) (w : World) : Calls Tryd.prog 17 #[.string s, .int .i64 x] w fun e w' => e = .returned (.tuple #[.int .i64 ((lineR s x).1 : Nat), .int .i64 ((lineR s x).2 : Nat)]) ∧ w = w' := by
  by_cases h1 : x < 0
  · have H : Hid (lineR s x = (0, 0)) := if_pos (.inl h1)
    go_enter Tryd.func17, Tryd.ntmps17
    go_wp2_with fail
    go_ret2
    exact ⟨by rw [H.out]; rfl, rfl⟩
  by_cases h2 : (s.size : Int) < x
  · have H : Hid (lineR s x = (0, 0)) := if_pos (.inr h2)
    go_enter Tryd.func17, Tryd.ntmps17
    go_wp2_with fail
    go_ret2
    exact ⟨by rw [H.out]; rfl, rfl⟩
  obtain ⟨n, rfl⟩ : ∃ n : Nat, x = n := ⟨x.toNat, by omega⟩
  have hn : n ≤ s.size := by omega
  have hn2 : (n : Int) ≤ 1000000 := by omega
  obtain ⟨t, ht⟩ : ∃ t, t = s.extract 0 n := ⟨_, rfl⟩
  have htz : t.size = n := by rw [ht, ByteArray.size_extract]; omega
  have htl : t.data.toList = s.data.toList.take n := by rw [ht, ext_data, bstr_data]; simp
  have H : Hid (lineR s n = lnF t.data.toList) := by show _ = _; unfold lineR; rw [if_neg (by omega), htl]; simp
  have H1 := Lib.hid (fun W => Tryd.strings_LastIndexByte t 10 (by omega) W)
  have H2 := Lib.hid (fun W => Tryd.strings_Count_one t 10 W)
  have HCN : Hid (Lib.countByte t.data.toList 10 ≤ n) := by have := List.count_le_length (a := (10 : UInt8)) (l := t.data.toList); rw [size_len, htz] at this; exact this
  have hcn : (Lib.countByte t.data.toList 10 : Int) ≤ 1000000 := by have := HCN.out; omega
  have HKEY : Hid (∃ b : Nat, Lib.lastIndexByte t 10 + 1 = b ∧ b ≤ n ∧ lineR s n = (Lib.countByte t.data.toList 10 + 1, n - b + 1)) := by
    show ∃ _, _
    have htl2 : t.data.toList.length = n := by rw [size_len, htz]
    have sp := Lib.lastIdx_spec t 10 t.size
    rcases sp with ⟨h3, h4⟩ | ⟨i, h3, h4, h5, h6⟩
    · refine ⟨0, by unfold Lib.lastIndexByte; rw [h3]; rfl, Nat.zero_le _, ?_⟩
      rw [H.out, lnF_none (fun j hj => ?_), htl2]
      · rfl
      · intro e
        have := h4 j (by omega)
        rw [data_get t j (by omega), e] at this
        exact this rfl
    · refine ⟨i + 1, by unfold Lib.lastIndexByte; rw [h4]; rfl, by omega, ?_⟩
      have h5' : t.data.toList.getD i 0 = 10 := by
        rw [data_get t i h3] at h5
        exact UInt8.toNat_inj.1 (by have h0 : (((10 : UInt8).toNat : Nat) : Int) = 10 := rfl; omega)
      rw [H.out, lnF_some (by omega) h5' (fun j hij hj => ?_), htl2]
      · unfold Lib.countByte
        rw [show n - i = n - (i + 1) + 1 by omega]
      · intro e
        have := h6 j hij (by omega)
        rw [data_get t j (by omega), e] at this
        exact this rfl
  obtain ⟨b, hb1, hb2, hb3⟩ := HKEY.out
  have HB3 := Lib.hid hb3
  have HT := Lib.hid ht
  have HB1 := Lib.hid hb1
  obtain ⟨y, hy⟩ : ∃ y, y = Lib.lastIndexByte t 10 := ⟨_, rfl⟩
  obtain ⟨c, hc⟩ : ∃ c, c = Lib.countByte t.data.toList 10 := ⟨_, rfl⟩
  rw [← hy] at H1 HB1 hb1
  rw [← hc] at H2 HB3 hcn
  have hyb : y = (b : Int) - 1 := by omega
  subst hyb
  clear hs htz htl H HCN HKEY hb3 ht hb1 hy hc
  go_enter Tryd.func17, Tryd.ntmps17
  go_wp2_with fail
  rw [← HT.out]
  refine (H1.out _).mono ?_
  rintro e w2 ⟨rfl, hw⟩
  subst hw
  go_wp2_with fail
  refine (H2.out _).mono ?_
  rintro e w3 ⟨rfl, hw⟩
  subst hw
  go_wp2_with fail
  go_ret2
  refine ⟨?_, rfl⟩
  rw [HB3.out]
  show Ending.returned (.tuple #[.int .i64 ((c : Int) + 1), .int .i64 ((n : Int) - b + 1)]) = .returned (.tuple #[.int .i64 ((c + 1 : Nat) : Int), .int .i64 ((n - b + 1 : Nat) : Int)])
  rw [show ((c + 1 : Nat) : Int) = (c : Int) + 1 by omega, show ((n - b + 1 : Nat) : Int) = (n : Int) - b + 1 by omega]
end Go.Proofs.YtnhfcggecmncmaaDoor
