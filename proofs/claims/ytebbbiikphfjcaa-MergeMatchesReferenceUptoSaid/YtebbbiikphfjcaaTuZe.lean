/-
  The reference's Sorted.
-/
import Derived.Test.YtebbbiikphfjcaaTuZd
import Derived.RegionTactic
import Derived.BigRegion
namespace Go.Proofs.Ytebbbiikphfjcaa
open Go.ChangeShapes Go.WideShapes Go.ChangeAt Go.RowKit
set_option linter.unusedVariables false

theorem srt_snoc (t : Tu) : ∀ (l out : List Tu), srt out (l ++ [t]) = put1 t (srt out l)
  | [], out => rfl
  | a :: l, out => srt_snoc t l (put1 a out)
theorem put1_len (t : Tu) : ∀ (l : List Tu), (put1 t l).length ≤ l.length + 1
  | [] => Nat.le_refl _
  | a :: l => by
    unfold put1
    split
    · have := put1_len t l
      simp only [List.length_cons]; omega
    · split <;> simp
theorem srt_len : ∀ (l out : List Tu), (srt out l).length ≤ out.length + l.length
  | [], out => by simp [srt]
  | t :: l, out => by
    have h1 := srt_len l (put1 t out)
    have h2 := put1_len t out
    show (srt (put1 t out) l).length ≤ _
    simp only [List.length_cons]; omega
theorem range_below {w W : World} {b off : Nat} {xs : List Value} (h : w.rangeAt b off xs) (hb : b < w.heap.size) (hB : Below w.heap.size w W) : W.rangeAt b off xs := fun j v hv => by
  have := h j v hv
  unfold World.cell? at this ⊢
  rw [hB.block b hb]
  exact this
theorem take_snoc1 {α : Type} {l : List α} {k : Nat} (h : k < l.length) : l.take (k + 1) = l.take k ++ [l[k]] := by rw [List.take_add_one, List.getElem?_eq_getElem h]; rfl
set_option maxRecDepth 100000 in
set_option maxHeartbeats 2000000 in
theorem rsorted_fresh {w : World} {sv : Value} {l : List Tu} (h : TuRd w sv l) (hz : ∀ x ∈ l, sizesT x 1000000) (hl : l.length ≤ 1000) :
    Calls Try.prog 10 #[sv] w fun e w' => ∃ v', e = .returned v' ∧ FreshB w.heap.size v' ∧ Below w.heap.size w w' ∧ TuSl w' v' (sortedT l) := by
  have HZ := Lib.hid hz
  have HLN := Lib.hid hl
  obtain ⟨p, c, rfl, hrow⟩ := h.form tc_length (by decide)
  have HW := Lib.hid hrow
  clear h hz hrow
  go_enter Try.func10, Try.ntmps10
  go_wp2_with fail
  go_loopg [3, 4] l.length (fun g s3 s4 wr => ∃ k : Nat, k ≤ l.length ∧ l.length - k ≤ g ∧ s4 = .int .i64 k ∧ Below w.heap.size w wr ∧ TuSl wr s3 (srt [] (l.take k)) ∧ FreshB w.heap.size s3)
  case atStart => exact ⟨0, by omega, by omega, rfl, Below.refl _ _, .inl ⟨rfl, rfl⟩, fun k hk => by cases hk⟩
  case round =>
    obtain ⟨k, hk, hg, rfl, hb, hsl, hfr⟩ := hrel
    have HFR := Lib.hid hfr
    clear hfr
    have HB := Lib.hid hb
    have HS := Lib.hid hsl
    clear hb hsl
    by_cases hlt : k < l.length
    · obtain ⟨b, off, rfl, hbl, hr⟩ := HW.out k hlt
      have HR : Hid (wr.rangeAt b (off + k * 6) (tc l[k])) := range_below hr hbl HB.out
      have HP := Lib.hid (rput1_fresh l[k] HS.out (fun x hx => by
        rcases (srt_mem (l.take k) [] x).1 hx with h | h
        · cases h
        · exact HZ.out x (List.mem_of_mem_take h)) (HZ.out _ (List.getElem_mem hlt)) (by
          have h1 := srt_len (l.take k) []
          have h2 : (l.take k).length ≤ l.length := by rw [List.length_take]; omega
          have := HLN.out
          simp only [List.length_nil] at h1
          omega))
      have HN : Hid (put1 l[k] (srt [] (l.take k)) = srt [] (l.take (k + 1))) := by show _ = _; rw [take_snoc1 hlt, srt_snoc]
      obtain ⟨x, hx⟩ : ∃ x, x = l[k] := ⟨_, rfl⟩
      rw [← hx] at HR HP HN
      clear hr hx hbl
      go_wp2_with ((with_reducible refine loadM (x := .tmp 14) (o := ⟨some 15, _, _, _, _, _⟩) HR.out ?_ ?_); exact ⟨rfl, rfl, by go_simp⟩)
      refine HP.out.mono ?_
      rintro e w2 ⟨v', rfl, hf2, b2, hs2⟩
      have HF2 := Lib.hid (FreshB.of hf2 HB.out.size HFR.out)
      clear hf2 HFR
      rw [HN.out] at hs2
      have HB2 := Lib.hid (HB.out.trans (b2.mono HB.out.size))
      have HS2 := Lib.hid hs2
      clear b2 hs2 HP HR HB HS
      go_wp2_with fail
      go_roundg (l.length - (k + 1))
      case measure => omega
      case rel => exact ⟨k + 1, by omega, Nat.le_refl _, by go_num, HB2.out, HS2.out, HF2.out⟩
    · have HN : Hid (srt [] (l.take k) = sortedT l) := by show _ = _; rw [List.take_of_length_le (by omega)]; rfl
      go_wp2_with fail
      go_ret
      have h := HS.out
      rw [HN.out] at h
      exact ⟨_, rfl, HFR.out, HB.out, h⟩
theorem rsorted_any {w : World} {sv : Value} {l : List Tu} (h : TuRd w sv l) (hz : ∀ x ∈ l, sizesT x 1000000) (hl : l.length ≤ 1000) :
    Calls Try.prog 10 #[sv] w fun e w' => ∃ v', e = .returned v' ∧ Below w.heap.size w w' ∧ TuSl w' v' (sortedT l) :=
  (rsorted_fresh h hz hl).mono fun e w' ⟨v', h1, _, h2, h3⟩ => ⟨v', h1, h2, h3⟩
end Go.Proofs.Ytebbbiikphfjcaa
