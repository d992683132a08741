/-
  The reference's Fold.
-/
import Derived.Test.YtebbbiikphfjcaaMgP
namespace Go.Proofs.Ytebbbiikphfjcaa
open Go.ChangeShapes Go.WideShapes Go.ChangeAt Go.RowKit
set_option linter.unusedVariables false

theorem put1_few (t : Tu) (l : List Tu) : (put1 t l).length ≤ l.length + 1 := by
  have := srt_len [t] l
  simpa [srt] using this
theorem foldC_snoc (l : List Tu) (c : List Cg) (x : Cg) : foldC l (c ++ [x]) = step1 (foldC l c) x := by unfold foldC; rw [List.foldl_append]; rfl
theorem step1_few (l : List Tu) (x : Cg) : (step1 l x).length ≤ l.length + 1 := by
  unfold step1
  split
  · exact Nat.le_succ_of_le (List.length_filter_le _ _)
  · exact put1_few _ _
theorem step1_sizes {l : List Tu} {x : Cg} {n : Nat} (h : ∀ y ∈ l, sizesT y n) (hx : sizesT x.2 n) : ∀ y ∈ step1 l x, sizesT y n := fun y hy => by
  rcases (step1_mem l x y).1 hy with ⟨rfl, _⟩ | ⟨_, hy⟩
  · exact hx
  · exact h y hy
set_option maxRecDepth 100000 in
set_option maxHeartbeats 4000000 in
theorem rfold_any {w : World} {v cv : Value} {l : List Tu} {C : List Ce} (hl : TuRd w v l) (hc : RdS cc w cv C) (hlen : l.length + C.length ≤ 900) (hzl : ∀ x ∈ l, sizesT x 1000000) (hz : ∀ x ∈ C, sizesT x.2.2 1000000) :
    Calls Try.prog 25 #[v, cv] w fun e w' => ∃ v', e = .returned v' ∧ Below w.heap.size w w' ∧ TuSl w' v' (foldC l (C.map Prod.snd)) := by
  obtain ⟨p, cap, rfl, hrow⟩ := hc.form cc_length (by decide)
  obtain ⟨q, m, rfl, _⟩ := hl.form tc_length (by decide)
  have HROW := Lib.hid hrow
  have HC := Lib.hid hlen
  have HZL := Lib.hid hzl
  have HZC := Lib.hid hz
  have ba : Below w.heap.size w (w.alloc (.cells #[] 34)) := (Below.refl _ _).alloc (Nat.le_refl _) _
  have HBA := Lib.hid ba
  have HSA := Lib.hid (hl.below ba)
  have HW1 : Hid (World.ownsRow (w.alloc (.cells #[] 34)) w.heap.size 34 6 (.slice (some ⟨w.heap.size, 0, none⟩) 0 0) 0 (([] : List Tu).flatMap tc)) := World.ownsRow_made w #[] 0 (Nat.le_refl _) (Nat.zero_le _) (by simp)
  obtain ⟨c, hcm⟩ : ∃ c, c = C.map Prod.snd := ⟨_, rfl⟩
  have HCM := Lib.hid hcm
  rw [← hcm]
  clear hl hc hlen hrow hzl hz ba hcm
  go_enter Try.func25, Try.ntmps25
  go_upto_region 2 with (at_builtin; refine appR rfl _ _ rfl (base := w.heap.size) (xs := []) (news := l) rfl HW1.out rfl HSA.out rfl (by have := HC.out; omega) HBA.out.size ?_; intro v3 w3 h3 b3)
  have HB3 := Lib.hid (HBA.out.trans b3)
  have HO3 : Hid (TuSl w3 v3 l) := ownsRow_sl (base := w.heap.size) (by have h := h3; rw [Nat.zero_add, List.nil_append] at h; exact h)
  clear HBA HSA HW1 b3 h3
  go_wp2_with fail
  go_loopg [5, 6] C.length (fun gg s5 s6 wr => ∃ (i : Nat) (cur : List Tu), i ≤ C.length ∧ C.length - i ≤ gg ∧ s6 = .int .i64 i ∧ Below w.heap.size w wr ∧ TuSl wr s5 cur ∧ cur = foldC l ((C.take i).map Prod.snd) ∧ (∀ x ∈ cur, sizesT x 1000000) ∧ cur.length ≤ l.length + i)
  case atStart => exact ⟨0, l, Nat.zero_le _, by omega, rfl, HB3.out, HO3.out, rfl, HZL.out, Nat.le_refl _⟩
  case round =>
    obtain ⟨i, cur, hi, hgi, rfl, hB, hT, hcur, hzc, hln⟩ := hrel
    have HB := Lib.hid hB
    have HT := Lib.hid hT
    have HCUR := Lib.hid hcur
    have HZR := Lib.hid hzc
    have HLN := Lib.hid hln
    clear hB hT hcur hzc hln HB3 HO3
    by_cases hlt : i < C.length
    · obtain ⟨b, off, rfl, hb, hr⟩ := HROW.out i hlt
      have hzi := HZC.out _ (List.getElem_mem hlt)
      have hne : (C.take (i + 1)).map Prod.snd = (C.take i).map Prod.snd ++ [(C[i]).2] := by
        rw [List.take_add_one, List.getElem?_eq_getElem hlt, List.map_append]; rfl
      obtain ⟨⟨n, d, u⟩, hx⟩ : ∃ x, x = C[i] := ⟨_, rfl⟩
      rw [← hx] at hr hzi hne
      have HRI : Hid (wr.rangeAt b (off + i * 8) (cc (n, d, u))) := range_below hr hb HB.out
      have HR2 : Hid (wr.rangeAt b (off + i * 8 + 2) (tc u)) := cc_tail (x := (n, d, u)) HRI.out
      have hd : wr.cell? ⟨b, off + i * 8 + 1, none⟩ = some (.bool d) := HRI.out 1 _ rfl
      have HNX : Hid (step1 cur (d, u) = foldC l ((C.take (i + 1)).map Prod.snd)) := by show _ = _; rw [hne, foldC_snoc, HCUR.out]
      have HZU := Lib.hid hzi
      have hw : wrap64 ((i : Int) + 1) = (i : Int) + 1 := by unfold wrap64; have := HC.out; omega
      clear hx hr hb hzi hne HRI
      cases d with
      | true =>
        have ba : Below wr.heap.size wr (wr.alloc (.cells #[.string u.ot, .string u.oi, .string u.re, .string u.st, .string u.si, .string u.us] 34)) := (Below.refl _ _).alloc (Nat.le_refl _) _
        have HMI := Lib.hid (rminus_any (HT.out.below ba).rd (sl_new wr [u] #[.string u.ot, .string u.oi, .string u.re, .string u.st, .string u.si, .string u.us] rfl).rd (by have := HLN.out; have := HC.out; omega) (by show 1 ≤ 100000; decide))
        have HBA := Lib.hid (HB.out.trans (ba.mono HB.out.size))
        clear ba
        go_wp2_with ((with_reducible refine loadMX (x := .tmp 25) (u := u) (o := ⟨some 26, _, _, _, _, _⟩) HR2.out ?_ ?_); exact ⟨rfl, rfl, by go_simp⟩)
        refine HMI.out.mono ?_
        rintro e w5 ⟨v5, rfl, b5, t5⟩
        have HB5 := Lib.hid (HBA.out.trans (b5.mono HBA.out.size))
        have HT5 : Hid (TuSl w5 v5 (step1 cur (true, u))) := t5
        clear b5 t5 HMI HBA HT HB HR2 hd
        go_wp2_with fail
        go_roundg (C.length - (i + 1))
        case measure => omega
        case rel => exact ⟨i + 1, _, by omega, Nat.le_refl _, by go_num, HB5.out, HT5.out, HNX.out, step1_sizes HZR.out HZU.out, by have := HLN.out; have := step1_few cur (true, u); omega⟩
      | false =>
        have HPU := Lib.hid (rput1_any u HT.out HZR.out HZU.out (by have := HLN.out; have := HC.out; omega))
        go_wp2_with ((with_reducible refine loadMX (x := .tmp 33) (u := u) (o := ⟨some 34, _, _, _, _, _⟩) HR2.out ?_ ?_); exact ⟨rfl, rfl, by go_simp⟩)
        refine HPU.out.mono ?_
        rintro e w5 ⟨v5, rfl, b5, t5⟩
        have HB5 := Lib.hid (HB.out.trans (b5.mono HB.out.size))
        have HT5 : Hid (TuSl w5 v5 (step1 cur (false, u))) := t5
        clear b5 t5 HPU HT HB HR2 hd
        go_wp2_with fail
        go_roundg (C.length - (i + 1))
        case measure => omega
        case rel => exact ⟨i + 1, _, by omega, Nat.le_refl _, by go_num, HB5.out, HT5.out, HNX.out, step1_sizes HZR.out HZU.out, by have := HLN.out; have := step1_few cur (false, u); omega⟩
    · have HE : Hid (cur = foldC l c) := by
        have h := HCUR.out
        rw [List.take_of_length_le (by omega), ← HCM.out] at h
        exact h
      go_wp2_with fail
      go_ret
      refine ⟨_, rfl, HB.out, ?_⟩
      rw [← HE.out]
      exact HT.out
end Go.Proofs.Ytebbbiikphfjcaa
