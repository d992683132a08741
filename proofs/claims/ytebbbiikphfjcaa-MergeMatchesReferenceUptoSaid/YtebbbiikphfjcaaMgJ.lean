/-
  container/heap: down, Push, Pop.
-/
import Derived.Test.YtebbbiikphfjcaaMgI
namespace Go.Proofs.Ytebbbiikphfjcaa
open Go.ChangeShapes Go.WideShapes Go.ChangeAt Go.RowKit
set_option linter.unusedVariables false

theorem downL_stop {f i n : Nat} {l : List (List Tu)} (h : n ≤ 2 * i + 1 ∨ ltH (l.getD (lessC [] ltH l n i) []) (l.getD i []) = false) : downL [] ltH (f + 1) l i n = l := by rw [downL, if_pos h]
theorem downL_go {f i n : Nat} {l : List (List Tu)} (h : ¬ (n ≤ 2 * i + 1 ∨ ltH (l.getD (lessC [] ltH l n i) []) (l.getD i []) = false)) : downL [] ltH (f + 1) l i n = downL [] ltH f (swapL [] l i (lessC [] ltH l n i)) (lessC [] ltH l n i) n := by rw [downL, if_neg h]
set_option maxRecDepth 100000 in
set_option maxHeartbeats 8000000 in
theorem hdown_any {F : List (Nat × Obj)} {w0 w : World} {g c n : Nat} {p : Option Addr} {ls : List (List Tu)} (h : QS F w0 g p c ls w) (hj : n < ls.length) (hne : ∀ l ∈ ls, l ≠ []) (hn : ls.length ≤ 100000) :
    Calls Try.prog 46 #[.iface 51 (.pointer (some ⟨g, 0, none⟩)), .int .i64 0, .int .i64 n] w fun e w' => ∃ b, e = .returned (.bool b) ∧ QS F w0 g p c (downL [] ltH (n + 1) ls 0 n) w' := by
  have HQ := Lib.hid h
  have HNE := Lib.hid hne
  obtain ⟨N, hnl⟩ : ∃ N, N = ls.length := ⟨_, rfl⟩
  obtain ⟨R, hR⟩ : ∃ R, R = downL [] ltH (n + 1) ls 0 n := ⟨_, rfl⟩
  rw [← hR]
  have HR := Lib.hid hR.symm
  have HL := Lib.hid hnl.symm
  rw [← hnl] at hj hn
  have HNN := Lib.hid hn
  have HNJ := Lib.hid hj
  clear h hne hn hR hnl hj
  go_enter Try.func46, Try.ntmps46
  go_wp2_with fail
  go_loopg [7] N (fun gg s7 wr => ∃ (i f' : Nat) (l : List (List Tu)), N - i ≤ gg ∧ n ≤ f' + i ∧ i < N ∧ s7 = .int .i64 i ∧ l.length = N ∧ QS F w0 g p c l wr ∧ (∀ x ∈ l, x ≠ []) ∧ downL [] ltH (f' + 1) l i n = R)
  case atStart => exact ⟨0, n, ls, by omega, by omega, by have := HNJ.out; omega, rfl, HL.out, HQ.out, HNE.out, HR.out⟩
  case round =>
    obtain ⟨i, f', l, hg, hfi, hin, rfl, hl, hq, hx, hu⟩ := hrel
    have HLl := Lib.hid hl
    have HQl := Lib.hid hq
    have HXl := Lib.hid hx
    have HU := Lib.hid hu
    have HFI := Lib.hid hfi
    have HGG := Lib.hid hg
    have HiN := Lib.hid hin
    obtain ⟨x, hx2⟩ : ∃ x, x = 2 * i := ⟨_, rfl⟩
    obtain ⟨a, ha⟩ : ∃ a, a = 2 * i + 1 := ⟨_, rfl⟩
    have HA := Lib.hid ha
    have hw1 : wrap64 (2 * (i : Int)) = (x : Int) := by unfold wrap64; have := HNN.out; omega
    have hw2 : wrap64 ((x : Int) + 1) = (a : Int) := by unfold wrap64; have := HNN.out; omega
    clear hl hq hx hu HQ HNE HR hfi hx2
    by_cases hstop : n ≤ a
    · have HE : Hid (l = R) := by
        rw [← HU.out, downL_stop (.inl (by omega))]; rfl
      have hs2 : (n : Int) ≤ (a : Int) := by omega
      clear ha
      go_wp2_with fail
      go_ret
      exact ⟨_, rfl, by rw [← HE.out]; exact HQl.out⟩
    · have hs2 : ¬ (n : Int) ≤ (a : Int) := by omega
      have HAN : Hid (a < n) := by show _ < _; omega
      have HaN : Hid (a < N) := by show _ < _; have := HNJ.out; omega
      have HFP : Hid (0 < f') := by show _ < _; have := HFI.out; omega
      obtain ⟨b, hb⟩ : ∃ b, b = 2 * i + 2 := ⟨_, rfl⟩
      have hw3 : wrap64 ((a : Int) + 1) = (b : Int) := by unfold wrap64; have := HNN.out; omega
      by_cases hbn : b < n
      · have hbi : (b : Int) < (n : Int) := by omega
        have HbN : Hid (b < N) := by show _ < _; have := HNJ.out; omega
        have HLC0 : Hid (lessC [] ltH l n i = if ltH (l.getD b []) (l.getD a []) = true then b else a) := by
          show _ = _
          unfold lessC
          rw [← ha, ← hb]
          by_cases h : ltH (l.getD b []) (l.getD a []) = true
          · rw [if_pos ⟨hbn, h⟩, if_pos h]
          · rw [if_neg (fun e => h e.2), if_neg h]
        have HBG : Hid (i + 1 ≤ b) := by show _ ≤ _; omega
        have HAG : Hid (i + 1 ≤ a) := by show _ ≤ _; omega
        clear ha hb hbn hstop hin hg
        have HC := Lib.hid (lless_any (i := b) (k := a) HQl.out (by rw [HLl.out]; exact HbN.out) (by rw [HLl.out]; exact HaN.out) HXl.out)
        have hml := m_less HQl.out.box
        obtain ⟨b1, hb1⟩ : ∃ bq, bq = ltH (l.getD b []) (l.getD a []) := ⟨_, rfl⟩
        rw [← hb1] at HC
        have Hb1 := Lib.hid hb1
        clear hb1
        go_wp2_with fail
        refine HC.out.mono ?_
        rintro e w7 ⟨rfl, bb⟩
        have HQ7 := Lib.hid (HQl.out.later bb)
        clear bb HC hml HQl
        cases b1 with
        | true =>
          have HLC : Hid (lessC [] ltH l n i = b) := by show _ = _; rw [HLC0.out, ← Hb1.out]; rfl
          have HJG := HBG
          clear HLC0
          have HC := Lib.hid (lless_any (i := b) (k := i) HQ7.out (by rw [HLl.out]; exact HbN.out) (by rw [HLl.out]; exact HiN.out) HXl.out)
          have hml := m_less HQ7.out.box
          obtain ⟨b2, hb2⟩ : ∃ bq, bq = ltH (l.getD b []) (l.getD i []) := ⟨_, rfl⟩
          rw [← hb2] at HC
          have Hb2 := Lib.hid hb2
          clear hb2
          go_wp2_with fail
          refine HC.out.mono ?_
          rintro e w8 ⟨rfl, bb⟩
          have HQ8 := Lib.hid (HQ7.out.later bb)
          clear bb HC hml HQ7
          cases b2 with
          | false =>
            have HE : Hid (l = R) := by
              rw [← HU.out, downL_stop (.inr _)]
              rfl
              rw [HLC.out]; exact Hb2.out.symm
            go_wp2_with fail
            go_ret
            exact ⟨_, rfl, by rw [← HE.out]; exact HQ8.out⟩
          | true =>
            have HE : Hid (downL [] ltH f' (swapL [] l i b) b n = R) := by
              show _ = _
              rw [← HU.out, downL_go, HLC.out]
              rw [HLC.out]
              rintro (h | h)
              · have := HA.out; have := HAN.out; omega
              · rw [← Hb2.out] at h; cases h
            have HC2 := Lib.hid (lswap_any (i := i) (k := b) HQ8.out (by rw [HLl.out]; exact HiN.out) (by rw [HLl.out]; exact HbN.out))
            have hms := m_swap HQ8.out.box
            go_wp2_with fail
            refine HC2.out.mono ?_
            rintro e w9 ⟨rfl, q9⟩
            have HQ9 := Lib.hid q9
            clear q9 HC2 hms HQ8
            go_wp2_with fail
            go_roundg (N - b)
            case measure => have := HGG.out; have := HiN.out; have := HbN.out; have := HA.out; have := HJG.out; omega
            case rel => exact ⟨b, f' - 1, swapL [] l i b, Nat.le_refl _, by have := HJG.out; have := HFI.out; omega, HbN.out, rfl, by rw [swapL_len]; exact HLl.out, HQ9.out, swap_ne (by rw [HLl.out]; exact HiN.out) (by rw [HLl.out]; exact HbN.out) HXl.out, by have h := HE.out; rw [show f' = f' - 1 + 1 by have := HFP.out; omega] at h; exact h⟩
        | false =>
          have HLC : Hid (lessC [] ltH l n i = a) := by show _ = _; rw [HLC0.out, ← Hb1.out]; rfl
          have HJG := HAG
          clear HLC0
          have HC := Lib.hid (lless_any (i := a) (k := i) HQ7.out (by rw [HLl.out]; exact HaN.out) (by rw [HLl.out]; exact HiN.out) HXl.out)
          have hml := m_less HQ7.out.box
          obtain ⟨b2, hb2⟩ : ∃ bq, bq = ltH (l.getD a []) (l.getD i []) := ⟨_, rfl⟩
          rw [← hb2] at HC
          have Hb2 := Lib.hid hb2
          clear hb2
          go_wp2_with fail
          refine HC.out.mono ?_
          rintro e w8 ⟨rfl, bb⟩
          have HQ8 := Lib.hid (HQ7.out.later bb)
          clear bb HC hml HQ7
          cases b2 with
          | false =>
            have HE : Hid (l = R) := by
              rw [← HU.out, downL_stop (.inr _)]
              rfl
              rw [HLC.out]; exact Hb2.out.symm
            go_wp2_with fail
            go_ret
            exact ⟨_, rfl, by rw [← HE.out]; exact HQ8.out⟩
          | true =>
            have HE : Hid (downL [] ltH f' (swapL [] l i a) a n = R) := by
              show _ = _
              rw [← HU.out, downL_go, HLC.out]
              rw [HLC.out]
              rintro (h | h)
              · have := HA.out; have := HAN.out; omega
              · rw [← Hb2.out] at h; cases h
            have HC2 := Lib.hid (lswap_any (i := i) (k := a) HQ8.out (by rw [HLl.out]; exact HiN.out) (by rw [HLl.out]; exact HaN.out))
            have hms := m_swap HQ8.out.box
            go_wp2_with fail
            refine HC2.out.mono ?_
            rintro e w9 ⟨rfl, q9⟩
            have HQ9 := Lib.hid q9
            clear q9 HC2 hms HQ8
            go_wp2_with fail
            go_roundg (N - a)
            case measure => have := HGG.out; have := HiN.out; have := HaN.out; have := HA.out; have := HJG.out; omega
            case rel => exact ⟨a, f' - 1, swapL [] l i a, Nat.le_refl _, by have := HJG.out; have := HFI.out; omega, HaN.out, rfl, by rw [swapL_len]; exact HLl.out, HQ9.out, swap_ne (by rw [HLl.out]; exact HiN.out) (by rw [HLl.out]; exact HaN.out) HXl.out, by have h := HE.out; rw [show f' = f' - 1 + 1 by have := HFP.out; omega] at h; exact h⟩
      · have hbi : ¬ (b : Int) < (n : Int) := by omega
        have HLC : Hid (lessC [] ltH l n i = a) := by
          show _ = _
          unfold lessC
          rw [← ha, ← hb, if_neg (fun e => hbn e.1)]
        have HJG : Hid (i + 1 ≤ a) := by show _ ≤ _; omega
        clear ha hb hbn hstop hin hg
        have HC := Lib.hid (lless_any (i := a) (k := i) HQl.out (by rw [HLl.out]; exact HaN.out) (by rw [HLl.out]; exact HiN.out) HXl.out)
        have hml := m_less HQl.out.box
        obtain ⟨b2, hb2⟩ : ∃ bq, bq = ltH (l.getD a []) (l.getD i []) := ⟨_, rfl⟩
        rw [← hb2] at HC
        have Hb2 := Lib.hid hb2
        clear hb2
        go_wp2_with fail
        refine HC.out.mono ?_
        rintro e w8 ⟨rfl, bb⟩
        have HQ8 := Lib.hid (HQl.out.later bb)
        clear bb HC hml HQl
        cases b2 with
        | false =>
          have HE : Hid (l = R) := by
            rw [← HU.out, downL_stop (.inr _)]
            rfl
            rw [HLC.out]; exact Hb2.out.symm
          go_wp2_with fail
          go_ret
          exact ⟨_, rfl, by rw [← HE.out]; exact HQ8.out⟩
        | true =>
          have HE : Hid (downL [] ltH f' (swapL [] l i a) a n = R) := by
            show _ = _
            rw [← HU.out, downL_go, HLC.out]
            rw [HLC.out]
            rintro (h | h)
            · have := HA.out; have := HAN.out; omega
            · rw [← Hb2.out] at h; cases h
          have HC2 := Lib.hid (lswap_any (i := i) (k := a) HQ8.out (by rw [HLl.out]; exact HiN.out) (by rw [HLl.out]; exact HaN.out))
          have hms := m_swap HQ8.out.box
          go_wp2_with fail
          refine HC2.out.mono ?_
          rintro e w9 ⟨rfl, q9⟩
          have HQ9 := Lib.hid q9
          clear q9 HC2 hms HQ8
          go_wp2_with fail
          go_roundg (N - a)
          case measure => have := HGG.out; have := HiN.out; have := HaN.out; have := HA.out; have := HJG.out; omega
          case rel => exact ⟨a, f' - 1, swapL [] l i a, Nat.le_refl _, by have := HJG.out; have := HFI.out; omega, HaN.out, rfl, by rw [swapL_len]; exact HLl.out, HQ9.out, swap_ne (by rw [HLl.out]; exact HiN.out) (by rw [HLl.out]; exact HaN.out) HXl.out, by have h := HE.out; rw [show f' = f' - 1 + 1 by have := HFP.out; omega] at h; exact h⟩
set_option maxRecDepth 100000 in
set_option maxHeartbeats 4000000 in
theorem hpush_any {F : List (Nat × Obj)} {w0 w : World} {g c : Nat} {p : Option Addr} {ls : List (List Tu)} {v : Value} {l : List Tu} (h : QS F w0 g p c ls w) (hv : TuSl w0 v l) (hne : ∀ l ∈ ls, l ≠ []) (hl : l ≠ []) (hn : ls.length ≤ 10000) :
    Calls Try.prog 39 #[.iface 51 (.pointer (some ⟨g, 0, none⟩)), .iface 24 v] w fun e w' => e = .returned (.tuple #[]) ∧ ∃ p' c', QS F w0 g p' c' (addL ls l) w' := by
  have HC := Lib.hid (qpush_any h hv hn)
  have hmp := m_push g
  have HNE : Hid (∀ x ∈ ls ++ [l], x ≠ []) := by
    intro x hx
    rcases List.mem_append.1 hx with hx | hx
    · exact hne x hx
    · rw [List.mem_singleton] at hx; rw [hx]; exact hl
  have HN := Lib.hid hn
  obtain ⟨R, hR⟩ : ∃ R, R = addL ls l := ⟨_, rfl⟩
  rw [← hR]
  have HR := Lib.hid hR.symm
  clear h hv hne hl hn hR
  go_enter Try.func39, Try.ntmps39
  go_wp2_with fail
  refine HC.out.mono ?_
  rintro e w1 ⟨rfl, p1, c1, q1⟩
  obtain ⟨m, hm⟩ : ∃ m, m = ls ++ [l] := ⟨_, rfl⟩
  have hml : m.length = ls.length + 1 := by rw [hm]; simp
  rw [← hm] at q1 HNE
  have HQ1 := Lib.hid q1
  have hU := hup_any (j := ls.length) q1 (by rw [hml]; omega) HNE.out (by have := HN.out; omega)
  rw [show upL [] ltH (ls.length + 1) m ls.length = R from by rw [hm]; exact HR.out] at hU
  have HU := Lib.hid hU
  have hmlen := m_len HQ1.out.box
  rw [hml] at hmlen
  have hw1 : wrap64 (ls.length : Int) = (ls.length : Int) := by unfold wrap64; have := HN.out; omega
  have HLE := Lib.hid (llen_any p1 (ls.length + 1) c1 w1)
  clear q1 hU HC hm hml
  go_wp2_with fail
  refine HLE.out.mono ?_
  rintro e w2 ⟨rfl, rfl⟩
  go_wp2_with fail
  refine HU.out.mono ?_
  rintro e w3 ⟨rfl, q3⟩
  have HQ3 := Lib.hid q3
  clear q3 HU
  go_wp2_with fail
  go_end0
  exact ⟨rfl, _, _, HQ3.out⟩
theorem down_heap_len {f : Nat} (l : List (List Tu)) (i n : Nat) : (downL [] ltH (f + 1) l i n).length = l.length := by
  induction f generalizing l i with
  | zero => rw [downL]; split; rfl; rw [downL, swapL_len]
  | succ f ih => rw [downL]; split; rfl; rw [ih, swapL_len]
theorem down_keep {f k n : Nat} : ∀ (l : List (List Tu)) (i : Nat), n ≤ k → n ≤ l.length → (downL [] ltH (f + 1) l i n).getD k [] = l.getD k [] := by
  have base : ∀ (l : List (List Tu)) (i : Nat), n ≤ k → n ≤ l.length → ¬ (n ≤ 2 * i + 1 ∨ ltH (l.getD (lessC [] ltH l n i) []) (l.getD i []) = false) → (swapL [] l i (lessC [] ltH l n i)).getD k [] = l.getD k [] := by
    intro l i hk hl h
    have hc := less_at (d := ([] : List Tu)) (lt := ltH) (l := l) (n := n) (i := i)
    have h1 : ¬ n ≤ 2 * i + 1 := fun e => h (.inl e)
    have hcn : lessC [] ltH l n i < n := by rcases hc with e | ⟨e, e2⟩ <;> omega
    rw [swapL_get (by omega) (by omega), if_neg (by omega), if_neg (by omega)]
  induction f with
  | zero => intro l i hk hl; rw [downL]; split; rfl; rename_i h; rw [downL]; exact base l i hk hl h
  | succ f ih => intro l i hk hl; rw [downL]; split; rfl; rename_i h; rw [ih _ _ hk (by rw [swapL_len]; exact hl)]; exact base l i hk hl h
set_option maxRecDepth 100000 in
set_option maxHeartbeats 4000000 in
theorem hpop_any {F : List (Nat × Obj)} {w0 w : World} {g c n : Nat} {p : Option Addr} {ls : List (List Tu)} (h : QS F w0 g p c ls w) (hln : ls.length = n + 1) (hne : ∀ l ∈ ls, l ≠ []) (hn : n ≤ 10000) :
    Calls Try.prog 40 #[.iface 51 (.pointer (some ⟨g, 0, none⟩))] w fun e w' => ∃ v, e = .returned (.iface 24 v) ∧ TuSl w0 v (ls.getD 0 []) ∧ QS F w0 g p c ((sunk ls).take n) w' := by
  obtain ⟨s, hs⟩ : ∃ s, s = swapL [] ls 0 n := ⟨_, rfl⟩
  have hsl : s.length = n + 1 := by rw [hs, swapL_len, hln]
  obtain ⟨d, hd⟩ : ∃ d, d = downL [] ltH (n + 1) s 0 n := ⟨_, rfl⟩
  have HSK : Hid (sunk ls = d) := by show _ = _; unfold sunk; rw [hln, Nat.add_sub_cancel, ← hs, hd]
  have hdp := down_heap_len (f := n) s 0 n
  have hdl : d.length = n + 1 := by rw [hd, hdp, hsl]
  have HD0 : Hid (d.getD n [] = ls.getD 0 []) := by
    show _ = _
    rw [hd, down_keep s 0 (Nat.le_refl n) (by omega), hs, swapL_get (by omega) (by omega), if_pos rfl]
  have HSN : Hid (∀ x ∈ s, x ≠ []) := by rw [hs]; exact swap_ne (by omega) (by omega) hne
  have HQ := Lib.hid h
  have HN := Lib.hid hn
  have HSL := Lib.hid hsl
  have HDL := Lib.hid hdl
  have HLN := Lib.hid hln
  have hsw := lswap_any (i := 0) (k := n) h (by omega) (by omega)
  rw [← hs] at hsw
  have HSW := Lib.hid hsw
  have hmlen := m_len h.box
  rw [hln] at hmlen
  have HLE := Lib.hid (llen_any p (n + 1) c w)
  have hw1 : wrap64 (n : Int) = (n : Int) := by unfold wrap64; omega
  have hd2 := hd
  have HD := Lib.hid hd.symm
  clear h hln hne hn hs hsl hd hd2 hdp hdl hsw
  go_enter Try.func40, Try.ntmps40
  go_wp2_with fail
  refine HLE.out.mono ?_
  rintro e w1 ⟨rfl, rfl⟩
  have hms := m_swap HQ.out.box
  clear hmlen HLE
  go_wp2_with fail
  refine HSW.out.mono ?_
  rintro e w2 ⟨rfl, q2⟩
  have hdn := hdown_any q2 (n := n) (by rw [HSL.out]; omega) HSN.out (by rw [HSL.out]; have := HN.out; omega)
  rw [HD.out] at hdn
  have HDN := Lib.hid hdn
  clear hms HSW q2 hdn
  go_wp2_with fail
  refine HDN.out.mono ?_
  rintro e w3 ⟨bb, rfl, q3⟩
  have hpo := qpop_any q3 (n := n) HDL.out (by have := HN.out; omega)
  rw [HD0.out] at hpo
  have HPO := Lib.hid hpo
  have hmp := m_pop g
  clear hpo HDN q3
  go_wp2_with fail
  refine HPO.out.mono ?_
  rintro e w4 ⟨v, rfl, hv, q4⟩
  have HV := Lib.hid hv
  have HQ4 := Lib.hid q4
  clear hv q4 HPO hmp
  go_wp2_with fail
  go_ret
  exact ⟨v, rfl, HV.out, by rw [HSK.out]; exact HQ4.out⟩
end Go.Proofs.Ytebbbiikphfjcaa
