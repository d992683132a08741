/-
  What frame.All hands out.
-/
import Derived.Test.YtikokimnhanloaaDoorRound
import Derived.Test.YtikokimnhanloaaDoorFrV
import Derived.Test.YtikokimnhanloaaDoorFrSq
import Derived.RangeFuncNested
import Derived.RangeFuncBound
import Derived.RangeFuncCalls
import Derived.RangeFuncLeaves
import Derived.Shelf.Abstract
import Derived.Shelf.RegionOpen
import Derived.WalkKit
import Derived.WalkMore
import Derived.OwnWalkIn
import Derived.TacticsInMore
import Derived.LoopNIn
import Derived.LoopIn
import Derived.Deep.Cut
namespace Go.Proofs.YtikokimnhanloaaDoor
open Go.ChangeShapes Go.WideShapes Go.ChangeAt Go.RowKit
open errAs (ErrT)
set_option linter.unusedVariables false
attribute [local go_sem] Oper.semAt_some

/-- What is handed out: an offset, a slice, the payload that it reads as. -/
abbrev Out := Nat × Value × List UInt8
def outs (x : Out) : Array Value := #[.int .i64 x.1, x.2.1]
def GoodOut (l : List UInt8) (pre : List Out) (x : Out) (W : World) : Prop :=
  Rd W.heap.size W x.2.1 x.2.2 ∧ pre.length < (splitF l.length 0 l).1.length ∧ (splitF l.length 0 l).1.getD pre.length [] = x.2.2 ∧ (splitF l.length 0 l).2.1.getD pre.length 0 = x.1
theorem cut_at {l : List UInt8} {R : List (List UInt8) × List Nat × Nat × Nat} {i j : Nat} {ks : List (List UInt8)} {os : List Nat} {k : List UInt8} (h : Cut l R j (ks ++ [k]) (os ++ [i])) :
    ks.length < R.1.length ∧ R.1.getD ks.length [] = k ∧ R.2.1.getD ks.length 0 = i := by
  obtain ⟨_, h2, _, n, _, rfl⟩ := h
  have h3 : ks.length = os.length := by simpa using h2
  refine ⟨by simp, ?_, ?_⟩
  · simp [List.getD_eq_getElem?_getD]
  · rw [h3]; simp [List.getD_eq_getElem?_getD]
set_option maxRecDepth 100000 in
set_option maxHeartbeats 2000000 in
theorem all1_reads (w : World) (g : Nat) (q : Option Addr) (c : Nat) (l : List UInt8) (hg : g < w.heap.size) (hc : w.cell? ⟨g, 0, none⟩ = some (.slice q l.length c)) (hr : Rd w.heap.size w (.slice q l.length c) l) (hl : l.length ≤ 1000000) (he : ErrT w) :
    SeqReads Fence.wide 5 Tryd.prog 37 #[.pointer (some ⟨g, 0, none⟩)] outs w.heap.size (GoodOut l) (fun xs => xs.length = (splitF l.length 0 l).1.length) (fun _ => True) (splitF l.length 0 l).1.length w := by
  intro k J Jx W hW hJ hJx hY h0
  refine callsIn_wide.2 ?_
  have HR := Lib.hid hr
  obtain ⟨R, hRR⟩ : ∃ R, R = splitF l.length 0 l := ⟨_, rfl⟩
  have HRR := Lib.hid hRR
  have HG := Lib.hid he
  rw [← hRR] at hY ⊢
  have HY := Lib.hid hY
  have HJ := Lib.hid hJ
  have H0 := Lib.hid h0
  have HW := Lib.hid hW
  have HC : Hid (∀ wr, Below w.heap.size w wr → wr.cell? ⟨g, 0, none⟩ = some (.slice q l.length c)) := fun wr hb => (hb.cell (p := ⟨g, 0, none⟩) hg).trans hc
  have HST : Hid (Cut l R 0 [] []) := by show Cut l R 0 [] []; rw [hRR]; exact cut_start l
  clear hr hRR he hY hJ hJx h0 hW hc
  go_enter Tryd.func37, Tryd.ntmps37
  go_step3
  go_wp2_with fail
  go_step3
  go_wp2_with fail
  have HD : Hid (∀ i, i < l.length → ∀ wr, Below w.heap.size w wr → ∃ b off cv : Nat, q = some ⟨b, off, none⟩ ∧ c = cv ∧ (l.length : Int) ≤ cv ∧ Rd w.heap.size wr (.slice (some ⟨b, off + i, none⟩) (l.length - i) (cv - i)) (l.drop i)) := fun i hi wr hb => by
    rcases HR.out with ⟨oa, h1, h2⟩ | ⟨b, off, cv, h0, h1, h2, h3, hcell⟩
    · rw [h2] at hi; simp at hi
    · simp only [Value.slice.injEq] at h0
      obtain ⟨rfl, _, rfl⟩ := h0
      exact ⟨b, off, c, rfl, rfl, by omega, (Rd.drop h1 h2 h3 hcell (by omega)).below hb (Nat.le_refl _)⟩
  go_loopw [3] (fun iv wr => ∃ (i : Nat) (ks : List (List UInt8)) (os : List Nat) (pre : List Out), iv = .int .i64 i ∧ i ≤ l.length ∧ Hid (Cut l R i ks os ∧ pre.length = ks.length) ∧ Hid (J pre wr ∧ Below w.heap.size w wr)) (fun iv _ => l.length - (intOf iv).toNat)
  case atStart => exact ⟨0, [], [], [], rfl, Nat.zero_le _, ⟨HST.out, rfl⟩, ⟨H0.out, HW.out⟩⟩
  case round =>
    obtain ⟨i, ks, os, pre, rfl, hil, HCU, HM⟩ := hrel
    clear HST H0
    have i0 : (0 : Int) ≤ i := by omega
    have hc := HC.out wr HM.out.2
    by_cases hi : i < l.length
    · have i2 : (i : Int) < l.length := by omega
      have i3 : (i : Int) ≤ l.length := by omega
      have HE1 := Lib.hid (errT_below HG.out HM.out.2)
      obtain ⟨b, off, cv, rfl, rfl, i1, hrd⟩ := HD.out i hi wr HM.out.2
      have HRD := Lib.hid (fread_any hrd HM.out.2.size (by rw [List.length_drop]; omega) HE1.out)
      obtain ⟨r, hrr⟩ : ∃ r, r = readF (l.drop i) := ⟨_, rfl⟩
      have HF := Lib.hid hrr
      clear hrr hrd
      have HS := Lib.hid HM.out.2.size
      clear HD HR HC
      go_wp2_with fail
      refine HRD.out.mono ?_
      rintro e w2 ⟨v2, rfl, o2, b2⟩
      rw [← HF.out] at o2 ⊢
      have HB2 := Lib.hid (HM.out.2.trans (b2.mono HM.out.2.size))
      have HJ2 := Lib.hid (HJ.out _ _ _ HM.out.1 b2)
      have HR2 := Lib.hid ((Rd.of_own o2).mono (Nat.le_refl _))
      obtain ⟨q2, c2, rfl⟩ := own_form o2
      clear o2 b2 HRD HE1 hc
      by_cases hc : r.2.2.1 = 0
      · have hu := readF_used (l := l.drop i) (by rw [← HF.out]; exact hc)
        have hnx := cut_next HCU.out.1 hi (by rw [← HF.out]; exact hc)
        rw [← HF.out] at hu hnx
        rw [List.length_drop] at hu
        have HNX := Lib.hid hnx
        obtain ⟨u1, u2⟩ := hu
        have HAT := cut_at hnx
        rw [← HCU.out.2] at HAT
        have HGO : Hid (GoodOut l pre (i, .slice q2 r.1.length c2, r.1) w2) := ⟨HR2.out, by rw [← HRR.out]; exact HAT.1, by rw [← HRR.out]; exact HAT.2.1, by rw [← HRR.out]; exact HAT.2.2⟩
        have HYY := Lib.hid (HY.out pre (i, .slice q2 r.1.length c2, r.1) w2 HJ2.out HGO.out HAT.1)
        have j0 : -9223372036854775808 ≤ (i : Int) + r.2.1 := by omega
        have j1 : (i : Int) + r.2.1 ≤ 9223372036854775807 := by omega
        rw [show errF r.2.2.1 r.2.2.2 = .nilIface by unfold errF; rw [if_pos hc]]
        clear hnx HAT
        go_upto_region 4 with (fail)
        obtain ⟨fn, tmps, assign, body, hy, hR⟩ := HYY.out
        dsimp only [outs] at hy
        refine (wpIn_wide (n := 5)).1 ?_
        gi_wp2
        refine hR.mono ?_
        rintro e W3 (⟨rfl, hJ3, hk3⟩ | ⟨rfl, hJx3⟩)
        · have HJ3 := Lib.hid (And.intro hJ3 (HB2.out.trans hk3))
          clear hJ3 hk3 hy hR
          gi_wp2
          go_wp2_with fail
          go_roundw
          case rel => exact ⟨i + r.2.1, _, _, _, by rw [Int.natCast_add], by omega, ⟨HNX.out, by simp [HCU.out.2]⟩, HJ3.out⟩
          case measure => simp [intOf]; omega
        · have HJ3 := Lib.hid hJx3
          clear hJx3 hy hR
          gi_wp2
          go_wp2_with fail
          try rw [Exit.noGoto_normal]
          go_end0
          exact ⟨⟨_, rfl⟩, .inr ⟨_, trivial, HJ3.out⟩⟩
      · have HF2 := Lib.hid (cut_err HCU.out.1 hi (by rw [← HF.out]; exact hc))
        have HNQ := neqF r.2.2.1 r.2.2.2
        rw [show errF r.2.2.1 r.2.2.2 = faultN r.2.2.1 r.2.2.2 by unfold errF; rw [if_neg hc]]
        unfold faultN
        go_wp2_with fail
        try rw [Exit.noGoto_normal]
        go_end0
        exact ⟨⟨_, rfl⟩, .inl ⟨pre, by rw [HCU.out.2, HF2.out], HJ2.out⟩⟩
    · have i2 : ¬ (i : Int) < l.length := by omega
      have HF2 := Lib.hid (cut_end HCU.out.1 hi)
      go_wp2_with fail
      go_end0
      exact ⟨⟨_, rfl⟩, .inl ⟨pre, by rw [HCU.out.2, HF2.out], HM.out.1⟩⟩
end Go.Proofs.YtikokimnhanloaaDoor
