/-
  fault.Shift of an api.Fault; frame.Split.
-/
import Derived.Test.YtikokimnhanloaaDoorFrSp
import Derived.Test.YtikokimnhanloaaDoorPart1
namespace Go.Proofs.YtikokimnhanloaaDoor
open Go.ChangeShapes Go.WideShapes Go.ChangeAt Go.RowKit
open errAs (ErrT)
set_option linter.unusedVariables false

set_option maxRecDepth 100000 in
theorem shift_F (c n k : Nat) (w : World) (hg : ErrT w) (hs : n + k ≤ 1000000000) :
    Calls Tryd.prog 29 #[faultN c n, .int .i64 k] w fun e w' => e = .returned (faultN c (k + n)) ∧ Below w.heap.size w w' := by
  have HE := Lib.hid hg
  have h0 : -9223372036854775808 ≤ (n : Int) + k := by omega
  have h1 : (n : Int) + k ≤ 9223372036854775807 := by omega
  clear hg
  unfold faultN
  go_enter Tryd.func29, Tryd.ntmps29
  go_wp2_with fail
  refine (errAs.code_F c n _ HE.out).mono ?_
  rintro e w1 ⟨rfl, b1⟩
  have HE1 := Lib.hid (errT_below HE.out b1)
  have HB1 := Lib.hid b1
  clear b1
  go_wp2_with fail
  refine (errAs.at_F c n _ HE1.out).mono ?_
  rintro e w2 ⟨rfl, b2⟩
  have HB2 := Lib.hid (HB1.out.trans (b2.mono HB1.out.size))
  clear b2
  go_wp2_with fail
  refine (fnew_any _ _ _).mono ?_
  rintro e w3 ⟨rfl, rfl⟩
  go_wp2_with fail
  go_ret
  refine ⟨?_, HB2.out⟩
  rw [show ((k + n : Nat) : Int) = (n : Int) + k by omega]
  rfl
theorem neqF (c d : Int) (w : World) : (binOp BinOp.neq 25 (.iface 83 (.agg #[.int .i64 c, .int .i64 d])) .nilIface).run Tryd.prog w = .ok (.bool true) w := by kernel_rfl

/-- What an append of a slice just read wants. -/
theorem part_ready {base : Nat} {wr w2 : World} {v v2 : Value} {ks : List (List UInt8)} {p : List UInt8} (hR : RowP base wr v ks) (hb : Below wr.heap.size wr w2) (ho : w2.ownsRow wr.heap.size 5 1 v2 p.length (bvs p)) :
    RowP base (w2.alloc (.cells #[v2] 22)) v ks ∧ (w2.alloc (.cells #[v2] 22)).cell? ⟨w2.heap.size, 0, none⟩ = some v2 ∧
      Rd (w2.alloc (.cells #[v2] 22)).heap.size (w2.alloc (.cells #[v2] 22)) v2 p ∧ (p = [] ∨ v.ownBlock ≠ v2.ownBlock) := by
  have h3 : Below w2.heap.size w2 (w2.alloc (.cells #[v2] 22)) := (Below.refl _ _).alloc (Nat.le_refl _) _
  refine ⟨(hR.later hb).later h3, ?_, ((Rd.of_own ho).below h3 (Nat.le_refl _)).mono h3.size, ?_⟩
  · rw [cell_of_row _ _ _ #[v2] 22 (0, 0) (heap_alloc_new w2 _)]; rfl
  · rcases ho.2 with ⟨rfl, h0⟩ | ⟨g, cap, cur, rfl, hge, _⟩
    · exact .inl (List.eq_nil_of_length_eq_zero h0)
    · refine .inr fun e => ?_
      have := hR.lt (b := g) e
      omega

def SplitPost (w : World) (l : List UInt8) (e : Ending) (w' : World) : Prop :=
  ∃ v, e = .returned (.tuple #[v, errF (splitF l.length 0 l).2.2.1 (splitF l.length 0 l).2.2.2]) ∧ RowP w.heap.size w' v (if (splitF l.length 0 l).2.2.1 = 0 then (splitF l.length 0 l).1 else []) ∧ Below w.heap.size w w'
theorem readF_at {l : List UInt8} : (readF l).2.2.2 ≤ l.length := by
  unfold readF
  repeat' split
  all_goals first | exact Nat.zero_le _ | exact Nat.le_refl _ | skip
  rename_i h1 h2 h3 h4 h5
  have := num_at (l := l) (Classical.not_not.1 h2)
  show (num l).2.1 ≤ l.length
  omega

set_option maxRecDepth 100000 in
set_option maxHeartbeats 4000000 in
theorem fsplit_any {B : Nat} {w : World} {vb : Value} {l : List UInt8} (hr : Rd B w vb l) (hB : B ≤ w.heap.size) (hl : l.length ≤ 1000000) (hg : ErrT w) :
    Calls Tryd.prog 16 #[vb] w (SplitPost w l) := by
  have hr0 := hr
  have HG := Lib.hid hg
  clear hg
  rcases hr0 with ⟨oa, rfl, rfl⟩ | ⟨b, off, cv, rfl, h1, h2, h3, hcell⟩
  · go_enter Tryd.func16, Tryd.ntmps16
    go_wp2_with fail
    go_loopw [4, 5] (fun v iv wr => v = .slice none 0 0 ∧ iv = .int .i64 0 ∧ Hid (wr = w)) (fun _ _ _ => 0)
    case atStart => exact ⟨rfl, rfl, rfl⟩
    case round =>
      obtain ⟨rfl, rfl, HW⟩ := hrel
      go_wp2_with fail
      refine bodyPost_ret (results_tmp2 rfl _ _ _) rfl ?_
      obtain rfl := HW.out
      exact ⟨_, rfl, RowP.nil _ _, Below.refl _ _⟩
  have HR := Lib.hid hr
  obtain ⟨R, hRR⟩ : ∃ R, R = splitF l.length 0 l := ⟨_, rfl⟩
  have HRR := Lib.hid hRR
  have HST : Hid (Cut l R 0 [] []) := by show Cut l R 0 [] []; rw [hRR]; exact cut_start l
  have HD : Hid (∀ i, i ≤ l.length → ∀ wr, Below w.heap.size w wr → Rd B wr (.slice (some ⟨b, off + i, none⟩) (l.length - i) (cv - i)) (l.drop i)) := fun i hi wr hb =>
    (Rd.drop h1 h2 h3 hcell hi).below hb hB
  have i1 : (l.length : Int) ≤ cv := by omega
  clear hr hRR hcell
  go_enter Tryd.func16, Tryd.ntmps16
  go_wp2_with fail
  go_loopw [4, 5] (fun v iv wr => ∃ (i : Nat) (ks : List (List UInt8)) (os : List Nat), iv = .int .i64 i ∧ i ≤ l.length ∧ Hid (Cut l R i ks os) ∧ Hid (RowP w.heap.size wr v ks ∧ Below w.heap.size w wr)) (fun _ iv _ => l.length - (intOf iv).toNat)
  case atStart => exact ⟨0, [], [], rfl, Nat.zero_le _, HST, ⟨RowP.nil _ _, Below.refl _ _⟩⟩
  case round =>
    obtain ⟨i, ks, os, rfl, hil, HC, HM⟩ := hrel
    obtain ⟨qv, cvv, rfl⟩ := HM.out.1.form
    clear HST
    have i0 : (0 : Int) ≤ i := by omega
    by_cases hi : i < l.length
    · have i2 : (i : Int) < l.length := by omega
      have i3 : (i : Int) ≤ l.length := by omega
      have HE1 := Lib.hid (errT_below HG.out HM.out.2)
      have HRD := Lib.hid (fread_any (HD.out i (by omega) _ HM.out.2) (Nat.le_trans hB HM.out.2.size) (by rw [List.length_drop]; omega) HE1.out)
      obtain ⟨r, hrr⟩ : ∃ r, r = readF (l.drop i) := ⟨_, rfl⟩
      have HF := Lib.hid hrr
      clear hrr
      go_wp2_with fail
      refine HRD.out.mono ?_
      rintro e w2 ⟨v2, rfl, o2, b2⟩
      rw [← HF.out] at o2 ⊢
      have HB2 := Lib.hid (HM.out.2.trans (b2.mono HM.out.2.size))
      have HE2 := Lib.hid (errT_below HE1.out b2)
      have HRE := Lib.hid (part_ready HM.out.1 b2 o2)
      obtain ⟨q2, c2, rfl⟩ := own_form o2
      clear o2 b2 HRD HE1
      by_cases hc : r.2.2.1 = 0
      · have hu := readF_used (l := l.drop i) (by rw [← HF.out]; exact hc)
        have hnx := cut_next HC.out hi (by rw [← HF.out]; exact hc)
        rw [← HF.out] at hu hnx
        rw [List.length_drop] at hu
        have HNX := Lib.hid hnx
        obtain ⟨u1, u2⟩ := hu
        have HK : Hid (5 * ks.length ≤ i) := HC.out.2.2.1
        have HB3 : Hid (Below w.heap.size w (w2.alloc (.cells #[.slice q2 r.1.length c2] 22))) := HB2.out.alloc HB2.out.size _
        have j0 : -9223372036854775808 ≤ (i : Int) + r.2.1 := by omega
        have j1 : (i : Int) + r.2.1 ≤ 9223372036854775807 := by omega
        rw [show errF r.2.2.1 r.2.2.2 = .nilIface by unfold errF; rw [if_pos hc]]
        clear hnx
        go_wp2_with (at_builtin; refine app_part1 rfl _ _ rfl rfl HRE.out.1 rfl HRE.out.2.1 HRE.out.2.2.1 HRE.out.2.2.2 (by have := HK.out; omega) HB3.out.size ?_; intro v5 w5 h5 b5 g5)
        go_roundw
        case rel => exact ⟨i + r.2.1, _, _, by rw [Int.natCast_add], by omega, HNX, ⟨h5, HB3.out.trans b5⟩⟩
        case measure => simp [intOf]; omega
      · have HF2 := Lib.hid (cut_err HC.out hi (by rw [← HF.out]; exact hc))
        rw [← HF.out] at HF2
        have HAT : Hid (r.2.2.2 ≤ l.length - i) := by show _ ≤ _; rw [HF.out, ← List.length_drop]; exact readF_at
        have HSH := Lib.hid (shift_F r.2.2.1 r.2.2.2 i w2 HE2.out (by have := HAT.out; omega))
        have HNQ := neqF r.2.2.1 r.2.2.2
        rw [show errF r.2.2.1 r.2.2.2 = faultN r.2.2.1 r.2.2.2 by unfold errF; rw [if_neg hc]]
        unfold faultN at HSH ⊢
        go_wp2_with fail
        refine HSH.out.mono ?_
        rintro e w3 ⟨rfl, b3⟩
        have HB3 := Lib.hid (HB2.out.trans (b3.mono HB2.out.size))
        clear b3
        go_wp2_with fail
        refine bodyPost_ret (results_tmp2 rfl _ _ _) rfl ?_
        refine ⟨.slice none 0 0, ?_, ?_, HB3.out⟩
        · rw [← HRR.out, HF2.out]; show _ = Ending.returned (.tuple #[_, errF r.2.2.1 (i + r.2.2.2)])
          unfold errF; rw [if_neg hc]; rfl
        · rw [← HRR.out, HF2.out, if_neg hc]; exact RowP.nil _ _
    · have i2 : ¬ (i : Int) < l.length := by omega
      have HF2 := Lib.hid (cut_end HC.out hi)
      go_wp2_with fail
      refine bodyPost_ret (results_tmp2 rfl _ _ _) rfl ?_
      refine ⟨.slice qv ks.length cvv, ?_, ?_, HM.out.2⟩
      · rw [← HRR.out, HF2.out]; rfl
      · rw [← HRR.out, HF2.out]; exact HM.out.1
end Go.Proofs.YtikokimnhanloaaDoor
