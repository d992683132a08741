/-
  expr.yieldLeaves and the iterator that leaves makes: what it yields.
-/
import Derived.Test.YtigphejoekfclaaDoorExK
import Derived.Test.YtigphejoekfclaaDoorExI
import Derived.Test.YtigphejoekfclaaDoorTurnG
import Derived.RangeFuncNested
import Derived.RangeFuncBound
import Derived.RangeFuncCalls
import Derived.RangeFuncLeaves
import Derived.Shelf.Abstract
import Derived.Shelf.RegionOpen
import Derived.WalkKit
import Derived.WalkMore
import Derived.OwnWalkIn
import Derived.TacticsInMore
import Derived.LoopNIn
import Derived.LoopIn
import Derived.Deep.Cut
namespace Go.Proofs.YtigphejoekfclaaDoor
open Go.ChangeShapes Go.WideShapes Go.ChangeAt Go.RowKit
set_option linter.unusedVariables false
attribute [local go_sem] Oper.semAt_some

/-- What is handed out: a leaf, and the value that reads as it. -/
abbrev OutE := Ex × Value
def outE (x : OutE) : Array Value := #[x.2]
def fsts (l : List OutE) : List Ex := l.map Prod.fst
theorem fsts_app (a b : List OutE) : fsts (a ++ b) = fsts a ++ fsts b := List.map_append
theorem fsts_len (a : List OutE) : (fsts a).length = a.length := List.length_map _
def GoodE (P : Nat → Prop) (LV : List Ex) (pre : List OutE) (x : OutE) (W : World) : Prop := RdE P W x.1 x.2 ∧ (fsts pre ++ [x.1]) <+: LV
def YlPost (n₀ : Nat) (J Jx : List OutE → World → Prop) (ls : List Ex) (pre : List OutE) (w : World) (r : Ending) (w' : World) : Prop :=
  (r = .returned (.bool true) ∧ ∃ out, fsts out = ls ∧ J (pre ++ out) w' ∧ Below n₀ w w') ∨ (r = .returned (.bool false) ∧ ∃ out, fsts out <+: ls ∧ Jx (pre ++ out) w')
theorem prefix_app {a b c L : List Ex} (h : a ++ (b ++ c) <+: L) : a ++ b <+: L := by
  rw [← List.append_assoc] at h
  exact (List.prefix_append _ _).trans h
theorem leavesL_take : ∀ (ks : List Ex) (i : Nat), i < ks.length → leavesL (ks.take i) ++ leavesE (ks.getD i ex0) <+: leavesL ks
  | [], i, h => by simp at h
  | e :: r, 0, _ => by simp only [List.take_zero, leavesL, List.getD_cons_zero, List.nil_append]; exact List.prefix_append _ _
  | e :: r, i + 1, h => by
    have := leavesL_take r i (by simpa using h)
    simp only [List.take_succ_cons, leavesL, List.getD_cons_succ, List.append_assoc]
    exact (List.prefix_append_right_inj _).2 this
theorem prefix_mono {a b c L : List Ex} (h : a ++ b <+: L) (hc : c <+: b) : a ++ c <+: L := ((List.prefix_append_right_inj a).2 hc).trans h
theorem leaves_leaf {k : Int} {v n : List UInt8} {ks : List Ex} (h : leafK k = true) : leavesE (.mk k v n ks) = [.mk k v n ks] := by unfold leavesE; rw [if_pos h]
theorem leaves_kids {k : Int} {v n : List UInt8} {ks : List Ex} (h : ¬ leafK k = true) : leavesE (.mk k v n ks) = leavesL ks := by unfold leavesE; rw [if_neg h]
theorem drew_size (w : World) : w.drew.heap.size = w.heap.size := rfl

set_option maxRecDepth 100000 in
set_option maxHeartbeats 4000000 in
theorem yl_any (l n₀ : Nat) (P : Nat → Prop) (hP : ∀ b, P b → b < n₀) (LV : List Ex) (J Jx : List OutE → World → Prop) (HJ : Hid (∀ s A B, J s A → Below A.heap.size A B → J s B))
    (HY : Hid (∀ pre x W1, J pre W1 → GoodE P LV pre x W1 → pre.length < LV.length → YieldAt Fence.wide 4 Tryd.prog l (outE x) W1 fun e W' => (e = .returned (.bool true) ∧ J (pre ++ [x]) W' ∧ Below n₀ W1 W') ∨ (e = .returned (.bool false) ∧ Jx (pre ++ [x]) W'))) :
    ∀ (n : Nat) (e : Ex) (v : Value) (pre : List OutE) (w : World), sizeE e ≤ n → sizeE e ≤ 900000 → RdE P w e v → n₀ ≤ w.heap.size → J pre w → fsts pre ++ leavesE e <+: LV →
      Calls Tryd.prog 42 #[v, .func (.yield l) #[] #[]] w (YlPost n₀ J Jx (leavesE e) pre w) := by
  intro n
  induction n with
  | zero => intro e v pre w h; have := sizeE_pos e; omega
  | succ n ih =>
    intro e v pre w hn hm h hs hj hp
    have H := Lib.hid h
    obtain ⟨q, c, rfl, hc, hk⟩ := h.form
    obtain ⟨k, xv, xn, ks⟩ := e
    unfold exv
    show Calls _ _ #[.agg #[.int .i64 k, .string (bstr xv), .string (bstr xn), .slice q ks.length c], .func (.yield l) #[] #[]] _ _
    have HK : Hid (0 < ks.length → ∃ b o, q = some ⟨b, o, none⟩ ∧ P b ∧ RdL P w ks b o) := hk
    have hks : sizeL ks ≤ n := by unfold sizeE at hn; omega
    have hkm : sizeL ks ≤ 900000 := by unfold sizeE at hm; omega
    have hlen := sizeL_len ks
    have HIH := Lib.hid ih
    have HP := Lib.hid hP
    have HS := Lib.hid hs
    have HB0 : Hid (Below w.heap.size w (w.alloc (.cells #[.int .i64 k, .string (bstr xv), .string (bstr xn), .slice q ks.length c] 24))) := (Below.refl _ _).alloc (Nat.le_refl _) _
    have HA0 : Hid (Arr (w.alloc (.cells #[.int .i64 k, .string (bstr xv), .string (bstr xn), .slice q ks.length c] 24)) 24 w.heap.size [.int .i64 k, .string (bstr xv), .string (bstr xn), .slice q ks.length c]) := Arr.new' _ _ _ _ rfl
    have HJ0 := Lib.hid (HJ.out _ _ _ hj HB0.out)
    have HLF := Lib.hid ((isLeaf_any (H.out.below HB0.out (fun b hb => Nat.lt_of_lt_of_le (hP b hb) hs))))
    have HPR := Lib.hid hp
    obtain ⟨lf, hlf⟩ : ∃ lf, lf = leafK k := ⟨_, rfl⟩
    have HLK := Lib.hid hlf
    have HLF2 : Hid (Calls Tryd.prog 44 #[.agg #[.int .i64 k, .string (bstr xv), .string (bstr xn), .slice q ks.length c]] (w.alloc (.cells #[.int .i64 k, .string (bstr xv), .string (bstr xn), .slice q ks.length c] 24)) fun r w' => r = .returned (.bool lf) ∧ Below (w.alloc (.cells #[.int .i64 k, .string (bstr xv), .string (bstr xn), .slice q ks.length c] 24)).heap.size (w.alloc (.cells #[.int .i64 k, .string (bstr xv), .string (bstr xn), .slice q ks.length c] 24)) w') := by
      have := HLF.out
      unfold exv at this
      simp only [Ex.kind, Ex.via, Ex.nm, Ex.kids] at this
      rw [← hlf] at this
      exact this
    clear h ih hc hk hn hm hs hj hp hlf hP HLF
    go_enter Tryd.func42, Tryd.ntmps42
    go_wp2_with fail
    refine HLF2.out.mono ?_
    rintro r w2 ⟨rfl, b2⟩
    have HJ2 := Lib.hid (HJ.out _ _ _ HJ0.out b2)
    have HA2 := Lib.hid (HA0.out.later b2)
    have HB2 := Lib.hid (HB0.out.trans (b2.mono HB0.out.size))
    clear b2 HJ0 HA0 HB0 HLF2
    have a0 := HA2.out.cell 0
    have a1 := HA2.out.cell 1
    have a2 := HA2.out.cell 2
    have a3 := HA2.out.cell 3
    simp only [List.getElem?_cons_zero, List.getElem?_cons_succ] at a0 a1 a2 a3
    cases lf with
    | true =>
      have HL : Hid (leavesE (.mk k xv xn ks) = [.mk k xv xn ks]) := leaves_leaf HLK.out.symm
      have HR2 := Lib.hid (H.out.below HB2.out (fun b hb => Nat.lt_of_lt_of_le (HP.out b hb) HS.out))
      have HG : Hid (GoodE P LV pre (.mk k xv xn ks, .agg #[.int .i64 k, .string (bstr xv), .string (bstr xn), .slice q ks.length c]) w2) := ⟨HR2.out, by have := HPR.out; rw [HL.out] at this; exact this⟩
      have HYY := Lib.hid (HY.out pre _ w2 HJ2.out HG.out (by have := HG.out.2.length_le; rw [List.length_append, fsts_len, List.length_singleton] at this; omega))
      go_upto_region 2 with (fail)
      obtain ⟨fn, tmps, assign, body, hy, hR⟩ := HYY.out
      dsimp only [outE] at hy
      refine (wpIn_wide (n := 5)).1 ?_
      gi_wp2
      refine hR.mono ?_
      rintro e W3 (⟨rfl, hJ3, hk3⟩ | ⟨rfl, hJx3⟩)
      · have HJ3 := Lib.hid (And.intro hJ3 ((HB2.out.mono HS.out).trans hk3))
        clear hJ3 hk3 hy hR
        gi_wp2
        go_wp2_with fail
        go_ret
        exact .inl ⟨rfl, _, by rw [HL.out]; rfl, HJ3.out.1, HJ3.out.2⟩
      · have HJ3 := Lib.hid hJx3
        clear hJx3 hy hR
        gi_wp2
        go_wp2_with fail
        go_ret
        exact .inr ⟨rfl, _, by rw [HL.out]; exact List.prefix_refl _, HJ3.out⟩
    | false =>
      have HL : Hid (leavesE (.mk k xv xn ks) = leavesL ks) := leaves_kids (by rw [← HLK.out]; exact Bool.false_ne_true)
      have HM0 : Hid (∃ out, fsts out = leavesL (ks.take 0) ∧ J (pre ++ out) w2 ∧ Below n₀ w w2) := ⟨[], by simp [fsts, leavesL], by rw [List.append_nil]; exact HJ2.out, HB2.out.mono HS.out⟩
      clear HJ2 HA2 HB2 HLK H
      go_wp2_with fail
      go_loopw [15] (fun iv wr => ∃ i : Nat, iv = .int .i64 i ∧ i ≤ ks.length ∧ Hid (∃ out, fsts out = leavesL (ks.take i) ∧ J (pre ++ out) wr ∧ Below n₀ w wr)) (fun iv _ => ks.length - (intOf iv).toNat)
      case atStart => exact ⟨0, rfl, Nat.zero_le _, HM0.out⟩
      case round =>
        obtain ⟨i, rfl, hi, HM⟩ := hrel
        clear HM0 a0 a1 a2 a3
        have hi0 : (0 : Int) ≤ i := by omega
        obtain ⟨out, ho, hjw, hbw⟩ := HM.out
        have HO := Lib.hid ho
        have HJW := Lib.hid hjw
        have HI := Lib.hid hbw
        clear ho hjw hbw HM
        by_cases hlt : i < ks.length
        · have hi1 : (i : Int) < ks.length := by omega
          have hP := HP.out
          obtain ⟨ba, oa, rfl, hba, hl⟩ := HK.out (by omega)
          obtain ⟨x, hx⟩ : ∃ x, x = ks.getD i ex0 := ⟨_, rfl⟩
          obtain ⟨q2, c2, x0, x1, x2, x3, hr⟩ := hl.at hlt
          have hxs := sizeL_get ks i hlt
          have hxd := depthL_get ks i hlt
          rw [← hx] at x0 x1 x2 x3 hr hxs hxd
          have HX := Lib.hid hx
          obtain ⟨xk, xv2, xn2, xs⟩ := x
          have cc : ∀ n, wr.cell? ⟨ba, n, none⟩ = w.cell? ⟨ba, n, none⟩ := fun n => (HI.out).cell (p := ⟨ba, n, none⟩) (hP _ hba)
          have X0 : wr.cell? ⟨ba, oa + i * 4, none⟩ = some (.int .i64 xk) := (cc _).trans x0
          have X1 : wr.cell? ⟨ba, oa + i * 4 + 1, none⟩ = some (.string (bstr xv2)) := (cc _).trans x1
          have X2 : wr.cell? ⟨ba, oa + i * 4 + 2, none⟩ = some (.string (bstr xn2)) := (cc _).trans x2
          have X3 : wr.cell? ⟨ba, oa + i * 4 + 3, none⟩ = some (.slice q2 xs.length c2) := (cc _).trans x3
          clear x0 x1 x2 x3 cc hx
          have HBA : Hid (Below wr.heap.size wr (wr.alloc (.cells #[.int .i64 xk, .string (bstr xv2), .string (bstr xn2), .slice q2 xs.length c2] 24))) := (Below.refl _ _).alloc (Nat.le_refl _) _
          have HR : Hid (RdE P (wr.alloc (.cells #[.int .i64 xk, .string (bstr xv2), .string (bstr xn2), .slice q2 xs.length c2] 24)) (.mk xk xv2 xn2 xs) (.agg #[.int .i64 xk, .string (bstr xv2), .string (bstr xn2), .slice q2 xs.length c2])) := (hr.below HI.out hP).below HBA.out (fun b hb => Nat.lt_of_lt_of_le (hP b hb) (Nat.le_trans HS.out HI.out.size))
          have HTK : Hid (ks.take (i + 1) = ks.take i ++ [.mk xk xv2 xn2 xs]) := by show _ = _; rw [take_snocE hlt, ← HX.out]
          have HPX : Hid (fsts (pre ++ out) ++ leavesE (.mk xk xv2 xn2 xs) <+: LV) := by
            show _ <+: _
            have h1 := HPR.out
            rw [HL.out] at h1
            have h2 := prefix_mono h1 (leavesL_take ks i hlt)
            rw [← HX.out, ← HO.out, ← List.append_assoc, ← fsts_app] at h2
            exact h2
          have HC := Lib.hid (HIH.out (.mk xk xv2 xn2 xs) _ (pre ++ out) _ (by omega) (by omega) HR.out (Nat.le_trans (Nat.le_trans HS.out HI.out.size) HBA.out.size) (HJ.out _ _ _ HJW.out HBA.out) HPX.out)
          clear hl hr hxs hxd hba hP
          go_wp2_with fail
          refine HC.out.mono ?_
          rintro r w5 (⟨rfl, o2, ho2, hj2, hb2⟩ | ⟨rfl, o2, ho2, hj2⟩)
          · have HJ5 : Hid (∃ out, fsts out = leavesL (ks.take (i + 1)) ∧ J (pre ++ out) w5 ∧ Below n₀ w w5) :=
              ⟨out ++ o2, by rw [fsts_app, HO.out, ho2, HTK.out, leavesL_snoc], by rw [← List.append_assoc]; exact hj2, (HI.out.trans (HBA.out.mono (Nat.le_trans HS.out HI.out.size))).trans hb2⟩
            clear ho2 hj2 hb2
            go_wp2_with fail
            go_roundw
            case rel => exact ⟨i + 1, by go_num, by omega, HJ5.out⟩
            case measure => simp [intOf]; omega
          · have HJ5 : Hid (∃ out, fsts out <+: leavesL ks ∧ Jx (pre ++ out) w5) :=
              ⟨out ++ o2, by
                rw [fsts_app, HO.out]
                have h2 := leavesL_take ks i hlt
                rw [← HX.out] at h2
                exact prefix_mono h2 ho2, by rw [← List.append_assoc]; exact hj2⟩
            clear ho2 hj2
            go_wp2_with fail
            go_ret
            exact .inr ⟨rfl, by rw [HL.out]; exact HJ5.out⟩
        · have hi1 : ¬ (i : Int) < ks.length := by omega
          have HK2 : Hid (ks.take i = ks) := List.take_of_length_le (by omega)
          go_wp2_with fail
          go_ret
          exact .inl ⟨rfl, out, by rw [HL.out, HO.out, HK2.out], HJW.out, HI.out⟩
theorem leaves1_reads (P : Nat → Prop) (n₀ : Nat) (w : World) (g : Nat) (q : Option Addr) (c : Nat) (e : Ex) (hm : sizeE e ≤ 900000) (hA : Arr w 24 g [.int .i64 e.kind, .string (bstr e.via), .string (bstr e.nm), .slice q e.kids.length c]) (h : RdE P w e (exv e q c)) (hP : ∀ b, P b → b < n₀) (hn : n₀ ≤ w.heap.size) :
    SeqReads Fence.wide 5 Tryd.prog 41 #[.pointer (some ⟨g, 0, none⟩)] outE n₀ (GoodE P (leavesE e)) (fun xs => fsts xs = leavesE e) (fun xs => fsts xs <+: leavesE e) (leavesE e).length w := by
  intro l J Jx W hW hJ hJx hY h0
  refine callsIn_wide.2 ?_
  have hy := yl_any l n₀ P hP (leavesE e) J Jx hJ hY _ e _ [] W (Nat.le_refl _) hm (h.below hW fun b hb => Nat.lt_of_lt_of_le (hP b hb) hn) (Nat.le_trans hn hW.size) h0 (by simp [fsts])
  obtain ⟨k, xv, xn, ks⟩ := e
  unfold exv at hy
  simp only [Ex.kind, Ex.via, Ex.nm, Ex.kids] at hy hA
  have HY := Lib.hid hy
  have a0 := (hA.later hW).cell 0
  have a1 := (hA.later hW).cell 1
  have a2 := (hA.later hW).cell 2
  have a3 := (hA.later hW).cell 3
  simp only [List.getElem?_cons_zero, List.getElem?_cons_succ] at a0 a1 a2 a3
  clear hy hA h hP hn hW hJ hJx hY h0
  go_enter Tryd.func41, Tryd.ntmps41
  go_wp2_with fail
  refine HY.out.mono ?_
  rintro r w5 (⟨rfl, o2, ho2, hj2, hb2⟩ | ⟨rfl, o2, ho2, hj2⟩)
  · have HO := Lib.hid (And.intro ho2 hj2)
    clear ho2 hj2 hb2
    go_wp2_with fail
    go_end0
    exact ⟨⟨_, rfl⟩, .inl ⟨o2, HO.out.1, HO.out.2⟩⟩
  · have HO := Lib.hid (And.intro ho2 hj2)
    clear ho2 hj2
    go_wp2_with fail
    go_end0
    exact ⟨⟨_, rfl⟩, .inr ⟨o2, HO.out.1, HO.out.2⟩⟩
theorem turns_good (P : Nat → Prop) (LV : List Ex) (B : Nat) (hP : ∀ b, P b → b < B) (pre : List OutE) (x : OutE) : Turns B (GoodE P LV pre x) := fun W l o o' hl h ho hx =>
  ⟨hx.1.keep fun b hb n => World.cell?_of_block (World.putObj_heap_other (by have := hP b hb; show b ≠ l; omega)), hx.2⟩
end Go.Proofs.YtigphejoekfclaaDoor
