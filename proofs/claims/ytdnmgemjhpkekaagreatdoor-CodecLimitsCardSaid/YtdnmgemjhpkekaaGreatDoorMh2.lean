/-
  The reference's finish and ParseExpr.
-/
import Derived.Test.YtdnmgemjhpkekaaGreatDoorMh1
import Derived.Test.YtdnmgemjhpkekaaGreatDoorMg6
import Derived.Test.YtdnmgemjhpkekaaGreatDoorMg1
import Derived.Test.YtdnmgemjhpkekaaGreatDoorTuI
import Derived.Test.YtdnmgemjhpkekaaGreatDoorRows
import Derived.ProofKit
import Derived.LaidMore
import Derived.LaidHandle
import Derived.OpenShut
import Derived.Stop.Joined
import Derived.HandedShaped
import Derived.ChangeMaps
import Derived.SizedLaws
namespace Go.Proofs.YtdnmgemjhpkekaaGreatDoor
open Go.ChangeShapes Go.WideShapes Go.ChangeAt Go.RowKit
set_option linter.unusedVariables false

theorem resX3 {fn : Func} {p q r : Tmp} (h : fn.results = #[.cell p 42, .tmp q, .tmp r]) {tmps : Array Value} {w : World} {g : Nat} {u0 u1 u2 u3 : Value} (hE : Arr w 42 g [u0, u1, u2, u3]) (hp : tmps.getD p undef = .pointer (some ⟨g, 0, none⟩)) :
    (results fn tmps).run Tryz.prog w = .ok (.tuple #[.agg #[u0, u1, u2, u3], tmps.getD q undef, tmps.getD r undef]) w := by
  have hp' : tmps[p]?.getD undef = .pointer (some ⟨g, 0, none⟩) := by simpa using hp
  have r2 := run_loadVar_row (P := Tryz.prog) w g _ 42 #[u0, u1, u2, u3] (0, 0) _ hE Tryz.underlying42 rfl (by kernel_rfl)
  simp [results, h, hp', asAddr, r2]
theorem parseEx_ref (b : List UInt8) : parseEx b = (if (finC b (refC b 16 0 0).2.1).1 = 0 then (refC b 16 0 0).1 else ex0, finC b (refC b 16 0 0).2.1) := by
  have h := (ref_as b 16 0 0 (Nat.zero_le _)).1
  unfold parseEx
  rcases finC_ok (b := b) (refC b 16 0 0) with ⟨c, a, h1, h2⟩ | ⟨o, h1, h2⟩
  · rw [h1] at h
    rw [← h, h2]
    have : c ≠ 0 := readE_ne 16 0 0 c a h.symm
    show _ = (if c = 0 then _ else _, _)
    rw [if_neg this]
  · rw [h1] at h
    rw [← h, h2]
    show (if o < b.length then _ else _) = _
    by_cases hlt : o < b.length
    · rw [if_pos hlt, if_pos hlt]; rfl
    · rw [if_neg hlt, if_neg hlt]; rfl
section
variable {b : List UInt8} {s : St} {W : World} {q : Option Addr} {cp lv : Nat} {ox cx ax : Int}
theorem pFail16 {o a : Nat} : Calls Tryz.prog 53 #[.agg #[.slice q b.length cp, .int .i64 (o : Nat), .int .i64 0, .int .i64 0, .int .i64 (lv : Nat)], .int .i64 16, .int .i64 (a : Nat)] W fun e w' => e = .returned (.agg #[.slice q b.length cp, .int .i64 (o : Nat), .int .i64 16, .int .i64 (a : Nat), .int .i64 (lv : Nat)]) ∧ Below W.heap.size W w' := rFail_any (b := b) 16 a
set_option maxRecDepth 100000 in
set_option maxHeartbeats 4000000 in
theorem pFin (hp : PI b s ox cx ax) : Calls Tryz.prog 28 #[.agg #[.slice q b.length cp, .int .i64 ox, .int .i64 cx, .int .i64 ax, .int .i64 (lv : Nat)]] W fun e w' => e = .returned (.tuple #[.int .i64 ((finC b s).1 : Nat), .int .i64 ((finC b s).2 : Nat)]) ∧ Below W.heap.size W w' := by
  cases s with
  | er c a =>
    obtain ⟨o2, h1, rfl, rfl, rfl⟩ := hp
    have hc0 := h1.2.2 c a rfl
    show Calls _ _ #[.agg #[.slice q b.length cp, .int .i64 (o2 : Nat), .int .i64 (c : Nat), .int .i64 (a : Nat), .int .i64 (lv : Nat)]] _ (fun e w' => e = .returned (.tuple #[.int .i64 (c : Nat), .int .i64 (a : Nat)]) ∧ Below W.heap.size W w')
    have hcx : ¬ (c : Int) = 0 := by omega
    have hc2 : ((c : Int) == 0) = false := by rw [beq_eq_false_iff_ne]; exact hcx
    clear hc0 h1
    have HA : Hid (Arr (W.alloc (.cells #[.slice q b.length cp, .int .i64 (o2 : Nat), .int .i64 (c : Nat), .int .i64 (a : Nat), .int .i64 (lv : Nat)] 59)) 59 W.heap.size [.slice q b.length cp, .int .i64 (o2 : Nat), .int .i64 (c : Nat), .int .i64 (a : Nat), .int .i64 (lv : Nat)]) := Arr.new' _ _ _ _ rfl
    have HB : Hid (Below W.heap.size W (W.alloc (.cells #[.slice q b.length cp, .int .i64 (o2 : Nat), .int .i64 (c : Nat), .int .i64 (a : Nat), .int .i64 (lv : Nat)] 59))) := (Below.refl _ _).alloc (Nat.le_refl _) _
    go_enter Tryz.func28, Tryz.ntmps28
    go_upto_region 1 with (fail)
    generalize W.alloc (.cells #[.slice q b.length cp, .int .i64 (o2 : Nat), .int .i64 (c : Nat), .int .i64 (a : Nat), .int .i64 (lv : Nat)] 59) = w1 at HA HB ⊢
    have x0 := HA.out.cell 0
    have y0 := HA.out.free 0
    have x1 := HA.out.cell 1
    have y1 := HA.out.free 1
    have x2 := HA.out.cell 2
    have y2 := HA.out.free 2
    have x3 := HA.out.cell 3
    have y3 := HA.out.free 3
    have x4 := HA.out.cell 4
    have y4 := HA.out.free 4
    simp only [List.getElem?_cons_zero, List.getElem?_cons_succ] at x0 x1 x2 x3 x4
    go_upto_region 3 with (fail)
    clear x0 y0 x1 y1 x2 y2 x3 y3 x4 y4
    refine wp_region_noPanic ?_
    refine wp_region_held_drew (S := fun W' => Arr W' 59 W.heap.size [.slice q b.length cp, .int .i64 (o2 : Nat), .int .i64 (c : Nat), .int .i64 (a : Nat), .int .i64 (lv : Nat)]) (by kernel_rfl) HA.out.drew (fun hHeld => ?_)
    try simp only [Act.put]
    have HBD := Lib.hid (HB.out.trans ((Below.refl _ _).drew.mono HB.out.size))
    generalize w1.drew = wd at hHeld HBD ⊢
    refine wpAnyH_take (i := 0) (oi := ⟨some 19, _, _, _, _, _⟩) (v := .pointer (some ⟨W.heap.size, 2, none⟩)) rfl (by kernel_rfl) (by kernel_rfl) (by kernel_rfl) (fun _ _ _ h => h) (.inl ⟨by rfl, fun w' hSw => ?_⟩) hHeld ?_
    focus (skip; clear hHeld; go_simp)
    try simp only [Act.put, List.setIfInBounds_toArray, List.set_cons_zero, List.set_cons_succ]
    refine wpAnyH_take (i := 1) (oi := ⟨some 20, _, _, _, _, _⟩) (v := .int .i64 (c : Nat)) rfl (by kernel_rfl) (by kernel_rfl) (by kernel_rfl) (fun _ _ _ h => h) (.inl ⟨by rfl, fun w' hSw => ?_⟩) hHeld ?_
    focus (have a0 := hSw.cell 0; have a1 := hSw.cell 1; have a2 := hSw.cell 2; have a3 := hSw.cell 3; have a4 := hSw.cell 4; simp only [List.getElem?_cons_zero, List.getElem?_cons_succ] at a0 a1 a2 a3 a4; clear hHeld; go_simp)
    try simp only [Act.put, List.setIfInBounds_toArray, List.set_cons_zero, List.set_cons_succ]
    refine wpAnyH_take (i := 2) (oi := ⟨some 21, _, _, _, _, _⟩) (v := .pointer (some ⟨W.heap.size, 3, none⟩)) rfl (by kernel_rfl) (by kernel_rfl) (by kernel_rfl) (fun _ _ _ h => h) (.inl ⟨by rfl, fun w' hSw => ?_⟩) hHeld ?_
    focus (skip; clear hHeld; go_simp)
    try simp only [Act.put, List.setIfInBounds_toArray, List.set_cons_zero, List.set_cons_succ]
    refine wpAnyH_take (i := 3) (oi := ⟨some 22, _, _, _, _, _⟩) (v := .int .i64 (a : Nat)) rfl (by kernel_rfl) (by kernel_rfl) (by kernel_rfl) (fun _ _ _ h => h) (.inl ⟨by rfl, fun w' hSw => ?_⟩) hHeld ?_
    focus (have a0 := hSw.cell 0; have a1 := hSw.cell 1; have a2 := hSw.cell 2; have a3 := hSw.cell 3; have a4 := hSw.cell 4; simp only [List.getElem?_cons_zero, List.getElem?_cons_succ] at a0 a1 a2 a3 a4; clear hHeld; go_simp)
    try simp only [Act.put, List.setIfInBounds_toArray, List.set_cons_zero, List.set_cons_succ]
    refine wpAnyH_take (i := 4) (oi := ⟨some 2, _, _, _, _, _⟩) (v := .int .i64 (c : Nat)) rfl (by kernel_rfl) (by kernel_rfl) (by kernel_rfl) (fun _ _ _ h => h) (.inl ⟨by rfl, fun w' hSw => ?_⟩) hHeld ?_
    focus (skip; clear hHeld; go_simp)
    try simp only [Act.put, List.setIfInBounds_toArray, List.set_cons_zero, List.set_cons_succ]
    refine wpAnyH_take (i := 5) (oi := ⟨some 3, _, _, _, _, _⟩) (v := .int .i64 (a : Nat)) rfl (by kernel_rfl) (by kernel_rfl) (by kernel_rfl) (fun _ _ _ h => h) (.inl ⟨by rfl, fun w' hSw => ?_⟩) hHeld ?_
    focus (skip; clear hHeld; go_simp)
    try simp only [Act.put, List.setIfInBounds_toArray, List.set_cons_zero, List.set_cons_succ]
    refine wpAnyH_done (by kernel_rfl) ?_ _
    refine NoPanic.normal ?_
    go_wp2_with fail
    go_ret2
    exact ⟨rfl, HBD.out⟩
  | go o =>
    obtain ⟨rfl, rfl, rfl, hol⟩ := hp.go
    clear hp
    by_cases hlt : o < b.length
    · have e : finC b (.go o) = (16, o) := if_pos hlt
      have hlt' : (o : Int) < (b.length : Nat) := by omega
      rw [e]
      clear e hol hlt
      show Calls _ _ #[.agg #[.slice q b.length cp, .int .i64 (o : Nat), .int .i64 0, .int .i64 0, .int .i64 (lv : Nat)]] _ (fun e w' => e = .returned (.tuple #[.int .i64 16, .int .i64 (o : Nat)]) ∧ Below W.heap.size W w')
      have HA : Hid (Arr (W.alloc (.cells #[.slice q b.length cp, .int .i64 (o : Nat), .int .i64 0, .int .i64 0, .int .i64 (lv : Nat)] 59)) 59 W.heap.size [.slice q b.length cp, .int .i64 (o : Nat), .int .i64 0, .int .i64 0, .int .i64 (lv : Nat)]) := Arr.new' _ _ _ _ rfl
      have HB : Hid (Below W.heap.size W (W.alloc (.cells #[.slice q b.length cp, .int .i64 (o : Nat), .int .i64 0, .int .i64 0, .int .i64 (lv : Nat)] 59))) := (Below.refl _ _).alloc (Nat.le_refl _) _
      go_enter Tryz.func28, Tryz.ntmps28
      go_upto_region 1 with (fail)
      generalize W.alloc (.cells #[.slice q b.length cp, .int .i64 (o : Nat), .int .i64 0, .int .i64 0, .int .i64 (lv : Nat)] 59) = w1 at HA HB ⊢
      have x0 := HA.out.cell 0
      have y0 := HA.out.free 0
      have x1 := HA.out.cell 1
      have y1 := HA.out.free 1
      have x2 := HA.out.cell 2
      have y2 := HA.out.free 2
      have x3 := HA.out.cell 3
      have y3 := HA.out.free 3
      have x4 := HA.out.cell 4
      have y4 := HA.out.free 4
      simp only [List.getElem?_cons_zero, List.getElem?_cons_succ] at x0 x1 x2 x3 x4
      go_wp2_with fail
      refine (pFail16 (b := b)).mono ?_
      rintro e w2 ⟨rfl, b2⟩
      have HA2 := Lib.hid (HA.out.later b2)
      have HB2 := Lib.hid (HB.out.trans (b2.mono HB.out.size))
      clear b2 HA HB
      clear x0 y0 x1 y1 x2 y2 x3 y3 x4 y4
      have x0 := HA2.out.cell 0
      have y0 := HA2.out.free 0
      have x1 := HA2.out.cell 1
      have y1 := HA2.out.free 1
      have x2 := HA2.out.cell 2
      have y2 := HA2.out.free 2
      have x3 := HA2.out.cell 3
      have y3 := HA2.out.free 3
      have x4 := HA2.out.cell 4
      have y4 := HA2.out.free 4
      simp only [List.getElem?_cons_zero, List.getElem?_cons_succ] at x0 x1 x2 x3 x4
      go_upto_region 3 with (fail)
      clear x0 y0 x1 y1 x2 y2 x3 y3 x4 y4
      have HA3 := Lib.hid (HA2.out.setP (.slice q b.length cp) (.int .i64 (o : Nat)) (.int .i64 16) (.int .i64 (o : Nat)) (.int .i64 (lv : Nat)))
      have HB3 := Lib.hid (below_set5 HB2.out (Nat.le_refl _) (.slice q b.length cp) (.int .i64 (o : Nat)) (.int .i64 16) (.int .i64 (o : Nat)) (.int .i64 (lv : Nat)))
      clear HA2 HB2
      generalize (((((w2.setCell ⟨W.heap.size, 0, none⟩ (.slice q b.length cp)).setCell ⟨W.heap.size, 1, none⟩ (.int .i64 (o : Nat))).setCell ⟨W.heap.size, 2, none⟩ (.int .i64 16)).setCell ⟨W.heap.size, 3, none⟩ (.int .i64 (o : Nat))).setCell ⟨W.heap.size, 4, none⟩ (.int .i64 (lv : Nat))) = w3 at HA3 HB3 ⊢
      refine wp_region_noPanic ?_
      refine wp_region_held_drew (S := fun W' => Arr W' 59 W.heap.size [.slice q b.length cp, .int .i64 (o : Nat), .int .i64 16, .int .i64 (o : Nat), .int .i64 (lv : Nat)]) (by kernel_rfl) HA3.out.drew (fun hHeld => ?_)
      try simp only [Act.put]
      have HBD := Lib.hid (HB3.out.trans ((Below.refl _ _).drew.mono HB3.out.size))
      generalize w3.drew = wd at hHeld HBD ⊢
      refine wpAnyH_take (i := 0) (oi := ⟨some 19, _, _, _, _, _⟩) (v := .pointer (some ⟨W.heap.size, 2, none⟩)) rfl (by kernel_rfl) (by kernel_rfl) (by kernel_rfl) (fun _ _ _ h => h) (.inl ⟨by rfl, fun w' hSw => ?_⟩) hHeld ?_
      focus (skip; clear hHeld; go_simp)
      try simp only [Act.put, List.setIfInBounds_toArray, List.set_cons_zero, List.set_cons_succ]
      refine wpAnyH_take (i := 1) (oi := ⟨some 20, _, _, _, _, _⟩) (v := .int .i64 16) rfl (by kernel_rfl) (by kernel_rfl) (by kernel_rfl) (fun _ _ _ h => h) (.inl ⟨by rfl, fun w' hSw => ?_⟩) hHeld ?_
      focus (have a0 := hSw.cell 0; have a1 := hSw.cell 1; have a2 := hSw.cell 2; have a3 := hSw.cell 3; have a4 := hSw.cell 4; simp only [List.getElem?_cons_zero, List.getElem?_cons_succ] at a0 a1 a2 a3 a4; clear hHeld; go_simp)
      try simp only [Act.put, List.setIfInBounds_toArray, List.set_cons_zero, List.set_cons_succ]
      refine wpAnyH_take (i := 2) (oi := ⟨some 21, _, _, _, _, _⟩) (v := .pointer (some ⟨W.heap.size, 3, none⟩)) rfl (by kernel_rfl) (by kernel_rfl) (by kernel_rfl) (fun _ _ _ h => h) (.inl ⟨by rfl, fun w' hSw => ?_⟩) hHeld ?_
      focus (skip; clear hHeld; go_simp)
      try simp only [Act.put, List.setIfInBounds_toArray, List.set_cons_zero, List.set_cons_succ]
      refine wpAnyH_take (i := 3) (oi := ⟨some 22, _, _, _, _, _⟩) (v := .int .i64 (o : Nat)) rfl (by kernel_rfl) (by kernel_rfl) (by kernel_rfl) (fun _ _ _ h => h) (.inl ⟨by rfl, fun w' hSw => ?_⟩) hHeld ?_
      focus (have a0 := hSw.cell 0; have a1 := hSw.cell 1; have a2 := hSw.cell 2; have a3 := hSw.cell 3; have a4 := hSw.cell 4; simp only [List.getElem?_cons_zero, List.getElem?_cons_succ] at a0 a1 a2 a3 a4; clear hHeld; go_simp)
      try simp only [Act.put, List.setIfInBounds_toArray, List.set_cons_zero, List.set_cons_succ]
      refine wpAnyH_take (i := 4) (oi := ⟨some 2, _, _, _, _, _⟩) (v := .int .i64 16) rfl (by kernel_rfl) (by kernel_rfl) (by kernel_rfl) (fun _ _ _ h => h) (.inl ⟨by rfl, fun w' hSw => ?_⟩) hHeld ?_
      focus (skip; clear hHeld; go_simp)
      try simp only [Act.put, List.setIfInBounds_toArray, List.set_cons_zero, List.set_cons_succ]
      refine wpAnyH_take (i := 5) (oi := ⟨some 3, _, _, _, _, _⟩) (v := .int .i64 (o : Nat)) rfl (by kernel_rfl) (by kernel_rfl) (by kernel_rfl) (fun _ _ _ h => h) (.inl ⟨by rfl, fun w' hSw => ?_⟩) hHeld ?_
      focus (skip; clear hHeld; go_simp)
      try simp only [Act.put, List.setIfInBounds_toArray, List.set_cons_zero, List.set_cons_succ]
      refine wpAnyH_done (by kernel_rfl) ?_ _
      refine NoPanic.normal ?_
      go_wp2_with fail
      go_ret2
      exact ⟨rfl, HBD.out⟩
    · have e : finC b (.go o) = (0, 0) := if_neg hlt
      have hlt' : ¬ (o : Int) < (b.length : Nat) := by omega
      rw [e]
      clear e hol hlt
      show Calls _ _ #[.agg #[.slice q b.length cp, .int .i64 (o : Nat), .int .i64 0, .int .i64 0, .int .i64 (lv : Nat)]] _ (fun e w' => e = .returned (.tuple #[.int .i64 0, .int .i64 0]) ∧ Below W.heap.size W w')
      have HA : Hid (Arr (W.alloc (.cells #[.slice q b.length cp, .int .i64 (o : Nat), .int .i64 0, .int .i64 0, .int .i64 (lv : Nat)] 59)) 59 W.heap.size [.slice q b.length cp, .int .i64 (o : Nat), .int .i64 0, .int .i64 0, .int .i64 (lv : Nat)]) := Arr.new' _ _ _ _ rfl
      have HB : Hid (Below W.heap.size W (W.alloc (.cells #[.slice q b.length cp, .int .i64 (o : Nat), .int .i64 0, .int .i64 0, .int .i64 (lv : Nat)] 59))) := (Below.refl _ _).alloc (Nat.le_refl _) _
      go_enter Tryz.func28, Tryz.ntmps28
      go_upto_region 1 with (fail)
      generalize W.alloc (.cells #[.slice q b.length cp, .int .i64 (o : Nat), .int .i64 0, .int .i64 0, .int .i64 (lv : Nat)] 59) = w1 at HA HB ⊢
      have x0 := HA.out.cell 0
      have y0 := HA.out.free 0
      have x1 := HA.out.cell 1
      have y1 := HA.out.free 1
      have x2 := HA.out.cell 2
      have y2 := HA.out.free 2
      have x3 := HA.out.cell 3
      have y3 := HA.out.free 3
      have x4 := HA.out.cell 4
      have y4 := HA.out.free 4
      simp only [List.getElem?_cons_zero, List.getElem?_cons_succ] at x0 x1 x2 x3 x4
      go_upto_region 3 with (fail)
      clear x0 y0 x1 y1 x2 y2 x3 y3 x4 y4
      refine wp_region_noPanic ?_
      refine wp_region_held_drew (S := fun W' => Arr W' 59 W.heap.size [.slice q b.length cp, .int .i64 (o : Nat), .int .i64 0, .int .i64 0, .int .i64 (lv : Nat)]) (by kernel_rfl) HA.out.drew (fun hHeld => ?_)
      try simp only [Act.put]
      have HBD := Lib.hid (HB.out.trans ((Below.refl _ _).drew.mono HB.out.size))
      generalize w1.drew = wd at hHeld HBD ⊢
      refine wpAnyH_take (i := 0) (oi := ⟨some 19, _, _, _, _, _⟩) (v := .pointer (some ⟨W.heap.size, 2, none⟩)) rfl (by kernel_rfl) (by kernel_rfl) (by kernel_rfl) (fun _ _ _ h => h) (.inl ⟨by rfl, fun w' hSw => ?_⟩) hHeld ?_
      focus (skip; clear hHeld; go_simp)
      try simp only [Act.put, List.setIfInBounds_toArray, List.set_cons_zero, List.set_cons_succ]
      refine wpAnyH_take (i := 1) (oi := ⟨some 20, _, _, _, _, _⟩) (v := .int .i64 0) rfl (by kernel_rfl) (by kernel_rfl) (by kernel_rfl) (fun _ _ _ h => h) (.inl ⟨by rfl, fun w' hSw => ?_⟩) hHeld ?_
      focus (have a0 := hSw.cell 0; have a1 := hSw.cell 1; have a2 := hSw.cell 2; have a3 := hSw.cell 3; have a4 := hSw.cell 4; simp only [List.getElem?_cons_zero, List.getElem?_cons_succ] at a0 a1 a2 a3 a4; clear hHeld; go_simp)
      try simp only [Act.put, List.setIfInBounds_toArray, List.set_cons_zero, List.set_cons_succ]
      refine wpAnyH_take (i := 2) (oi := ⟨some 21, _, _, _, _, _⟩) (v := .pointer (some ⟨W.heap.size, 3, none⟩)) rfl (by kernel_rfl) (by kernel_rfl) (by kernel_rfl) (fun _ _ _ h => h) (.inl ⟨by rfl, fun w' hSw => ?_⟩) hHeld ?_
      focus (skip; clear hHeld; go_simp)
      try simp only [Act.put, List.setIfInBounds_toArray, List.set_cons_zero, List.set_cons_succ]
      refine wpAnyH_take (i := 3) (oi := ⟨some 22, _, _, _, _, _⟩) (v := .int .i64 0) rfl (by kernel_rfl) (by kernel_rfl) (by kernel_rfl) (fun _ _ _ h => h) (.inl ⟨by rfl, fun w' hSw => ?_⟩) hHeld ?_
      focus (have a0 := hSw.cell 0; have a1 := hSw.cell 1; have a2 := hSw.cell 2; have a3 := hSw.cell 3; have a4 := hSw.cell 4; simp only [List.getElem?_cons_zero, List.getElem?_cons_succ] at a0 a1 a2 a3 a4; clear hHeld; go_simp)
      try simp only [Act.put, List.setIfInBounds_toArray, List.set_cons_zero, List.set_cons_succ]
      refine wpAnyH_take (i := 4) (oi := ⟨some 2, _, _, _, _, _⟩) (v := .int .i64 0) rfl (by kernel_rfl) (by kernel_rfl) (by kernel_rfl) (fun _ _ _ h => h) (.inl ⟨by rfl, fun w' hSw => ?_⟩) hHeld ?_
      focus (skip; clear hHeld; go_simp)
      try simp only [Act.put, List.setIfInBounds_toArray, List.set_cons_zero, List.set_cons_succ]
      refine wpAnyH_take (i := 5) (oi := ⟨some 3, _, _, _, _, _⟩) (v := .int .i64 0) rfl (by kernel_rfl) (by kernel_rfl) (by kernel_rfl) (fun _ _ _ h => h) (.inl ⟨by rfl, fun w' hSw => ?_⟩) hHeld ?_
      focus (skip; clear hHeld; go_simp)
      try simp only [Act.put, List.setIfInBounds_toArray, List.set_cons_zero, List.set_cons_succ]
      refine wpAnyH_done (by kernel_rfl) ?_ _
      refine NoPanic.normal ?_
      go_wp2_with fail
      go_ret2
      exact ⟨rfl, HBD.out⟩
theorem finC_0 (hp : PI b s ox cx ax) (h : (finC b s).1 = 0) : (finC b s).2 = 0 := by
  cases s with
  | er c a => obtain ⟨o2, h1, _⟩ := hp; exact absurd h (h1.2.2 c a rfl)
  | go o =>
    by_cases hlt : o < b.length
    · have e : finC b (.go o) = (16, o) := if_pos hlt
      rw [e] at h; cases h
    · have e : finC b (.go o) = (0, 0) := if_neg hlt
      rw [e]
/-- What the reference's ParseExpr hands back. -/
def RPost (W : World) (r : Ex × Nat × Nat) (e : Ending) (w' : World) : Prop := ∃ v, e = .returned (.tuple #[v, .int .i64 (r.2.1 : Nat), .int .i64 (r.2.2 : Nat)]) ∧ VE W.heap.size r.1 w' v ∧ Below W.heap.size W w'
set_option maxRecDepth 100000 in
set_option maxHeartbeats 4000000 in
theorem rParseExpr_any {vb : Value} (hr : Rd W.heap.size W vb b) (hl : b.length ≤ 1000000) : Calls Tryz.prog 21 #[vb] W (RPost W (parseEx b)) := by
  obtain ⟨q, cp, rfl, _, _⟩ := hr.form
  have HG : Hid (Arr (W.alloc (.cells #[.int .i64 0, .string ⟨#[]⟩, .string ⟨#[]⟩, .slice none 0 0] 42)) 42 W.heap.size [.int .i64 0, .string ⟨#[]⟩, .string ⟨#[]⟩, .slice none 0 0]) := Arr.new' _ _ _ _ rfl
  have hb0 : Below W.heap.size W (W.alloc (.cells #[.int .i64 0, .string ⟨#[]⟩, .string ⟨#[]⟩, .slice none 0 0] 42)) := (Below.refl _ _).alloc (Nat.le_refl _) _
  have HN : Hid (Calls Tryz.prog 27 #[.agg #[.slice q b.length cp, .int .i64 0, .int .i64 0, .int .i64 0, .int .i64 0], .int .i64 1] (W.alloc (.cells #[.int .i64 0, .string ⟨#[]⟩, .string ⟨#[]⟩, .slice none 0 0] 42)) (QPost (W.alloc (.cells #[.int .i64 0, .string ⟨#[]⟩, .string ⟨#[]⟩, .slice none 0 0] 42)) b q cp (refC b 16 0 0))) := rRead_any 16 (by decide) _ 0 0 ((hr.below hb0 (Nat.le_refl _)).mono hb0.size) hl (Nat.zero_le _) (Nat.zero_le _)
  have HB := Lib.hid hb0
  have HSZ : Hid ((W.alloc (.cells #[.int .i64 0, .string ⟨#[]⟩, .string ⟨#[]⟩, .slice none 0 0] 42)).heap.size = W.heap.size + 1) := World.size_alloc _ _
  have HE := Lib.hid (parseEx_ref b)
  obtain ⟨⟨xk, xv, xn, xs⟩, hx⟩ : ∃ x, x = (refC b 16 0 0).1 := ⟨_, rfl⟩
  obtain ⟨s, hs⟩ : ∃ x, x = (refC b 16 0 0).2.1 := ⟨_, rfl⟩
  obtain ⟨lv, hlv⟩ : ∃ x, x = (refC b 16 0 0).2.2 := ⟨_, rfl⟩
  unfold QPost at HN
  rw [← hx, ← hs, ← hlv] at HN
  rw [← hx, ← hs] at HE
  clear hr hl hb0 hx hs hlv
  go_enter Tryz.func21, Tryz.ntmps21
  go_upto_region 1 with (fail)
  generalize W.alloc (.cells #[.int .i64 0, .string ⟨#[]⟩, .string ⟨#[]⟩, .slice none 0 0] 42) = w0 at HG HB HN HSZ ⊢
  go_wp2_with fail
  refine HN.out.mono ?_
  rintro e w1 ⟨ox, cx, ax, v, rfl, hp1, hv1, b1⟩
  have r1' : VE w0.heap.size (.mk xk xv xn xs) w1 v := hv1
  obtain ⟨q1, c1, rfl, _, _⟩ := RdE.form hv1
  unfold exv at r1' ⊢
  dsimp only [Ex.kind, Ex.via, Ex.nm, Ex.kids] at r1' ⊢
  have HV1 : Hid (VE w0.heap.size (.mk xk xv xn xs) w1 (.agg #[.int .i64 xk, .string (bstr xv), .string (bstr xn), .slice q1 xs.length c1])) := r1'
  have HP1 := Lib.hid hp1
  have HA1 := Lib.hid (HG.out.later b1)
  have HB1 := Lib.hid (HB.out.trans (b1.mono HB.out.size))
  clear r1' hv1 hp1 b1 HN HG HB
  go_upto_region 2 with (fail)
  have hb2 : Below w1.heap.size w1 ((w1.alloc (.cells #[.slice q b.length cp, .int .i64 ox, .int .i64 cx, .int .i64 ax, .int .i64 (lv : Nat)] 59)).alloc (.cells #[.int .i64 xk, .string (bstr xv), .string (bstr xn), .slice q1 xs.length c1] 42)) := ((Below.refl _ _).alloc (Nat.le_refl _) _).alloc (by simp) _
  have HP2 : Hid (Arr ((w1.alloc (.cells #[.slice q b.length cp, .int .i64 ox, .int .i64 cx, .int .i64 ax, .int .i64 (lv : Nat)] 59)).alloc (.cells #[.int .i64 xk, .string (bstr xv), .string (bstr xn), .slice q1 xs.length c1] 42)) 59 w1.heap.size [.slice q b.length cp, .int .i64 ox, .int .i64 cx, .int .i64 ax, .int .i64 (lv : Nat)]) := (Arr.new' _ _ _ _ rfl).alloc _
  have HX2 : Hid (Arr ((w1.alloc (.cells #[.slice q b.length cp, .int .i64 ox, .int .i64 cx, .int .i64 ax, .int .i64 (lv : Nat)] 59)).alloc (.cells #[.int .i64 xk, .string (bstr xv), .string (bstr xn), .slice q1 xs.length c1] 42)) 42 (w1.heap.size + 1) [.int .i64 xk, .string (bstr xv), .string (bstr xn), .slice q1 xs.length c1]) := Arr.new2 _ _ _ _ _ rfl
  have HV2 := Lib.hid (HV1.out.later hb2)
  have HA2 := Lib.hid (HA1.out.later hb2)
  have HB2 := Lib.hid (HB1.out.trans (hb2.mono HB1.out.size))
  clear hb2 HV1 HA1 HB1
  obtain ⟨g, hg⟩ : ∃ g, g = w1.heap.size := ⟨_, rfl⟩
  rw [← hg] at HP2 HX2 ⊢
  clear hg
  generalize ((w1.alloc (.cells #[.slice q b.length cp, .int .i64 ox, .int .i64 cx, .int .i64 ax, .int .i64 (lv : Nat)] 59)).alloc (.cells #[.int .i64 xk, .string (bstr xv), .string (bstr xn), .slice q1 xs.length c1] 42)) = w2 at HP2 HX2 HV2 HA2 HB2 ⊢
  have HF := Lib.hid (pFin (lv := lv) (W := w2) (q := q) (cp := cp) HP1.out)
  obtain ⟨fc, hfc⟩ : ∃ x, x = (finC b s).1 := ⟨_, rfl⟩
  obtain ⟨fa, hfa⟩ : ∃ x, x = (finC b s).2 := ⟨_, rfl⟩
  rw [← hfc, ← hfa] at HF
  have HE1 : Hid (parseEx b = (if fc = 0 then .mk xk xv xn xs else ex0, fc, fa)) := by rw [hfc, hfa]; exact HE.out
  have HFZ : Hid (fc = 0 → fa = 0) := by rw [hfc, hfa]; exact finC_0 HP1.out
  clear hfc hfa HE
  have x0 := HP2.out.cell 0
  have y0 := HP2.out.free 0
  have x1 := HP2.out.cell 1
  have y1 := HP2.out.free 1
  have x2 := HP2.out.cell 2
  have y2 := HP2.out.free 2
  have x3 := HP2.out.cell 3
  have y3 := HP2.out.free 3
  have x4 := HP2.out.cell 4
  have y4 := HP2.out.free 4
  simp only [List.getElem?_cons_zero, List.getElem?_cons_succ] at x0 x1 x2 x3 x4
  go_wp2_with fail
  refine HF.out.mono ?_
  rintro e w3 ⟨rfl, b3⟩
  have HV3 := Lib.hid (HV2.out.later b3)
  have HX3 := Lib.hid (HX2.out.later b3)
  have HA3 := Lib.hid (HA2.out.later b3)
  have HB3 := Lib.hid (HB2.out.trans (b3.mono HB2.out.size))
  clear b3 HF HV2 HX2 HA2 HB2 HP2
  clear x0 y0 x1 y1 x2 y2 x3 y3 x4 y4
  have e0 := HA3.out.cell 0
  have f0 := HA3.out.free 0
  have e1 := HA3.out.cell 1
  have f1 := HA3.out.free 1
  have e2 := HA3.out.cell 2
  have f2 := HA3.out.free 2
  have e3 := HA3.out.cell 3
  have f3 := HA3.out.free 3
  simp only [List.getElem?_cons_zero, List.getElem?_cons_succ] at e0 e1 e2 e3
  have t0 := HX3.out.cell 0
  have r0 := HX3.out.free 0
  have t1 := HX3.out.cell 1
  have r1 := HX3.out.free 1
  have t2 := HX3.out.cell 2
  have r2 := HX3.out.free 2
  have t3 := HX3.out.cell 3
  have r3 := HX3.out.free 3
  simp only [List.getElem?_cons_zero, List.getElem?_cons_succ] at t0 t1 t2 t3
  by_cases hz : fc = 0
  · have HE2 : Hid (parseEx b = (.mk xk xv xn xs, 0, 0)) := by show _ = _; rw [HE1.out, if_pos hz, HFZ.out hz, hz]
    subst hz
    go_wp2_with fail
    have hA := HA3.out.set4x (.int .i64 xk) (.string (bstr xv)) (.string (bstr xn)) (.slice q1 xs.length c1)
    have hk := kp_set4 w3 W.heap.size (.int .i64 xk) (.string (bstr xv)) (.string (bstr xn)) (.slice q1 xs.length c1)
    refine bodyPost_ret (resX3 rfl hA rfl) rfl ?_
    rw [HE2.out]
    exact ⟨_, rfl, (VE.kp HV3.out hk (by have := HSZ.out; omega)).low (by have := HSZ.out; omega), below_box (below_box (below_box (below_box HB3.out (Nat.le_refl _) _ _) (Nat.le_refl _) _ _) (Nat.le_refl _) _ _) (Nat.le_refl _) _ _⟩
  · have HE2 : Hid (parseEx b = (ex0, fc, fa)) := by show _ = _; rw [HE1.out, if_neg hz]
    have hcx : ¬ (fc : Int) = 0 := by omega
    have hc2 : ((fc : Int) == 0) = false := by rw [beq_eq_false_iff_ne]; exact hcx
    have hc3 : ((fc : Int) != 0) = true := by rw [bne_iff_ne]; exact hcx
    go_wp2_with fail
    have hA := HA3.out.set4x (.int .i64 0) (.string ⟨#[]⟩) (.string ⟨#[]⟩) (.slice none 0 0)
    refine bodyPost_ret (resX3 rfl hA rfl) rfl ?_
    rw [HE2.out]
    exact ⟨_, rfl, VE.leaf _ _ _ _ _, below_box (below_box (below_box (below_box HB3.out (Nat.le_refl _) _ _) (Nat.le_refl _) _ _) (Nat.le_refl _) _ _) (Nat.le_refl _) _ _⟩
end
end Go.Proofs.YtdnmgemjhpkekaaGreatDoor
/-
  vestrylaw16.CodecReads.
-/
namespace Go.Proofs.YtdnmgemjhpkekaaGreatDoor
open Go.ChangeShapes Go.WideShapes Go.ChangeAt Go.RowKit
set_option linter.unusedVariables false

theorem few_right {e : Ex} (h : rightE e = true) : FewE e := ⟨Nat.le_trans (right_fine h).2.1 (by decide), okE_le (by decide) e (right_fine h).1⟩
theorem few_zero : FewE ex0 := ⟨by decide +kernel, by unfold ex0; rw [okE]; exact ⟨by decide, by decide, by rw [okL]; trivial⟩⟩
/-- What is read: with a code nothing, without one a right expression, which is written as it was read. -/
theorem parsed (b : List UInt8) : FewE (parseEx b).1 ∧ ((parseEx b).2.1 = 0 → rightE (parseEx b).1 = true ∧ putE (parseEx b).1 = b) := by
  by_cases h : (parseEx b).2.1 = 0
  · obtain ⟨h1, h2, _⟩ := parseEx_ok h
    exact ⟨few_right h1.1, fun _ => ⟨h1.1, h2.symm⟩⟩
  · rw [parseEx_fail h]
    exact ⟨few_zero, fun e => absurd e h⟩
section
variable {W : World}
theorem eForm {B : Nat} {x : Ex} {w : World} {v : Value} (h : VE B x w v) : ∃ q c, v = .agg #[.int .i64 x.kind, .string (bstr x.via), .string (bstr x.nm), .slice q x.kids.length c] := by
  obtain ⟨q, c, rfl, _⟩ := h.form
  exact ⟨q, c, rfl⟩
set_option maxRecDepth 100000 in
set_option maxHeartbeats 4000000 in
theorem creads_any {vb : Value} {b : List UInt8} (hr : Rd W.heap.size W vb b) (hE : Env W) : Calls Tryz.prog 5 #[vb] W fun r w' => r = .returned (.bool true) ∧ Below W.heap.size W w' := by
  obtain ⟨q, cp, rfl, _, _⟩ := hr.form
  have HA := Lib.hid (awake_any W hE)
  have HE := Lib.hid hE
  have HRD := Lib.hid hr
  clear hr hE
  go_enter Tryz.func5, Tryz.ntmps5
  go_wp2_with fail
  refine HA.out.mono ?_
  rintro r w1 ⟨rfl, b1⟩
  have HB1 := Lib.hid b1
  clear b1 HA
  by_cases hl : b.length ≤ 2000
  · have hl' : ¬ (2000 : Int) < (b.length : Nat) := by omega
    obtain ⟨x, hx⟩ : ∃ x, x = (parseEx b).1 := ⟨_, rfl⟩
    obtain ⟨pc, hpc⟩ : ∃ x, x = (parseEx b).2.1 := ⟨_, rfl⟩
    obtain ⟨pa, hpa⟩ : ∃ x, x = (parseEx b).2.2 := ⟨_, rfl⟩
    have HF : Hid (FewE x ∧ (pc = 0 → rightE x = true ∧ putE x = b)) := by rw [hx, hpc]; exact parsed b
    have HP : Hid (∀ w, Rd w.heap.size w (.slice q b.length cp) b → Env w → Calls Tryz.prog 18 #[.slice q b.length cp] w fun e w' => ∃ v, e = .returned (.tuple #[v, errF pc pa]) ∧ VE w.heap.size x w' v ∧ Below w.heap.size w w') := fun w h1 h2 => by
      have h := cParseExpr_any h1 (by omega) h2
      unfold EPost at h
      rw [← hx, ← hpc, ← hpa] at h
      exact h
    have HQ : Hid (∀ w, Rd w.heap.size w (.slice q b.length cp) b → Calls Tryz.prog 21 #[.slice q b.length cp] w fun e w' => ∃ v, e = .returned (.tuple #[v, .int .i64 (pc : Nat), .int .i64 (pa : Nat)]) ∧ VE w.heap.size x w' v ∧ Below w.heap.size w w') := fun w h1 => by
      have h := rParseExpr_any h1 (by omega)
      unfold RPost at h
      rw [← hx, ← hpc, ← hpa] at h
      exact h
    clear hx hpc hpa hl
    have HC := Lib.hid (HP.out w1 ((HRD.out.below HB1.out (Nat.le_refl _)).mono HB1.out.size) (HE.out.below HB1.out))
    go_wp2_with fail
    refine HC.out.mono ?_
    rintro r w2 ⟨v2, rfl, hv2, b2⟩
    obtain ⟨q2, c2, rfl⟩ := eForm hv2
    have HB2 := Lib.hid (HB1.out.trans (b2.mono HB1.out.size))
    have HV2 : Hid (RdE (fun g => g < w2.heap.size) w2 x (.agg #[.int .i64 x.kind, .string (bstr x.via), .string (bstr x.nm), .slice q2 x.kids.length c2])) := hv2.imp fun _ h => h.2
    clear hv2 b2 HC HB1 HP
    obtain ⟨xk, xv, xn, xs⟩ := x
    dsimp only [Ex.kind, Ex.via, Ex.nm, Ex.kids] at HV2 ⊢
    obtain ⟨er, her⟩ : ∃ v, v = errF pc pa := ⟨_, rfl⟩
    rw [← her]
    have HER := Lib.hid her
    clear her
    go_upto_region 4 with (fail)
    have hb3 := (Below.refl w2.heap.size w2).alloc (Nat.le_refl _) (.cells #[.int .i64 xk, .string (bstr xv), .string (bstr xn), .slice q2 xs.length c2] 42)
    have HB3 := Lib.hid (HB2.out.trans (hb3.mono HB2.out.size))
    have HA3 : Hid (Arr (w2.alloc (.cells #[.int .i64 xk, .string (bstr xv), .string (bstr xn), .slice q2 xs.length c2] 42)) 42 w2.heap.size [.int .i64 xk, .string (bstr xv), .string (bstr xn), .slice q2 xs.length c2]) := Arr.new' _ _ _ _ rfl
    have HV3 : Hid (RdE (fun g => g < w2.heap.size) _ (.mk xk xv xn xs) (.agg #[.int .i64 xk, .string (bstr xv), .string (bstr xn), .slice q2 xs.length c2])) := HV2.out.below hb3 fun _ h => h
    obtain ⟨g2, hg2⟩ : ∃ g, g = w2.heap.size := ⟨_, rfl⟩
    rw [← hg2] at HA3 HV3 ⊢
    clear hb3 HB2 HV2
    generalize w2.alloc (.cells #[.int .i64 xk, .string (bstr xv), .string (bstr xn), .slice q2 xs.length c2] 42) = w3 at HB3 HA3 HV3 ⊢
    clear hg2
    have HC := Lib.hid (HQ.out w3 ((HRD.out.below HB3.out (Nat.le_refl _)).mono HB3.out.size))
    go_wp2_with fail
    refine HC.out.mono ?_
    rintro r w4 ⟨v4, rfl, hv4, b4⟩
    obtain ⟨q4, c4, rfl⟩ := eForm hv4
    dsimp only [Ex.kind, Ex.via, Ex.nm, Ex.kids] at hv4 ⊢
    have HB4 := Lib.hid (HB3.out.trans (b4.mono HB3.out.size))
    have HA4 := Lib.hid (HA3.out.later b4)
    have HV4 : Hid (RdE (fun g => g < g2) w4 (.mk xk xv xn xs) (.agg #[.int .i64 xk, .string (bstr xv), .string (bstr xn), .slice q2 xs.length c2])) := HV3.out.below b4 fun _ h => Nat.lt_trans h HA3.out.lt
    have HU4 : Hid (RdE (fun g => g < w4.heap.size) w4 (.mk xk xv xn xs) (.agg #[.int .i64 xk, .string (bstr xv), .string (bstr xn), .slice q4 xs.length c4])) := hv4.imp fun _ h => h.2
    clear hv4 b4 HC HB3 HA3 HV3 HQ
    go_upto_region 5 with (fail)
    have hb5 := (Below.refl w4.heap.size w4).alloc (Nat.le_refl _) (.cells #[.int .i64 xk, .string (bstr xv), .string (bstr xn), .slice q4 xs.length c4] 42)
    have HB5 := Lib.hid (HB4.out.trans (hb5.mono HB4.out.size))
    have HA5 := Lib.hid (HA4.out.later hb5)
    have HU5 : Hid (Arr (w4.alloc (.cells #[.int .i64 xk, .string (bstr xv), .string (bstr xn), .slice q4 xs.length c4] 42)) 42 w4.heap.size [.int .i64 xk, .string (bstr xv), .string (bstr xn), .slice q4 xs.length c4]) := Arr.new' _ _ _ _ rfl
    have HV5 : Hid (RdE (fun g => g < g2) _ (.mk xk xv xn xs) (.agg #[.int .i64 xk, .string (bstr xv), .string (bstr xn), .slice q2 xs.length c2])) := HV4.out.below hb5 fun _ h => Nat.lt_trans h HA4.out.lt
    have HX5 : Hid (RdE (fun g => g < w4.heap.size) _ (.mk xk xv xn xs) (.agg #[.int .i64 xk, .string (bstr xv), .string (bstr xn), .slice q4 xs.length c4])) := HU4.out.below hb5 fun _ h => h
    obtain ⟨g4, hg4⟩ : ∃ g, g = w4.heap.size := ⟨_, rfl⟩
    rw [← hg4] at HU5 HX5 ⊢
    clear hb5 HB4 HA4 HV4 HU4
    generalize w4.alloc (.cells #[.int .i64 xk, .string (bstr xv), .string (bstr xn), .slice q4 xs.length c4] 42) = w5 at HB5 HA5 HU5 HV5 HX5 ⊢
    clear hg4
    have HT := Lib.hid (told_any pc pa w5 (HE.out.below HB5.out).2)
    rw [← HER.out] at HT
    go_wp2_with fail
    refine HT.out.mono ?_
    rintro r w6 ⟨rfl, b6⟩
    have HB6 := Lib.hid (HB5.out.trans (b6.mono HB5.out.size))
    have HA6 := Lib.hid (HA5.out.later b6)
    have HU6 := Lib.hid (HU5.out.later b6)
    have HV6 : Hid (RdE (fun g => g < g2) w6 (.mk xk xv xn xs) (.agg #[.int .i64 xk, .string (bstr xv), .string (bstr xn), .slice q2 xs.length c2])) := HV5.out.below b6 fun _ h => Nat.lt_trans h HA5.out.lt
    have HX6 : Hid (RdE (fun g => g < g4) w6 (.mk xk xv xn xs) (.agg #[.int .i64 xk, .string (bstr xv), .string (bstr xn), .slice q4 xs.length c4])) := HX5.out.below b6 fun _ h => Nat.lt_trans h HU5.out.lt
    clear b6 HT HB5 HA5 HU5 HV5 HX5 HER
    have z0 := HA6.out.cell 0
    have z1 := HA6.out.cell 1
    have z2 := HA6.out.cell 2
    have z3 := HA6.out.cell 3
    simp only [List.getElem?_cons_zero, List.getElem?_cons_succ] at z0 z1 z2 z3
    have y0 := HU6.out.cell 0
    have y1 := HU6.out.cell 1
    have y2 := HU6.out.cell 2
    have y3 := HU6.out.cell 3
    simp only [List.getElem?_cons_zero, List.getElem?_cons_succ] at y0 y1 y2 y3
    have HC := Lib.hid (rcompare_any _ (.mk xk xv xn xs) (.mk xk xv xn xs) _ _ _ _ w6 (Nat.le_refl _) HF.out.1.1 HF.out.1.1 HF.out.1.2 HF.out.1.2 HV6.out HX6.out (fun b hb => Nat.lt_trans hb HA6.out.lt) (fun b hb => Nat.lt_trans hb HU6.out.lt))
    rw [cmpE_self] at HC
    go_wp2_with fail
    refine HC.out.mono ?_
    rintro r w7 ⟨rfl, b7⟩
    have HB7 := Lib.hid (HB6.out.trans (b7.mono HB6.out.size))
    have HA7 := Lib.hid (HA6.out.later b7)
    have HU7 := Lib.hid (HU6.out.later b7)
    have HV7 : Hid (RdE (fun g => g < g2) w7 (.mk xk xv xn xs) (.agg #[.int .i64 xk, .string (bstr xv), .string (bstr xn), .slice q2 xs.length c2])) := HV6.out.below b7 fun _ h => Nat.lt_trans h HA6.out.lt
    have HX7 : Hid (RdE (fun g => g < g4) w7 (.mk xk xv xn xs) (.agg #[.int .i64 xk, .string (bstr xv), .string (bstr xn), .slice q4 xs.length c4])) := HX6.out.below b7 fun _ h => Nat.lt_trans h HU6.out.lt
    clear b7 HC HB6 HA6 HU6 HV6 HX6 z0 z1 z2 z3 y0 y1 y2 y3
    by_cases hz : pc = 0
    · subst hz
      obtain ⟨hr, hp⟩ := HF.out.2 rfl
      have HRT := Lib.hid hr
      have HPT := Lib.hid hp
      clear hr hp
      have y0 := HU7.out.cell 0
      have y1 := HU7.out.cell 1
      have y2 := HU7.out.cell 2
      have y3 := HU7.out.cell 3
      simp only [List.getElem?_cons_zero, List.getElem?_cons_succ] at y0 y1 y2 y3
      have HC := Lib.hid (rRight_any _ _ _ w7 HF.out.1.2 HF.out.1.1 HX7.out (fun b hb => Nat.lt_trans hb HU7.out.lt))
      rw [HRT.out] at HC
      go_wp2_with fail
      refine HC.out.mono ?_
      rintro r w8 ⟨rfl, b8⟩
      have HB8 := Lib.hid (HB7.out.trans (b8.mono HB7.out.size))
      have HA8 := Lib.hid (HA7.out.later b8)
      have HV8 : Hid (RdE (fun g => g < g2) w8 (.mk xk xv xn xs) (.agg #[.int .i64 xk, .string (bstr xv), .string (bstr xn), .slice q2 xs.length c2])) := HV7.out.below b8 fun _ h => Nat.lt_trans h HA7.out.lt
      clear b8 HC HB7 HA7 HU7 HV7 HX7 y0 y1 y2 y3
      have z0 := HA8.out.cell 0
      have z1 := HA8.out.cell 1
      have z2 := HA8.out.cell 2
      have z3 := HA8.out.cell 3
      simp only [List.getElem?_cons_zero, List.getElem?_cons_succ] at z0 z1 z2 z3
      have HC : Hid (Calls Tryz.prog 16 #[.agg #[.int .i64 xk, .string (bstr xv), .string (bstr xn), .slice q2 xs.length c2]] w8 (Owned w8 b)) := by
        refine (putExpr_any _ _ _ w8 HV8.out (fun b hb => Nat.lt_trans hb HA8.out.lt) HF.out.1.1 (HE.out.below HB8.out).1).mono fun r w' h1 => ?_
        unfold PutP at h1
        rw [if_pos HRT.out, HPT.out] at h1
        exact h1
      go_wp2_with fail
      refine HC.out.mono ?_
      rintro r w9 ⟨v9, rfl, o9, b9⟩
      have HB9 := Lib.hid (HB8.out.trans (b9.mono HB8.out.size))
      have HP9 := Lib.hid (Rd.of_own o9)
      obtain ⟨q9, c9, rfl⟩ := own_form o9
      clear o9 b9 HC HB8 HA8 HV8 z0 z1 z2 z3
      have HC := Lib.hid (same_any HP9.out ((HRD.out.below HB9.out (Nat.le_refl _)).mono HB9.out.size))
      rw [show eqB b b = true from by unfold eqB; exact beq_self_eq_true b] at HC
      go_wp2_with fail
      refine HC.out.mono ?_
      rintro r wa ⟨rfl, na, rfl⟩
      have HBa := Lib.hid (HB9.out.trans ((Joins.below_draws _ _ na).mono HB9.out.size))
      clear HC HB9 HP9
      go_wp2_with fail
      go_ret
      exact ⟨rfl, HBa.out⟩
    · have hpz : ¬ (pc : Int) = 0 := by omega
      have hpz2 : ((pc : Int) != 0) = true := by rw [bne_iff_ne]; exact hpz
      go_wp2_with fail
      go_ret
      exact ⟨rfl, HB7.out⟩
  · have hl' : (2000 : Int) < (b.length : Nat) := by omega
    have HA := Lib.hid (awake_any w1 (HE.out.below HB1.out))
    clear hl
    go_wp2_with fail
    refine HA.out.mono ?_
    rintro r w2 ⟨rfl, b2⟩
    have HB2 := Lib.hid (HB1.out.trans (b2.mono HB1.out.size))
    clear b2 HA
    go_wp2_with fail
    go_ret
    exact ⟨rfl, HB2.out⟩
end
end Go.Proofs.YtdnmgemjhpkekaaGreatDoor
/-
  The expressions of CodecLimits as bytes: which of them are read; no program is spoken of.
-/
namespace Go.Proofs.YtdnmgemjhpkekaaGreatDoor
set_option linter.unusedVariables false

def leafs (n : Nat) : List UInt8 := (List.replicate n [1, 1, 97]).flatten
def deepL (k : Nat) : List UInt8 := List.replicate k 5 ++ leafs (k + 1)
def wideL (k : Nat) : List UInt8 := [3, 2, 3, UInt8.ofNat (17 + k)] ++ leafs (18 + k)
set_option maxRecDepth 100000 in
theorem limits_all : ((List.range 6).all fun i => (decide ((parseEx (deepL (13 + i))).2.1 = 0) == decide (13 + i ≤ 15)) && (decide ((parseEx (wideL (13 + i))).2.1 = 0) == decide (13 + i ≤ 14))) = true := by decide +kernel
theorem limits_at {k : Nat} (h1 : 13 ≤ k) (h2 : k ≤ 18) : ((parseEx (deepL k)).2.1 = 0 ↔ k ≤ 15) ∧ ((parseEx (wideL k)).2.1 = 0 ↔ k ≤ 14) := by
  have h := List.all_eq_true.1 limits_all (k - 13) (List.mem_range.2 (by omega))
  rw [show 13 + (k - 13) = k from by omega] at h
  simp only [Bool.and_eq_true, beq_iff_eq] at h
  exact ⟨decide_eq_decide.1 h.1, decide_eq_decide.1 h.2⟩
end Go.Proofs.YtdnmgemjhpkekaaGreatDoor
/-
  vestrylaw16.CodecLimits.
-/
namespace Go.Proofs.YtdnmgemjhpkekaaGreatDoor
open Go.ChangeShapes Go.WideShapes Go.ChangeAt Go.RowKit
set_option linter.unusedVariables false
set_option linter.unusedSimpArgs false

theorem leafs_length (n : Nat) : (leafs n).length = n * 3 := by unfold leafs; simp
theorem leafs_succ (n : Nat) : leafs n ++ [1, 1, 97] = leafs (n + 1) := by unfold leafs; rw [List.replicate_succ', List.flatten_append]; rfl
theorem deep_step (i : Nat) : List.replicate i (5 : UInt8) ++ [5] = List.replicate (i + 1) 5 := List.replicate_succ'.symm
theorem own_lit4 (w : World) (x : Nat) (hx : x < 256) : (w.alloc (.cells #[.int .u8 3, .int .u8 2, .int .u8 3, .int .u8 (x : Nat)] 5)).ownsRow w.heap.size 5 1 (.slice (some ⟨w.heap.size, 0, none⟩) 4 4) 4 (bvs [3, 2, 3, UInt8.ofNat x]) := by
  have h := World.ownsRow_lit (base := w.heap.size) (e := 5) (size := 1) w #[.int .u8 3, .int .u8 2, .int .u8 3, .int .u8 (x : Nat)] 4 (Nat.le_refl _) (by decide) rfl
  have e : bvs [3, 2, 3, UInt8.ofNat x] = [.int .u8 3, .int .u8 2, .int .u8 3, .int .u8 (x : Nat)] := by
    show [_, _, _, bv _] = _
    unfold bv
    simp [Nat.mod_eq_of_lt hx]
  rw [e]; exact h
/-- ParseExpr of bytes in a row, by the program and by the reference. -/
theorem parse_err {w : World} {b : List UInt8} {vb : Value} {pc pa : Nat} (hr : Rd w.heap.size w vb b) (hl : b.length ≤ 1000000) (hE : Env w) (h1 : pc = (parseEx b).2.1) (h2 : pa = (parseEx b).2.2) : Calls Tryz.prog 18 #[vb] w fun e w' => ∃ xk xv xn q n c, e = .returned (.tuple #[.agg #[.int .i64 xk, .string xv, .string xn, .slice q n c], errF pc pa]) ∧ Below w.heap.size w w' := by
  subst h1 h2
  refine (cParseExpr_any hr hl hE).mono ?_
  rintro r w' ⟨v, rfl, hv, b1⟩
  obtain ⟨q, c, rfl⟩ := eForm hv
  exact ⟨_, _, _, _, _, _, rfl, b1⟩
theorem rparse_err {w : World} {b : List UInt8} {vb : Value} {pc pa : Nat} (hr : Rd w.heap.size w vb b) (hl : b.length ≤ 1000000) (h1 : pc = (parseEx b).2.1) (h2 : pa = (parseEx b).2.2) : Calls Tryz.prog 21 #[vb] w fun e w' => ∃ xk xv xn q n c, e = .returned (.tuple #[.agg #[.int .i64 xk, .string xv, .string xn, .slice q n c], .int .i64 (pc : Nat), .int .i64 (pa : Nat)]) ∧ Below w.heap.size w w' := by
  subst h1 h2
  refine (rParseExpr_any hr hl).mono ?_
  rintro r w' ⟨v, rfl, hv, b1⟩
  obtain ⟨q, c, rfl⟩ := eForm hv
  exact ⟨_, _, _, _, _, _, rfl, b1⟩
set_option maxRecDepth 100000 in
set_option maxHeartbeats 8000000 in
theorem climits_any (n : Int) (W : World) (hn : (Lit.int .u8 n).wf = true) (hE : Env W) : Calls Tryz.prog 6 #[.int .u8 n] W fun r w' => r = .returned (.bool true) ∧ Below W.heap.size W w' := by
  have HAW := Lib.hid (awake_any W hE)
  have HE := Lib.hid hE
  have hn0 : 0 ≤ n ∧ n < 256 := by
    have h1 : IntKind.u8.min = 0 := rfl
    have h2 : IntKind.u8.max = 255 := rfl
    simp [Lit.wf] at hn
    omega
  obtain ⟨m, rfl⟩ : ∃ m : Nat, n = m := ⟨n.toNat, by omega⟩
  have hm : m < 256 := by omega
  have hcn : (Int.tmod (m : Int) 6) = ((m % 6 : Nat) : Int) := by rw [Int.tmod_eq_emod_of_nonneg (by omega)]; omega
  clear hE hn hn0
  go_enter Tryz.func6, Tryz.ntmps6
  go_wp2_with fail
  refine HAW.out.mono ?_
  rintro r w1 ⟨rfl, b1⟩
  have HE1 := Lib.hid (HE.out.below b1)
  have HB1 := Lib.hid b1
  clear b1 HAW
  go_upto_region 5 with (fail)
  obtain ⟨k, hk⟩ : ∃ k, k = 13 + m % 6 := ⟨_, rfl⟩
  have HK18 : Hid (13 ≤ k ∧ k ≤ 18) := by show _ ∧ _; omega
  first | rw [show ((13 : Int) + (m : Int) % 6) = ((k : Nat) : Int) from by omega] | rw [show ((13 : Int) + ((m % 6 : Nat) : Int)) = ((k : Nat) : Int) from by omega]
  clear hcn hk hm
  go_wp2_with fail
  go_loopw [4, 5] (fun sv iv wr => ∃ (i : Nat) (l : List UInt8) (q : Option Addr) (c : Nat), i ≤ k ∧ iv = .int .i64 (i : Nat) ∧ sv = .slice q l.length c ∧ Hid (l = List.replicate i 5) ∧ Hid (wr.ownsRow w1.heap.size 5 1 (.slice q l.length c) l.length (bvs l)) ∧ Hid (Below w1.heap.size w1 wr)) (fun _ iv _ => k - (intOf iv).toNat)
  case atStart => exact ⟨0, [], none, 0, Nat.zero_le _, rfl, rfl, rfl, World.ownsRow_nil _ _ _ _, Below.refl _ _⟩
  case round =>
    obtain ⟨i, l, q, c, hi, rfl, rfl, HLE, HOW, HBW⟩ := hrel
    by_cases hlt : i < k
    · have hlt' : (i : Int) < (k : Nat) := by omega
      have hw : wrap64 ((i : Int) + 1) = (i : Int) + 1 := by unfold wrap64; have := HK18.out; omega
      have HLT : Hid (i < k) := hlt
      have HLM : Hid (l.length + 1 ≤ 140737488355328) := by show _ ≤ _; rw [HLE.out]; have := HK18.out; simp [leafs_length, List.length_append]; omega
      generalize hwr : wr = w6 at HOW HBW ⊢
      clear hwr hlt
      have hba : Below w6.heap.size w6 (w6.alloc (.cells #[.int .u8 5] 5)) := (Below.refl _ _).alloc (Nat.le_refl _) _
      have HOA := Lib.hid (own_below HOW.out hba)
      have HBA := Lib.hid (HBW.out.trans (hba.mono HBW.out.size))
      have HRM := Lib.hid (rd_lit w6 [5] #[.int .u8 5] rfl 1 rfl (by show 1 ≤ maxLen; unfold maxLen; omega))
      have HWB : Hid (w1.heap.size ≤ (w6.alloc (.cells #[.int .u8 5] 5)).heap.size) := HBA.out.size
      clear hba HOW HBW
      go_wp2_with (at_builtin; refine app_bytes rfl _ _ rfl rfl HOA.out rfl HRM.out HLM.out HWB.out ?_)
      intro vn wn hown hg
      have HBN := Lib.hid (below_grown HBA.out HBA.out.size (Nat.le_refl _) HOA.out hg)
      obtain ⟨q1, c1, rfl⟩ := own_form hown
      obtain ⟨l1, hl1⟩ : ∃ x, x = l ++ [5] := ⟨_, rfl⟩
      have hAL : l.length + 1 = l1.length := by rw [hl1, List.length_append]; rfl
      have HON : Hid (wn.ownsRow w1.heap.size 5 1 (.slice q1 l1.length c1) l1.length (bvs l1)) := by show World.ownsRow _ _ _ _ _ _ _; rw [hl1]; simpa using hown
      first | rw [hAL] | (rw [← hl1])
      have HLN : Hid (l1 = List.replicate (i + 1) 5) := by show _ = _; rw [hl1, HLE.out]; exact deep_step _
      clear hAL hl1 hown hg HOA HBA HRM HWB HLM
      go_wp2_with fail
      go_roundw
      case rel => exact ⟨i + 1, l1, q1, c1, HLT.out, by go_num, rfl, HLN, HON, HBN⟩
      case measure => first | exact meas HLT.out (Nat.le_trans (show k ≤ 100 from by have := HK18.out; omega) (by decide)) | exact meas' HLT.out
    · have hlt' : ¬ ((i : Int) < (k : Nat)) := by omega
      obtain rfl : k = i := by omega
      clear hlt hi
      generalize wr = w2 at HOW HBW ⊢
      go_wp2_with fail
      go_loopw [4, 6] (fun sv iv wr => ∃ (i : Nat) (l : List UInt8) (q : Option Addr) (c : Nat), i ≤ (k + 1) ∧ iv = .int .i64 (i : Nat) ∧ sv = .slice q l.length c ∧ Hid (l = List.replicate k 5 ++ leafs i) ∧ Hid (wr.ownsRow w1.heap.size 5 1 (.slice q l.length c) l.length (bvs l)) ∧ Hid (Below w1.heap.size w1 wr)) (fun _ iv _ => (k + 1) - (intOf iv).toNat)
      case atStart => exact ⟨0, l, q, c, Nat.zero_le _, rfl, rfl, (by show _ = _; rw [HLE.out]; simp [leafs]), HOW, HBW⟩
      case round =>
        obtain ⟨i, l, q, c, hi, rfl, rfl, HLE, HOW, HBW⟩ := hrel
        by_cases hlt : i < (k + 1)
        · have hlt' : (i : Int) ≤ (k : Nat) := by omega
          have hw : wrap64 ((i : Int) + 1) = (i : Int) + 1 := by unfold wrap64; have := HK18.out; omega
          have HLT : Hid (i < (k + 1)) := hlt
          have HLM : Hid (l.length + 3 ≤ 140737488355328) := by show _ ≤ _; rw [HLE.out]; have := HK18.out; simp [leafs_length, List.length_append]; omega
          generalize hwr : wr = w6 at HOW HBW ⊢
          clear hwr hlt
          have hba : Below w6.heap.size w6 (w6.alloc (.cells #[.int .u8 1, .int .u8 1, .int .u8 97] 5)) := (Below.refl _ _).alloc (Nat.le_refl _) _
          have HOA := Lib.hid (own_below HOW.out hba)
          have HBA := Lib.hid (HBW.out.trans (hba.mono HBW.out.size))
          have HRM := Lib.hid (rd_lit w6 [1, 1, 97] #[.int .u8 1, .int .u8 1, .int .u8 97] rfl 3 rfl (by show 3 ≤ maxLen; unfold maxLen; omega))
          have HWB : Hid (w1.heap.size ≤ (w6.alloc (.cells #[.int .u8 1, .int .u8 1, .int .u8 97] 5)).heap.size) := HBA.out.size
          clear hba HOW HBW
          go_wp2_with (at_builtin; refine app_bytes rfl _ _ rfl rfl HOA.out rfl HRM.out HLM.out HWB.out ?_)
          intro vn wn hown hg
          have HBN := Lib.hid (below_grown HBA.out HBA.out.size (Nat.le_refl _) HOA.out hg)
          obtain ⟨q1, c1, rfl⟩ := own_form hown
          obtain ⟨l1, hl1⟩ : ∃ x, x = l ++ [1, 1, 97] := ⟨_, rfl⟩
          have hAL : l.length + 3 = l1.length := by rw [hl1, List.length_append]; rfl
          have HON : Hid (wn.ownsRow w1.heap.size 5 1 (.slice q1 l1.length c1) l1.length (bvs l1)) := by show World.ownsRow _ _ _ _ _ _ _; rw [hl1]; simpa using hown
          first | rw [hAL] | (rw [← hl1])
          have HLN : Hid (l1 = List.replicate k 5 ++ leafs (i + 1)) := by show _ = _; rw [hl1, HLE.out]; rw [List.append_assoc, leafs_succ]
          clear hAL hl1 hown hg HOA HBA HRM HWB HLM
          go_wp2_with fail
          go_roundw
          case rel => exact ⟨i + 1, l1, q1, c1, HLT.out, by go_num, rfl, HLN, HON, HBN⟩
          case measure => first | exact meas HLT.out (Nat.le_trans (show (k + 1) ≤ 100 from by have := HK18.out; omega) (by decide)) | exact meas' HLT.out
        · have hlt' : ¬ ((i : Int) ≤ (k : Nat)) := by omega
          obtain rfl : (k + 1) = i := by omega
          clear hlt hi
          generalize wr = w3 at HOW HBW ⊢
          have HBa := Lib.hid (HB1.out.trans (HBW.out.mono HB1.out.size))
          have HRa := Lib.hid (Rd.of_own HOW.out)
          have HLa : Hid (l = deepL k) := HLE.out
          obtain ⟨pc, hpc⟩ : ∃ x, x = (parseEx l).2.1 := ⟨_, rfl⟩
          obtain ⟨pa, hpa⟩ : ∃ x, x = (parseEx l).2.2 := ⟨_, rfl⟩
          have HZ1 : Hid (pc = 0 ↔ k ≤ 15) := by rw [hpc, HLa.out]; exact (limits_at HK18.out.1 HK18.out.2).1
          have HPC := Lib.hid hpc
          have HPA := Lib.hid hpa
          have HLL : Hid (l.length ≤ 1000000) := by show _ ≤ _; rw [HLa.out]; unfold deepL; rw [List.length_append, List.length_replicate, leafs_length]; have := HK18.out; omega
          clear hpc hpa HLE HOW HBW HLa
          have HC := Lib.hid (parse_err HRa.out HLL.out (HE.out.below HBa.out) HPC.out HPA.out)
          go_wp2_with fail
          refine HC.out.mono ?_
          rintro r w4 ⟨xk, xv, xn, q4, n4, c4, rfl, b4⟩
          have HBb := Lib.hid (HBa.out.trans (b4.mono HBa.out.size))
          have HRb := Lib.hid ((HRa.out.below b4 (Nat.le_refl _)).mono b4.size)
          clear b4 HC HBa HRa
          obtain ⟨e1, he1⟩ : ∃ v, v = errF pc pa := ⟨_, rfl⟩
          rw [← he1]
          have HER1 := Lib.hid he1
          clear he1
          have hcv : IntKind.wrap .u8 ((17 : Int) + (k : Nat)) = ((17 + k : Nat) : Int) := by
            have := HK18.out
            unfold IntKind.wrap; simp [IntKind.bits, IntKind.signed]; omega
          have hwk : wrap64 ((17 : Int) + (k : Nat)) = (17 : Int) + (k : Nat) := by unfold wrap64; have := HK18.out; omega
          go_upto_region 15 with (fail)
          clear hcv
          try rw [hwk]
          have hsz : (w4.alloc (.cells #[.int .i64 xk, .string xv, .string xn, .slice q4 n4 c4] 42)).heap.size = w4.heap.size + 1 := World.size_alloc _ _
          have hb5 : Below w4.heap.size w4 (w4.alloc (.cells #[.int .i64 xk, .string xv, .string xn, .slice q4 n4 c4] 42)) := (Below.refl _ _).alloc (Nat.le_refl _) _
          have HOL : Hid (((w4.alloc (.cells #[.int .i64 xk, .string xv, .string xn, .slice q4 n4 c4] 42)).alloc (.cells #[.int .u8 3, .int .u8 2, .int .u8 3, .int .u8 ((17 : Int) + (k : Nat))] 5)).ownsRow (w4.alloc (.cells #[.int .i64 xk, .string xv, .string xn, .slice q4 n4 c4] 42)).heap.size 5 1 (.slice (some ⟨(w4.alloc (.cells #[.int .i64 xk, .string xv, .string xn, .slice q4 n4 c4] 42)).heap.size, 0, none⟩) 4 4) 4 (bvs [3, 2, 3, UInt8.ofNat (17 + k)])) := by
            have h := own_lit4 (w4.alloc (.cells #[.int .i64 xk, .string xv, .string xn, .slice q4 n4 c4] 42)) (17 + k) (by have := HK18.out; omega)
            rw [show (((17 + k : Nat)) : Int) = (17 : Int) + (k : Nat) from by omega] at h
            exact h
          have hb6 := (Below.refl (w4.alloc (.cells #[.int .i64 xk, .string xv, .string xn, .slice q4 n4 c4] 42)).heap.size (w4.alloc (.cells #[.int .i64 xk, .string xv, .string xn, .slice q4 n4 c4] 42))).alloc (Nat.le_refl _) (.cells #[.int .u8 3, .int .u8 2, .int .u8 3, .int .u8 ((17 : Int) + (k : Nat))] 5)
          have hb56 := hb5.trans (hb6.mono hb5.size)
          have HBc := Lib.hid (HBb.out.trans (hb56.mono HBb.out.size))
          have HRc := Lib.hid (HRb.out.below hb56 (Nat.le_refl _))
          rw [hsz] at HOL
          obtain ⟨g, hg⟩ : ∃ g, g = w4.heap.size + 1 := ⟨_, rfl⟩
          have HGS : Hid (g ≤ ((w4.alloc (.cells #[.int .i64 xk, .string xv, .string xn, .slice q4 n4 c4] 42)).alloc (.cells #[.int .u8 3, .int .u8 2, .int .u8 3, .int .u8 ((17 : Int) + (k : Nat))] 5)).heap.size) := by rw [hg, ← hsz]; exact hb6.size
          have HGW : Hid (w4.heap.size ≤ g ∧ W.heap.size ≤ g) := by have := HBb.out.size; exact ⟨by omega, by omega⟩
          rw [← hg] at HOL ⊢
          clear hb5 hb6 hb56 hsz hg HBb HRb
          generalize ((w4.alloc (.cells #[.int .i64 xk, .string xv, .string xn, .slice q4 n4 c4] 42)).alloc (.cells #[.int .u8 3, .int .u8 2, .int .u8 3, .int .u8 ((17 : Int) + (k : Nat))] 5)) = w5 at HOL HBc HRc HGS ⊢

          go_wp2_with fail
          go_loopw [9, 10] (fun sv iv wr => ∃ (i : Nat) (l : List UInt8) (q : Option Addr) (c : Nat), i ≤ (18 + k) ∧ iv = .int .i64 (i : Nat) ∧ sv = .slice q l.length c ∧ Hid (l = ([3, 2, 3, UInt8.ofNat (17 + k)] ++ leafs i)) ∧ Hid (wr.ownsRow g 5 1 (.slice q l.length c) l.length (bvs l)) ∧ Hid (Below g w5 wr)) (fun _ iv _ => (18 + k) - (intOf iv).toNat)
          case atStart => exact ⟨0, [3, 2, 3, UInt8.ofNat (17 + k)], some ⟨g, 0, none⟩, 4, Nat.zero_le _, rfl, rfl, (by show _ = _; simp [leafs]), HOL, Below.refl _ _⟩
          case round =>
            obtain ⟨i, l, q, c, hi, rfl, rfl, HLE, HOW, HBW⟩ := hrel
            by_cases hlt : i < (18 + k)
            · have hlt' : (i : Int) ≤ (17 : Int) + (k : Nat) := by omega
              have hw : wrap64 ((i : Int) + 1) = (i : Int) + 1 := by unfold wrap64; have := HK18.out; omega
              have HLT : Hid (i < (18 + k)) := hlt
              have HLM : Hid (l.length + 3 ≤ 140737488355328) := by show _ ≤ _; rw [HLE.out]; have := HK18.out; simp [leafs_length, List.length_append]; omega
              generalize hwr : wr = w6 at HOW HBW ⊢
              clear hwr hlt
              have hba : Below w6.heap.size w6 (w6.alloc (.cells #[.int .u8 1, .int .u8 1, .int .u8 97] 5)) := (Below.refl _ _).alloc (Nat.le_refl _) _
              have HOA := Lib.hid (own_below HOW.out hba)
              have HBA := Lib.hid (HBW.out.trans (hba.mono (Nat.le_trans HGS.out HBW.out.size)))
              have HRM := Lib.hid (rd_lit w6 [1, 1, 97] #[.int .u8 1, .int .u8 1, .int .u8 97] rfl 3 rfl (by show 3 ≤ maxLen; unfold maxLen; omega))
              have HWB : Hid (g ≤ (w6.alloc (.cells #[.int .u8 1, .int .u8 1, .int .u8 97] 5)).heap.size) := Nat.le_trans HGS.out HBA.out.size
              clear hba HOW HBW
              go_wp2_with (at_builtin; refine app_bytes rfl _ _ rfl rfl HOA.out rfl HRM.out HLM.out HWB.out ?_)
              intro vn wn hown hg
              have HBN := Lib.hid (below_grown HBA.out (by have := HGS.out; have := HBA.out.size; omega) (Nat.le_refl _) HOA.out hg)
              obtain ⟨q1, c1, rfl⟩ := own_form hown
              obtain ⟨l1, hl1⟩ : ∃ x, x = l ++ [1, 1, 97] := ⟨_, rfl⟩
              have hAL : l.length + 3 = l1.length := by rw [hl1, List.length_append]; rfl
              have HON : Hid (wn.ownsRow g 5 1 (.slice q1 l1.length c1) l1.length (bvs l1)) := by show World.ownsRow _ _ _ _ _ _ _; rw [hl1]; simpa using hown
              first | rw [hAL] | (rw [← hl1])
              have HLN : Hid (l1 = ([3, 2, 3, UInt8.ofNat (17 + k)] ++ leafs (i + 1))) := by show _ = _; rw [hl1, HLE.out]; rw [List.append_assoc, leafs_succ]
              clear hAL hl1 hown hg HOA HBA HRM HWB HLM
              go_wp2_with fail
              go_roundw
              case rel => exact ⟨i + 1, l1, q1, c1, HLT.out, by go_num, rfl, HLN, HON, HBN⟩
              case measure => first | exact meas HLT.out (Nat.le_trans (show (18 + k) ≤ 100 from by have := HK18.out; omega) (by decide)) | exact meas' HLT.out
            · have hlt' : ¬ ((i : Int) ≤ (17 : Int) + (k : Nat)) := by omega
              obtain rfl : (18 + k) = i := by omega
              clear hlt hi
              generalize wr = w7 at HOW HBW ⊢
              have HBd := Lib.hid (HBc.out.trans (HBW.out.mono HGW.out.2))
              have HRd := Lib.hid (((HRc.out.below HBW.out HGW.out.1).mono (show w4.heap.size ≤ w7.heap.size from by have := HGW.out.1; have := HGS.out; have := HBW.out.size; omega)))
              have HSd := Lib.hid (Rd.of_own HOW.out)
              have HLa : Hid (l = wideL k) := HLE.out
              obtain ⟨qc, hqc⟩ : ∃ x, x = (parseEx l).2.1 := ⟨_, rfl⟩
              obtain ⟨qa, hqa⟩ : ∃ x, x = (parseEx l).2.2 := ⟨_, rfl⟩
              have HZ2 : Hid (qc = 0 ↔ k ≤ 14) := by rw [hqc, HLa.out]; exact (limits_at HK18.out.1 HK18.out.2).2
              have HQC := Lib.hid hqc
              have HQA := Lib.hid hqa
              have HLM : Hid (l.length ≤ 1000000) := by show _ ≤ _; rw [HLa.out]; unfold wideL; rw [List.length_append, leafs_length]; have := HK18.out; simp; omega
              clear hqc hqa HLE HOW HBW HLa HBc HRc HOL
              have HC := Lib.hid (parse_err HSd.out HLM.out (HE.out.below HBd.out) HQC.out HQA.out)
              go_wp2_with fail
              refine HC.out.mono ?_
              rintro r w8 ⟨yk, yv, yn, q8, n8, c8, rfl, b8⟩
              have HB8 := Lib.hid (HBd.out.trans (b8.mono HBd.out.size))
              have HR8 := Lib.hid ((HRd.out.below b8 (Nat.le_refl _)).mono b8.size)
              have HS8 := Lib.hid ((HSd.out.below b8 (Nat.le_refl _)).mono b8.size)
              clear b8 HC HBd HRd HSd
              obtain ⟨e2, he2⟩ : ∃ v, v = errF qc qa := ⟨_, rfl⟩
              rw [← he2]
              have HER2 := Lib.hid he2
              clear he2
              go_upto_region 20 with (fail)
              have hb := (Below.refl w8.heap.size w8).alloc (Nat.le_refl _) (.cells #[.int .i64 yk, .string yv, .string yn, .slice q8 n8 c8] 42)
              have HB9 := Lib.hid (HB8.out.trans (hb.mono HB8.out.size))
              have HR9 := Lib.hid ((HR8.out.below hb (Nat.le_refl _)).mono hb.size)
              have HS9 := Lib.hid ((HS8.out.below hb (Nat.le_refl _)).mono hb.size)
              clear hb HB8 HR8 HS8
              generalize w8.alloc (.cells #[.int .i64 yk, .string yv, .string yn, .slice q8 n8 c8] 42) = w9 at HB9 HR9 HS9 ⊢
              have HC := Lib.hid (rparse_err HR9.out HLL.out HPC.out HPA.out)
              go_wp2_with fail
              refine HC.out.mono ?_
              rintro r wa ⟨zk, zv, zn, qa1, na1, ca1, rfl, ba⟩
              have HBa := Lib.hid (HB9.out.trans (ba.mono HB9.out.size))
              have HSa := Lib.hid ((HS9.out.below ba (Nat.le_refl _)).mono ba.size)
              clear ba HC HB9 HR9 HS9
              go_upto_region 21 with (fail)
              have hb := (Below.refl wa.heap.size wa).alloc (Nat.le_refl _) (.cells #[.int .i64 zk, .string zv, .string zn, .slice qa1 na1 ca1] 42)
              have HBb := Lib.hid (HBa.out.trans (hb.mono HBa.out.size))
              have HSb := Lib.hid ((HSa.out.below hb (Nat.le_refl _)).mono hb.size)
              clear hb HBa HSa
              generalize wa.alloc (.cells #[.int .i64 zk, .string zv, .string zn, .slice qa1 na1 ca1] 42) = wb at HBb HSb ⊢
              have HC := Lib.hid (rparse_err HSb.out HLM.out HQC.out HQA.out)
              go_wp2_with fail
              refine HC.out.mono ?_
              rintro r wc ⟨tk, tv, tn, qc1, nc1, cc1, rfl, bc⟩
              have HBc := Lib.hid (HBb.out.trans (bc.mono HBb.out.size))
              clear bc HC HBb HSb
              go_upto_region 22 with (fail)
              have hb := (Below.refl wc.heap.size wc).alloc (Nat.le_refl _) (.cells #[.int .i64 tk, .string tv, .string tn, .slice qc1 nc1 cc1] 42)
              have HBd := Lib.hid (HBc.out.trans (hb.mono HBc.out.size))
              clear hb HBc
              generalize wc.alloc (.cells #[.int .i64 tk, .string tv, .string tn, .slice qc1 nc1 cc1] 42) = wd at HBd ⊢
              have HT1 := Lib.hid (told_any pc pa wd (HE.out.below HBd.out).2)
              rw [← HER1.out] at HT1
              go_wp2_with fail
              refine HT1.out.mono ?_
              rintro r we ⟨rfl, be⟩
              have HBe := Lib.hid (HBd.out.trans (be.mono HBd.out.size))
              clear be HBd HT1
              have HT2 := Lib.hid (told_any qc qa we (HE.out.below HBe.out).2)
              rw [← HER2.out] at HT2
              go_wp2_with fail
              refine HT2.out.mono ?_
              rintro r wf ⟨rfl, bf⟩
              have HBf := Lib.hid (HBe.out.trans (bf.mono HBe.out.size))
              clear bf HBe HT2
              have e1 : ((pc : Int) == 0) = decide ((k : Int) ≤ 15) := by
                have h := HZ1.out
                by_cases hz : pc = 0
                · have : k ≤ 15 := h.1 hz
                  rw [hz, decide_eq_true (by omega)]; rfl
                · have : ¬ k ≤ 15 := fun h2 => hz (h.2 h2)
                  rw [decide_eq_false (by omega), beq_eq_false_iff_ne]; omega
              have e2 : ((qc : Int) == 0) = decide ((k : Int) ≤ 14) := by
                have h := HZ2.out
                by_cases hz : qc = 0
                · have : k ≤ 14 := h.1 hz
                  rw [hz, decide_eq_true (by omega)]; rfl
                · have : ¬ k ≤ 14 := fun h2 => hz (h.2 h2)
                  rw [decide_eq_false (by omega), beq_eq_false_iff_ne]; omega
              have HE1' := Lib.hid e1
              have HE2' := Lib.hid e2
              clear e1 e2
              have hp4 : (k ≤ 14) ∨ k = 15 ∨ 15 < k := by omega
              have k0 := HK18.out
              have z1 := HZ1.out
              have z2 := HZ2.out
              rcases hp4 with hk | hk | hk
              · have hp0 : pc = 0 := z1.2 (by omega)
                have hq0 : qc = 0 := z2.2 hk
                have f1 : (k : Int) ≤ 15 := by omega
                have f2 : (k : Int) ≤ 14 := by omega
                clear k0 z1 z2 HE1' HE2'
                subst hp0 hq0
                go_wp2_with fail
                go_ret
                exact ⟨rfl, HBf.out⟩
              · have hp0 : pc = 0 := z1.2 (by omega)
                have hq0 : ¬ (qc : Int) = 0 := fun h => by have := z2.1 (by omega); omega
                have f1 : (k : Int) ≤ 15 := by omega
                have f2 : ¬ (k : Int) ≤ 14 := by omega
                have f3 : ((qc : Int) == 0) = false := by rw [beq_eq_false_iff_ne]; exact hq0
                have D14 : Hid (decide ((k : Int) ≤ 14) = false) := decide_eq_false (by omega)
                clear k0 z1 z2 HE1' HE2' hk
                subst hp0
                go_wp2_with fail
                go_ret
                exact ⟨by show Ending.returned (.bool (!decide ((k : Int) ≤ 14))) = _; rw [D14.out]; rfl, HBf.out⟩
              · have hp0 : ¬ (pc : Int) = 0 := fun h => by have := z1.1 (by omega); omega
                have hq0 : ¬ (qc : Int) = 0 := fun h => by have := z2.1 (by omega); omega
                have f1 : ¬ (k : Int) ≤ 15 := by omega
                have f2 : ¬ (k : Int) ≤ 14 := by omega
                have f3 : ((qc : Int) == 0) = false := by rw [beq_eq_false_iff_ne]; exact hq0
                have f4 : ((pc : Int) == 0) = false := by rw [beq_eq_false_iff_ne]; exact hp0
                have D14 : Hid (decide ((k : Int) ≤ 14) = false) := decide_eq_false (by omega)
                have D15 : Hid (decide ((k : Int) ≤ 15) = false) := decide_eq_false (by omega)
                clear k0 z1 z2 HE1' HE2' hk
                go_wp2_with fail
                go_ret
                exact ⟨by show Ending.returned (.bool (!decide ((k : Int) ≤ 15) && !decide ((k : Int) ≤ 14))) = _; rw [D14.out, D15.out]; rfl, HBf.out⟩
end Go.Proofs.YtdnmgemjhpkekaaGreatDoor
/-
  What the rows' condition on package-level variables gives the walks, and that a world meets it.
-/
namespace Go.Proofs.YtdnmgemjhpkekaaGreatDoor
open Go.ChangeShapes Go.WideShapes Go.ChangeAt Go.RowKit
set_option linter.unusedVariables false

def laidL : List (String × DataW Unit) := [("errors.errorType", Rows.laid_errors_errorType), ("vestry/name.reserved", Rows.laid_vestry_name_reserved)]

theorem own : ownKnob Tryz.prog.godebug = none := by kernel_rfl
theorem laidOut : laidOutB Tryz.prog = true := by kernel_rfl
theorem gErr : Tryz.prog.globalNamed "errors.errorType" = some 0 := by kernel_rfl
theorem gRes : Tryz.prog.globalNamed "vestry/name.reserved" = some 1 := by kernel_rfl
theorem tRes : (Tryz.prog.globals[1]?).map (·.type) = some 155 := by kernel_rfl
theorem rtyp : (Tryz.prog.cutTypes.find? (·.1 == "internal/reflectlite.rtype")).map (·.2) = some 157 := by kernel_rfl
theorem nTypes : ∃ n, Tryz.prog.types.size = n ∧ ((List.range n).filter fun t => Tryz.prog.rowNamed t [101, 114, 114, 111, 114]) = [28] := ⟨_, rfl, by kernel_rfl⟩
theorem errHandle : typeHandle Tryz.prog 28 = .pointer (some ⟨3, 28, none⟩) := by kernel_rfl
theorem cells9 : Tryz.prog.cellsOf 9 = 1 := by kernel_rfl

/-- The heap that the door's own run leaves meets the condition. -/
theorem door_met (os : Os) (args : Array Value) : laidMetH Tryz.prog laidL ((World.doorLaid Tryz.prog 400 os).forCall (fun _ _ => 0) ⟨#[], args, []⟩).memory :=
  laidMetH_of_parts3 (fuel := 8) (laidMet_of_run' 8 (by kernel_rfl) (by kernel_rfl)) (by kernel_rfl) (by kernel_rfl)

set_option maxRecDepth 100000 in
theorem env_of_laid {W : World} (h : laidMetH Tryz.prog laidL W)  : Env W := by
  have h' : laidMet Tryz.prog [("vestry/name.reserved", Rows.laid_vestry_name_reserved)] W ∧ handlesMet Tryz.prog [("errors.errorType", Rows.laid_errors_errorType)] W := h
  obtain ⟨h1, h2⟩ := h'
  refine ⟨?_, ?_⟩
  · obtain ⟨ps, ⟨g0, t0, cs0, f0, p0, q0, hg0, ht0, hv0, hd0, _, _⟩, _, _⟩ := h1
    obtain rfl := Option.some.inj (gRes.symm.trans hg0)
    obtain rfl := Option.some.inj (tRes.symm.trans ht0)
    obtain ⟨xs, m1, rfl, hx1, hlen, hn3, hel⟩ := DataW.trod_array Tryz.underlying155 hd0
    have e0 := hel 0 (by decide)
    have e1 := hel 1 (by decide)
    have e2 := hel 2 (by decide)
    rw [cells9] at e0 e1 e2
    simp only [Prod.mk.injEq, Rows.laid_vestry_name_reserved, DataW.agg.injEq] at hx1
    match xs, hn3, hx1, e0, e1, e2 with
    | [x0, x1, x2], _, hx1, e0, e1, e2 =>
      simp only [List.map_cons, List.map_nil, List.cons.injEq] at hx1
      obtain ⟨s0, a0, b0, _⟩ := DataW.trod_string Tryz.underlying9 (show DataW.trod _ Tryz.prog W 0 _ false m1 9 _ = some x0 from e0)
      obtain ⟨s1, a1, b1, _⟩ := DataW.trod_string Tryz.underlying9 (show DataW.trod _ Tryz.prog W 0 _ false m1 9 _ = some x1 from e1)
      obtain ⟨s2, a2, b2, _⟩ := DataW.trod_string Tryz.underlying9 (show DataW.trod _ Tryz.prog W 0 _ false m1 9 _ = some x2 from e2)
      rw [b0, b1, b2] at hx1
      simp at hx1
      obtain ⟨⟨y0, y1, y2⟩, _⟩ := hx1
      have z0 : s0 = wDef := bytes_inj y0.symm
      have z1 : s1 = wRel := bytes_inj y1.symm
      have z2 : s2 = wPerm := bytes_inj y2.symm
      subst z0 z1 z2
      have v0 := World.var?_cell hg0 hv0 0
      have v1 := World.var?_cell hg0 hv0 1
      have v2 := World.var?_cell hg0 hv0 2
      obtain ⟨l⟩ := cs0
      match l, a0, a1, a2 with
      | [c0, c1, c2], a0, a1, a2 =>
        simp at a0 a1 a2
        subst a0 a1 a2
        exact ⟨by simpa using v0, by simpa using v1, by simpa using v2⟩
  · obtain ⟨name, u, ty, k1, k2, k3, k4, k5⟩ := h2 _ (List.mem_singleton.2 rfl)
    have en : name = [101, 114, 114, 111, 114] := (Option.some.inj k1).symm
    subst en
    obtain rfl := Option.some.inj (rtyp.symm.trans k2)
    obtain ⟨n, hn, hone⟩ := nTypes
    have hm : ty ∈ (List.range n).filter fun t => Tryz.prog.rowNamed t [101, 114, 114, 111, 114] := List.mem_filter.2 ⟨List.mem_range.2 (by rw [← hn]; exact k3), k4⟩
    rw [hone] at hm
    obtain rfl := List.mem_singleton.1 hm
    rw [errHandle] at k5
    have k6 := World.var?_cell gErr k5 0
    show errAs.ErrT W
    unfold errAs.ErrT
    simpa using k6

section
variable {H : Type} {enc : TypeId × Value → H}
/-- The wrap of a row with a condition on memory, the world's shape kept. -/
theorem wrap_and {a : Assume} {C : Checked} {os : Os} {f : FuncId} {fn : Func} {s : ChangeSpec} {conds : List PathCond} {apart fresh handsOn again : Bool} {X : World → Array Value → Prop}
    (hX : ∀ (w w' : World) (args : Array Value), w.heap = w'.heap → X w args → X w' args)
    (own : ownKnob C.prog.godebug = none) (started : os.Started) (noInit : C.prog.inits.idxOf? f = none) (hfn : C.prog.funcs[f]? = some fn)
    (witness : ∃ (w : World) (tape : Tape) (i : Input), w.os = os ∧ (w.forCall tape i).Shaped C.prog ∧ i.vars = [] ∧ Input.okWide C.prog (w.forCall tape i) .any w.heap.size f i ∧
      ((s.pre enc C.prog fn conds apart (w.forCall tape i).memory i.args ∧ X (w.forCall tape i).memory i.args) ∧ sizedMet enc C.prog fn (OpenSpec.ofChange s) apart (w.forCall tape i).memory i.args) ∧ a.holds C.prog (lone (Frame.enter C.prog f i.args .normal) [] (w.forCall tape i)))
    (contract : ∀ (W : World) (base : Nat) (args : Array Value) (ds gs : List (DataW H)) (before : List MemPlace),
      (∀ (j : Nat) t v, fn.params[j]? = some t → args[j]? = some v → Value.okWide C.prog W .any base t v) →
      DataW.Whole enc C.prog fn.params.toList s.vars apart W args.toList ds gs before →
      W.ShapedOpen C.prog → X W args →
      Calls C.prog f args W fun e W' => ∃ v, e = .returned v ∧ s.post enc C.prog fn apart fresh handsOn again W args v W') :
    ReturnsInHanded a C os f .any (fun w args => (s.pre enc C.prog fn conds apart w args ∧ X w args) ∧ sizedMet enc C.prog fn (OpenSpec.ofChange s) apart w args) (s.post enc C.prog fn apart fresh handsOn again) := by
  refine returnsInHanded_of_calls own started noInit witness ?_
  intro w tape i _ hsh _ hok hpre _
  obtain ⟨_, _, _, fn', hfn', _, _, _, _, hval⟩ := hok
  have e : fn' = fn := Option.some.inj (hfn'.symm.trans hfn)
  subst e
  obtain ⟨⟨⟨ds, gs, before, hw, _⟩, hx⟩, _⟩ := hpre
  have hw' := DataW.Whole.of_heap (w' := w.forCall tape i) (by rfl) hw
  refine (contract (w.forCall tape i) w.heap.size i.args ds gs before hval hw' hsh (hX _ _ _ (by rfl) hx)).mono fun e W' ⟨v, he, hp⟩ => ?_
  subst he
  exact ChangeSpec.post_blind hp
/-- The same with the arguments' sizes. -/
theorem wrap_sized {a : Assume} {C : Checked} {os : Os} {f : FuncId} {fn : Func} {s : ChangeSpec} {conds : List PathCond} {apart fresh handsOn again : Bool} {X : World → Array Value → Prop}
    (hX : ∀ (w w' : World) (args : Array Value), w.heap = w'.heap → X w args → X w' args)
    (own : ownKnob C.prog.godebug = none) (started : os.Started) (noInit : C.prog.inits.idxOf? f = none) (hfn : C.prog.funcs[f]? = some fn)
    (witness : ∃ (w : World) (tape : Tape) (i : Input), w.os = os ∧ (w.forCall tape i).Shaped C.prog ∧ i.vars = [] ∧ Input.okWide C.prog (w.forCall tape i) .any w.heap.size f i ∧
      ((s.pre enc C.prog fn conds apart (w.forCall tape i).memory i.args ∧ X (w.forCall tape i).memory i.args) ∧ sizedMet enc C.prog fn (OpenSpec.ofChange s) apart (w.forCall tape i).memory i.args) ∧ a.holds C.prog (lone (Frame.enter C.prog f i.args .normal) [] (w.forCall tape i)))
    (contract : ∀ (W : World) (base : Nat) (args : Array Value) (ds gs : List (DataW H)) (before : List MemPlace),
      (∀ (j : Nat) t v, fn.params[j]? = some t → args[j]? = some v → Value.okWide C.prog W .any base t v) →
      DataW.Whole enc C.prog fn.params.toList s.vars apart W args.toList ds gs before →
      W.ShapedOpen C.prog → X W args →
      (DataW.weightsEach C.prog (fn.params.toList ++ (OpenSpec.ofChange s).bare.plain.varTypes C.prog) (ds ++ gs)).all (· ≤ reachBytes) = true →
      Calls C.prog f args W fun e W' => ∃ v, e = .returned v ∧ s.post enc C.prog fn apart fresh handsOn again W args v W') :
    ReturnsInHanded a C os f .any (fun w args => (s.pre enc C.prog fn conds apart w args ∧ X w args) ∧ sizedMet enc C.prog fn (OpenSpec.ofChange s) apart w args) (s.post enc C.prog fn apart fresh handsOn again) := by
  refine returnsInHanded_of_calls own started noInit witness ?_
  intro w tape i _ hsh _ hok hpre _
  obtain ⟨_, _, _, fn', hfn', _, _, _, _, hval⟩ := hok
  have e : fn' = fn := Option.some.inj (hfn'.symm.trans hfn)
  subst e
  obtain ⟨⟨⟨ds, gs, before, hw, _⟩, hx⟩, hz⟩ := hpre
  have hw' := DataW.Whole.of_heap (w' := w.forCall tape i) (by rfl) hw
  refine (contract (w.forCall tape i) w.heap.size i.args ds gs before hval hw' hsh (hX _ _ _ (by rfl) hx) (hz.weights hw)).mono fun e W' ⟨v, he, hp⟩ => ?_
  subst he
  exact ChangeSpec.post_blind hp
end
end Go.Proofs.YtdnmgemjhpkekaaGreatDoor
/-
  CodecLimits with what the row says of variables.
-/

