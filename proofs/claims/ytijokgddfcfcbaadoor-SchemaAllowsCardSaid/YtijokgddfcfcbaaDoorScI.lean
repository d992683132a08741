/-
  vestrylaw11.SchemaAllows.
-/
import Derived.Test.YtijokgddfcfcbaaDoorScH
namespace Go.Proofs.YtijokgddfcfcbaaDoor
open Go.ChangeShapes Go.WideShapes Go.ChangeAt Go.RowKit
set_option linter.unusedVariables false

theorem hasP_snoc (l : List Al) (y x : Al) : hasP (l ++ [y]) x = (hasP l x || decide (x = y)) := by simp [hasP]
/-- What the law's walk keeps. -/
def SL (w : World) (ts : List Al) (nm : ByteArray) (k : Int) (q : Option Addr) (c : Nat) (ek : Int) (ev en : ByteArray) (eq : Option Addr) (en2 ec : Nat) (x1 x2 : ByteArray) (W : World) : Prop :=
  Arr W 27 w.heap.size [.string nm, .int .i64 k, .slice q ts.length c, .int .i64 ek, .string ev, .string en, .slice eq en2 ec] ∧ Arr W 29 (w.heap.size + 1) [.string x1, .string x2] ∧ ResT W ∧ Below w.heap.size w W
theorem SL.later {w : World} {ts : List Al} {nm : ByteArray} {k : Int} {q : Option Addr} {c : Nat} {ek : Int} {ev en : ByteArray} {eq : Option Addr} {en2 ec : Nat} {x1 x2 : ByteArray} {W W' : World} (h : SL w ts nm k q c ek ev en eq en2 ec x1 x2 W) (hb : Below W.heap.size W W') : SL w ts nm k q c ek ev en eq en2 ec x1 x2 W' :=
  ⟨h.1.later hb, h.2.1.later hb, h.2.2.1.below hb h.2.2.1.lt, h.2.2.2.trans (hb.mono h.2.2.2.size)⟩
set_option maxRecDepth 100000 in
set_option maxHeartbeats 8000000 in
theorem law_any (ts : List Al) (nm : ByteArray) (k : Int) (q : Option Addr) (c : Nat) (ek : Int) (ev en : ByteArray) (eq : Option Addr) (en2 ec : Nat) (x1 x2 : ByteArray) (w : World) (h : RdP w q ts.length ts) (hr : ResT w) :
    Calls Tryd.prog 3 #[.agg #[.string nm, .int .i64 k, .slice q ts.length c, .int .i64 ek, .string ev, .string en, .slice eq en2 ec], .agg #[.string x1, .string x2]] w fun r w' => r = .returned (.bool true) ∧ Below w.heap.size w w' := by
  have HK := Lib.hid h.2
  have HB0 : Below w.heap.size w ((w.alloc (.cells #[.string nm, .int .i64 k, .slice q ts.length c, .int .i64 ek, .string ev, .string en, .slice eq en2 ec] 27)).alloc (.cells #[.string x1, .string x2] 29)) := ((Below.refl _ _).alloc (Nat.le_refl _) _).alloc (by simp) _
  have HS0 : Hid (SL w ts nm k q c ek ev en eq en2 ec x1 x2 ((w.alloc (.cells #[.string nm, .int .i64 k, .slice q ts.length c, .int .i64 ek, .string ev, .string en, .slice eq en2 ec] 27)).alloc (.cells #[.string x1, .string x2] 29))) := ⟨(Arr.new' w _ _ _ rfl).alloc _, Arr.new2 w _ _ _ _ rfl, hr.below HB0 hr.lt, HB0⟩
  have HR := Lib.hid h
  clear hr HB0 h
  go_enter Tryd.func3, Tryd.ntmps3
  go_wp2_with fail
  refine (awake_any _ HS0.out.2.2.1).mono ?_
  rintro r w1 ⟨rfl, b1⟩
  have HS1 := Lib.hid (HS0.out.later b1)
  clear b1 HS0
  have a0 := HS1.out.1.cell 0
  have a1 := HS1.out.1.cell 1
  have a2 := HS1.out.1.cell 2
  have a3 := HS1.out.1.cell 3
  have a4 := HS1.out.1.cell 4
  have a5 := HS1.out.1.cell 5
  have a6 := HS1.out.1.cell 6
  simp only [List.getElem?_cons_zero, List.getElem?_cons_succ] at a0 a1 a2 a3 a4 a5 a6
  by_cases hl : ts.length ≤ 100
  · have hl1 : ¬ (100 : Int) < ts.length := by omega
    go_wp2_with fail
    go_loopw [5, 6] (fun nv iv wr => ∃ i : Nat, i ≤ ts.length ∧ iv = .int .i64 i ∧ (∃ b, nv = .bool b ∧ Hid (b = hasP (ts.take i) (x1, x2))) ∧ Hid (SL w ts nm k q c ek ev en eq en2 ec x1 x2 wr)) (fun _ iv _ => ts.length - (intOf iv).toNat)
    case atStart => exact ⟨0, Nat.zero_le _, rfl, ⟨_, rfl, rfl⟩, HS1.out⟩
    case round =>
      obtain ⟨i, hi, rfl, ⟨b, rfl, HB⟩, HS⟩ := hrel
      have hi0 : (0 : Int) ≤ i := by omega
      clear HS1 a0 a1 a2 a3 a4 a5 a6
      have a0 := HS.out.1.cell 0
      have a1 := HS.out.1.cell 1
      have a2 := HS.out.1.cell 2
      have a3 := HS.out.1.cell 3
      have a4 := HS.out.1.cell 4
      have a5 := HS.out.1.cell 5
      have a6 := HS.out.1.cell 6
      simp only [List.getElem?_cons_zero, List.getElem?_cons_succ] at a0 a1 a2 a3 a4 a5 a6
      by_cases hlt : i < ts.length
      · have hi1 : (i : Int) < ts.length := by omega
        obtain ⟨ba, oa, rfl, hba, hl2⟩ := HK.out (by omega)
        obtain ⟨y, hy⟩ : ∃ y, y = ts.getD i al0 := ⟨_, rfl⟩
        obtain ⟨X0, X1⟩ := hl2 i hlt
        rw [← hy] at X0 X1
        have HTK : Hid (ts.take (i + 1) = ts.take i ++ [y]) := by show _ = _; rw [take_snocP hlt, ← hy]
        obtain ⟨y1, y2⟩ := y
        obtain ⟨e, he⟩ : ∃ e, e = (y1.toList == x1.toList && y2.toList == x2.toList) := ⟨_, rfl⟩
        have HE : Hid (e = decide ((x1, x2) = (y1, y2))) := by
          show _ = _
          rw [he, eqP_iff (y1, y2) (x1, x2)]
          exact decide_eq_decide.2 ⟨Eq.symm, Eq.symm⟩
        clear hl2 hy
        go_upto_region 7 with (fail)
        cases b with
        | true =>
          refine wp_region_noPanic ?_
          refine wp_region_held_drew (S := SL w ts nm k (some ⟨ba, oa, none⟩) c ek ev en eq en2 ec x1 x2) (by kernel_rfl) (HS.out.later (Below.refl _ _).drew) (fun hHeld => ?_)
          try simp only [Act.put]
          generalize wr.drew = w2 at hHeld ⊢
          refine wpAnyH_take (i := 0) (oi := ⟨some 23, _, _, _, _, _⟩) (v := .bool true) rfl (by kernel_rfl) (by kernel_rfl) (by kernel_rfl) (fun _ _ _ h => h) (.inl ⟨by rfl, fun w' hSw => ?_⟩) hHeld ?_
          focus (skip; clear hHeld; go_simp)
          try simp only [Act.put, List.setIfInBounds_toArray, List.set_cons_zero, List.set_cons_succ]
          refine wpAnyH_take (i := 1) (oi := ⟨some 24, _, _, _, _, _⟩) (v := .bool true) rfl (by kernel_rfl) (by kernel_rfl) (by kernel_rfl) (fun _ _ _ h => h) (.inl ⟨by rfl, fun w' hSw => ?_⟩) hHeld ?_
          focus (skip; clear hHeld; go_simp)
          try simp only [Act.put, List.setIfInBounds_toArray, List.set_cons_zero, List.set_cons_succ]
          refine wpAnyH_take (i := 2) (oi := ⟨some 25, _, _, _, _, _⟩) (v := undef) rfl (by kernel_rfl) (by kernel_rfl) (by kernel_rfl) (fun _ _ _ h => h) (.inr ⟨by rfl, rfl⟩) hHeld ?_
          try simp only [Act.put, List.setIfInBounds_toArray, List.set_cons_zero, List.set_cons_succ]
          refine wpAnyH_take (i := 3) (oi := ⟨some 26, _, _, _, _, _⟩) (v := undef) rfl (by kernel_rfl) (by kernel_rfl) (by kernel_rfl) (fun _ _ _ h => h) (.inr ⟨by rfl, rfl⟩) hHeld ?_
          try simp only [Act.put, List.setIfInBounds_toArray, List.set_cons_zero, List.set_cons_succ]
          refine wpAnyH_take (i := 4) (oi := ⟨some 27, _, _, _, _, _⟩) (v := undef) rfl (by kernel_rfl) (by kernel_rfl) (by kernel_rfl) (fun _ _ _ h => h) (.inr ⟨by rfl, rfl⟩) hHeld ?_
          try simp only [Act.put, List.setIfInBounds_toArray, List.set_cons_zero, List.set_cons_succ]
          refine wpAnyH_take (i := 5) (oi := ⟨some 28, _, _, _, _, _⟩) (v := undef) rfl (by kernel_rfl) (by kernel_rfl) (by kernel_rfl) (fun _ _ _ h => h) (.inr ⟨by rfl, rfl⟩) hHeld ?_
          try simp only [Act.put, List.setIfInBounds_toArray, List.set_cons_zero, List.set_cons_succ]
          refine wpAnyH_take (i := 6) (oi := ⟨some 29, _, _, _, _, _⟩) (v := undef) rfl (by kernel_rfl) (by kernel_rfl) (by kernel_rfl) (fun _ _ _ h => h) (.inr ⟨by rfl, rfl⟩) hHeld ?_
          try simp only [Act.put, List.setIfInBounds_toArray, List.set_cons_zero, List.set_cons_succ]
          refine wpAnyH_take (i := 7) (oi := ⟨some 30, _, _, _, _, _⟩) (v := undef) rfl (by kernel_rfl) (by kernel_rfl) (by kernel_rfl) (fun _ _ _ h => h) (.inr ⟨by rfl, rfl⟩) hHeld ?_
          try simp only [Act.put, List.setIfInBounds_toArray, List.set_cons_zero, List.set_cons_succ]
          refine wpAnyH_take (i := 8) (oi := ⟨some 31, _, _, _, _, _⟩) (v := undef) rfl (by kernel_rfl) (by kernel_rfl) (by kernel_rfl) (fun _ _ _ h => h) (.inr ⟨by rfl, rfl⟩) hHeld ?_
          try simp only [Act.put, List.setIfInBounds_toArray, List.set_cons_zero, List.set_cons_succ]
          refine wpAnyH_take (i := 9) (oi := ⟨some 32, _, _, _, _, _⟩) (v := .bool true) rfl (by kernel_rfl) (by kernel_rfl) (by kernel_rfl) (fun _ _ _ h => h) (.inl ⟨by rfl, fun w' hSw => ?_⟩) hHeld ?_
          focus (skip; clear hHeld; go_simp)
          try simp only [Act.put, List.setIfInBounds_toArray, List.set_cons_zero, List.set_cons_succ]
          refine wpAnyH_take (i := 10) (oi := ⟨some 5, _, _, _, _, _⟩) (v := .bool true) rfl (by kernel_rfl) (by kernel_rfl) (by kernel_rfl) (fun _ _ _ h => h) (.inl ⟨by rfl, fun w' hSw => ?_⟩) hHeld ?_
          focus (skip; clear hHeld; go_simp)
          try simp only [Act.put, List.setIfInBounds_toArray, List.set_cons_zero, List.set_cons_succ]
          refine wpAnyH_done (by kernel_rfl) ?_ _
          refine NoPanic.normal ?_
          have HS2 := Lib.hid hHeld
          clear hHeld X0 X1 he HS a0 a1 a2 a3 a4 a5 a6
          go_wp2_with fail
          go_roundw
          case rel => exact ⟨i + 1, by omega, by go_num, ⟨_, rfl, by show _ = _; rw [HTK.out, hasP_snoc, ← HB.out]; rfl⟩, HS2.out⟩
          case measure => simp [intOf]; omega
        | false =>
          refine wp_region_noPanic ?_
          refine wp_region_held_drew (S := SL w ts nm k (some ⟨ba, oa, none⟩) c ek ev en eq en2 ec x1 x2) (by kernel_rfl) (HS.out.later (Below.refl _ _).drew) (fun hHeld => ?_)
          try simp only [Act.put]
          generalize wr.drew = w2 at hHeld ⊢
          refine wpAnyH_take (i := 0) (oi := ⟨some 23, _, _, _, _, _⟩) (v := .bool false) rfl (by kernel_rfl) (by kernel_rfl) (by kernel_rfl) (fun _ _ _ h => h) (.inl ⟨by rfl, fun w' hSw => ?_⟩) hHeld ?_
          focus (skip; clear hHeld; go_simp)
          try simp only [Act.put, List.setIfInBounds_toArray, List.set_cons_zero, List.set_cons_succ]
          refine wpAnyH_take (i := 1) (oi := ⟨some 24, _, _, _, _, _⟩) (v := .bool false) rfl (by kernel_rfl) (by kernel_rfl) (by kernel_rfl) (fun _ _ _ h => h) (.inl ⟨by rfl, fun w' hSw => ?_⟩) hHeld ?_
          focus (skip; clear hHeld; go_simp)
          try simp only [Act.put, List.setIfInBounds_toArray, List.set_cons_zero, List.set_cons_succ]
          refine wpAnyH_take (i := 2) (oi := ⟨some 25, _, _, _, _, _⟩) (v := .pointer (some ⟨w.heap.size, 2, none⟩)) rfl (by kernel_rfl) (by kernel_rfl) (by kernel_rfl) (fun _ _ _ h => h) (.inl ⟨by rfl, fun w' hSw => ?_⟩) hHeld ?_
          focus (skip; clear hHeld; go_simp)
          try simp only [Act.put, List.setIfInBounds_toArray, List.set_cons_zero, List.set_cons_succ]
          refine wpAnyH_take (i := 3) (oi := ⟨some 26, _, _, _, _, _⟩) (v := .slice (some ⟨ba, oa, none⟩) ts.length c) rfl (by kernel_rfl) (by kernel_rfl) (by kernel_rfl) (fun _ _ _ h => h) (.inl ⟨by rfl, fun w' hSw => ?_⟩) hHeld ?_
          focus (have q2 := hSw.1.cell 2; simp only [List.getElem?_cons_zero, List.getElem?_cons_succ] at q2; clear hHeld; go_simp)
          try simp only [Act.put, List.setIfInBounds_toArray, List.set_cons_zero, List.set_cons_succ]
          refine wpAnyH_take (i := 4) (oi := ⟨some 27, _, _, _, _, _⟩) (v := .int .i64 (i : Nat)) rfl (by kernel_rfl) (by kernel_rfl) (by kernel_rfl) (fun _ _ _ h => h) (.inl ⟨by rfl, fun w' hSw => ?_⟩) hHeld ?_
          focus (skip; clear hHeld; go_simp)
          try simp only [Act.put, List.setIfInBounds_toArray, List.set_cons_zero, List.set_cons_succ]
          refine wpAnyH_take (i := 5) (oi := ⟨some 28, _, _, _, _, _⟩) (v := .pointer (some ⟨ba, oa + i * 2, none⟩)) rfl (by kernel_rfl) (by kernel_rfl) (by kernel_rfl) (fun _ _ _ h => h) (.inl ⟨by rfl, fun w' hSw => ?_⟩) hHeld ?_
          focus (skip; clear hHeld; go_simp)
          try simp only [Act.put, List.setIfInBounds_toArray, List.set_cons_zero, List.set_cons_succ]
          refine wpAnyH_take (i := 6) (oi := ⟨some 29, _, _, _, _, _⟩) (v := .agg #[.string y1, .string y2]) rfl (by kernel_rfl) (by kernel_rfl) (by kernel_rfl) (fun _ _ _ h => h) (.inl ⟨by rfl, fun w' hSw => ?_⟩) hHeld ?_
          focus (have q0 := (hSw.2.2.2.cell (p := ⟨ba, oa + i * 2, none⟩) hba).trans X0; have q1 := (hSw.2.2.2.cell (p := ⟨ba, oa + i * 2 + 1, none⟩) hba).trans X1; clear hHeld; go_simp)
          try simp only [Act.put, List.setIfInBounds_toArray, List.set_cons_zero, List.set_cons_succ]
          refine wpAnyH_take (i := 7) (oi := ⟨some 30, _, _, _, _, _⟩) (v := .agg #[.string x1, .string x2]) rfl (by kernel_rfl) (by kernel_rfl) (by kernel_rfl) (fun _ _ _ h => h) (.inl ⟨by rfl, fun w' hSw => ?_⟩) hHeld ?_
          focus (have q0 := hSw.2.1.cell 0; have q1 := hSw.2.1.cell 1; simp only [List.getElem?_cons_zero, List.getElem?_cons_succ] at q0 q1; clear hHeld; go_simp)
          try simp only [Act.put, List.setIfInBounds_toArray, List.set_cons_zero, List.set_cons_succ]
          refine wpAnyH_take (i := 8) (oi := ⟨some 31, _, _, _, _, _⟩) (v := .bool e) rfl (by kernel_rfl) (by kernel_rfl) (by kernel_rfl) (fun _ _ _ h => h) (.inl ⟨by rfl, fun w' hSw => ?_⟩) hHeld ?_
          focus (skip; clear hHeld; go_simp; by_cases h1 : y1.toList = x1.toList <;> by_cases h2 : y2.toList = x2.toList <;> simp [h1, h2])
          try simp only [Act.put, List.setIfInBounds_toArray, List.set_cons_zero, List.set_cons_succ]
          refine wpAnyH_take (i := 9) (oi := ⟨some 32, _, _, _, _, _⟩) (v := .bool e) rfl (by kernel_rfl) (by kernel_rfl) (by kernel_rfl) (fun _ _ _ h => h) (.inl ⟨by rfl, fun w' hSw => ?_⟩) hHeld ?_
          focus (skip; clear hHeld; go_simp)
          try simp only [Act.put, List.setIfInBounds_toArray, List.set_cons_zero, List.set_cons_succ]
          refine wpAnyH_take (i := 10) (oi := ⟨some 5, _, _, _, _, _⟩) (v := .bool e) rfl (by kernel_rfl) (by kernel_rfl) (by kernel_rfl) (fun _ _ _ h => h) (.inl ⟨by rfl, fun w' hSw => ?_⟩) hHeld ?_
          focus (skip; clear hHeld; go_simp)
          try simp only [Act.put, List.setIfInBounds_toArray, List.set_cons_zero, List.set_cons_succ]
          refine wpAnyH_done (by kernel_rfl) ?_ _
          refine NoPanic.normal ?_
          have HS2 := Lib.hid hHeld
          clear hHeld X0 X1 he HS a0 a1 a2 a3 a4 a5 a6
          go_wp2_with fail
          go_roundw
          case rel => exact ⟨i + 1, by omega, by go_num, ⟨_, rfl, by show _ = _; rw [HTK.out, hasP_snoc, ← HB.out, ← HE.out]; rfl⟩, HS2.out⟩
          case measure => simp [intOf]; omega
      · have hi1 : ¬ (i : Int) < ts.length := by omega
        have HTK : Hid (ts.take i = ts) := List.take_of_length_le (by omega)
        rw [HTK.out] at HB
        have HAL := Lib.hid (allows_any ts (x1, x2) nm k q ts.length c ek ev en eq en2 ec wr (HR.out.later HS.out.2.2.2) (by omega))
        rw [← HB.out] at HAL
        have z0 := HS.out.2.1.cell 0
        have z1 := HS.out.2.1.cell 1
        simp only [List.getElem?_cons_zero, List.getElem?_cons_succ] at z0 z1
        by_cases hk : k = 1
        · subst hk
          rw [show decide ((1 : Int) = 1) = true from rfl] at HAL
          cases b
          all_goals
            go_wp2_with fail
            refine HAL.out.mono ?_
            rintro r w5 ⟨rfl, b5⟩
            have HS5 := Lib.hid (HS.out.later b5)
            have a1 := HS5.out.1.cell 1
            simp only [List.getElem?_cons_zero, List.getElem?_cons_succ] at a1
            clear b5 a0 a2 a3 a4 a5 a6 z0 z1 HAL HS HB HTK
            go_wp2_with fail
            go_ret
            exact ⟨rfl, HS5.out.2.2.2⟩
        · rw [decide_eq_false hk] at HAL
          cases b
          all_goals
            go_wp2_with fail
            refine HAL.out.mono ?_
            rintro r w5 ⟨rfl, b5⟩
            have HS5 := Lib.hid (HS.out.later b5)
            have a1 := HS5.out.1.cell 1
            simp only [List.getElem?_cons_zero, List.getElem?_cons_succ] at a1
            clear b5 a0 a2 a3 a4 a5 a6 z0 z1 HAL HS HB HTK
            go_wp2_with fail
            go_ret
            first | exact ⟨rfl, HS5.out.2.2.2⟩ | exact ⟨by simp [hk], HS5.out.2.2.2⟩
  · have hl1 : (100 : Int) < ts.length := by omega
    go_wp2_with fail
    refine (awake_any _ HS1.out.2.2.1).mono ?_
    rintro r w2 ⟨rfl, b2⟩
    have HS2 := Lib.hid (HS1.out.later b2)
    clear b2 HS1
    go_wp2_with fail
    go_ret
    exact ⟨rfl, HS2.out.2.2.2⟩
end Go.Proofs.YtijokgddfcfcbaaDoor
