/-
  slices.Index, slices.Contains, Allows on any list of types.
-/
import Derived.Test.YtijokgddfcfcbaaDoorScF
namespace Go.Proofs.YtijokgddfcfcbaaDoor
open Go.ChangeShapes Go.WideShapes Go.ChangeAt Go.RowKit
set_option linter.unusedVariables false

abbrev Al := ByteArray × ByteArray
def al0 : Al := (ByteArray.empty, ByteArray.empty)
def RdP (w : World) (q : Option Addr) (n : Nat) (ts : List Al) : Prop :=
  n = ts.length ∧ (0 < ts.length → ∃ b off, q = some ⟨b, off, none⟩ ∧ b < w.heap.size ∧ ∀ i, i < ts.length → w.cell? ⟨b, off + i * 2, none⟩ = some (.string (ts.getD i al0).1) ∧ w.cell? ⟨b, off + i * 2 + 1, none⟩ = some (.string (ts.getD i al0).2))
theorem RdP.later {w w' : World} {q : Option Addr} {n : Nat} {ts : List Al} (h : RdP w q n ts) (hb : Below w.heap.size w w') : RdP w' q n ts :=
  ⟨h.1, fun h0 => by
    obtain ⟨b, off, e, g, hc⟩ := h.2 h0
    exact ⟨b, off, e, Nat.lt_of_lt_of_le g hb.size, fun i hi => ⟨(hb.cell (p := ⟨b, off + i * 2, none⟩) g).trans (hc i hi).1, (hb.cell (p := ⟨b, off + i * 2 + 1, none⟩) g).trans (hc i hi).2⟩⟩⟩
def hasP (ts : List Al) (x : Al) : Bool := ts.any fun y => decide (x = y)
theorem hasP_iff (ts : List Al) (x : Al) : hasP ts x = true ↔ x ∈ ts := by simp [hasP]
theorem eqP_iff (x y : Al) : (x.1.toList == y.1.toList && x.2.toList == y.2.toList) = decide (x = y) := by
  obtain ⟨x1, x2⟩ := x
  obtain ⟨y1, y2⟩ := y
  by_cases h1 : x1 = y1
  · by_cases h2 : x2 = y2
    · rw [seq_t h1, seq_t h2, h1, h2]; simp
    · rw [seq_t h1, seq_f h2]; simp [h2]
  · rw [seq_f h1]; simp [h1]
theorem take_snocP {ts : List Al} {i : Nat} (h : i < ts.length) : ts.take (i + 1) = ts.take i ++ [ts.getD i al0] := by
  rw [List.take_add_one, List.getD_eq_getElem?_getD, List.getElem?_eq_getElem h]; rfl
/-- What the search keeps. -/
def SI (w : World) (x : Al) (W : World) : Prop := Arr W 29 w.heap.size [.string x.1, .string x.2] ∧ Below w.heap.size w W
theorem SI.later {w : World} {x : Al} {W W' : World} (h : SI w x W) (hb : Below W.heap.size W W') : SI w x W' := ⟨h.1.later hb, h.2.trans (hb.mono h.2.size)⟩
set_option maxRecDepth 100000 in
set_option maxHeartbeats 2000000 in
theorem index_any (ts : List Al) (x : Al) (q : Option Addr) (n c : Nat) (w : World) (h : RdP w q n ts) (hz : ts.length ≤ 1000) :
    Calls Tryd.prog 26 #[.slice q n c, .agg #[.string x.1, .string x.2]] w fun r w' => ∃ k : Int, r = .returned (.int .i64 k) ∧ (0 ≤ k ↔ x ∈ ts) ∧ Below w.heap.size w w' := by
  obtain ⟨rfl, h2⟩ := h
  have HK := Lib.hid h2
  obtain ⟨x1, x2⟩ := x
  have HS0 : Hid (SI w (x1, x2) (w.alloc (.cells #[.string x1, .string x2] 29))) := ⟨Arr.new' _ _ _ _ rfl, (Below.refl _ _).alloc (Nat.le_refl _) _⟩
  clear h2
  go_enter Tryd.func26, Tryd.ntmps26
  go_wp2_with fail
  go_loopw [8] (fun iv wr => ∃ i : Nat, i ≤ ts.length ∧ iv = .int .i64 i ∧ Hid ((x1, x2) ∉ ts.take i) ∧ Hid (SI w (x1, x2) wr)) (fun iv _ => ts.length - (intOf iv).toNat)
  case atStart => exact ⟨0, Nat.zero_le _, rfl, by show _ ∉ _; simp, HS0.out⟩
  case round =>
    obtain ⟨i, hi, rfl, HN, HS⟩ := hrel
    have hi0 : (0 : Int) ≤ i := by omega
    by_cases hlt : i < ts.length
    · have hi1 : (i : Int) < ts.length := by omega
      obtain ⟨ba, oa, rfl, hba, hl⟩ := HK.out (by omega)
      obtain ⟨y, hy⟩ : ∃ y, y = ts.getD i al0 := ⟨_, rfl⟩
      obtain ⟨X0, X1⟩ := hl i hlt
      rw [← hy] at X0 X1
      have HTK : Hid (ts.take (i + 1) = ts.take i ++ [y]) := by show _ = _; rw [take_snocP hlt, ← hy]
      have HMEM : Hid (y ∈ ts) := by show _ ∈ _; rw [hy, List.getD_eq_getElem?_getD, List.getElem?_eq_getElem hlt]; exact List.getElem_mem _
      obtain ⟨y1, y2⟩ := y
      obtain ⟨e, he⟩ : ∃ e, e = (x1.toList == y1.toList && x2.toList == y2.toList) := ⟨_, rfl⟩
      have HE : Hid (e = decide ((x1, x2) = (y1, y2))) := by show _ = _; rw [he]; exact eqP_iff (x1, x2) (y1, y2)
      clear hl hy HS0
      go_upto_region 4 with (fail)
      refine wp_region_noPanic ?_
      refine wp_region_held_drew (S := SI w (x1, x2)) (by kernel_rfl) (HS.out.later (Below.refl _ _).drew) (fun hHeld => ?_)
      try simp only [Act.put]
      generalize wr.drew = w2 at hHeld ⊢
      refine wpAnyH_take (i := 0) (oi := ⟨some 11, _, _, _, _, _⟩) (v := .agg #[.string x1, .string x2]) rfl (by kernel_rfl) (by kernel_rfl) (by kernel_rfl) (fun _ _ _ h => h) (.inl ⟨by rfl, fun w' hSw => ?_⟩) hHeld ?_
      focus (have q0 := hSw.1.cell 0; have q1 := hSw.1.cell 1; simp only [List.getElem?_cons_zero, List.getElem?_cons_succ] at q0 q1; clear hHeld; go_simp)
      try simp only [Act.put, List.setIfInBounds_toArray, List.set_cons_zero, List.set_cons_succ]
      refine wpAnyH_take (i := 1) (oi := ⟨some 12, _, _, _, _, _⟩) (v := .slice (some ⟨ba, oa, none⟩) ts.length c) rfl (by kernel_rfl) (by kernel_rfl) (by kernel_rfl) (fun _ _ _ h => h) (.inl ⟨by rfl, fun w' hSw => ?_⟩) hHeld ?_
      focus (skip; clear hHeld; go_simp)
      try simp only [Act.put, List.setIfInBounds_toArray, List.set_cons_zero, List.set_cons_succ]
      refine wpAnyH_take (i := 2) (oi := ⟨some 13, _, _, _, _, _⟩) (v := .int .i64 (i : Nat)) rfl (by kernel_rfl) (by kernel_rfl) (by kernel_rfl) (fun _ _ _ h => h) (.inl ⟨by rfl, fun w' hSw => ?_⟩) hHeld ?_
      focus (skip; clear hHeld; go_simp)
      try simp only [Act.put, List.setIfInBounds_toArray, List.set_cons_zero, List.set_cons_succ]
      refine wpAnyH_take (i := 3) (oi := ⟨some 14, _, _, _, _, _⟩) (v := .pointer (some ⟨ba, oa + i * 2, none⟩)) rfl (by kernel_rfl) (by kernel_rfl) (by kernel_rfl) (fun _ _ _ h => h) (.inl ⟨by rfl, fun w' hSw => ?_⟩) hHeld ?_
      focus (skip; clear hHeld; go_simp)
      try simp only [Act.put, List.setIfInBounds_toArray, List.set_cons_zero, List.set_cons_succ]
      refine wpAnyH_take (i := 4) (oi := ⟨some 15, _, _, _, _, _⟩) (v := .agg #[.string y1, .string y2]) rfl (by kernel_rfl) (by kernel_rfl) (by kernel_rfl) (fun _ _ _ h => h) (.inl ⟨by rfl, fun w' hSw => ?_⟩) hHeld ?_
      focus (have q0 := (hSw.2.cell (p := ⟨ba, oa + i * 2, none⟩) hba).trans X0; have q1 := (hSw.2.cell (p := ⟨ba, oa + i * 2 + 1, none⟩) hba).trans X1; clear hHeld; go_simp)
      try simp only [Act.put, List.setIfInBounds_toArray, List.set_cons_zero, List.set_cons_succ]
      refine wpAnyH_take (i := 5) (oi := ⟨some 16, _, _, _, _, _⟩) (v := .bool e) rfl (by kernel_rfl) (by kernel_rfl) (by kernel_rfl) (fun _ _ _ h => h) (.inl ⟨by rfl, fun w' hSw => ?_⟩) hHeld ?_
      focus (skip; clear hHeld; go_simp; by_cases h1 : x1.toList = y1.toList <;> by_cases h2 : x2.toList = y2.toList <;> simp [h1, h2])
      try simp only [Act.put, List.setIfInBounds_toArray, List.set_cons_zero, List.set_cons_succ]
      refine wpAnyH_done (by kernel_rfl) ?_ _
      refine NoPanic.normal ?_
      have HS2 := Lib.hid hHeld
      clear hHeld X0 X1 he HS
      cases e with
      | true =>
        go_wp2_with fail
        go_ret
        have := of_decide_eq_true HE.out.symm
        exact ⟨_, rfl, ⟨fun _ => this ▸ HMEM.out, fun _ => hi0⟩, HS2.out.2⟩
      | false =>
        go_wp2_with fail
        go_roundw
        case rel =>
          have hne := of_decide_eq_false HE.out.symm
          refine ⟨i + 1, by omega, by go_num, ?_, HS2.out⟩
          show _ ∉ _
          rw [HTK.out, List.mem_append, List.mem_singleton]
          exact fun h => h.elim HN.out hne
        case measure => simp [intOf]; omega
    · have hi1 : ¬ (i : Int) < ts.length := by omega
      have HTK : Hid (ts.take i = ts) := List.take_of_length_le (by omega)
      clear HS0
      go_wp2_with fail
      go_ret
      refine ⟨_, rfl, ⟨fun h => absurd h (by omega), fun h => absurd h ?_⟩, HS.out.2⟩
      have := HN.out
      rw [HTK.out] at this
      exact this
set_option maxRecDepth 100000 in
set_option maxHeartbeats 2000000 in
theorem contains_any (ts : List Al) (x : Al) (q : Option Addr) (n c : Nat) (w : World) (h : RdP w q n ts) (hz : ts.length ≤ 1000) :
    Calls Tryd.prog 13 #[.slice q n c, .agg #[.string x.1, .string x.2]] w fun r w' => r = .returned (.bool (hasP ts x)) ∧ Below w.heap.size w w' := by
  obtain ⟨x1, x2⟩ := x
  have HB0 : Hid (Below w.heap.size w (w.alloc (.cells #[.string x1, .string x2] 29))) := (Below.refl _ _).alloc (Nat.le_refl _) _
  have HI := Lib.hid (index_any ts (x1, x2) q n c (w.alloc (.cells #[.string x1, .string x2] 29)) (h.later HB0.out) hz)
  clear h
  go_enter Tryd.func13, Tryd.ntmps13
  go_wp2_with fail
  refine HI.out.mono ?_
  rintro r w1 ⟨k, rfl, hk, b1⟩
  have HB := Lib.hid (HB0.out.trans (b1.mono HB0.out.size))
  have HKI := Lib.hid hk
  clear b1 HI hk
  go_wp2_with fail
  go_ret
  exact ⟨congrArg (fun b => Ending.returned (.bool b)) (by rw [Bool.eq_iff_iff, decide_eq_true_iff, hasP_iff]; exact HKI.out), HB.out⟩
set_option maxRecDepth 100000 in
set_option maxHeartbeats 2000000 in
theorem allows_any (ts : List Al) (x : Al) (nm : ByteArray) (k : Int) (q : Option Addr) (n c : Nat) (ek : Int) (ev en : ByteArray) (eq : Option Addr) (en2 ec : Nat) (w : World) (h : RdP w q n ts) (hz : ts.length ≤ 1000) :
    Calls Tryd.prog 5 #[.agg #[.string nm, .int .i64 k, .slice q n c, .int .i64 ek, .string ev, .string en, .slice eq en2 ec], .agg #[.string x.1, .string x.2]] w fun r w' => r = .returned (.bool (decide (k = 1) && hasP ts x)) ∧ Below w.heap.size w w' := by
  obtain ⟨x1, x2⟩ := x
  have HB0 : Hid (Below w.heap.size w ((w.alloc (.cells #[.string nm, .int .i64 k, .slice q n c, .int .i64 ek, .string ev, .string en, .slice eq en2 ec] 27)).alloc (.cells #[.string x1, .string x2] 29))) := ((Below.refl _ _).alloc (Nat.le_refl _) _).alloc (by simp) _
  have HI := Lib.hid (contains_any ts (x1, x2) q n c _ (h.later HB0.out) hz)
  clear h
  by_cases hk : k = 1
  · subst hk
    go_enter Tryd.func5, Tryd.ntmps5
    go_wp2_with fail
    refine HI.out.mono ?_
    rintro r w1 ⟨rfl, b1⟩
    have HB := Lib.hid (HB0.out.trans (b1.mono HB0.out.size))
    clear b1 HI
    go_wp2_with fail
    go_ret
    exact ⟨by simp, HB.out⟩
  · have HN : Hid (decide (k = 1) = false) := decide_eq_false hk
    rw [HN.out]
    go_enter Tryd.func5, Tryd.ntmps5
    go_wp2_with fail
    go_ret
    exact ⟨rfl, HB0.out⟩
end Go.Proofs.YtijokgddfcfcbaaDoor
