/-
  The reference's Split.
-/
import Derived.Test.YtikokimnhanloaaDoorFrSt
import Derived.Test.YtikokimnhanloaaDoorFrSq
namespace Go.Proofs.YtikokimnhanloaaDoor
open Go.ChangeShapes Go.WideShapes Go.ChangeAt Go.RowKit
set_option linter.unusedVariables false

theorem ressp {fn : Func} {p : Tmp} (h : fn.results = #[.cell p 42]) {tmps : Array Value} {w : World} {g : Nat} {a b c d : Value} (hA : Arr w 42 g [a, b, c, d]) (hp : tmps.getD p undef = .pointer (some ⟨g, 0, none⟩)) :
    (results fn tmps).run Tryd.prog w = .ok (.agg #[a, b, c, d]) w :=
  results_cell_row h tmps w g 42 #[a, b, c, d] (0, 0) _ hp hA Tryd.underlying42 rfl (by kernel_rfl)

theorem RowAll.form {base B : Nat} {w : World} {v : Value} {ks : List (List UInt8)} (h : RowAll base B w v ks) : ∃ q c, v = .slice q ks.length c := by
  obtain ⟨xs, hown, _⟩ := h
  rcases hown.2 with ⟨h, hn⟩ | ⟨g, cap, cur, hv, _⟩
  · exact ⟨none, 0, by rw [hn]; exact h⟩
  · exact ⟨_, _, hv⟩
theorem Arr.set4 {w : World} {t : TypeId} {g : Nat} {a b c d : Value} (h : Arr w t g [a, b, c, d]) (x0 x1 x2 x3 : Value) :
    Arr ((((w.setCell ⟨g, 0, none⟩ x0).setCell ⟨g, 1, none⟩ x1).setCell ⟨g, 2, none⟩ x2).setCell ⟨g, 3, none⟩ x3) t g [x0, x1, x2, x3] := (((h.set 0 x0).set 1 x1).set 2 x2).set 3 x3
/-- The rows alone, which a store into the two structs leaves. -/
def Rws (B : Nat) (w wr : World) (vP vO : Value) (ks : List (List UInt8)) (os : List Nat) : Prop :=
  RowAll (w.heap.size + 2) B wr vP ks ∧ wr.ownsRow (w.heap.size + 2) 3 1 vO os.length (nvs os) ∧ Below w.heap.size w wr
theorem Rws.set {B : Nat} {w wr : World} {vP vO : Value} {ks : List (List UInt8)} {os : List Nat} (h : Rws B w wr vP vO ks os) (hB : B ≤ w.heap.size) {a : Addr} (v : Value) (ha : w.heap.size ≤ a.block ∧ a.block < w.heap.size + 2) : Rws B w (wr.setCell a v) vP vO ks os := by
  have hs := grown_cell1 wr a v
  refine ⟨h.1.kept hs (.inr fun e => ?_) (fun k e => ?_) (Nat.le_trans hB h.2.2.size), ownsRow_kept h.2.1 hs (.inr fun e => ?_), h.2.2.setCell (p := a) ha.1 _⟩
  · have := ownsRow_block h.1.choose_spec.1 e.symm; omega
  · simp only [Option.some.injEq] at e; omega
  · have := ownsRow_block h.2.1 e.symm; omega
def RSplitPost (B : Nat) (w : World) (l : List UInt8) (e : Ending) (w' : World) : Prop :=
  ∃ vP vO, e = .returned (.agg #[vP, vO, .int .i64 ((splitF l.length 0 l).2.2.1 : Nat), .int .i64 ((splitF l.length 0 l).2.2.2 : Nat)]) ∧ RowAll (w.heap.size + 2) B w' vP (splitF l.length 0 l).1 ∧
    w'.ownsRow (w.heap.size + 2) 3 1 vO (splitF l.length 0 l).2.1.length (nvs (splitF l.length 0 l).2.1) ∧ Below w.heap.size w w'

set_option maxRecDepth 100000 in
set_option maxHeartbeats 4000000 in
theorem rsplit_some {B : Nat} {w : World} {b off cv : Nat} {l : List UInt8} (h1 : l.length ≤ cv) (h2 : cv ≤ maxLen) (h3 : b < B) (hcell : ∀ i, i < l.length → w.cell? ⟨b, off + i, none⟩ = some (bv (l.getD i 0))) (hB : B ≤ w.heap.size) (hl : l.length ≤ 1000000) :
    Calls Tryd.prog 17 #[.slice (some ⟨b, off, none⟩) l.length cv] w (RSplitPost B w l) := by
  obtain ⟨R, hRR⟩ : ∃ R, R = splitF l.length 0 l := ⟨_, rfl⟩
  have HRR := Lib.hid hRR
  have HST : Hid (Cut l R 0 [] []) := by show Cut l R 0 [] []; rw [hRR]; exact cut_start l
  have HD : Hid (∀ i, i ≤ l.length → ∀ wr, Below w.heap.size w wr → Rd B wr (.slice (some ⟨b, off + i, none⟩) (l.length - i) (cv - i)) (l.drop i)) := fun i hi wr hb =>
    (Rd.drop h1 h2 h3 hcell hi).below hb hB
  have i1 : (l.length : Int) ≤ cv := by omega
  have HS0 : Hid (Spl B w ((w.alloc (.cells #[.slice none 0 0, .slice none 0 0, .int .i64 0, .int .i64 0] 42)).alloc (.cells #[.slice none 0 0, .slice none 0 0, .int .i64 0, .int .i64 0] 42)) (.slice none 0 0) (.slice none 0 0) [] []) :=
    ⟨(Arr.new _ _ _).alloc _, Arr.new2 _ _ _ _ _ rfl, RowAll.nil _ _ _, World.ownsRow_nil _ _ _ _, ((Below.refl _ _).alloc (Nat.le_refl _) _).alloc (by simp) _⟩
  clear hRR hcell
  go_enter Tryd.func17, Tryd.ntmps17
  go_wp2_with fail
  go_loopw [4] (fun iv wr => ∃ (i : Nat) (vP vO : Value) (ks : List (List UInt8)) (os : List Nat), iv = .int .i64 i ∧ i ≤ l.length ∧ Hid (Cut l R i ks os) ∧ Hid (Spl B w wr vP vO ks os)) (fun iv _ => l.length - (intOf iv).toNat)
  case atStart => exact ⟨0, _, _, [], [], rfl, Nat.zero_le _, HST, HS0⟩
  case round =>
    obtain ⟨i, vP, vO, ks, os, rfl, hil, HC, HM⟩ := hrel
    clear HST HS0
    obtain ⟨qP, cP, rfl⟩ := HM.out.2.2.1.form
    obtain ⟨qO, cO, rfl, _, _⟩ := own_nums HM.out.2.2.2.1
    have i0 : (0 : Int) ≤ i := by omega
    have a0 := HM.out.1.cell 0
    have a1 := HM.out.1.cell 1
    have a2 := HM.out.1.cell 2
    have a3 := HM.out.1.cell 3
    have af0 := HM.out.1.free 0
    have af1 := HM.out.1.free 1
    have af2 := HM.out.1.free 2
    have af3 := HM.out.1.free 3
    have c0 := HM.out.2.1.cell 0
    have c1 := HM.out.2.1.cell 1
    have c2 := HM.out.2.1.cell 2
    have c3 := HM.out.2.1.cell 3
    have f0 := HM.out.2.1.free 0
    have f1 := HM.out.2.1.free 1
    have f2 := HM.out.2.1.free 2
    have f3 := HM.out.2.1.free 3
    by_cases hi : i < l.length
    · have i2 : (i : Int) < l.length := by omega
      have i3 : (i : Int) ≤ l.length := by omega
      have HRD := Lib.hid (rread_any (HD.out i (by omega) _ HM.out.2.2.2.2) (by rw [List.length_drop]; omega))
      obtain ⟨r, hrr⟩ : ∃ r, r = readF (l.drop i) := ⟨_, rfl⟩
      have HF := Lib.hid hrr
      clear hrr
      go_wp2_with fail
      refine HRD.out.mono ?_
      rintro e w2 ⟨v2, rfl, r2, rfl⟩
      rw [← HF.out] at r2 ⊢
      have HR2 := Lib.hid r2
      obtain ⟨q2, cp2, rfl⟩ := rd_form r2
      clear r2 HRD
      by_cases hc : r.2.2.1 = 0
      · have k0 : (r.2.2.1 : Int) = 0 := by omega
        have hu := readF_used (l := l.drop i) (by rw [← HF.out]; exact hc)
        have hnx := cut_next HC.out hi (by rw [← HF.out]; exact hc)
        rw [← HF.out] at hu hnx
        rw [List.length_drop] at hu
        have HNX := Lib.hid hnx
        obtain ⟨u1, u2⟩ := hu
        have HK : Hid (5 * ks.length ≤ i ∧ ks.length = os.length) := ⟨HC.out.2.2.1, HC.out.2.1⟩
        have HA1 := Lib.hid (HM.out.alloc hB (.cells #[.slice q2 r.1.length cp2] 22))
        have HCL : Hid ((wr.alloc (.cells #[.slice q2 r.1.length cp2] 22)).cell? ⟨wr.heap.size, 0, none⟩ = some (.slice q2 r.1.length cp2)) := by
          show _ = _; rw [cell_of_row _ _ _ _ 22 (0, 0) (heap_alloc_new wr _)]; rfl
        have HRR2 : Hid (Rd B (wr.alloc (.cells #[.slice q2 r.1.length cp2] 22)) (.slice q2 r.1.length cp2) r.1) := HR2.out.below ((Below.refl _ _).alloc (Nat.le_refl _) _) (Nat.le_trans hB HM.out.2.2.2.2.size)
        have j0 : -9223372036854775808 ≤ (i : Int) + r.2.1 := by omega
        have j1 : (i : Int) + r.2.1 ≤ 9223372036854775807 := by omega
        clear hnx
        go_wp2_with (first
          | (at_builtin; refine app_partB rfl _ _ rfl rfl HA1.out.2.2.1 rfl HCL.out HRR2.out (by have := HK.out; omega) (by omega) HA1.out.size ?_; intro v5 w5 h5 b5 g5
             obtain ⟨q5, cp5, rfl⟩ : ∃ q c, v5 = .slice q (ks.length + 1) c := by
               obtain ⟨q, c, h⟩ := h5.form
               exact ⟨q, c, by rw [h]; simp⟩
             have HP5 := Lib.hid (HA1.out.putP hB h5 b5 g5); clear h5 b5 g5
             have d0 := HP5.out.2.cell 0; have e0 := HP5.out.2.free 0; have d1 := HP5.out.2.cell 1; have e1 := HP5.out.2.free 1
             have HA2 := Lib.hid (HP5.out.1.alloc hB (.cells #[.int .i64 i] 3))
             have HCL2 : Hid (((w5.setCell ⟨w.heap.size + 1, 0, none⟩ (.slice q5 (ks.length + 1) cp5)).alloc (.cells #[.int .i64 i] 3)).cell? ⟨(w5.setCell ⟨w.heap.size + 1, 0, none⟩ (.slice q5 (ks.length + 1) cp5)).heap.size, 0, none⟩ = some (nv i)) := by
               show _ = _; rw [cell_of_row _ _ _ _ 3 (0, 0) (heap_alloc_new _ _)]; rfl
             rw [World.size_setCell] at HCL2
             have HZ := Lib.hid (HA2.out.size))
          | (at_builtin; refine app_num rfl _ _ rfl rfl HA2.out.2.2.2.1 rfl HCL2.out (by have := HK.out; omega) HZ.out ?_; intro v6 w6 h6 b6 g6
             obtain ⟨q6, cp6, rfl⟩ : ∃ q c, v6 = .slice q (os.length + 1) c := by
               obtain ⟨q, c, h, _⟩ := own_nums h6
               exact ⟨q, c, by rw [h]; simp⟩
             have HP6 := Lib.hid (HA2.out.putO hB h6 b6 g6); clear h6 b6 g6
             have d2 := HP6.out.2.cell 1; have e2 := HP6.out.2.free 1))
        go_roundw
        case rel => exact ⟨i + r.2.1, _, _, _, _, by rw [Int.natCast_add], by omega, HNX, HP6.out.1⟩
        case measure => simp [intOf]; omega
      · have k0 : ¬ (r.2.2.1 : Int) = 0 := by omega
        have HF2 := Lib.hid (cut_err HC.out hi (by rw [← HF.out]; exact hc))
        rw [← HF.out] at HF2
        have HAT : Hid (r.2.2.2 ≤ l.length - i) := by show _ ≤ _; rw [HF.out, ← List.length_drop]; exact readF_at
        have j0 : -9223372036854775808 ≤ (i : Int) + r.2.2.2 := by have := HAT.out; omega
        have j1 : (i : Int) + r.2.2.2 ≤ 9223372036854775807 := by have := HAT.out; omega
        go_wp2_with fail
        refine bodyPost_ret (ressp rfl (((HM.out.1.setCell (by simp) _).setCell (by simp) _).set4 _ _ _ _) rfl) rfl ?_
        have hw : Rws B w wr _ _ ks os := ⟨HM.out.2.2.1, HM.out.2.2.2.1, HM.out.2.2.2.2⟩
        have hw2 := (((((hw.set hB (a := ⟨w.heap.size + 1, 2, none⟩) (.int .i64 (r.2.2.1 : Nat)) (by simp)).set hB (a := ⟨w.heap.size + 1, 3, none⟩) (.int .i64 ((i : Int) + r.2.2.2)) (by simp)).set hB (a := ⟨w.heap.size, 0, none⟩) (.slice qP ks.length cP) (by simp)).set hB (a := ⟨w.heap.size, 1, none⟩) (.slice qO os.length cO) (by simp)).set hB (a := ⟨w.heap.size, 2, none⟩) (.int .i64 (r.2.2.1 : Nat)) (by simp)).set hB (a := ⟨w.heap.size, 3, none⟩) (.int .i64 ((i : Int) + r.2.2.2)) (by simp)
        refine ⟨.slice qP ks.length cP, .slice qO os.length cO, ?_, ?_, ?_, hw2.2.2⟩
        · rw [← HRR.out, HF2.out, Int.natCast_add]
        · rw [← HRR.out, HF2.out]; exact hw2.1
        · rw [← HRR.out, HF2.out]; exact hw2.2.1
    · have i2 : ¬ (i : Int) < l.length := by omega
      have HF2 := Lib.hid (cut_end HC.out hi)
      go_wp2_with fail
      refine bodyPost_ret (ressp rfl (HM.out.1.set4 _ _ _ _) rfl) rfl ?_
      have hw : Rws B w wr _ _ ks os := ⟨HM.out.2.2.1, HM.out.2.2.2.1, HM.out.2.2.2.2⟩
      have hw2 := (((hw.set hB (a := ⟨w.heap.size, 0, none⟩) (.slice qP ks.length cP) (by simp)).set hB (a := ⟨w.heap.size, 1, none⟩) (.slice qO os.length cO) (by simp)).set hB (a := ⟨w.heap.size, 2, none⟩) (.int .i64 0) (by simp)).set hB (a := ⟨w.heap.size, 3, none⟩) (.int .i64 0) (by simp)
      refine ⟨.slice qP ks.length cP, .slice qO os.length cO, ?_, ?_, ?_, hw2.2.2⟩
      · rw [← HRR.out, HF2.out]; rfl
      · rw [← HRR.out, HF2.out]; exact hw2.1
      · rw [← HRR.out, HF2.out]; exact hw2.2.1
set_option maxRecDepth 100000 in
theorem rsplit_nil {B : Nat} {w : World} {oa : Option Addr} (hB : B ≤ w.heap.size) : Calls Tryd.prog 17 #[.slice oa 0 0] w (RSplitPost B w []) := by
  obtain ⟨w0, hw0⟩ : ∃ w0, w0 = ((w.alloc (.cells #[.slice none 0 0, .slice none 0 0, .int .i64 0, .int .i64 0] 42)).alloc (.cells #[.slice none 0 0, .slice none 0 0, .int .i64 0, .int .i64 0] 42)) := ⟨_, rfl⟩
  have HS0 : Hid (Spl B w w0 (.slice none 0 0) (.slice none 0 0) [] []) := by
    show Spl B w w0 (.slice none 0 0) (.slice none 0 0) [] []
    rw [hw0]
    exact ⟨(Arr.new _ _ _).alloc _, Arr.new2 _ _ _ _ _ rfl, RowAll.nil _ _ _, World.ownsRow_nil _ _ _ _, ((Below.refl _ _).alloc (Nat.le_refl _) _).alloc (by simp) _⟩
  have HW0 := Lib.hid hw0
  clear hw0
  go_enter Tryd.func17, Tryd.ntmps17
  go_wp2_with fail
  rw [← HW0.out]
  go_loopw [4] (fun iv wr => iv = .int .i64 0 ∧ Hid (wr = w0)) (fun _ _ => 0)
  case atStart => exact ⟨rfl, rfl⟩
  case round =>
    obtain ⟨rfl, HW⟩ := hrel
    have hw := HW.out
    subst hw
    have a0 := HS0.out.1.cell 0
    have a1 := HS0.out.1.cell 1
    have a2 := HS0.out.1.cell 2
    have a3 := HS0.out.1.cell 3
    have af0 := HS0.out.1.free 0
    have af1 := HS0.out.1.free 1
    have af2 := HS0.out.1.free 2
    have af3 := HS0.out.1.free 3
    have c0 := HS0.out.2.1.cell 0
    have c1 := HS0.out.2.1.cell 1
    have c2 := HS0.out.2.1.cell 2
    have c3 := HS0.out.2.1.cell 3
    go_wp2_with fail
    refine bodyPost_ret (ressp rfl (HS0.out.1.set4 _ _ _ _) rfl) rfl ?_
    have hw : Rws B w wr _ _ [] [] := ⟨HS0.out.2.2.1, HS0.out.2.2.2.1, HS0.out.2.2.2.2⟩
    have hw2 := (((hw.set hB (a := ⟨w.heap.size, 0, none⟩) (.slice none 0 0) (by simp)).set hB (a := ⟨w.heap.size, 1, none⟩) (.slice none 0 0) (by simp)).set hB (a := ⟨w.heap.size, 2, none⟩) (.int .i64 0) (by simp)).set hB (a := ⟨w.heap.size, 3, none⟩) (.int .i64 0) (by simp)
    exact ⟨.slice none 0 0, .slice none 0 0, rfl, hw2.1, hw2.2.1, hw2.2.2⟩
theorem rsplit_any {B : Nat} {w : World} {vb : Value} {l : List UInt8} (hr : Rd B w vb l) (hB : B ≤ w.heap.size) (hl : l.length ≤ 1000000) :
    Calls Tryd.prog 17 #[vb] w (RSplitPost B w l) := by
  rcases hr with ⟨oa, rfl, rfl⟩ | ⟨b, off, cv, rfl, h1, h2, h3, hcell⟩
  · exact rsplit_nil hB
  · exact rsplit_some h1 h2 h3 hcell hB hl
end Go.Proofs.YtikokimnhanloaaDoor
