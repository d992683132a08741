/-
  The reference's Expr: an expression of the form as bytes.
-/
import Derived.Test.YtdnmgemjhpkekaaGreatDoorMg4
import Derived.Test.YtdnmgemjhpkekaaGreatDoorMg2
import Derived.Test.YtdnmgemjhpkekaaGreatDoorMg1
import Derived.Test.YtdnmgemjhpkekaaGreatDoorMg0
import Derived.Test.YtdnmgemjhpkekaaGreatDoorConvS
namespace Go.Proofs.YtdnmgemjhpkekaaGreatDoor
open Go.ChangeShapes Go.WideShapes Go.ChangeAt Go.RowKit
set_option linter.unusedVariables false
set_option linter.unusedSimpArgs false

theorem rputS_text (l : List UInt8) (h : l.length ≤ 1000) (w : World) : Calls Tryz.prog 43 #[.string (bstr l)] w (Owned w (putS (bstr l))) := rtext_any (bstr l) (by rw [bstr_size]; omega) w
theorem convB (n : Nat) (h : n ≤ 100) (w : World) : (convert 3 5 (.int .i64 (n : Nat))).run Tryz.prog w = .ok (.int .u8 n) w := by
  have e : IntKind.wrap .u8 (n : Int) = n := by
    unfold IntKind.wrap; simp [IntKind.bits, IntKind.signed]; omega
  simp [convert, run_underlying Tryz.underlying3, run_underlying Tryz.underlying5, Conv.intToInt, e]
theorem own_byte {w : World} {base n : Nat} (hb : base ≤ w.heap.size) (hn : n < 128) : (w.alloc (.cells #[.int .u8 (n : Nat)] 5)).ownsRow base 5 1 (.slice (some ⟨w.heap.size, 0, none⟩) 1 1) (put n).length (bvs (put n)) := by
  have h := World.ownsRow_lit (base := base) (e := 5) (size := 1) w #[.int .u8 (n : Nat)] 1 hb (by decide) rfl
  rw [put_lt hn]
  have e : bvs [UInt8.ofNat n] = [.int .u8 (n : Nat)] := by show [bv _] = _; rw [low n hn]
  rw [e]; exact h
set_option maxRecDepth 100000 in
set_option maxHeartbeats 8000000 in
theorem rputX_step {m : Nat} (IH : Hid (∀ (e : Ex) (v : Value) (P : Nat → Prop) (w : World), sizeE e ≤ m → okE 64 e → formE e = true → RdE P w e v → (∀ b, P b → b < w.heap.size) → Calls Tryz.prog 19 #[v] w (Owned w (putE e)))) (hm : m ≤ 63) (e : Ex) (v : Value) (P : Nat → Prop) (w : World) (hs : sizeE e ≤ m + 1) (ho : okE 64 e) (hf : formE e = true) (h : RdE P w e v) (hP : ∀ b, P b → b < w.heap.size) : Calls Tryz.prog 19 #[v] w (Owned w (putE e)) := by
  obtain ⟨q, c, rfl, hc, hk⟩ := h.form
  obtain ⟨k, xv, xn, ks⟩ := e
  unfold exv
  show Calls _ _ #[.agg #[.int .i64 k, .string (bstr xv), .string (bstr xn), .slice q ks.length c]] _ _
  have HK : Hid (0 < ks.length → ∃ b o, q = some ⟨b, o, none⟩ ∧ P b ∧ RdL P w ks b o) := hk
  have hb0 : Below w.heap.size w (w.alloc (.cells #[.int .i64 k, .string (bstr xv), .string (bstr xn), .slice q ks.length c] 42)) := (Below.refl _ _).alloc (Nat.le_refl _) _
  unfold okE at ho
  have HLV : Hid (xv.length ≤ 64) := ho.1
  have HLX : Hid (xn.length ≤ 64) := ho.2.1
  have HOKL : Hid (okL 64 ks) := ho.2.2
  have HFL : Hid (formL ks = true) := by unfold formE at hf; simp only [Bool.and_eq_true] at hf; exact hf.2
  have HSZ : Hid (sizeL ks ≤ m) := by unfold sizeE at hs; exact Nat.le_of_succ_le_succ hs
  have HKL : Hid (ks.length ≤ 100) := by have := sizeL_len ks; have := HSZ.out; exact (by omega : ks.length ≤ 100)
  obtain ⟨T, hT⟩ : ∃ T, T = putE (.mk k xv xn ks) := ⟨_, rfl⟩
  have HT : Hid (T.length ≤ 20000) := by
    show _ ≤ _
    have := putE_len (.mk k xv xn ks) (by unfold okE; exact ho) hf (by omega)
    rw [hT]; omega
  have HTE := Lib.hid hT
  rw [← hT]
  have h2 := form_two hf
  clear hT ho hf hs hm
  rcases h2 with ⟨rfl, rfl, rfl, h2⟩ | ⟨rfl, rfl, h2⟩ | ⟨rfl | rfl | rfl, rfl, rfl, h2⟩ <;> clear h2
  · have HQ0 : Hid (T = put 1 ++ (putS (bstr xn) ++ [])) := by show _ = _; rw [HTE.out]; simp [putE, putEs]
    clear HTE
    have HB0 := Lib.hid hb0
    have HA0 : Hid (Arr (w.alloc (.cells #[.int .i64 1, .string (bstr []), .string (bstr xn), .slice q 0 c] 42)) 42 w.heap.size [.int .i64 1, .string (bstr []), .string (bstr xn), .slice q 0 c]) := Arr.new' _ _ _ _ rfl
    go_enter Tryz.func19, Tryz.ntmps19
    go_upto_region 1 with (fail)
    have HWS : Hid ((w.alloc (.cells #[.int .i64 1, .string (bstr []), .string (bstr xn), .slice q 0 c] 42)).heap.size = w.heap.size + 1) := World.size_alloc _ _
    generalize w.alloc (.cells #[.int .i64 1, .string (bstr []), .string (bstr xn), .slice q 0 c] 42) = w0 at HB0 HA0 HWS ⊢
    have x0 := HA0.out.cell 0
    have y0 := HA0.out.free 0
    have x1 := HA0.out.cell 1
    have y1 := HA0.out.free 1
    have x2 := HA0.out.cell 2
    have y2 := HA0.out.free 2
    have x3 := HA0.out.cell 3
    have y3 := HA0.out.free 3
    simp only [List.getElem?_cons_zero, List.getElem?_cons_succ] at x0 x1 x2 x3
    go_upto_region 2 with (fail)
    have hb1 : Below w0.heap.size w0 (w0.alloc (.cells #[.int .u8 1] 5)) := (Below.refl _ _).alloc (Nat.le_refl _) _
    have HB1 := Lib.hid (HB0.out.trans (hb1.mono HB0.out.size))
    have HA1 := Lib.hid (HA0.out.later hb1)
    have HO1' : Hid ((w0.alloc (.cells #[.int .u8 1] 5)).ownsRow (w.heap.size + 1) 5 1 (.slice (some ⟨w0.heap.size, 0, none⟩) 1 1) (put 1).length (bvs (put 1))) := own_byte (by have := HWS.out; omega) (by decide)
    obtain ⟨A1, hA⟩ : ∃ x, x = put 1 := ⟨_, rfl⟩
    have hA1 : 1 = A1.length := by rw [hA, put_lt (by decide)]; rfl
    rw [← hA] at HO1' HQ0
    have HQ1 := HQ0
    obtain ⟨c1, hc1⟩ : ∃ c, c = 1 := ⟨_, rfl⟩
    obtain ⟨q1, hq1⟩ : ∃ q, q = some (Addr.mk w0.heap.size 0 none) := ⟨_, rfl⟩
    have hV : (Value.slice (some (Addr.mk w0.heap.size 0 none)) 1 1) = .slice q1 A1.length c1 := by rw [hq1, hc1, ← hA1]
    rw [hV] at HO1' ⊢
    have HO1 := HO1'
    generalize (w0.alloc (.cells #[.int .u8 1] 5)) = w1 at HB1 HA1 HO1 ⊢
    clear hb1 HB0 HA0 HWS HQ0 hA hA1 hc1 hq1 hV HO1' x0 x1 x2 x3 y0 y1 y2 y3
    have x0 := HA1.out.cell 0
    have y0 := HA1.out.free 0
    have x1 := HA1.out.cell 1
    have y1 := HA1.out.free 1
    have x2 := HA1.out.cell 2
    have y2 := HA1.out.free 2
    have x3 := HA1.out.cell 3
    have y3 := HA1.out.free 3
    simp only [List.getElem?_cons_zero, List.getElem?_cons_succ] at x0 x1 x2 x3
    go_wp2_with fail
    refine (rputS_text xn (by have := HLX.out; omega) _).mono ?_
    rintro e wa ⟨vm, rfl, om, bm⟩
    have HOA := Lib.hid (own_below HO1.out bm)
    have HBA := Lib.hid (HB1.out.trans (bm.mono HB1.out.size))
    have HAA := Lib.hid (HA1.out.later bm)
    have HRM := Lib.hid (Rd.of_own om)
    obtain ⟨qm, cm, rfl⟩ := own_form om
    have HLN := Lib.hid (len_of HQ1.out HT.out)
    have HWB : Hid (w.heap.size + 1 ≤ wa.heap.size) := HAA.out.lt
    clear om bm HO1 HB1 HA1 x0 x1 x2 x3 y0 y1 y2 y3
    go_wp2_with (at_builtin; refine app_bytes rfl _ _ rfl rfl HOA.out rfl HRM.out HLN.out HWB.out ?_)
    intro vn wn hown hg
    have HB2 := Lib.hid (below_grown HBA.out HBA.out.size (Nat.le_succ _) HOA.out hg)
    have HA2 : Hid (Arr wn 42 w.heap.size [.int .i64 1, .string (bstr []), .string (bstr xn), .slice q 0 c]) := (hg.block _ HAA.out.lt (fun e => by have := (HOA.out.lt _ e.symm).1; omega)).trans HAA.out
    obtain ⟨q2, c2, rfl⟩ := own_form hown
    obtain ⟨A2, hA⟩ : ∃ x, x = A1 ++ putS (bstr xn) := ⟨_, rfl⟩
    have hAL : A1.length + (putS (bstr xn)).length = A2.length := by rw [hA, List.length_append]
    have HO2 : Hid (wn.ownsRow (w.heap.size + 1) 5 1 (.slice q2 A2.length c2) A2.length (bvs A2)) := by show World.ownsRow _ _ _ _ _ _ _; rw [hA]; simpa using hown
    rw [hAL]
    clear hAL
    have HQ2 : Hid (T = A2 ++ []) := by rw [hA, List.append_assoc]; exact HQ1.out
    clear hown hg HOA HBA HAA HRM HLN HWB hA HQ1
    generalize wn = w2 at HB2 HA2 HO2 ⊢
    go_wp2_with fail
    go_ret
    have HEND : T = A2 := by rw [HQ2.out, List.append_nil]
    rw [HEND]
    exact ⟨_, rfl, own_le HO2.out (Nat.le_succ _), HB2.out⟩
  · have HQ0 : Hid (T = put 2 ++ (putS (bstr xv) ++ (putS (bstr xn) ++ []))) := by show _ = _; rw [HTE.out]; simp [putE, putEs]
    clear HTE
    have HB0 := Lib.hid hb0
    have HA0 : Hid (Arr (w.alloc (.cells #[.int .i64 2, .string (bstr xv), .string (bstr xn), .slice q 0 c] 42)) 42 w.heap.size [.int .i64 2, .string (bstr xv), .string (bstr xn), .slice q 0 c]) := Arr.new' _ _ _ _ rfl
    go_enter Tryz.func19, Tryz.ntmps19
    go_upto_region 1 with (fail)
    have HWS : Hid ((w.alloc (.cells #[.int .i64 2, .string (bstr xv), .string (bstr xn), .slice q 0 c] 42)).heap.size = w.heap.size + 1) := World.size_alloc _ _
    generalize w.alloc (.cells #[.int .i64 2, .string (bstr xv), .string (bstr xn), .slice q 0 c] 42) = w0 at HB0 HA0 HWS ⊢
    have x0 := HA0.out.cell 0
    have y0 := HA0.out.free 0
    have x1 := HA0.out.cell 1
    have y1 := HA0.out.free 1
    have x2 := HA0.out.cell 2
    have y2 := HA0.out.free 2
    have x3 := HA0.out.cell 3
    have y3 := HA0.out.free 3
    simp only [List.getElem?_cons_zero, List.getElem?_cons_succ] at x0 x1 x2 x3
    go_upto_region 2 with (fail)
    have hb1 : Below w0.heap.size w0 (w0.alloc (.cells #[.int .u8 2] 5)) := (Below.refl _ _).alloc (Nat.le_refl _) _
    have HB1 := Lib.hid (HB0.out.trans (hb1.mono HB0.out.size))
    have HA1 := Lib.hid (HA0.out.later hb1)
    have HO1' : Hid ((w0.alloc (.cells #[.int .u8 2] 5)).ownsRow (w.heap.size + 1) 5 1 (.slice (some ⟨w0.heap.size, 0, none⟩) 1 1) (put 2).length (bvs (put 2))) := own_byte (by have := HWS.out; omega) (by decide)
    obtain ⟨A1, hA⟩ : ∃ x, x = put 2 := ⟨_, rfl⟩
    have hA1 : 1 = A1.length := by rw [hA, put_lt (by decide)]; rfl
    rw [← hA] at HO1' HQ0
    have HQ1 := HQ0
    obtain ⟨c1, hc1⟩ : ∃ c, c = 1 := ⟨_, rfl⟩
    obtain ⟨q1, hq1⟩ : ∃ q, q = some (Addr.mk w0.heap.size 0 none) := ⟨_, rfl⟩
    have hV : (Value.slice (some (Addr.mk w0.heap.size 0 none)) 1 1) = .slice q1 A1.length c1 := by rw [hq1, hc1, ← hA1]
    rw [hV] at HO1' ⊢
    have HO1 := HO1'
    generalize (w0.alloc (.cells #[.int .u8 2] 5)) = w1 at HB1 HA1 HO1 ⊢
    clear hb1 HB0 HA0 HWS HQ0 hA hA1 hc1 hq1 hV HO1' x0 x1 x2 x3 y0 y1 y2 y3
    have x0 := HA1.out.cell 0
    have y0 := HA1.out.free 0
    have x1 := HA1.out.cell 1
    have y1 := HA1.out.free 1
    have x2 := HA1.out.cell 2
    have y2 := HA1.out.free 2
    have x3 := HA1.out.cell 3
    have y3 := HA1.out.free 3
    simp only [List.getElem?_cons_zero, List.getElem?_cons_succ] at x0 x1 x2 x3
    go_wp2_with fail
    refine (rputS_text xv (by have := HLV.out; omega) _).mono ?_
    rintro e wa ⟨vm, rfl, om, bm⟩
    have HOA := Lib.hid (own_below HO1.out bm)
    have HBA := Lib.hid (HB1.out.trans (bm.mono HB1.out.size))
    have HAA := Lib.hid (HA1.out.later bm)
    have HRM := Lib.hid (Rd.of_own om)
    obtain ⟨qm, cm, rfl⟩ := own_form om
    have HLN := Lib.hid (len_of HQ1.out HT.out)
    have HWB : Hid (w.heap.size + 1 ≤ wa.heap.size) := HAA.out.lt
    clear om bm HO1 HB1 HA1 x0 x1 x2 x3 y0 y1 y2 y3
    go_wp2_with (at_builtin; refine app_bytes rfl _ _ rfl rfl HOA.out rfl HRM.out HLN.out HWB.out ?_)
    intro vn wn hown hg
    have HB2 := Lib.hid (below_grown HBA.out HBA.out.size (Nat.le_succ _) HOA.out hg)
    have HA2 : Hid (Arr wn 42 w.heap.size [.int .i64 2, .string (bstr xv), .string (bstr xn), .slice q 0 c]) := (hg.block _ HAA.out.lt (fun e => by have := (HOA.out.lt _ e.symm).1; omega)).trans HAA.out
    obtain ⟨q2, c2, rfl⟩ := own_form hown
    obtain ⟨A2, hA⟩ : ∃ x, x = A1 ++ putS (bstr xv) := ⟨_, rfl⟩
    have hAL : A1.length + (putS (bstr xv)).length = A2.length := by rw [hA, List.length_append]
    have HO2 : Hid (wn.ownsRow (w.heap.size + 1) 5 1 (.slice q2 A2.length c2) A2.length (bvs A2)) := by show World.ownsRow _ _ _ _ _ _ _; rw [hA]; simpa using hown
    rw [hAL]
    clear hAL
    have HQ2 : Hid (T = A2 ++ (putS (bstr xn) ++ [])) := by rw [hA, List.append_assoc]; exact HQ1.out
    clear hown hg HOA HBA HAA HRM HLN HWB hA HQ1
    generalize wn = w2 at HB2 HA2 HO2 ⊢
    have x0 := HA2.out.cell 0
    have y0 := HA2.out.free 0
    have x1 := HA2.out.cell 1
    have y1 := HA2.out.free 1
    have x2 := HA2.out.cell 2
    have y2 := HA2.out.free 2
    have x3 := HA2.out.cell 3
    have y3 := HA2.out.free 3
    simp only [List.getElem?_cons_zero, List.getElem?_cons_succ] at x0 x1 x2 x3
    go_wp2_with fail
    refine (rputS_text xn (by have := HLX.out; omega) _).mono ?_
    rintro e wa ⟨vm, rfl, om, bm⟩
    have HOA := Lib.hid (own_below HO2.out bm)
    have HBA := Lib.hid (HB2.out.trans (bm.mono HB2.out.size))
    have HAA := Lib.hid (HA2.out.later bm)
    have HRM := Lib.hid (Rd.of_own om)
    obtain ⟨qm, cm, rfl⟩ := own_form om
    have HLN := Lib.hid (len_of HQ2.out HT.out)
    have HWB : Hid (w.heap.size + 1 ≤ wa.heap.size) := HAA.out.lt
    clear om bm HO2 HB2 HA2 x0 x1 x2 x3 y0 y1 y2 y3
    go_wp2_with (at_builtin; refine app_bytes rfl _ _ rfl rfl HOA.out rfl HRM.out HLN.out HWB.out ?_)
    intro vn wn hown hg
    have HB3 := Lib.hid (below_grown HBA.out HBA.out.size (Nat.le_succ _) HOA.out hg)
    have HA3 : Hid (Arr wn 42 w.heap.size [.int .i64 2, .string (bstr xv), .string (bstr xn), .slice q 0 c]) := (hg.block _ HAA.out.lt (fun e => by have := (HOA.out.lt _ e.symm).1; omega)).trans HAA.out
    obtain ⟨q3, c3, rfl⟩ := own_form hown
    obtain ⟨A3, hA⟩ : ∃ x, x = A2 ++ putS (bstr xn) := ⟨_, rfl⟩
    have hAL : A2.length + (putS (bstr xn)).length = A3.length := by rw [hA, List.length_append]
    have HO3 : Hid (wn.ownsRow (w.heap.size + 1) 5 1 (.slice q3 A3.length c3) A3.length (bvs A3)) := by show World.ownsRow _ _ _ _ _ _ _; rw [hA]; simpa using hown
    rw [hAL]
    clear hAL
    have HQ3 : Hid (T = A3 ++ []) := by rw [hA, List.append_assoc]; exact HQ2.out
    clear hown hg HOA HBA HAA HRM HLN HWB hA HQ2
    generalize wn = w3 at HB3 HA3 HO3 ⊢
    go_wp2_with fail
    go_ret
    have HEND : T = A3 := by rw [HQ3.out, List.append_nil]
    rw [HEND]
    exact ⟨_, rfl, own_le HO3.out (Nat.le_succ _), HB3.out⟩
  · have HQ0 : Hid (T = put 3 ++ (put ks.length ++ putEs ks)) := by show _ = _; rw [HTE.out]; simp [putE, putEs]
    clear HTE
    have HB0 := Lib.hid hb0
    have HA0 : Hid (Arr (w.alloc (.cells #[.int .i64 3, .string (bstr []), .string (bstr []), .slice q ks.length c] 42)) 42 w.heap.size [.int .i64 3, .string (bstr []), .string (bstr []), .slice q ks.length c]) := Arr.new' _ _ _ _ rfl
    go_enter Tryz.func19, Tryz.ntmps19
    go_upto_region 1 with (fail)
    have HWS : Hid ((w.alloc (.cells #[.int .i64 3, .string (bstr []), .string (bstr []), .slice q ks.length c] 42)).heap.size = w.heap.size + 1) := World.size_alloc _ _
    generalize w.alloc (.cells #[.int .i64 3, .string (bstr []), .string (bstr []), .slice q ks.length c] 42) = w0 at HB0 HA0 HWS ⊢
    have x0 := HA0.out.cell 0
    have y0 := HA0.out.free 0
    have x1 := HA0.out.cell 1
    have y1 := HA0.out.free 1
    have x2 := HA0.out.cell 2
    have y2 := HA0.out.free 2
    have x3 := HA0.out.cell 3
    have y3 := HA0.out.free 3
    simp only [List.getElem?_cons_zero, List.getElem?_cons_succ] at x0 x1 x2 x3
    go_upto_region 2 with (fail)
    have hb1 : Below w0.heap.size w0 (w0.alloc (.cells #[.int .u8 3] 5)) := (Below.refl _ _).alloc (Nat.le_refl _) _
    have HB1 := Lib.hid (HB0.out.trans (hb1.mono HB0.out.size))
    have HA1 := Lib.hid (HA0.out.later hb1)
    have HO1' : Hid ((w0.alloc (.cells #[.int .u8 3] 5)).ownsRow (w.heap.size + 1) 5 1 (.slice (some ⟨w0.heap.size, 0, none⟩) 1 1) (put 3).length (bvs (put 3))) := own_byte (by have := HWS.out; omega) (by decide)
    obtain ⟨A1, hA⟩ : ∃ x, x = put 3 := ⟨_, rfl⟩
    have hA1 : 1 = A1.length := by rw [hA, put_lt (by decide)]; rfl
    rw [← hA] at HO1' HQ0
    have HQ1 := HQ0
    obtain ⟨c1, hc1⟩ : ∃ c, c = 1 := ⟨_, rfl⟩
    obtain ⟨q1, hq1⟩ : ∃ q, q = some (Addr.mk w0.heap.size 0 none) := ⟨_, rfl⟩
    have hV : (Value.slice (some (Addr.mk w0.heap.size 0 none)) 1 1) = .slice q1 A1.length c1 := by rw [hq1, hc1, ← hA1]
    rw [hV] at HO1' ⊢
    have HO1 := HO1'
    generalize (w0.alloc (.cells #[.int .u8 3] 5)) = w1 at HB1 HA1 HO1 ⊢
    clear hb1 HB0 HA0 HWS HQ0 hA hA1 hc1 hq1 hV HO1' x0 x1 x2 x3 y0 y1 y2 y3
    have x0 := HA1.out.cell 0
    have y0 := HA1.out.free 0
    have x1 := HA1.out.cell 1
    have y1 := HA1.out.free 1
    have x2 := HA1.out.cell 2
    have y2 := HA1.out.free 2
    have x3 := HA1.out.cell 3
    have y3 := HA1.out.free 3
    simp only [List.getElem?_cons_zero, List.getElem?_cons_succ] at x0 x1 x2 x3
    have hcv := convB ks.length (by have := HKL.out; omega)
    have HRB : Hid (Rd (w1.heap.size + 1) (w1.alloc (.cells #[.int .u8 (ks.length : Nat)] 5)) (.slice (some ⟨w1.heap.size, 0, none⟩) 1 1) (put ks.length)) := by
      have hn : ks.length < 128 := by have := HKL.out; omega
      rw [put_lt hn]
      exact rd_lit w1 [UInt8.ofNat ks.length] _ (by show _ = [bv _]; rw [low _ hn]) 1 rfl (by show 1 ≤ maxLen; unfold maxLen; omega)
    have hbb : Below w1.heap.size w1 (w1.alloc (.cells #[.int .u8 (ks.length : Nat)] 5)) := (Below.refl _ _).alloc (Nat.le_refl _) _
    have HOA := Lib.hid (own_below HO1.out hbb)
    have HBA := Lib.hid (HB1.out.trans (hbb.mono HB1.out.size))
    have HAA := Lib.hid (HA1.out.later hbb)
    have HLN := Lib.hid (len_of HQ1.out HT.out)
    have HWB : Hid (w.heap.size + 1 ≤ (w1.alloc (.cells #[.int .u8 (ks.length : Nat)] 5)).heap.size) := HAA.out.lt
    clear hbb HO1 HB1 HA1
    go_wp2_with (at_builtin; refine app_bytes (m := put ks.length) rfl _ _ rfl rfl HOA.out rfl HRB.out HLN.out HWB.out ?_)
    intro vn wn hown hg
    have HB2 := Lib.hid (below_grown HBA.out HBA.out.size (Nat.le_succ _) HOA.out hg)
    have HA2 : Hid (Arr wn 42 w.heap.size [.int .i64 3, .string (bstr []), .string (bstr []), .slice q ks.length c]) := (hg.block _ HAA.out.lt (fun e => by have := (HOA.out.lt _ e.symm).1; omega)).trans HAA.out
    obtain ⟨q2, c2, rfl⟩ := own_form hown
    obtain ⟨A2, hA⟩ : ∃ x, x = A1 ++ put ks.length := ⟨_, rfl⟩
    have hAL : A1.length + (put ks.length).length = A2.length := by rw [hA, List.length_append]
    have HO2 : Hid (wn.ownsRow (w.heap.size + 1) 5 1 (.slice q2 A2.length c2) A2.length (bvs A2)) := by show World.ownsRow _ _ _ _ _ _ _; rw [hA]; simpa using hown
    rw [hAL]
    have HQ2 : Hid (T = A2 ++ putEs ks) := by rw [hA, List.append_assoc]; exact HQ1.out
    clear hAL hown hg HOA HBA HAA HRB HLN HWB hA HQ1 hcv x0 x1 x2 x3 y0 y1 y2 y3
    generalize wn = w2 at HB2 HA2 HO2 ⊢
    have x0 := HA2.out.cell 0
    have y0 := HA2.out.free 0
    have x1 := HA2.out.cell 1
    have y1 := HA2.out.free 1
    have x2 := HA2.out.cell 2
    have y2 := HA2.out.free 2
    have x3 := HA2.out.cell 3
    have y3 := HA2.out.free 3
    simp only [List.getElem?_cons_zero, List.getElem?_cons_succ] at x0 x1 x2 x3
    go_wp2_with fail
    clear x0 x1 x2 x3 y0 y1 y2 y3
    go_loopw [3, 4] (fun bv iv wr => ∃ (i : Nat) (A : List UInt8) (qa : Option Addr) (ca : Nat), i ≤ ks.length ∧ iv = .int .i64 (i : Nat) ∧ bv = .slice qa A.length ca ∧ Hid (wr.ownsRow (w.heap.size + 1) 5 1 (.slice qa A.length ca) A.length (bvs A)) ∧ Hid (Below w.heap.size w wr) ∧ Hid (Arr wr 42 w.heap.size [.int .i64 3, .string (bstr []), .string (bstr []), .slice q ks.length c]) ∧ Hid (T = A ++ putEs (ks.drop i))) (fun _ iv _ => ks.length - (intOf iv).toNat)
    case atStart => exact ⟨0, A2, q2, c2, Nat.zero_le _, rfl, rfl, HO2.out, HB2.out, HA2.out, HQ2.out⟩
    case round =>
      obtain ⟨i, A, qa, ca, hi, rfl, rfl, HO, HB, HA, HQ⟩ := hrel
      have x0 := HA.out.cell 0
      have x3 := HA.out.cell 3
      simp only [List.getElem?_cons_zero, List.getElem?_cons_succ] at x0 x3
      have hi00 : (0 : Int) ≤ i := by omega
      by_cases hlt : i < ks.length
      · have hlt' : (i : Int) < ks.length := by omega
        have hi0 : (0 : Int) ≤ i := by omega
        have hw : wrap64 ((i : Int) + 1) = (i : Int) + 1 := by unfold wrap64; have := HKL.out; omega
        obtain ⟨ba, oa, rfl, hba, hl⟩ := HK.out (by omega)
        obtain ⟨x, hx⟩ : ∃ x, x = ks.getD i ex0 := ⟨_, rfl⟩
        obtain ⟨q2, c2, x0, x1, x2, x3, hr⟩ := hl.at hlt
        have hxs := sizeL_get ks i hlt
        have hxd := depthL_get ks i hlt
        rw [← hx] at x0 x1 x2 x3 hr hxs hxd
        have HX := Lib.hid hx
        obtain ⟨xk, xv2, xn2, xs⟩ := x
        have cc : ∀ n, wr.cell? ⟨ba, n, none⟩ = w.cell? ⟨ba, n, none⟩ := fun n => (HB.out).cell (p := ⟨ba, n, none⟩) (hP _ hba)
        have X0 : wr.cell? ⟨ba, oa + i * 4, none⟩ = some (.int .i64 xk) := (cc _).trans x0
        have X1 : wr.cell? ⟨ba, oa + i * 4 + 1, none⟩ = some (.string (bstr xv2)) := (cc _).trans x1
        have X2 : wr.cell? ⟨ba, oa + i * 4 + 2, none⟩ = some (.string (bstr xn2)) := (cc _).trans x2
        have X3 : wr.cell? ⟨ba, oa + i * 4 + 3, none⟩ = some (.slice q2 xs.length c2) := (cc _).trans x3
        clear x0 x1 x2 x3 cc hx
        have HR : Hid (RdE P wr (.mk xk xv2 xn2 xs) (.agg #[.int .i64 xk, .string (bstr xv2), .string (bstr xn2), .slice q2 xs.length c2])) := hr.below (HB.out) hP
        have HOK : Hid (okE 64 (.mk xk xv2 xn2 xs) ∧ formE (.mk xk xv2 xn2 xs) = true ∧ sizeE (.mk xk xv2 xn2 xs) ≤ m) := by
          rw [HX.out]
          refine ⟨okL_get HOKL.out hlt, formL_mem HFL.out _ ?_, ?_⟩
          · rw [List.getD_eq_getElem?_getD, List.getElem?_eq_getElem hlt]; exact List.getElem_mem hlt
          · rw [← HX.out]; have := HSZ.out; omega
        have HQ2 : Hid (T = A ++ (putE (.mk xk xv2 xn2 xs) ++ putEs (ks.drop (i + 1)))) := by
          show _ = _
          rw [HQ.out, List.drop_eq_getElem_cons hlt, putEs, HX.out, List.getD_eq_getElem?_getD, List.getElem?_eq_getElem hlt]; rfl
        have HIH := Lib.hid (IH.out (.mk xk xv2 xn2 xs) _ P _ HOK.out.2.2 HOK.out.1 HOK.out.2.1 HR.out (fun b hb => Nat.lt_of_lt_of_le (hP b hb) HB.out.size))
        have HOB := HO
        have HBB := HB
        have HAB := HA
        have HLN := Lib.hid (len_of HQ2.out HT.out)
        have HLT : Hid (i < ks.length) := hlt
        clear HO HB HA HQ HR HOK hr hxs hxd HX hlt
        go_wp2_with fail
        refine HIH.out.mono ?_
        rintro e wa ⟨vm, rfl, om, bm⟩
        have HOA := Lib.hid (own_below HOB.out bm)
        have HBA := Lib.hid (HBB.out.trans (bm.mono HBB.out.size))
        have HAA := Lib.hid (HAB.out.later bm)
        have HRM := Lib.hid (Rd.of_own om)
        obtain ⟨qm, cm, rfl⟩ := own_form om
        have HWB : Hid (w.heap.size + 1 ≤ wa.heap.size) := HAA.out.lt
        clear om bm HOB HBB HAB HIH X0 X1 X2 X3 x0 x3
        go_wp2_with (at_builtin; refine app_bytes rfl _ _ rfl rfl HOA.out rfl HRM.out HLN.out HWB.out ?_)
        intro vn wn hown hg
        have HB2 := Lib.hid (below_grown HBA.out HBA.out.size (Nat.le_succ _) HOA.out hg)
        have HA2 : Hid (Arr wn 42 w.heap.size [.int .i64 3, .string (bstr []), .string (bstr []), .slice (some ⟨ba, oa, none⟩) ks.length c]) := (hg.block _ HAA.out.lt (fun e => by have := (HOA.out.lt _ e.symm).1; omega)).trans HAA.out
        obtain ⟨q2, c2, rfl⟩ := own_form hown
        obtain ⟨A2, hA⟩ : ∃ x, x = A ++ putE (.mk xk xv2 xn2 xs) := ⟨_, rfl⟩
        have hAL : A.length + (putE (.mk xk xv2 xn2 xs)).length = A2.length := by rw [hA, List.length_append]
        have HO2 : Hid (wn.ownsRow (w.heap.size + 1) 5 1 (.slice q2 A2.length c2) A2.length (bvs A2)) := by show World.ownsRow _ _ _ _ _ _ _; rw [hA]; simpa using hown
        rw [hAL]
        clear hAL
        have HQ3 : Hid (T = A2 ++ putEs (ks.drop (i + 1))) := by rw [hA, List.append_assoc]; exact HQ2.out
        clear hown hg HOA HBA HAA HRM HLN HWB hA HQ2
        go_wp2_with fail
        go_roundw
        case rel => exact ⟨i + 1, A2, q2, c2, HLT.out, by go_num, rfl, HO2.out, HB2.out, HA2.out, HQ3.out⟩
        case measure => first | exact meas HLT.out (Nat.le_trans HKL.out (by decide)) | exact meas' HLT.out
      · have hlt' : ¬ (i : Int) < ks.length := by omega
        have hd : ks.drop i = [] := List.drop_eq_nil_of_le (by omega)
        rw [hd] at HQ
        have HQ9 : Hid (T = A ++ []) := HQ.out
        have HO9 := HO
        have HB9 := HB
        obtain ⟨A9, hA9⟩ : ∃ x, x = A := ⟨_, rfl⟩
        rw [← hA9] at HO9 HQ9
        subst hA9
        go_wp2_with fail
        go_ret
        have HEND : T = A9 := by rw [HQ9.out, List.append_nil]
        rw [HEND]
        exact ⟨_, rfl, own_le HO9.out (Nat.le_succ _), HB9.out⟩
  · have HQ0 : Hid (T = put 4 ++ (put ks.length ++ putEs ks)) := by show _ = _; rw [HTE.out]; simp [putE, putEs]
    clear HTE
    have HB0 := Lib.hid hb0
    have HA0 : Hid (Arr (w.alloc (.cells #[.int .i64 4, .string (bstr []), .string (bstr []), .slice q ks.length c] 42)) 42 w.heap.size [.int .i64 4, .string (bstr []), .string (bstr []), .slice q ks.length c]) := Arr.new' _ _ _ _ rfl
    go_enter Tryz.func19, Tryz.ntmps19
    go_upto_region 1 with (fail)
    have HWS : Hid ((w.alloc (.cells #[.int .i64 4, .string (bstr []), .string (bstr []), .slice q ks.length c] 42)).heap.size = w.heap.size + 1) := World.size_alloc _ _
    generalize w.alloc (.cells #[.int .i64 4, .string (bstr []), .string (bstr []), .slice q ks.length c] 42) = w0 at HB0 HA0 HWS ⊢
    have x0 := HA0.out.cell 0
    have y0 := HA0.out.free 0
    have x1 := HA0.out.cell 1
    have y1 := HA0.out.free 1
    have x2 := HA0.out.cell 2
    have y2 := HA0.out.free 2
    have x3 := HA0.out.cell 3
    have y3 := HA0.out.free 3
    simp only [List.getElem?_cons_zero, List.getElem?_cons_succ] at x0 x1 x2 x3
    go_upto_region 2 with (fail)
    have hb1 : Below w0.heap.size w0 (w0.alloc (.cells #[.int .u8 4] 5)) := (Below.refl _ _).alloc (Nat.le_refl _) _
    have HB1 := Lib.hid (HB0.out.trans (hb1.mono HB0.out.size))
    have HA1 := Lib.hid (HA0.out.later hb1)
    have HO1' : Hid ((w0.alloc (.cells #[.int .u8 4] 5)).ownsRow (w.heap.size + 1) 5 1 (.slice (some ⟨w0.heap.size, 0, none⟩) 1 1) (put 4).length (bvs (put 4))) := own_byte (by have := HWS.out; omega) (by decide)
    obtain ⟨A1, hA⟩ : ∃ x, x = put 4 := ⟨_, rfl⟩
    have hA1 : 1 = A1.length := by rw [hA, put_lt (by decide)]; rfl
    rw [← hA] at HO1' HQ0
    have HQ1 := HQ0
    obtain ⟨c1, hc1⟩ : ∃ c, c = 1 := ⟨_, rfl⟩
    obtain ⟨q1, hq1⟩ : ∃ q, q = some (Addr.mk w0.heap.size 0 none) := ⟨_, rfl⟩
    have hV : (Value.slice (some (Addr.mk w0.heap.size 0 none)) 1 1) = .slice q1 A1.length c1 := by rw [hq1, hc1, ← hA1]
    rw [hV] at HO1' ⊢
    have HO1 := HO1'
    generalize (w0.alloc (.cells #[.int .u8 4] 5)) = w1 at HB1 HA1 HO1 ⊢
    clear hb1 HB0 HA0 HWS HQ0 hA hA1 hc1 hq1 hV HO1' x0 x1 x2 x3 y0 y1 y2 y3
    have x0 := HA1.out.cell 0
    have y0 := HA1.out.free 0
    have x1 := HA1.out.cell 1
    have y1 := HA1.out.free 1
    have x2 := HA1.out.cell 2
    have y2 := HA1.out.free 2
    have x3 := HA1.out.cell 3
    have y3 := HA1.out.free 3
    simp only [List.getElem?_cons_zero, List.getElem?_cons_succ] at x0 x1 x2 x3
    have hcv := convB ks.length (by have := HKL.out; omega)
    have HRB : Hid (Rd (w1.heap.size + 1) (w1.alloc (.cells #[.int .u8 (ks.length : Nat)] 5)) (.slice (some ⟨w1.heap.size, 0, none⟩) 1 1) (put ks.length)) := by
      have hn : ks.length < 128 := by have := HKL.out; omega
      rw [put_lt hn]
      exact rd_lit w1 [UInt8.ofNat ks.length] _ (by show _ = [bv _]; rw [low _ hn]) 1 rfl (by show 1 ≤ maxLen; unfold maxLen; omega)
    have hbb : Below w1.heap.size w1 (w1.alloc (.cells #[.int .u8 (ks.length : Nat)] 5)) := (Below.refl _ _).alloc (Nat.le_refl _) _
    have HOA := Lib.hid (own_below HO1.out hbb)
    have HBA := Lib.hid (HB1.out.trans (hbb.mono HB1.out.size))
    have HAA := Lib.hid (HA1.out.later hbb)
    have HLN := Lib.hid (len_of HQ1.out HT.out)
    have HWB : Hid (w.heap.size + 1 ≤ (w1.alloc (.cells #[.int .u8 (ks.length : Nat)] 5)).heap.size) := HAA.out.lt
    clear hbb HO1 HB1 HA1
    go_wp2_with (at_builtin; refine app_bytes (m := put ks.length) rfl _ _ rfl rfl HOA.out rfl HRB.out HLN.out HWB.out ?_)
    intro vn wn hown hg
    have HB2 := Lib.hid (below_grown HBA.out HBA.out.size (Nat.le_succ _) HOA.out hg)
    have HA2 : Hid (Arr wn 42 w.heap.size [.int .i64 4, .string (bstr []), .string (bstr []), .slice q ks.length c]) := (hg.block _ HAA.out.lt (fun e => by have := (HOA.out.lt _ e.symm).1; omega)).trans HAA.out
    obtain ⟨q2, c2, rfl⟩ := own_form hown
    obtain ⟨A2, hA⟩ : ∃ x, x = A1 ++ put ks.length := ⟨_, rfl⟩
    have hAL : A1.length + (put ks.length).length = A2.length := by rw [hA, List.length_append]
    have HO2 : Hid (wn.ownsRow (w.heap.size + 1) 5 1 (.slice q2 A2.length c2) A2.length (bvs A2)) := by show World.ownsRow _ _ _ _ _ _ _; rw [hA]; simpa using hown
    rw [hAL]
    have HQ2 : Hid (T = A2 ++ putEs ks) := by rw [hA, List.append_assoc]; exact HQ1.out
    clear hAL hown hg HOA HBA HAA HRB HLN HWB hA HQ1 hcv x0 x1 x2 x3 y0 y1 y2 y3
    generalize wn = w2 at HB2 HA2 HO2 ⊢
    have x0 := HA2.out.cell 0
    have y0 := HA2.out.free 0
    have x1 := HA2.out.cell 1
    have y1 := HA2.out.free 1
    have x2 := HA2.out.cell 2
    have y2 := HA2.out.free 2
    have x3 := HA2.out.cell 3
    have y3 := HA2.out.free 3
    simp only [List.getElem?_cons_zero, List.getElem?_cons_succ] at x0 x1 x2 x3
    go_wp2_with fail
    clear x0 x1 x2 x3 y0 y1 y2 y3
    go_loopw [3, 4] (fun bv iv wr => ∃ (i : Nat) (A : List UInt8) (qa : Option Addr) (ca : Nat), i ≤ ks.length ∧ iv = .int .i64 (i : Nat) ∧ bv = .slice qa A.length ca ∧ Hid (wr.ownsRow (w.heap.size + 1) 5 1 (.slice qa A.length ca) A.length (bvs A)) ∧ Hid (Below w.heap.size w wr) ∧ Hid (Arr wr 42 w.heap.size [.int .i64 4, .string (bstr []), .string (bstr []), .slice q ks.length c]) ∧ Hid (T = A ++ putEs (ks.drop i))) (fun _ iv _ => ks.length - (intOf iv).toNat)
    case atStart => exact ⟨0, A2, q2, c2, Nat.zero_le _, rfl, rfl, HO2.out, HB2.out, HA2.out, HQ2.out⟩
    case round =>
      obtain ⟨i, A, qa, ca, hi, rfl, rfl, HO, HB, HA, HQ⟩ := hrel
      have x0 := HA.out.cell 0
      have x3 := HA.out.cell 3
      simp only [List.getElem?_cons_zero, List.getElem?_cons_succ] at x0 x3
      have hi00 : (0 : Int) ≤ i := by omega
      by_cases hlt : i < ks.length
      · have hlt' : (i : Int) < ks.length := by omega
        have hi0 : (0 : Int) ≤ i := by omega
        have hw : wrap64 ((i : Int) + 1) = (i : Int) + 1 := by unfold wrap64; have := HKL.out; omega
        obtain ⟨ba, oa, rfl, hba, hl⟩ := HK.out (by omega)
        obtain ⟨x, hx⟩ : ∃ x, x = ks.getD i ex0 := ⟨_, rfl⟩
        obtain ⟨q2, c2, x0, x1, x2, x3, hr⟩ := hl.at hlt
        have hxs := sizeL_get ks i hlt
        have hxd := depthL_get ks i hlt
        rw [← hx] at x0 x1 x2 x3 hr hxs hxd
        have HX := Lib.hid hx
        obtain ⟨xk, xv2, xn2, xs⟩ := x
        have cc : ∀ n, wr.cell? ⟨ba, n, none⟩ = w.cell? ⟨ba, n, none⟩ := fun n => (HB.out).cell (p := ⟨ba, n, none⟩) (hP _ hba)
        have X0 : wr.cell? ⟨ba, oa + i * 4, none⟩ = some (.int .i64 xk) := (cc _).trans x0
        have X1 : wr.cell? ⟨ba, oa + i * 4 + 1, none⟩ = some (.string (bstr xv2)) := (cc _).trans x1
        have X2 : wr.cell? ⟨ba, oa + i * 4 + 2, none⟩ = some (.string (bstr xn2)) := (cc _).trans x2
        have X3 : wr.cell? ⟨ba, oa + i * 4 + 3, none⟩ = some (.slice q2 xs.length c2) := (cc _).trans x3
        clear x0 x1 x2 x3 cc hx
        have HR : Hid (RdE P wr (.mk xk xv2 xn2 xs) (.agg #[.int .i64 xk, .string (bstr xv2), .string (bstr xn2), .slice q2 xs.length c2])) := hr.below (HB.out) hP
        have HOK : Hid (okE 64 (.mk xk xv2 xn2 xs) ∧ formE (.mk xk xv2 xn2 xs) = true ∧ sizeE (.mk xk xv2 xn2 xs) ≤ m) := by
          rw [HX.out]
          refine ⟨okL_get HOKL.out hlt, formL_mem HFL.out _ ?_, ?_⟩
          · rw [List.getD_eq_getElem?_getD, List.getElem?_eq_getElem hlt]; exact List.getElem_mem hlt
          · rw [← HX.out]; have := HSZ.out; omega
        have HQ2 : Hid (T = A ++ (putE (.mk xk xv2 xn2 xs) ++ putEs (ks.drop (i + 1)))) := by
          show _ = _
          rw [HQ.out, List.drop_eq_getElem_cons hlt, putEs, HX.out, List.getD_eq_getElem?_getD, List.getElem?_eq_getElem hlt]; rfl
        have HIH := Lib.hid (IH.out (.mk xk xv2 xn2 xs) _ P _ HOK.out.2.2 HOK.out.1 HOK.out.2.1 HR.out (fun b hb => Nat.lt_of_lt_of_le (hP b hb) HB.out.size))
        have HOB := HO
        have HBB := HB
        have HAB := HA
        have HLN := Lib.hid (len_of HQ2.out HT.out)
        have HLT : Hid (i < ks.length) := hlt
        clear HO HB HA HQ HR HOK hr hxs hxd HX hlt
        go_wp2_with fail
        refine HIH.out.mono ?_
        rintro e wa ⟨vm, rfl, om, bm⟩
        have HOA := Lib.hid (own_below HOB.out bm)
        have HBA := Lib.hid (HBB.out.trans (bm.mono HBB.out.size))
        have HAA := Lib.hid (HAB.out.later bm)
        have HRM := Lib.hid (Rd.of_own om)
        obtain ⟨qm, cm, rfl⟩ := own_form om
        have HWB : Hid (w.heap.size + 1 ≤ wa.heap.size) := HAA.out.lt
        clear om bm HOB HBB HAB HIH X0 X1 X2 X3 x0 x3
        go_wp2_with (at_builtin; refine app_bytes rfl _ _ rfl rfl HOA.out rfl HRM.out HLN.out HWB.out ?_)
        intro vn wn hown hg
        have HB2 := Lib.hid (below_grown HBA.out HBA.out.size (Nat.le_succ _) HOA.out hg)
        have HA2 : Hid (Arr wn 42 w.heap.size [.int .i64 4, .string (bstr []), .string (bstr []), .slice (some ⟨ba, oa, none⟩) ks.length c]) := (hg.block _ HAA.out.lt (fun e => by have := (HOA.out.lt _ e.symm).1; omega)).trans HAA.out
        obtain ⟨q2, c2, rfl⟩ := own_form hown
        obtain ⟨A2, hA⟩ : ∃ x, x = A ++ putE (.mk xk xv2 xn2 xs) := ⟨_, rfl⟩
        have hAL : A.length + (putE (.mk xk xv2 xn2 xs)).length = A2.length := by rw [hA, List.length_append]
        have HO2 : Hid (wn.ownsRow (w.heap.size + 1) 5 1 (.slice q2 A2.length c2) A2.length (bvs A2)) := by show World.ownsRow _ _ _ _ _ _ _; rw [hA]; simpa using hown
        rw [hAL]
        clear hAL
        have HQ3 : Hid (T = A2 ++ putEs (ks.drop (i + 1))) := by rw [hA, List.append_assoc]; exact HQ2.out
        clear hown hg HOA HBA HAA HRM HLN HWB hA HQ2
        go_wp2_with fail
        go_roundw
        case rel => exact ⟨i + 1, A2, q2, c2, HLT.out, by go_num, rfl, HO2.out, HB2.out, HA2.out, HQ3.out⟩
        case measure => first | exact meas HLT.out (Nat.le_trans HKL.out (by decide)) | exact meas' HLT.out
      · have hlt' : ¬ (i : Int) < ks.length := by omega
        have hd : ks.drop i = [] := List.drop_eq_nil_of_le (by omega)
        rw [hd] at HQ
        have HQ9 : Hid (T = A ++ []) := HQ.out
        have HO9 := HO
        have HB9 := HB
        obtain ⟨A9, hA9⟩ : ∃ x, x = A := ⟨_, rfl⟩
        rw [← hA9] at HO9 HQ9
        subst hA9
        go_wp2_with fail
        go_ret
        have HEND : T = A9 := by rw [HQ9.out, List.append_nil]
        rw [HEND]
        exact ⟨_, rfl, own_le HO9.out (Nat.le_succ _), HB9.out⟩
  · have HQ0 : Hid (T = put 5 ++ (putEs ks)) := by show _ = _; rw [HTE.out]; simp [putE, putEs]
    clear HTE
    have HB0 := Lib.hid hb0
    have HA0 : Hid (Arr (w.alloc (.cells #[.int .i64 5, .string (bstr []), .string (bstr []), .slice q ks.length c] 42)) 42 w.heap.size [.int .i64 5, .string (bstr []), .string (bstr []), .slice q ks.length c]) := Arr.new' _ _ _ _ rfl
    go_enter Tryz.func19, Tryz.ntmps19
    go_upto_region 1 with (fail)
    have HWS : Hid ((w.alloc (.cells #[.int .i64 5, .string (bstr []), .string (bstr []), .slice q ks.length c] 42)).heap.size = w.heap.size + 1) := World.size_alloc _ _
    generalize w.alloc (.cells #[.int .i64 5, .string (bstr []), .string (bstr []), .slice q ks.length c] 42) = w0 at HB0 HA0 HWS ⊢
    have x0 := HA0.out.cell 0
    have y0 := HA0.out.free 0
    have x1 := HA0.out.cell 1
    have y1 := HA0.out.free 1
    have x2 := HA0.out.cell 2
    have y2 := HA0.out.free 2
    have x3 := HA0.out.cell 3
    have y3 := HA0.out.free 3
    simp only [List.getElem?_cons_zero, List.getElem?_cons_succ] at x0 x1 x2 x3
    go_upto_region 2 with (fail)
    have hb1 : Below w0.heap.size w0 (w0.alloc (.cells #[.int .u8 5] 5)) := (Below.refl _ _).alloc (Nat.le_refl _) _
    have HB1 := Lib.hid (HB0.out.trans (hb1.mono HB0.out.size))
    have HA1 := Lib.hid (HA0.out.later hb1)
    have HO1' : Hid ((w0.alloc (.cells #[.int .u8 5] 5)).ownsRow (w.heap.size + 1) 5 1 (.slice (some ⟨w0.heap.size, 0, none⟩) 1 1) (put 5).length (bvs (put 5))) := own_byte (by have := HWS.out; omega) (by decide)
    obtain ⟨A1, hA⟩ : ∃ x, x = put 5 := ⟨_, rfl⟩
    have hA1 : 1 = A1.length := by rw [hA, put_lt (by decide)]; rfl
    rw [← hA] at HO1' HQ0
    have HQ1 := HQ0
    obtain ⟨c1, hc1⟩ : ∃ c, c = 1 := ⟨_, rfl⟩
    obtain ⟨q1, hq1⟩ : ∃ q, q = some (Addr.mk w0.heap.size 0 none) := ⟨_, rfl⟩
    have hV : (Value.slice (some (Addr.mk w0.heap.size 0 none)) 1 1) = .slice q1 A1.length c1 := by rw [hq1, hc1, ← hA1]
    rw [hV] at HO1' ⊢
    have HO1 := HO1'
    generalize (w0.alloc (.cells #[.int .u8 5] 5)) = w1 at HB1 HA1 HO1 ⊢
    clear hb1 HB0 HA0 HWS HQ0 hA hA1 hc1 hq1 hV HO1' x0 x1 x2 x3 y0 y1 y2 y3
    have x0 := HA1.out.cell 0
    have y0 := HA1.out.free 0
    have x1 := HA1.out.cell 1
    have y1 := HA1.out.free 1
    have x2 := HA1.out.cell 2
    have y2 := HA1.out.free 2
    have x3 := HA1.out.cell 3
    have y3 := HA1.out.free 3
    simp only [List.getElem?_cons_zero, List.getElem?_cons_succ] at x0 x1 x2 x3
    go_wp2_with fail
    clear x0 x1 x2 x3 y0 y1 y2 y3
    go_loopw [3, 4] (fun bv iv wr => ∃ (i : Nat) (A : List UInt8) (qa : Option Addr) (ca : Nat), i ≤ ks.length ∧ iv = .int .i64 (i : Nat) ∧ bv = .slice qa A.length ca ∧ Hid (wr.ownsRow (w.heap.size + 1) 5 1 (.slice qa A.length ca) A.length (bvs A)) ∧ Hid (Below w.heap.size w wr) ∧ Hid (Arr wr 42 w.heap.size [.int .i64 5, .string (bstr []), .string (bstr []), .slice q ks.length c]) ∧ Hid (T = A ++ putEs (ks.drop i))) (fun _ iv _ => ks.length - (intOf iv).toNat)
    case atStart => exact ⟨0, A1, q1, c1, Nat.zero_le _, rfl, rfl, HO1.out, HB1.out, HA1.out, HQ1.out⟩
    case round =>
      obtain ⟨i, A, qa, ca, hi, rfl, rfl, HO, HB, HA, HQ⟩ := hrel
      have x0 := HA.out.cell 0
      have x3 := HA.out.cell 3
      simp only [List.getElem?_cons_zero, List.getElem?_cons_succ] at x0 x3
      have hi00 : (0 : Int) ≤ i := by omega
      by_cases hlt : i < ks.length
      · have hlt' : (i : Int) < ks.length := by omega
        have hi0 : (0 : Int) ≤ i := by omega
        have hw : wrap64 ((i : Int) + 1) = (i : Int) + 1 := by unfold wrap64; have := HKL.out; omega
        obtain ⟨ba, oa, rfl, hba, hl⟩ := HK.out (by omega)
        obtain ⟨x, hx⟩ : ∃ x, x = ks.getD i ex0 := ⟨_, rfl⟩
        obtain ⟨q2, c2, x0, x1, x2, x3, hr⟩ := hl.at hlt
        have hxs := sizeL_get ks i hlt
        have hxd := depthL_get ks i hlt
        rw [← hx] at x0 x1 x2 x3 hr hxs hxd
        have HX := Lib.hid hx
        obtain ⟨xk, xv2, xn2, xs⟩ := x
        have cc : ∀ n, wr.cell? ⟨ba, n, none⟩ = w.cell? ⟨ba, n, none⟩ := fun n => (HB.out).cell (p := ⟨ba, n, none⟩) (hP _ hba)
        have X0 : wr.cell? ⟨ba, oa + i * 4, none⟩ = some (.int .i64 xk) := (cc _).trans x0
        have X1 : wr.cell? ⟨ba, oa + i * 4 + 1, none⟩ = some (.string (bstr xv2)) := (cc _).trans x1
        have X2 : wr.cell? ⟨ba, oa + i * 4 + 2, none⟩ = some (.string (bstr xn2)) := (cc _).trans x2
        have X3 : wr.cell? ⟨ba, oa + i * 4 + 3, none⟩ = some (.slice q2 xs.length c2) := (cc _).trans x3
        clear x0 x1 x2 x3 cc hx
        have HR : Hid (RdE P wr (.mk xk xv2 xn2 xs) (.agg #[.int .i64 xk, .string (bstr xv2), .string (bstr xn2), .slice q2 xs.length c2])) := hr.below (HB.out) hP
        have HOK : Hid (okE 64 (.mk xk xv2 xn2 xs) ∧ formE (.mk xk xv2 xn2 xs) = true ∧ sizeE (.mk xk xv2 xn2 xs) ≤ m) := by
          rw [HX.out]
          refine ⟨okL_get HOKL.out hlt, formL_mem HFL.out _ ?_, ?_⟩
          · rw [List.getD_eq_getElem?_getD, List.getElem?_eq_getElem hlt]; exact List.getElem_mem hlt
          · rw [← HX.out]; have := HSZ.out; omega
        have HQ2 : Hid (T = A ++ (putE (.mk xk xv2 xn2 xs) ++ putEs (ks.drop (i + 1)))) := by
          show _ = _
          rw [HQ.out, List.drop_eq_getElem_cons hlt, putEs, HX.out, List.getD_eq_getElem?_getD, List.getElem?_eq_getElem hlt]; rfl
        have HIH := Lib.hid (IH.out (.mk xk xv2 xn2 xs) _ P _ HOK.out.2.2 HOK.out.1 HOK.out.2.1 HR.out (fun b hb => Nat.lt_of_lt_of_le (hP b hb) HB.out.size))
        have HOB := HO
        have HBB := HB
        have HAB := HA
        have HLN := Lib.hid (len_of HQ2.out HT.out)
        have HLT : Hid (i < ks.length) := hlt
        clear HO HB HA HQ HR HOK hr hxs hxd HX hlt
        go_wp2_with fail
        refine HIH.out.mono ?_
        rintro e wa ⟨vm, rfl, om, bm⟩
        have HOA := Lib.hid (own_below HOB.out bm)
        have HBA := Lib.hid (HBB.out.trans (bm.mono HBB.out.size))
        have HAA := Lib.hid (HAB.out.later bm)
        have HRM := Lib.hid (Rd.of_own om)
        obtain ⟨qm, cm, rfl⟩ := own_form om
        have HWB : Hid (w.heap.size + 1 ≤ wa.heap.size) := HAA.out.lt
        clear om bm HOB HBB HAB HIH X0 X1 X2 X3 x0 x3
        go_wp2_with (at_builtin; refine app_bytes rfl _ _ rfl rfl HOA.out rfl HRM.out HLN.out HWB.out ?_)
        intro vn wn hown hg
        have HB2 := Lib.hid (below_grown HBA.out HBA.out.size (Nat.le_succ _) HOA.out hg)
        have HA2 : Hid (Arr wn 42 w.heap.size [.int .i64 5, .string (bstr []), .string (bstr []), .slice (some ⟨ba, oa, none⟩) ks.length c]) := (hg.block _ HAA.out.lt (fun e => by have := (HOA.out.lt _ e.symm).1; omega)).trans HAA.out
        obtain ⟨q2, c2, rfl⟩ := own_form hown
        obtain ⟨A2, hA⟩ : ∃ x, x = A ++ putE (.mk xk xv2 xn2 xs) := ⟨_, rfl⟩
        have hAL : A.length + (putE (.mk xk xv2 xn2 xs)).length = A2.length := by rw [hA, List.length_append]
        have HO2 : Hid (wn.ownsRow (w.heap.size + 1) 5 1 (.slice q2 A2.length c2) A2.length (bvs A2)) := by show World.ownsRow _ _ _ _ _ _ _; rw [hA]; simpa using hown
        rw [hAL]
        clear hAL
        have HQ3 : Hid (T = A2 ++ putEs (ks.drop (i + 1))) := by rw [hA, List.append_assoc]; exact HQ2.out
        clear hown hg HOA HBA HAA HRM HLN HWB hA HQ2
        go_wp2_with fail
        go_roundw
        case rel => exact ⟨i + 1, A2, q2, c2, HLT.out, by go_num, rfl, HO2.out, HB2.out, HA2.out, HQ3.out⟩
        case measure => first | exact meas HLT.out (Nat.le_trans HKL.out (by decide)) | exact meas' HLT.out
      · have hlt' : ¬ (i : Int) < ks.length := by omega
        have hd : ks.drop i = [] := List.drop_eq_nil_of_le (by omega)
        rw [hd] at HQ
        have HQ9 : Hid (T = A ++ []) := HQ.out
        have HO9 := HO
        have HB9 := HB
        obtain ⟨A9, hA9⟩ : ∃ x, x = A := ⟨_, rfl⟩
        rw [← hA9] at HO9 HQ9
        subst hA9
        go_wp2_with fail
        go_ret
        have HEND : T = A9 := by rw [HQ9.out, List.append_nil]
        rw [HEND]
        exact ⟨_, rfl, own_le HO9.out (Nat.le_succ _), HB9.out⟩
theorem rputX_any : ∀ (m : Nat), m ≤ 64 → ∀ (e : Ex) (v : Value) (P : Nat → Prop) (w : World), sizeE e ≤ m → okE 64 e → formE e = true → RdE P w e v → (∀ b, P b → b < w.heap.size) → Calls Tryz.prog 19 #[v] w (Owned w (putE e))
  | 0, _, e, _, _, _, hs, _, _, _, _ => absurd hs (by have := sizeE_pos e; omega)
  | m + 1, hm, e, v, P, w, hs, ho, hf, h, hP => rputX_step (rputX_any m (by omega)) (by omega) e v P w hs ho hf h hP
end Go.Proofs.YtdnmgemjhpkekaaGreatDoor
/-
  schema.Form of a schema that was read.
-/
namespace Go.Proofs.YtdnmgemjhpkekaaGreatDoor
open Go.ChangeShapes Go.WideShapes Go.ChangeAt Go.RowKit
set_option linter.unusedVariables false

theorem alls_of {P : Nat → Prop} {w : World} {ls : List AlB} {q : Option Addr} {c : Nat} (h : RdA P w ls (.slice q ls.length c)) (hP : ∀ b, P b → b < w.heap.size) (ha : ∀ a ∈ ls, GoodA a) : ∀ i, i < ls.length → ∃ (b o : Nat) (t r : ByteArray), q = some ⟨b, o, none⟩ ∧ AtC w b (o + i * 2) [.string t, .string r] ∧ isName t = true ∧ (r = ⟨#[]⟩ ∨ isName r = true) := by
  intro i hi
  obtain ⟨b, o, e, hb, x0, x1⟩ := h.at hi
  have hg : GoodA (ls.getD i ([], [])) := ha _ (by rw [List.getD_eq_getElem?_getD, List.getElem?_eq_getElem hi]; exact List.getElem_mem hi)
  refine ⟨b, o, _, _, e, ⟨hP b hb, fun j u hj => ?_⟩, hg.1, hg.2.imp (fun e => by rw [e]; rfl) id⟩
  match j, hj with
  | 0, hj => cases hj; exact x0
  | 1, hj => cases hj; exact x1
theorem mems_of {P : Nat → Prop} {w : World} {l : List MemB} {q : Option Addr} {c : Nat} (h : RdK kdMem P w l (.slice q l.length c)) (hP : ∀ b, P b → b < w.heap.size) : ∀ i, i < l.length → ∃ (b o : Nat) (x : MemB) (u0 u1 u2 u3 u4 u5 u6 : Value), q = some ⟨b, o, none⟩ ∧ AtC w b (o + i * 7) [u0, u1, u2, u3, u4, u5, u6] ∧ x ∈ l ∧ rdMem P w x [u0, u1, u2, u3, u4, u5, u6] := by
  intro i hi
  obtain ⟨x, hx⟩ : ∃ x, l[i]? = some x := ⟨_, List.getElem?_eq_getElem hi⟩
  have hm := List.mem_of_getElem? hx
  obtain ⟨b, o, a, e, hb, r, x1⟩ := h.at hx
  rw [show kdMem.size = 7 from rfl] at x1
  obtain ⟨n, k, ls, mk, mv, mn, ms⟩ := x
  obtain ⟨qa, ca, q4, c4, rfl, _, _⟩ := rdMem_form r
  exact ⟨b, o, _, _, _, _, _, _, _, _, e, ⟨hP b hb, x1⟩, hm, r⟩
theorem defs_of {P : Nat → Prop} {w : World} {l : List DefB} {q : Option Addr} {c : Nat} (h : RdK kdDef P w l (.slice q l.length c)) (hP : ∀ b, P b → b < w.heap.size) : ∀ i, i < l.length → ∃ (b o : Nat) (n : List UInt8) (m : List MemB) (q2 : Option Addr) (c2 : Nat), q = some ⟨b, o, none⟩ ∧ AtC w b (o + i * 2) [.string (bstr n), .slice q2 m.length c2] ∧ (n, m) ∈ l ∧ RdK kdMem P w m (.slice q2 m.length c2) := by
  intro i hi
  obtain ⟨x, hx⟩ : ∃ x, l[i]? = some x := ⟨_, List.getElem?_eq_getElem hi⟩
  have hm := List.mem_of_getElem? hx
  obtain ⟨b, o, a, e, hb, r, x1⟩ := h.at hx
  rw [show kdDef.size = 2 from rfl] at x1
  obtain ⟨n, m⟩ := x
  obtain ⟨u, rfl, r⟩ := r
  have r2 := r
  obtain ⟨q2, c2, rfl, _⟩ := r
  exact ⟨b, o, n, m, q2, c2, e, ⟨hP b hb, x1⟩, hm, r2⟩
theorem rdA_keep {P : Nat → Prop} {w w' : World} {l : List AlB} {v : Value} (h : RdA P w l v) (hb : Below w.heap.size w w') (hP : ∀ b, P b → b < w.heap.size) : RdA P w' l v := h.keep fun b hb' n => hb.cell (p := ⟨b, n, none⟩) (hP b hb')
theorem rdMem_keep {P : Nat → Prop} {w w' : World} {m : MemB} {cs : List Value} (h : rdMem P w m cs) (hb : Below w.heap.size w w') (hP : ∀ b, P b → b < w.heap.size) : rdMem P w' m cs := h.keep fun b hb' n => hb.cell (p := ⟨b, n, none⟩) (hP b hb')
theorem rdK_keep {α : Type} {K : Kd α} {P : Nat → Prop} {w w' : World} {l : List α} {v : Value} (h : RdK K P w l v) (hb : Below w.heap.size w w') (hP : ∀ b, P b → b < w.heap.size) : RdK K P w' l v := h.keep fun b hb' n => hb.cell (p := ⟨b, n, none⟩) (hP b hb')
theorem lt_keep {P : Nat → Prop} {w w' : World} (hb : Below w.heap.size w w') (hP : ∀ b, P b → b < w.heap.size) : ∀ b, P b → b < w'.heap.size := fun b h => Nat.lt_of_lt_of_le (hP b h) hb.size
set_option maxRecDepth 100000 in
set_option maxHeartbeats 2000000 in
theorem mhf_rel {ls : List AlB} {tn : ByteArray} {qa q4 : Option Addr} {ca c4 : Nat} {P : Nat → Prop} {w : World} (hn : isName tn = true) (h1 : RdA P w ls (.slice qa ls.length ca)) (hP : ∀ b, P b → b < w.heap.size) (ha : ∀ a ∈ ls, GoodA a) (hl1 : 1 ≤ ls.length) (hl2 : ls.length ≤ 32) (hr : ResT w) :
    Calls Tryz.prog 84 #[.agg #[.string tn, .int .i64 1, .slice qa ls.length ca, .int .i64 0, .string ⟨#[]⟩, .string ⟨#[]⟩, .slice q4 0 c4]] w fun e w' => e = .returned (.bool true) ∧ Below w.heap.size w w' := by
  have hb0 : Below w.heap.size w (w.alloc (.cells #[.string tn, .int .i64 1, .slice qa ls.length ca, .int .i64 0, .string ⟨#[]⟩, .string ⟨#[]⟩, .slice q4 0 c4] 66)) := (Below.refl _ _).alloc (Nat.le_refl _) _
  have HB := Lib.hid hb0
  have HX : Hid (Arr (w.alloc (.cells #[.string tn, .int .i64 1, .slice qa ls.length ca, .int .i64 0, .string ⟨#[]⟩, .string ⟨#[]⟩, .slice q4 0 c4] 66)) 66 w.heap.size [.string tn, .int .i64 1, .slice qa ls.length ca, .int .i64 0, .string ⟨#[]⟩, .string ⟨#[]⟩, .slice q4 0 c4]) := Arr.new' _ _ _ _ rfl
  have HR : Hid (ResT (w.alloc (.cells #[.string tn, .int .i64 1, .slice qa ls.length ca, .int .i64 0, .string ⟨#[]⟩, .string ⟨#[]⟩, .slice q4 0 c4] 66))) := hr.below hb0 hr.lt
  have HN := Lib.hid (isName_at tn hn _ HR.out)
  have H1 := Lib.hid (rdA_keep h1 hb0 hP)
  have HP := Lib.hid (lt_keep hb0 hP)
  have HG := Lib.hid ha
  have hz1 : (0 : Int) < ls.length := by omega
  have hz2 : (ls.length : Int) ≤ 32 := by omega
  have HL : Hid (ls.length ≤ 100000) := by show _ ≤ _; omega
  clear hb0 h1 hP ha hl1 hl2 hr hn
  go_enter Tryz.func84, Tryz.ntmps84
  go_upto_region 1 with (fail)
  generalize (w.alloc (.cells #[.string tn, .int .i64 1, .slice qa ls.length ca, .int .i64 0, .string ⟨#[]⟩, .string ⟨#[]⟩, .slice q4 0 c4] 66)) = w0 at HX HB HR HN H1 HP ⊢
  have x0 := HX.out.cell 0
  have y0 := HX.out.free 0
  have x1 := HX.out.cell 1
  have y1 := HX.out.free 1
  have x2 := HX.out.cell 2
  have y2 := HX.out.free 2
  have x3 := HX.out.cell 3
  have y3 := HX.out.free 3
  have x4 := HX.out.cell 4
  have y4 := HX.out.free 4
  have x5 := HX.out.cell 5
  have y5 := HX.out.free 5
  have x6 := HX.out.cell 6
  have y6 := HX.out.free 6
  simp only [List.getElem?_cons_zero, List.getElem?_cons_succ] at x0 x1 x2 x3 x4 x5 x6
  go_wp2_with fail
  refine HN.out.mono ?_
  rintro e w1 ⟨rfl, b1⟩
  have HB := Lib.hid (HB.out.trans (b1.mono HB.out.size))
  have HX := Lib.hid (HX.out.later b1)
  have HR : Hid (ResT w1) := HR.out.below b1 HR.out.lt
  have HA := Lib.hid (allA (W := w1) (c := ca) HL.out fun i hi => by
    obtain ⟨b, o, t, r, e, hc, g1, g2⟩ := alls_of (rdA_keep H1.out b1 HP.out) (lt_keep b1 HP.out) HG.out i hi
    exact ⟨b, o, _, _, e, hc, fun W' hW => isRight_any t r W' (HR.out.below hW HR.out.lt) g1 g2⟩)
  clear b1
  clear x0 y0 x1 y1 x2 y2 x3 y3 x4 y4 x5 y5 x6 y6
  have x0 := HX.out.cell 0
  have y0 := HX.out.free 0
  have x1 := HX.out.cell 1
  have y1 := HX.out.free 1
  have x2 := HX.out.cell 2
  have y2 := HX.out.free 2
  have x3 := HX.out.cell 3
  have y3 := HX.out.free 3
  have x4 := HX.out.cell 4
  have y4 := HX.out.free 4
  have x5 := HX.out.cell 5
  have y5 := HX.out.free 5
  have x6 := HX.out.cell 6
  have y6 := HX.out.free 6
  simp only [List.getElem?_cons_zero, List.getElem?_cons_succ] at x0 x1 x2 x3 x4 x5 x6
  go_wp2_with fail
  refine HA.out.mono ?_
  rintro e w2 ⟨rfl, b1⟩
  have HB := Lib.hid (HB.out.trans (b1.mono HB.out.size))
  have HX := Lib.hid (HX.out.later b1)
  have hz : ∀ q c, RdE (fun _ => False) w2 (.mk 0 [] [] []) (.agg #[.int .i64 0, .string ⟨#[]⟩, .string ⟨#[]⟩, .slice q 0 c]) := fun q c => by unfold RdE; exact ⟨q, c, rfl, Nat.zero_le _, fun h => by simp at h⟩
  have HS : Hid (Calls Tryz.prog 103 #[.agg #[.int .i64 0, .string ⟨#[]⟩, .string ⟨#[]⟩, .slice q4 0 c4], .agg #[.int .i64 0, .string ⟨#[]⟩, .string ⟨#[]⟩, .slice none 0 0]] w2 fun r w' => r = .returned (.bool true) ∧ Below w2.heap.size w2 w') := by
    have h := esame_any (.mk 0 [] [] []) (.mk 0 [] [] []) _ _ (fun _ => False) (fun _ => False) w2 (by decide) (by decide) (hz q4 c4) (hz none 0) (fun b hb => hb.elim) (fun b hb => hb.elim)
    rw [cmpE_self] at h
    exact h
  clear b1 hz
  clear x0 y0 x1 y1 x2 y2 x3 y3 x4 y4 x5 y5 x6 y6
  have x0 := HX.out.cell 0
  have y0 := HX.out.free 0
  have x1 := HX.out.cell 1
  have y1 := HX.out.free 1
  have x2 := HX.out.cell 2
  have y2 := HX.out.free 2
  have x3 := HX.out.cell 3
  have y3 := HX.out.free 3
  have x4 := HX.out.cell 4
  have y4 := HX.out.free 4
  have x5 := HX.out.cell 5
  have y5 := HX.out.free 5
  have x6 := HX.out.cell 6
  have y6 := HX.out.free 6
  simp only [List.getElem?_cons_zero, List.getElem?_cons_succ] at x0 x1 x2 x3 x4 x5 x6
  go_wp2_with fail
  refine HS.out.mono ?_
  rintro r w3 ⟨rfl, b3⟩
  have HB := Lib.hid (HB.out.trans (b3.mono HB.out.size))
  clear b3
  go_wp2_with fail
  go_ret
  exact ⟨rfl, HB.out⟩
set_option maxRecDepth 100000 in
set_option maxHeartbeats 2000000 in
theorem mhf_perm {mk : Int} {mv mn : List UInt8} {ms : List Ex} {tn : ByteArray} {qa q4 : Option Addr} {ca c4 : Nat} {P : Nat → Prop} {w : World} (hn : isName tn = true) (h1 : RdE P w (.mk mk mv mn ms) (.agg #[.int .i64 mk, .string (bstr mv), .string (bstr mn), .slice q4 ms.length c4])) (hP : ∀ b, P b → b < w.heap.size) (hg : rightE (.mk mk mv mn ms) = true) (hsz : sizeE (.mk mk mv mn ms) ≤ 64) (hr : ResT w) :
    Calls Tryz.prog 84 #[.agg #[.string tn, .int .i64 2, .slice qa 0 ca, .int .i64 mk, .string (bstr mv), .string (bstr mn), .slice q4 ms.length c4]] w fun e w' => e = .returned (.bool true) ∧ Below w.heap.size w w' := by
  have hb0 : Below w.heap.size w (w.alloc (.cells #[.string tn, .int .i64 2, .slice qa 0 ca, .int .i64 mk, .string (bstr mv), .string (bstr mn), .slice q4 ms.length c4] 66)) := (Below.refl _ _).alloc (Nat.le_refl _) _
  have HB := Lib.hid hb0
  have HX : Hid (Arr (w.alloc (.cells #[.string tn, .int .i64 2, .slice qa 0 ca, .int .i64 mk, .string (bstr mv), .string (bstr mn), .slice q4 ms.length c4] 66)) 66 w.heap.size [.string tn, .int .i64 2, .slice qa 0 ca, .int .i64 mk, .string (bstr mv), .string (bstr mn), .slice q4 ms.length c4]) := Arr.new' _ _ _ _ rfl
  have HR : Hid (ResT (w.alloc (.cells #[.string tn, .int .i64 2, .slice qa 0 ca, .int .i64 mk, .string (bstr mv), .string (bstr mn), .slice q4 ms.length c4] 66))) := hr.below hb0 hr.lt
  have HN := Lib.hid (isName_at tn hn _ HR.out)
  have H1 := Lib.hid (h1.below hb0 hP)
  have HP := Lib.hid (lt_keep hb0 hP)
  have HG := Lib.hid hg
  have HZ := Lib.hid hsz
  clear hb0 h1 hP hg hsz hr hn
  go_enter Tryz.func84, Tryz.ntmps84
  go_upto_region 1 with (fail)
  generalize (w.alloc (.cells #[.string tn, .int .i64 2, .slice qa 0 ca, .int .i64 mk, .string (bstr mv), .string (bstr mn), .slice q4 ms.length c4] 66)) = w0 at HX HB HR HN H1 HP ⊢
  have x0 := HX.out.cell 0
  have y0 := HX.out.free 0
  have x1 := HX.out.cell 1
  have y1 := HX.out.free 1
  have x2 := HX.out.cell 2
  have y2 := HX.out.free 2
  have x3 := HX.out.cell 3
  have y3 := HX.out.free 3
  have x4 := HX.out.cell 4
  have y4 := HX.out.free 4
  have x5 := HX.out.cell 5
  have y5 := HX.out.free 5
  have x6 := HX.out.cell 6
  have y6 := HX.out.free 6
  simp only [List.getElem?_cons_zero, List.getElem?_cons_succ] at x0 x1 x2 x3 x4 x5 x6
  go_wp2_with fail
  refine HN.out.mono ?_
  rintro e w1 ⟨rfl, b1⟩
  have HB := Lib.hid (HB.out.trans (b1.mono HB.out.size))
  have HX := Lib.hid (HX.out.later b1)
  have HR : Hid (ResT w1) := HR.out.below b1 HR.out.lt
  have HS : Hid (Calls Tryz.prog 104 #[.agg #[.int .i64 mk, .string (bstr mv), .string (bstr mn), .slice q4 ms.length c4]] w1 fun r w' => r = .returned (.bool true) ∧ Below w1.heap.size w1 w') := by
    have h := eright_any (.mk mk mv mn ms) _ P w1 (Nat.le_trans HZ.out (by decide)) (H1.out.below b1 HP.out) (lt_keep b1 HP.out) HR.out
    rw [HG.out] at h
    exact h
  clear b1
  clear x0 y0 x1 y1 x2 y2 x3 y3 x4 y4 x5 y5 x6 y6
  have x0 := HX.out.cell 0
  have y0 := HX.out.free 0
  have x1 := HX.out.cell 1
  have y1 := HX.out.free 1
  have x2 := HX.out.cell 2
  have y2 := HX.out.free 2
  have x3 := HX.out.cell 3
  have y3 := HX.out.free 3
  have x4 := HX.out.cell 4
  have y4 := HX.out.free 4
  have x5 := HX.out.cell 5
  have y5 := HX.out.free 5
  have x6 := HX.out.cell 6
  have y6 := HX.out.free 6
  simp only [List.getElem?_cons_zero, List.getElem?_cons_succ] at x0 x1 x2 x3 x4 x5 x6
  go_wp2_with fail
  refine HS.out.mono ?_
  rintro r w3 ⟨rfl, b3⟩
  have HB := Lib.hid (HB.out.trans (b3.mono HB.out.size))
  clear b3
  go_wp2_with fail
  go_ret
  exact ⟨rfl, HB.out⟩
theorem mhf_any (x : MemB) (cs : List Value) (P : Nat → Prop) (w : World) (h : rdMem P w x cs) (hP : ∀ b, P b → b < w.heap.size) (hg : GoodM x) (hr : ResT w) : Calls Tryz.prog 84 #[.agg cs.toArray] w fun e w' => e = .returned (.bool true) ∧ Below w.heap.size w w' := by
  obtain ⟨n, k, ls, mk, mv, mn, ms⟩ := x
  obtain ⟨qa, ca, q4, c4, rfl, h3, h4⟩ := rdMem_form h
  obtain ⟨hn, ⟨hk, h1, h2, ha, he⟩ | ⟨hk, hl, he⟩⟩ := hg
  · have hk : k = 1 := hk
    have he : Ex.mk mk mv mn ms = .mk 0 [] [] [] := he
    cases he
    subst hk
    exact mhf_rel hn h3 hP ha h1 h2 hr
  · have hk : k = 2 := hk
    have hl : ls = [] := hl
    subst hk
    subst hl
    exact mhf_perm hn h4 hP he.1 he.2.2 hr
set_option maxRecDepth 100000 in
set_option maxHeartbeats 2000000 in
theorem hf_any (l : List MemB) (tn : ByteArray) (q : Option Addr) (c : Nat) (P : Nat → Prop) (w : World) (hn : isName tn = true) (h : RdK kdMem P w l (.slice q l.length c)) (hP : ∀ b, P b → b < w.heap.size) (hl : l.length ≤ 64) (hg : ∀ m ∈ l, GoodM m) (hr : ResT w) :
    Calls Tryz.prog 59 #[.agg #[.string tn, .slice q l.length c]] w fun e w' => e = .returned (.bool true) ∧ Below w.heap.size w w' := by
  have hb0 : Below w.heap.size w (w.alloc (.cells #[.string tn, .slice q l.length c] 53)) := (Below.refl _ _).alloc (Nat.le_refl _) _
  have HB := Lib.hid hb0
  have HX : Hid (Arr (w.alloc (.cells #[.string tn, .slice q l.length c] 53)) 53 w.heap.size [.string tn, .slice q l.length c]) := Arr.new' _ _ _ _ rfl
  have HR : Hid (ResT (w.alloc (.cells #[.string tn, .slice q l.length c] 53))) := hr.below hb0 hr.lt
  have HN := Lib.hid (isName_at tn hn _ HR.out)
  have H1 := Lib.hid (rdK_keep h hb0 hP)
  have HP := Lib.hid (lt_keep hb0 hP)
  have HG := Lib.hid hg
  have hz2 : (l.length : Int) ≤ 64 := by omega
  have HL : Hid (l.length ≤ 100000) := by show _ ≤ _; omega
  clear hb0 h hP hg hl hr hn
  go_enter Tryz.func59, Tryz.ntmps59
  go_upto_region 1 with (fail)
  generalize (w.alloc (.cells #[.string tn, .slice q l.length c] 53)) = w0 at HX HB HR HN H1 HP ⊢
  have x0 := HX.out.cell 0
  have y0 := HX.out.free 0
  have x1 := HX.out.cell 1
  have y1 := HX.out.free 1
  simp only [List.getElem?_cons_zero, List.getElem?_cons_succ] at x0 x1
  go_wp2_with fail
  refine HN.out.mono ?_
  rintro e w1 ⟨rfl, b1⟩
  have HB := Lib.hid (HB.out.trans (b1.mono HB.out.size))
  have HX := Lib.hid (HX.out.later b1)
  have HR : Hid (ResT w1) := HR.out.below b1 HR.out.lt
  have HA := Lib.hid (allM (W := w1) (c := c) HL.out fun i hi => by
    obtain ⟨b, o, x, u0, u1, u2, u3, u4, u5, u6, e, hc, hm, r⟩ := mems_of (rdK_keep H1.out b1 HP.out) (lt_keep b1 HP.out) i hi
    exact ⟨b, o, u0, u1, u2, u3, u4, u5, u6, e, hc, fun W' hW => mhf_any x _ P W' (rdMem_keep r hW (lt_keep b1 HP.out)) (lt_keep hW (lt_keep b1 HP.out)) (HG.out x hm) (HR.out.below hW HR.out.lt)⟩)
  clear b1
  clear x0 y0 x1 y1
  have x0 := HX.out.cell 0
  have y0 := HX.out.free 0
  have x1 := HX.out.cell 1
  have y1 := HX.out.free 1
  simp only [List.getElem?_cons_zero, List.getElem?_cons_succ] at x0 x1
  go_wp2_with fail
  refine HA.out.mono ?_
  rintro r w3 ⟨rfl, b3⟩
  have HB := Lib.hid (HB.out.trans (b3.mono HB.out.size))
  clear b3
  go_wp2_with fail
  go_ret
  exact ⟨rfl, HB.out⟩
set_option maxRecDepth 100000 in
set_option maxHeartbeats 2000000 in
theorem form_any (l : List DefB) (q : Option Addr) (c : Nat) (P : Nat → Prop) (w : World) (h : RdK kdDef P w l (.slice q l.length c)) (hP : ∀ b, P b → b < w.heap.size) (hg : GoodS l) (hr : ResT w) :
    Calls Tryz.prog 32 #[.agg #[.slice q l.length c]] w fun e w' => e = .returned (.bool true) ∧ Below w.heap.size w w' := by
  have hb0 : Below w.heap.size w (w.alloc (.cells #[.slice q l.length c] 26)) := (Below.refl _ _).alloc (Nat.le_refl _) _
  have HB := Lib.hid hb0
  have HX : Hid (Arr (w.alloc (.cells #[.slice q l.length c] 26)) 26 w.heap.size [.slice q l.length c]) := Arr.new' _ _ _ _ rfl
  have HR : Hid (ResT (w.alloc (.cells #[.slice q l.length c] 26))) := hr.below hb0 hr.lt
  have H1 := Lib.hid (rdK_keep h hb0 hP)
  have HP := Lib.hid (lt_keep hb0 hP)
  have HG := Lib.hid hg.2
  have hz2 : (l.length : Int) ≤ 64 := by have := hg.1; omega
  have HL : Hid (l.length ≤ 100000) := by have := hg.1; show _ ≤ _; omega
  clear hb0 h hP hg hr
  go_enter Tryz.func32, Tryz.ntmps32
  go_upto_region 1 with (fail)
  generalize (w.alloc (.cells #[.slice q l.length c] 26)) = w0 at HX HB HR H1 HP ⊢
  have x0 := HX.out.cell 0
  have y0 := HX.out.free 0
  simp only [List.getElem?_cons_zero] at x0
  have HA := Lib.hid (allD (W := w0) (c := c) HL.out fun i hi => by
    obtain ⟨b, o, n, m, q2, c2, e, hc, hm, r⟩ := defs_of H1.out HP.out i hi
    have g := HG.out _ hm
    exact ⟨b, o, _, _, e, hc, fun W' hW => hf_any m (bstr n) q2 c2 P W' g.1 (rdK_keep r hW HP.out) (lt_keep hW HP.out) g.2.1 g.2.2 (HR.out.below hW HR.out.lt)⟩)
  go_wp2_with fail
  refine HA.out.mono ?_
  rintro r w3 ⟨rfl, b3⟩
  have HB := Lib.hid (HB.out.trans (b3.mono HB.out.size))
  clear b3
  go_wp2_with fail
  go_ret
  exact ⟨rfl, HB.out⟩
end Go.Proofs.YtdnmgemjhpkekaaGreatDoor
/-
  putMember: a member as bytes.
-/
namespace Go.Proofs.YtdnmgemjhpkekaaGreatDoor
open Go.ChangeShapes Go.WideShapes Go.ChangeAt Go.RowKit
set_option linter.unusedVariables false

theorem putA_len {a : AlB} (h : GoodA a) : (putS (bstr a.1)).length ≤ 80 ∧ (putS (bstr a.2)).length ≤ 80 := by
  have h1 := name_len h.1
  have h2 : a.2.length ≤ 64 := by rcases h.2 with h | h; rw [h]; exact Nat.zero_le _; exact name_len h
  refine ⟨?_, ?_⟩
  · have := putS_len (bstr a.1) (by rw [bstr_size]; unfold lim64; omega); rw [bstr_size] at this; omega
  · have := putS_len (bstr a.2) (by rw [bstr_size]; unfold lim64; omega); rw [bstr_size] at this; omega
theorem putAs_len : ∀ l : List AlB, (∀ a ∈ l, GoodA a) → ((l.map putA).flatten).length ≤ 160 * l.length
  | [], _ => Nat.le_refl _
  | a :: r, h => by
    have h1 := putA_len (h a (by simp))
    have h2 := putAs_len r fun x hx => h x (by simp [hx])
    rw [List.map_cons, List.flatten_cons, List.length_append, List.length_cons, putA, List.length_append]
    omega
theorem putM_len {m : MemB} (h : GoodM m) : (putM m).length ≤ 14000 := by
  obtain ⟨n, k, ls, e⟩ := m
  obtain ⟨h1, hg⟩ := h
  have hn := name_len h1
  have a1 : (putS (bstr n)).length ≤ 80 := by have := putS_len (bstr n) (by rw [bstr_size]; unfold lim64; simp only [] at hn; omega); rw [bstr_size] at this; simp only [] at hn; omega
  rcases hg with ⟨rfl, t1, t2, t3, rfl⟩ | ⟨rfl, rfl, he⟩
  · have a2 := putAs_len ls t3
    have a3 : (put ls.length).length ≤ 10 := put_small _ (by unfold lim64; simp only [] at t2; omega)
    have a4 : (put 1).length ≤ 10 := put_small _ (by decide)
    have t3 : ls.length ≤ 32 := t2
    have e : putM (n, 1, ls, ex0) = putS (bstr n) ++ (put 1 ++ (put ls.length ++ (ls.map putA).flatten)) := by simp [putM]
    rw [e, List.length_append, List.length_append, List.length_append]
    omega
  · have a2 := putE_len e he.2.1 (right_all he.1).1 he.2.2
    have a4 : (put 2).length ≤ 10 := put_small _ (by decide)
    have h9 : sizeE e ≤ 64 := he.2.2
    have e9 : putM (n, 2, [], e) = putS (bstr n) ++ (put 2 ++ putE e) := by simp [putM]
    rw [e9, List.length_append, List.length_append]
    omega
theorem app_len {A m : List UInt8} (h : A.length ≤ 100000) (h2 : m.length ≤ 100000) : A.length + m.length ≤ 140737488355328 := by omega
theorem stepA {ops : Array Oper} {o : Oper} {a : Act} {w : World} {K : Act → World → Prop} {Q : Exit → Act → World → Prop} {E : Prop} (hgd : o.guard = none) (s x : Operand)
    (ho : o.op = .call { callee := .builtin .append, args := #[s, x], argTypes := #[22, 22] })
    {base C : Nat} {v vx : Value} {l m : List UInt8} (hs : a.eval s = v) (hown : w.ownsRow base 5 1 v l.length (bvs l)) (hx : a.eval x = vx) (hr : Rd C w vx m) (hm : 0 < m.length)
    (hlen : l.length + m.length ≤ 140737488355328) (hbase : base ≤ w.heap.size)
    (h : ∀ v' w', w'.ownsRow base 5 1 v' (l ++ m).length (bvs (l ++ m)) → w.grownBy w' v.ownBlock → K (a.put o.dst v') w') : if Region.wanted o (yielded ops a.tmps) = true then Oper.wp Tryz.prog o a w K Q else E := by
  have hw : Region.wanted o (yielded ops a.tmps) = true := by simp [Region.wanted, hgd]
  rw [if_pos hw]
  obtain ⟨i0, hi, hz0, hz1, hz2⟩ := info_parts Tryz.info5
  rcases hr with ⟨_, rfl, rfl⟩ | ⟨b, off, cap, rfl, h1, h2, h3, hc⟩
  · exact absurd hm (by simp)
  · refine wp_append_own w s x 22 ho base 5 i0 (.int .u8 0) 1 1 Tryz.underlying22 hi hz0 hz1 hz2 rfl (by decide) v l.length (bvs l) hs hown ⟨b, off, none⟩ m.length cap (bvs m) hx (by simp [bvs]) ?_ (bvs_one m) (by unfold maxLen; omega) (by omega) hbase ?_
    · intro j u hu
      have hj : j < m.length := by
        have := (List.getElem?_eq_some_iff.1 hu).1; simpa [bvs] using this
      rw [bvs_getElem m j hj] at hu
      simp only [Option.some.injEq] at hu
      subst hu
      have e : (⟨b, off, none⟩ : Addr).add j = ⟨b, off + j, none⟩ := by unfold Addr.add; split <;> simp_all
      rw [e]; exact hc j hj
    · intro v' w' r1 r2 _
      exact h v' w' (by simpa [bvs] using r1) r2
set_option maxRecDepth 100000 in
set_option maxHeartbeats 8000000 in
theorem putMember_2 {nn mv mn : List UInt8} {ls : List AlB} {mk : Int} {ms : List Ex} {qa q4 : Option Addr} {ca c4 : Nat} {P : Nat → Prop} {w : World} (hg : GoodM (nn, 2, ls, .mk mk mv mn ms)) (ra : RdA P w ls (.slice qa ls.length ca)) (re : RdE P w (.mk mk mv mn ms) (.agg #[.int .i64 mk, .string (bstr mv), .string (bstr mn), .slice q4 ms.length c4])) (hP : ∀ b, P b → b < w.heap.size) : Calls Tryz.prog 35 #[.agg #[.string (bstr nn), .int .i64 2, .slice qa ls.length ca, .int .i64 mk, .string (bstr mv), .string (bstr mn), .slice q4 ms.length c4]] w (Owned w (putM (nn, 2, ls, .mk mk mv mn ms))) := by
  have hb0 : Below w.heap.size w (w.alloc (.cells #[.string (bstr nn), .int .i64 2, .slice qa ls.length ca, .int .i64 mk, .string (bstr mv), .string (bstr mn), .slice q4 ms.length c4] 66)) := (Below.refl _ _).alloc (Nat.le_refl _) _
  have HB0 := Lib.hid hb0
  have HS0 : Hid (Arr (w.alloc (.cells #[.string (bstr nn), .int .i64 2, .slice qa ls.length ca, .int .i64 mk, .string (bstr mv), .string (bstr mn), .slice q4 ms.length c4] 66)) 66 w.heap.size [.string (bstr nn), .int .i64 2, .slice qa ls.length ca, .int .i64 mk, .string (bstr mv), .string (bstr mn), .slice q4 ms.length c4]) := Arr.new' _ _ _ _ rfl
  have HNL : Hid (nn.length ≤ 64) := name_len hg.1
  have HTN : Hid ((putS (bstr nn)).length ≤ 80) := by have h := name_len hg.1; have := putS_len (bstr nn) (by rw [bstr_size]; unfold lim64; simp only [] at h; omega); rw [bstr_size] at this; show _ ≤ _; simp only [] at h; omega
  have HTJ : Hid ((putS (bstr nn)).length + (put 2).length ≤ 140737488355328) := by have := HTN.out; have h2 : (put 2).length ≤ 10 := put_small _ (by decide); show _ ≤ _; omega
  obtain ⟨T, hT⟩ : ∃ T, T = putM (nn, 2, ls, .mk mk mv mn ms) := ⟨_, rfl⟩
  have HT : Hid (T.length ≤ 20000) := by rw [hT]; exact Nat.le_trans (putM_len hg) (by decide)
  have HTE := Lib.hid hT
  rw [← hT]
  have HFE : Hid (FineE (.mk mk mv mn ms)) := by rcases hg.2 with h | h; exact absurd (show (2 : Int) = 1 from h.1) (by decide); exact h.2.2
  have HRE := Lib.hid re
  clear hT hg ra re hb0
  go_enter Tryz.func35, Tryz.ntmps35
  go_upto_region 1 with (fail)
  generalize w.alloc (.cells #[.string (bstr nn), .int .i64 2, .slice qa ls.length ca, .int .i64 mk, .string (bstr mv), .string (bstr mn), .slice q4 ms.length c4] 66) = w0 at HB0 HS0 ⊢
  refine wp_region_noPanic ?_
  refine wp_region_held_drew (S := fun W' => Arr W' 66 w.heap.size [.string (bstr nn), .int .i64 2, .slice qa ls.length ca, .int .i64 mk, .string (bstr mv), .string (bstr mn), .slice q4 ms.length c4]) (by kernel_rfl) (HS0.out.later (Below.refl _ _).drew) (fun hHeld => ?_)
  try simp only [Act.put]
  have hbd : Below w0.heap.size w0 w0.drew := (Below.refl _ _).drew
  have HBd := Lib.hid (HB0.out.trans (hbd.mono HB0.out.size))
  have HSd := Lib.hid (HS0.out.later hbd)
  clear HB0 HS0
  clear hbd
  generalize w0.drew = wd at hHeld HBd HSd ⊢
  refine wpAnyH_take (i := 0) (oi := ⟨some 6, _, _, _, _, _⟩) (v := .pointer (some ⟨w.heap.size, 0, none⟩)) rfl (by kernel_rfl) (by kernel_rfl) (by kernel_rfl) (fun _ _ _ h => h) (.inl ⟨by rfl, fun w' hSw => ?_⟩) hHeld ?_
  focus (skip; clear hHeld; go_simp)
  try simp only [Act.put, List.setIfInBounds_toArray, List.set_cons_zero, List.set_cons_succ]
  refine wpAnyH_take (i := 1) (oi := ⟨some 7, _, _, _, _, _⟩) (v := .string (bstr nn)) rfl (by kernel_rfl) (by kernel_rfl) (by kernel_rfl) (fun _ _ _ h => h) (.inl ⟨by rfl, fun w' hSw => ?_⟩) hHeld ?_
  focus (have a1 := hSw.cell 0; simp only [List.getElem?_cons_zero] at a1; clear hHeld; go_simp)
  try simp only [Act.put, List.setIfInBounds_toArray, List.set_cons_zero, List.set_cons_succ]
  refine wpAnyH_take (i := 3) (oi := ⟨some 9, _, _, _, _, _⟩) (v := .pointer (some ⟨w.heap.size, 1, none⟩)) rfl (by kernel_rfl) (by kernel_rfl) (by kernel_rfl) (fun _ _ _ h => h) (.inl ⟨by rfl, fun w' hSw => ?_⟩) hHeld ?_
  focus (skip; clear hHeld; go_simp)
  try simp only [Act.put, List.setIfInBounds_toArray, List.set_cons_zero, List.set_cons_succ]
  refine wpAnyH_take (i := 4) (oi := ⟨some 10, _, _, _, _, _⟩) (v := .int .i64 2) rfl (by kernel_rfl) (by kernel_rfl) (by kernel_rfl) (fun _ _ _ h => h) (.inl ⟨by rfl, fun w' hSw => ?_⟩) hHeld ?_
  focus (have a1 := hSw.cell 1; simp only [List.getElem?_cons_zero, List.getElem?_cons_succ] at a1; clear hHeld; go_simp)
  try simp only [Act.put, List.setIfInBounds_toArray, List.set_cons_zero, List.set_cons_succ]
  refine wpAnyH_ready (rs := [2]) (by kernel_rfl) (by simp) ?_
  refine AllReadyH.cons (o := ⟨some 8, _, _, _, _, _⟩) rfl (fun K' hK' => ?_) AllReadyH.nil
  refine stepw_call (by rfl) ?_ (putS_text nn (by have := HNL.out; omega) wd) ?_
  focus go_simp
  rintro vx w1 ⟨ox, bbx⟩
  have HB1 := Lib.hid (HBd.out.trans (bbx.mono HBd.out.size))
  have HS1 := Lib.hid (HSd.out.later bbx)
  have HRx1 := Lib.hid (Rd.of_own ox)
  obtain ⟨qx, cx, rfl⟩ := own_form ox
  clear ox bbx
  clear HBd HSd
  refine hK'.out _ _ HS1.out (fun _ => ?_)
  clear hK' K' hHeld
  have hHeld := HS1.out
  try simp only [Act.put, List.setIfInBounds_toArray, List.set_cons_zero, List.set_cons_succ]
  refine wpAnyH_ready (rs := [5]) (by kernel_rfl) (by simp) ?_
  refine AllReadyH.cons (o := ⟨some 11, _, _, _, _, _⟩) rfl (fun K' hK' => ?_) AllReadyH.nil
  refine stepw_call (by rfl) ?_ (putCount_any 2 (by decide) w1) ?_
  focus go_simp
  rintro vy w2 ⟨oy, bby⟩
  have HB2 := Lib.hid (HB1.out.trans (bby.mono HB1.out.size))
  have HS2 := Lib.hid (HS1.out.later bby)
  have HRx2 := Lib.hid ((HRx1.out.below bby (Nat.le_refl _)).mono bby.size)
  clear HRx1
  have HRy2 := Lib.hid (Rd.of_own oy)
  obtain ⟨qy, cy, rfl⟩ := own_form oy
  clear oy bby
  clear HB1 HS1
  refine hK'.out _ _ HS2.out (fun _ => ?_)
  clear hK' K' hHeld
  have hHeld := HS2.out
  try simp only [Act.put, List.setIfInBounds_toArray, List.set_cons_zero, List.set_cons_succ]
  refine wpAnyH_ready (rs := [6]) (by kernel_rfl) (by simp) ?_
  refine AllReadyH.cons (o := ⟨some 12, _, _, _, _, _⟩) rfl (fun K' hK' => ?_) AllReadyH.nil
  go_simp
  have hbb : Below w2.heap.size w2 (w2.alloc (.cells #[.slice qx (putS (bstr nn)).length cx, .slice qy (put 2).length cy] 22)) := (Below.refl _ _).alloc (Nat.le_refl _) _
  have HBs := Lib.hid (HB2.out.trans (hbb.mono HB2.out.size))
  have HSs := Lib.hid (HS2.out.later hbb)
  have HRA : Hid (RdAll (w2.alloc (.cells #[.slice qx (putS (bstr nn)).length cx, .slice qy (put 2).length cy] 22)).heap.size (w2.alloc (.cells #[.slice qx (putS (bstr nn)).length cx, .slice qy (put 2).length cy] 22)) (some ⟨w2.heap.size, 0, none⟩) [putS (bstr nn), put 2]) := rd_two HRx2.out HRy2.out
  clear hbb HRx2 HRy2
  clear HB2 HS2
  obtain ⟨gs, hgs⟩ : ∃ g, g = w2.heap.size := ⟨_, rfl⟩
  rw [← hgs] at HRA ⊢
  generalize (w2.alloc (.cells #[.slice qx (putS (bstr nn)).length cx, .slice qy (put 2).length cy] 22)) = ws at HRA HBs HSs ⊢
  clear hgs
  have HWW : Hid (w.heap.size + 1 ≤ ws.heap.size) := HSs.out.lt
  refine hK'.out _ _ HSs.out (fun _ => ?_)
  clear hK' K' hHeld
  have hHeld := HSs.out
  try simp only [Act.put, List.setIfInBounds_toArray, List.set_cons_zero, List.set_cons_succ]
  refine wpAnyH_ready (rs := [7]) (by kernel_rfl) (by simp) ?_
  refine AllReadyH.cons (o := ⟨some 13, _, _, _, _, _⟩) rfl (fun K' hK' => ?_) AllReadyH.nil
  refine stepw_call (by rfl) ?_ (join_any (cap := 2) HRA.out (Nat.le_refl _) (by show 2 ≤ 140737488355328; decide) (by have := HTJ.out; simpa [total] using this)) ?_
  focus go_simp
  rintro vj wj ⟨oj, bj⟩
  have HBj := Lib.hid (HBs.out.trans (bj.mono HBs.out.size))
  have HSj := Lib.hid (HSs.out.later bj)
  have HOJ : Hid (wj.ownsRow ws.heap.size 5 1 vj ((putS (bstr nn)) ++ (put 2)).length (bvs ((putS (bstr nn)) ++ (put 2)))) := by show World.ownsRow _ _ _ _ _ _ _; simpa using oj
  have HSJ : Hid (ws.heap.size ≤ wj.heap.size) := bj.size
  clear oj bj HRA
  clear HBs HSs
  refine hK'.out _ _ HSj.out (fun _ => ?_)
  clear hK' K' hHeld
  have hHeld := HSj.out
  try simp only [Act.put, List.setIfInBounds_toArray, List.set_cons_zero, List.set_cons_succ]
  refine wpAnyH_ready (rs := [8]) (by kernel_rfl) (by simp) ?_
  refine AllReadyH.cons (o := ⟨some 3, _, _, _, _, _⟩) rfl (fun K' hK' => ?_) AllReadyH.nil
  go_simp
  obtain ⟨qj, cj, rfl⟩ := own_form HOJ.out
  obtain ⟨A, hA⟩ : ∃ A, A = (putS (bstr nn)) ++ (put 2) := ⟨_, rfl⟩
  have hAL : (putS (bstr nn)).length + (put 2).length = A.length := by rw [hA, List.length_append]
  have HO : Hid (wj.ownsRow (w.heap.size + 1) 5 1 (.slice qj A.length cj) A.length (bvs A)) := by show World.ownsRow _ _ _ _ _ _ _; rw [hA]; exact own_le HOJ.out HWW.out
  have HQ : Hid (T = A ++ putE (.mk mk mv mn ms)) := by show _ = _; rw [HTE.out, hA]; simp [putM]
  have HAL := Lib.hid (show A.length ≤ 1000 by have := HTN.out; have h2 : (put 2).length ≤ 10 := put_small _ (by decide); rw [← hAL]; omega)
  try rw [List.length_append]
  rw [hAL]
  have HB := HBj
  have HS := HSj
  clear hA hAL HOJ HSJ HTE HBj HSj
  refine hK'.out _ _ HS.out (fun _ => ?_)
  clear hK' K' hHeld
  try simp only [Act.put, List.setIfInBounds_toArray, List.set_cons_zero, List.set_cons_succ]
  refine wpAnyH_done (by kernel_rfl) ?_ _
  refine NoPanic.normal ?_
  have x0 := HS.out.cell 0
  have y0 := HS.out.free 0
  have x1 := HS.out.cell 1
  have y1 := HS.out.free 1
  have x2 := HS.out.cell 2
  have y2 := HS.out.free 2
  have x3 := HS.out.cell 3
  have y3 := HS.out.free 3
  have x4 := HS.out.cell 4
  have y4 := HS.out.free 4
  have x5 := HS.out.cell 5
  have y5 := HS.out.free 5
  have x6 := HS.out.cell 6
  have y6 := HS.out.free 6
  simp only [List.getElem?_cons_zero, List.getElem?_cons_succ] at x0 x1 x2 x3 x4 x5 x6
  go_wp2_with fail
  have HPX := Lib.hid (putX_any 64 (Nat.le_refl _) (.mk mk mv mn ms) (.agg #[.int .i64 mk, .string (bstr mv), .string (bstr mn), .slice q4 ms.length c4]) P wj HFE.out.2.2 HFE.out.2.1 (right_all HFE.out.1).1 (RdE.below HRE.out HB.out hP) (fun b hb => Nat.lt_of_lt_of_le (hP b hb) HB.out.size))
  have HPL : Hid ((putE (.mk mk mv mn ms)).length ≤ 100000) := by have := putE_len _ HFE.out.2.1 (right_all HFE.out.1).1 HFE.out.2.2; have h2 := HFE.out.2.2; show _ ≤ _; omega
  refine HPX.out.mono ?_
  rintro e wa ⟨vm, rfl, om, bm⟩
  have HOA := Lib.hid (own_below HO.out bm)
  have HBA := Lib.hid (HB.out.trans (bm.mono HB.out.size))
  have HRM := Lib.hid (Rd.of_own om)
  obtain ⟨qm, cm, rfl⟩ := own_form om
  have HLN : Hid (A.length + (putE (.mk mk mv mn ms)).length ≤ 140737488355328) := app_len (Nat.le_trans HAL.out (by decide)) HPL.out
  have HWB : Hid (w.heap.size + 1 ≤ wa.heap.size) := Nat.le_trans HS.out.lt bm.size
  clear om bm HO HB HS HPX x0 x1 x2 x3 x4 x5 x6 y0 y1 y2 y3 y4 y5 y6
  go_wp2_with (at_builtin; refine app_bytes rfl _ _ rfl rfl HOA.out rfl HRM.out HLN.out HWB.out ?_)
  intro vn wn hown hg
  have HB2 := Lib.hid (below_grown HBA.out HBA.out.size (Nat.le_succ _) HOA.out hg)
  have hown2 : wn.ownsRow (w.heap.size + 1) 5 1 vn (A ++ putE (.mk mk mv mn ms)).length (bvs (A ++ putE (.mk mk mv mn ms))) := by simpa using hown
  have HOW := Lib.hid hown2
  clear hown hown2 hg
  go_wp2_with fail
  go_ret
  rw [HQ.out]
  exact ⟨_, rfl, own_le HOW.out (Nat.le_succ _), HB2.out⟩
set_option maxRecDepth 100000 in
set_option maxHeartbeats 8000000 in
theorem putMember_1 {nn mv mn : List UInt8} {ls : List AlB} {mk : Int} {ms : List Ex} {qa q4 : Option Addr} {ca c4 : Nat} {P : Nat → Prop} {w : World} (hg : GoodM (nn, 1, ls, .mk mk mv mn ms)) (ra : RdA P w ls (.slice qa ls.length ca)) (re : RdE P w (.mk mk mv mn ms) (.agg #[.int .i64 mk, .string (bstr mv), .string (bstr mn), .slice q4 ms.length c4])) (hP : ∀ b, P b → b < w.heap.size) : Calls Tryz.prog 35 #[.agg #[.string (bstr nn), .int .i64 1, .slice qa ls.length ca, .int .i64 mk, .string (bstr mv), .string (bstr mn), .slice q4 ms.length c4]] w (Owned w (putM (nn, 1, ls, .mk mk mv mn ms))) := by
  have hb0 : Below w.heap.size w (w.alloc (.cells #[.string (bstr nn), .int .i64 1, .slice qa ls.length ca, .int .i64 mk, .string (bstr mv), .string (bstr mn), .slice q4 ms.length c4] 66)) := (Below.refl _ _).alloc (Nat.le_refl _) _
  have HB0 := Lib.hid hb0
  have HS0 : Hid (Arr (w.alloc (.cells #[.string (bstr nn), .int .i64 1, .slice qa ls.length ca, .int .i64 mk, .string (bstr mv), .string (bstr mn), .slice q4 ms.length c4] 66)) 66 w.heap.size [.string (bstr nn), .int .i64 1, .slice qa ls.length ca, .int .i64 mk, .string (bstr mv), .string (bstr mn), .slice q4 ms.length c4]) := Arr.new' _ _ _ _ rfl
  have HNL : Hid (nn.length ≤ 64) := name_len hg.1
  have HTN : Hid ((putS (bstr nn)).length ≤ 80) := by have h := name_len hg.1; have := putS_len (bstr nn) (by rw [bstr_size]; unfold lim64; simp only [] at h; omega); rw [bstr_size] at this; show _ ≤ _; simp only [] at h; omega
  have HTJ : Hid ((putS (bstr nn)).length + (put 1).length ≤ 140737488355328) := by have := HTN.out; have h2 : (put 1).length ≤ 10 := put_small _ (by decide); show _ ≤ _; omega
  obtain ⟨T, hT⟩ : ∃ T, T = putM (nn, 1, ls, .mk mk mv mn ms) := ⟨_, rfl⟩
  have HT : Hid (T.length ≤ 20000) := by rw [hT]; exact Nat.le_trans (putM_len hg) (by decide)
  have HTE := Lib.hid hT
  rw [← hT]
  have HKL : Hid (ls.length ≤ 32) := by rcases hg.2 with h | h; exact h.2.2.1; exact absurd (show (1 : Int) = 2 from h.1) (by decide)
  have HGA0 : Hid (∀ a ∈ ls, GoodA a) := by rcases hg.2 with h | h; exact h.2.2.2.1; exact absurd (show (1 : Int) = 2 from h.1) (by decide)
  have HRA0 := Lib.hid ra
  clear hT hg ra re hb0
  go_enter Tryz.func35, Tryz.ntmps35
  go_upto_region 1 with (fail)
  generalize w.alloc (.cells #[.string (bstr nn), .int .i64 1, .slice qa ls.length ca, .int .i64 mk, .string (bstr mv), .string (bstr mn), .slice q4 ms.length c4] 66) = w0 at HB0 HS0 ⊢
  refine wp_region_noPanic ?_
  refine wp_region_held_drew (S := fun W' => Arr W' 66 w.heap.size [.string (bstr nn), .int .i64 1, .slice qa ls.length ca, .int .i64 mk, .string (bstr mv), .string (bstr mn), .slice q4 ms.length c4]) (by kernel_rfl) (HS0.out.later (Below.refl _ _).drew) (fun hHeld => ?_)
  try simp only [Act.put]
  have hbd : Below w0.heap.size w0 w0.drew := (Below.refl _ _).drew
  have HBd := Lib.hid (HB0.out.trans (hbd.mono HB0.out.size))
  have HSd := Lib.hid (HS0.out.later hbd)
  clear HB0 HS0
  clear hbd
  generalize w0.drew = wd at hHeld HBd HSd ⊢
  refine wpAnyH_take (i := 0) (oi := ⟨some 6, _, _, _, _, _⟩) (v := .pointer (some ⟨w.heap.size, 0, none⟩)) rfl (by kernel_rfl) (by kernel_rfl) (by kernel_rfl) (fun _ _ _ h => h) (.inl ⟨by rfl, fun w' hSw => ?_⟩) hHeld ?_
  focus (skip; clear hHeld; go_simp)
  try simp only [Act.put, List.setIfInBounds_toArray, List.set_cons_zero, List.set_cons_succ]
  refine wpAnyH_take (i := 1) (oi := ⟨some 7, _, _, _, _, _⟩) (v := .string (bstr nn)) rfl (by kernel_rfl) (by kernel_rfl) (by kernel_rfl) (fun _ _ _ h => h) (.inl ⟨by rfl, fun w' hSw => ?_⟩) hHeld ?_
  focus (have a1 := hSw.cell 0; simp only [List.getElem?_cons_zero] at a1; clear hHeld; go_simp)
  try simp only [Act.put, List.setIfInBounds_toArray, List.set_cons_zero, List.set_cons_succ]
  refine wpAnyH_take (i := 3) (oi := ⟨some 9, _, _, _, _, _⟩) (v := .pointer (some ⟨w.heap.size, 1, none⟩)) rfl (by kernel_rfl) (by kernel_rfl) (by kernel_rfl) (fun _ _ _ h => h) (.inl ⟨by rfl, fun w' hSw => ?_⟩) hHeld ?_
  focus (skip; clear hHeld; go_simp)
  try simp only [Act.put, List.setIfInBounds_toArray, List.set_cons_zero, List.set_cons_succ]
  refine wpAnyH_take (i := 4) (oi := ⟨some 10, _, _, _, _, _⟩) (v := .int .i64 1) rfl (by kernel_rfl) (by kernel_rfl) (by kernel_rfl) (fun _ _ _ h => h) (.inl ⟨by rfl, fun w' hSw => ?_⟩) hHeld ?_
  focus (have a1 := hSw.cell 1; simp only [List.getElem?_cons_zero, List.getElem?_cons_succ] at a1; clear hHeld; go_simp)
  try simp only [Act.put, List.setIfInBounds_toArray, List.set_cons_zero, List.set_cons_succ]
  refine wpAnyH_ready (rs := [2]) (by kernel_rfl) (by simp) ?_
  refine AllReadyH.cons (o := ⟨some 8, _, _, _, _, _⟩) rfl (fun K' hK' => ?_) AllReadyH.nil
  refine stepw_call (by rfl) ?_ (putS_text nn (by have := HNL.out; omega) wd) ?_
  focus go_simp
  rintro vx w1 ⟨ox, bbx⟩
  have HB1 := Lib.hid (HBd.out.trans (bbx.mono HBd.out.size))
  have HS1 := Lib.hid (HSd.out.later bbx)
  have HRx1 := Lib.hid (Rd.of_own ox)
  obtain ⟨qx, cx, rfl⟩ := own_form ox
  clear ox bbx
  clear HBd HSd
  refine hK'.out _ _ HS1.out (fun _ => ?_)
  clear hK' K' hHeld
  have hHeld := HS1.out
  try simp only [Act.put, List.setIfInBounds_toArray, List.set_cons_zero, List.set_cons_succ]
  refine wpAnyH_ready (rs := [5]) (by kernel_rfl) (by simp) ?_
  refine AllReadyH.cons (o := ⟨some 11, _, _, _, _, _⟩) rfl (fun K' hK' => ?_) AllReadyH.nil
  refine stepw_call (by rfl) ?_ (putCount_any 1 (by decide) w1) ?_
  focus go_simp
  rintro vy w2 ⟨oy, bby⟩
  have HB2 := Lib.hid (HB1.out.trans (bby.mono HB1.out.size))
  have HS2 := Lib.hid (HS1.out.later bby)
  have HRx2 := Lib.hid ((HRx1.out.below bby (Nat.le_refl _)).mono bby.size)
  clear HRx1
  have HRy2 := Lib.hid (Rd.of_own oy)
  obtain ⟨qy, cy, rfl⟩ := own_form oy
  clear oy bby
  clear HB1 HS1
  refine hK'.out _ _ HS2.out (fun _ => ?_)
  clear hK' K' hHeld
  have hHeld := HS2.out
  try simp only [Act.put, List.setIfInBounds_toArray, List.set_cons_zero, List.set_cons_succ]
  refine wpAnyH_ready (rs := [6]) (by kernel_rfl) (by simp) ?_
  refine AllReadyH.cons (o := ⟨some 12, _, _, _, _, _⟩) rfl (fun K' hK' => ?_) AllReadyH.nil
  go_simp
  have hbb : Below w2.heap.size w2 (w2.alloc (.cells #[.slice qx (putS (bstr nn)).length cx, .slice qy (put 1).length cy] 22)) := (Below.refl _ _).alloc (Nat.le_refl _) _
  have HBs := Lib.hid (HB2.out.trans (hbb.mono HB2.out.size))
  have HSs := Lib.hid (HS2.out.later hbb)
  have HRA : Hid (RdAll (w2.alloc (.cells #[.slice qx (putS (bstr nn)).length cx, .slice qy (put 1).length cy] 22)).heap.size (w2.alloc (.cells #[.slice qx (putS (bstr nn)).length cx, .slice qy (put 1).length cy] 22)) (some ⟨w2.heap.size, 0, none⟩) [putS (bstr nn), put 1]) := rd_two HRx2.out HRy2.out
  clear hbb HRx2 HRy2
  clear HB2 HS2
  obtain ⟨gs, hgs⟩ : ∃ g, g = w2.heap.size := ⟨_, rfl⟩
  rw [← hgs] at HRA ⊢
  generalize (w2.alloc (.cells #[.slice qx (putS (bstr nn)).length cx, .slice qy (put 1).length cy] 22)) = ws at HRA HBs HSs ⊢
  clear hgs
  have HWW : Hid (w.heap.size + 1 ≤ ws.heap.size) := HSs.out.lt
  refine hK'.out _ _ HSs.out (fun _ => ?_)
  clear hK' K' hHeld
  have hHeld := HSs.out
  try simp only [Act.put, List.setIfInBounds_toArray, List.set_cons_zero, List.set_cons_succ]
  refine wpAnyH_ready (rs := [7]) (by kernel_rfl) (by simp) ?_
  refine AllReadyH.cons (o := ⟨some 13, _, _, _, _, _⟩) rfl (fun K' hK' => ?_) AllReadyH.nil
  refine stepw_call (by rfl) ?_ (join_any (cap := 2) HRA.out (Nat.le_refl _) (by show 2 ≤ 140737488355328; decide) (by have := HTJ.out; simpa [total] using this)) ?_
  focus go_simp
  rintro vj wj ⟨oj, bj⟩
  have HBj := Lib.hid (HBs.out.trans (bj.mono HBs.out.size))
  have HSj := Lib.hid (HSs.out.later bj)
  have HOJ : Hid (wj.ownsRow ws.heap.size 5 1 vj ((putS (bstr nn)) ++ (put 1)).length (bvs ((putS (bstr nn)) ++ (put 1)))) := by show World.ownsRow _ _ _ _ _ _ _; simpa using oj
  have HSJ : Hid (ws.heap.size ≤ wj.heap.size) := bj.size
  clear oj bj HRA
  clear HBs HSs
  refine hK'.out _ _ HSj.out (fun _ => ?_)
  clear hK' K' hHeld
  have hHeld := HSj.out
  try simp only [Act.put, List.setIfInBounds_toArray, List.set_cons_zero, List.set_cons_succ]
  refine wpAnyH_ready (rs := [8]) (by kernel_rfl) (by simp) ?_
  refine AllReadyH.cons (o := ⟨some 3, _, _, _, _, _⟩) rfl (fun K' hK' => ?_) AllReadyH.nil
  go_simp
  obtain ⟨qj, cj, rfl⟩ := own_form HOJ.out
  obtain ⟨A, hA⟩ : ∃ A, A = (putS (bstr nn)) ++ (put 1) := ⟨_, rfl⟩
  have hAL : (putS (bstr nn)).length + (put 1).length = A.length := by rw [hA, List.length_append]
  have HO : Hid (wj.ownsRow (w.heap.size + 1) 5 1 (.slice qj A.length cj) A.length (bvs A)) := by show World.ownsRow _ _ _ _ _ _ _; rw [hA]; exact own_le HOJ.out HWW.out
  have HQ : Hid (T = A ++ (put ls.length ++ (ls.map putA).flatten)) := by show _ = _; rw [HTE.out, hA]; simp [putM]
  have HAL := Lib.hid (show A.length ≤ 1000 by have := HTN.out; have h2 : (put 1).length ≤ 10 := put_small _ (by decide); rw [← hAL]; omega)
  try rw [List.length_append]
  rw [hAL]
  have HB := HBj
  have HS := HSj
  clear hA hAL HOJ HSJ HTE HBj HSj
  refine hK'.out _ _ HS.out (fun _ => ?_)
  clear hK' K' hHeld
  try simp only [Act.put, List.setIfInBounds_toArray, List.set_cons_zero, List.set_cons_succ]
  refine wpAnyH_done (by kernel_rfl) ?_ _
  refine NoPanic.normal ?_
  have x0 := HS.out.cell 0
  have y0 := HS.out.free 0
  have x1 := HS.out.cell 1
  have y1 := HS.out.free 1
  have x2 := HS.out.cell 2
  have y2 := HS.out.free 2
  have x3 := HS.out.cell 3
  have y3 := HS.out.free 3
  have x4 := HS.out.cell 4
  have y4 := HS.out.free 4
  have x5 := HS.out.cell 5
  have y5 := HS.out.free 5
  have x6 := HS.out.cell 6
  have y6 := HS.out.free 6
  simp only [List.getElem?_cons_zero, List.getElem?_cons_succ] at x0 x1 x2 x3 x4 x5 x6
  go_wp2_with fail
  refine (putCount_any ls.length (by have := HKL.out; omega) wj).mono ?_
  rintro e wa ⟨vm, rfl, om, bm⟩
  have HOA := Lib.hid (own_below HO.out bm)
  have HBA := Lib.hid (HB.out.trans (bm.mono HB.out.size))
  have HAA := Lib.hid (HS.out.later bm)
  have HRM := Lib.hid (Rd.of_own om)
  obtain ⟨qm, cm, rfl⟩ := own_form om
  have HPL : Hid ((put ls.length).length ≤ 10) := put_small _ (by have := HKL.out; unfold lim64; omega)
  have HLN : Hid (A.length + (put ls.length).length ≤ 140737488355328) := app_len (Nat.le_trans HAL.out (by decide)) (Nat.le_trans HPL.out (by decide))
  have HWB : Hid (w.heap.size + 1 ≤ wa.heap.size) := HAA.out.lt
  clear om bm HO HB HS x0 x1 x2 x3 x4 x5 x6 y0 y1 y2 y3 y4 y5 y6
  go_wp2_with (at_builtin; refine app_bytes rfl _ _ rfl rfl HOA.out rfl HRM.out HLN.out HWB.out ?_)
  intro vn wn hown hg
  have HB2 := Lib.hid (below_grown HBA.out HBA.out.size (Nat.le_succ _) HOA.out hg)
  have HM2 : Hid (Arr wn 66 w.heap.size [.string (bstr nn), .int .i64 1, .slice qa ls.length ca, .int .i64 mk, .string (bstr mv), .string (bstr mn), .slice q4 ms.length c4]) := (hg.block _ HAA.out.lt (fun e => by have := (HOA.out.lt _ e.symm).1; omega)).trans HAA.out
  obtain ⟨qn, cn, rfl⟩ := own_form hown
  obtain ⟨A2, hA⟩ : ∃ x, x = A ++ put ls.length := ⟨_, rfl⟩
  have hAL : A.length + (put ls.length).length = A2.length := by rw [hA, List.length_append]
  have HO2 : Hid (wn.ownsRow (w.heap.size + 1) 5 1 (.slice qn A2.length cn) A2.length (bvs A2)) := by show World.ownsRow _ _ _ _ _ _ _; rw [hA]; simpa using hown
  have HQ2 : Hid (T = A2 ++ ((ls.drop 0).map putA).flatten) := by show _ = _; rw [HQ.out, hA]; simp
  rw [hAL]
  clear hAL hown hg HOA HBA HAA HRM HLN HWB HPL hA HQ HAL
  have x0 := HM2.out.cell 0
  have y0 := HM2.out.free 0
  have x1 := HM2.out.cell 1
  have y1 := HM2.out.free 1
  have x2 := HM2.out.cell 2
  have y2 := HM2.out.free 2
  have x3 := HM2.out.cell 3
  have y3 := HM2.out.free 3
  have x4 := HM2.out.cell 4
  have y4 := HM2.out.free 4
  have x5 := HM2.out.cell 5
  have y5 := HM2.out.free 5
  have x6 := HM2.out.cell 6
  have y6 := HM2.out.free 6
  simp only [List.getElem?_cons_zero, List.getElem?_cons_succ] at x0 x1 x2 x3 x4 x5 x6
  go_wp2_with fail
  clear x0 x1 x2 x3 x4 x5 x6 y0 y1 y2 y3 y4 y5 y6
  go_loopw [3, 31] (fun bv iv wr => ∃ (i : Nat) (A : List UInt8) (qb : Option Addr) (cb : Nat), i ≤ ls.length ∧ iv = .int .i64 (i : Nat) ∧ bv = .slice qb A.length cb ∧ Hid (wr.ownsRow (w.heap.size + 1) 5 1 (.slice qb A.length cb) A.length (bvs A)) ∧ Hid (Below w.heap.size w wr) ∧ Hid (Arr wr 66 w.heap.size [.string (bstr nn), .int .i64 1, .slice qa ls.length ca, .int .i64 mk, .string (bstr mv), .string (bstr mn), .slice q4 ms.length c4]) ∧ Hid (T = A ++ ((ls.drop i).map putA).flatten)) (fun _ iv _ => ls.length - (intOf iv).toNat)
  case atStart => exact ⟨0, A2, qn, cn, Nat.zero_le _, rfl, rfl, HO2.out, HB2.out, HM2.out, HQ2.out⟩
  case round =>
    obtain ⟨i, A, qb, cb, hi, rfl, rfl, HO, HB, HM, HQ⟩ := hrel
    by_cases hlt : i < ls.length
    · have hlt' : (i : Int) < ls.length := by omega
      have hi0 : (0 : Int) ≤ i := by omega
      have hw : wrap64 ((i : Int) + 1) = (i : Int) + 1 := by unfold wrap64; have := HKL.out; omega
      obtain ⟨ba, oa, hqa, hba, e1, e2⟩ := HRA0.out.at hlt
      have E1 := (HB.out.cell (p := ⟨ba, oa + i * 2, none⟩) (hP _ hba)).trans e1
      have E2 := (HB.out.cell (p := ⟨ba, oa + i * 2 + 1, none⟩) (hP _ hba)).trans e2
      obtain ⟨al, hal⟩ : ∃ al, al = ls.getD i ([], []) := ⟨_, rfl⟩
      rw [← hal] at E1 E2
      have hmem : al ∈ ls := by rw [hal, List.getD_eq_getElem?_getD, List.getElem?_eq_getElem hlt]; exact List.getElem_mem hlt
      have HGD := Lib.hid (HGA0.out al hmem)
      have HQ2 : Hid (T = A ++ (putA al ++ ((ls.drop (i + 1)).map putA).flatten)) := by
        show _ = _
        rw [HQ.out, List.drop_eq_getElem_cons hlt, List.map_cons, List.flatten_cons, hal, List.getD_eq_getElem?_getD, List.getElem?_eq_getElem hlt]; rfl
      obtain ⟨al1, al2⟩ := al
      have HTA : Hid ((putS (bstr al1)).length ≤ 80 ∧ (putS (bstr al2)).length ≤ 80) := putA_len HGD.out
      have HTJ2 : Hid ((putS (bstr al1)).length + (putS (bstr al2)).length ≤ 140737488355328) := by have := HTA.out; show _ ≤ _; omega
      have HAN : Hid (al1.length ≤ 64 ∧ al2.length ≤ 64) := ⟨name_len HGD.out.1, by rcases HGD.out.2 with h | h; rw [show al2 = [] from h]; exact Nat.zero_le _; exact name_len h⟩
      have HAL : Hid (A.length ≤ 100000) := by have := HT.out; rw [HQ2.out, List.length_append] at this; show _ ≤ _; omega
      have HLT : Hid (i < ls.length) := hlt
      subst hqa
      dsimp only [] at E1 E2
      have hbq : Below wr.heap.size wr (wr.alloc (.cells #[.string (bstr al1), .string (bstr al2)] 70)) := (Below.refl _ _).alloc (Nat.le_refl _) _
      have HOq := Lib.hid (own_below HO.out hbq)
      have HBq := Lib.hid (HB.out.trans (hbq.mono HB.out.size))
      have HMq := Lib.hid (HM.out.later hbq)
      have HSq : Hid (Arr (wr.alloc (.cells #[.string (bstr al1), .string (bstr al2)] 70)) 70 wr.heap.size [.string (bstr al1), .string (bstr al2)]) := Arr.new' _ _ _ _ rfl
      have HGA : Hid (∀ g, (Value.slice qb A.length cb).ownBlock = some g → g < wr.heap.size) := fun g hg => (HO.out.lt g hg).2
      clear hal hmem HGD e1 e2 hba HO HB HM HQ hbq hlt
      go_upto_region 8 with (fail)
      obtain ⟨gA, hgA⟩ : ∃ g, g = wr.heap.size := ⟨_, rfl⟩
      rw [← hgA] at HSq HGA ⊢
      generalize wr.alloc (.cells #[.string (bstr al1), .string (bstr al2)] 70) = wq at HOq HBq HMq HSq ⊢
      clear hgA E1 E2
      refine wp_region_noPanic ?_
      refine wp_region_held_drew (S := fun W' => Arr W' 70 gA [.string (bstr al1), .string (bstr al2)]) (by kernel_rfl) (HSq.out.later (Below.refl _ _).drew) (fun hHeld => ?_)
      try simp only [Act.put]
      have hbd : Below wq.heap.size wq wq.drew := (Below.refl _ _).drew
      have HBd := Lib.hid (HBq.out.trans (hbd.mono HBq.out.size))
      have HSd := Lib.hid (HSq.out.later hbd)
      have HOd := Lib.hid (own_below HOq.out hbd)
      have HMd := Lib.hid (HMq.out.later hbd)
      clear HBq HSq HOq HMq
      clear hbd
      generalize wq.drew = wd at hHeld HBd HSd HOd HMd ⊢
      refine wpAnyH_take (i := 0) (oi := ⟨some 35, _, _, _, _, _⟩) (v := .slice qb A.length cb) rfl (by kernel_rfl) (by kernel_rfl) (by kernel_rfl) (fun _ _ _ h => h) (.inl ⟨by rfl, fun w' hSw => ?_⟩) hHeld ?_
      focus (skip; clear hHeld; go_simp)
      try simp only [Act.put, List.setIfInBounds_toArray, List.set_cons_zero, List.set_cons_succ]
      refine wpAnyH_take (i := 1) (oi := ⟨some 36, _, _, _, _, _⟩) (v := .pointer (some ⟨gA, 0, none⟩)) rfl (by kernel_rfl) (by kernel_rfl) (by kernel_rfl) (fun _ _ _ h => h) (.inl ⟨by rfl, fun w' hSw => ?_⟩) hHeld ?_
      focus (skip; clear hHeld; go_simp)
      try simp only [Act.put, List.setIfInBounds_toArray, List.set_cons_zero, List.set_cons_succ]
      refine wpAnyH_take (i := 2) (oi := ⟨some 37, _, _, _, _, _⟩) (v := .string (bstr al1)) rfl (by kernel_rfl) (by kernel_rfl) (by kernel_rfl) (fun _ _ _ h => h) (.inl ⟨by rfl, fun w' hSw => ?_⟩) hHeld ?_
      focus (have a1 := hSw.cell 0; simp only [List.getElem?_cons_zero] at a1; clear hHeld; go_simp)
      try simp only [Act.put, List.setIfInBounds_toArray, List.set_cons_zero, List.set_cons_succ]
      refine wpAnyH_take (i := 4) (oi := ⟨some 39, _, _, _, _, _⟩) (v := .pointer (some ⟨gA, 1, none⟩)) rfl (by kernel_rfl) (by kernel_rfl) (by kernel_rfl) (fun _ _ _ h => h) (.inl ⟨by rfl, fun w' hSw => ?_⟩) hHeld ?_
      focus (skip; clear hHeld; go_simp)
      try simp only [Act.put, List.setIfInBounds_toArray, List.set_cons_zero, List.set_cons_succ]
      refine wpAnyH_take (i := 5) (oi := ⟨some 40, _, _, _, _, _⟩) (v := .string (bstr al2)) rfl (by kernel_rfl) (by kernel_rfl) (by kernel_rfl) (fun _ _ _ h => h) (.inl ⟨by rfl, fun w' hSw => ?_⟩) hHeld ?_
      focus (have a1 := hSw.cell 1; simp only [List.getElem?_cons_zero, List.getElem?_cons_succ] at a1; clear hHeld; go_simp)
      try simp only [Act.put, List.setIfInBounds_toArray, List.set_cons_zero, List.set_cons_succ]
      refine wpAnyH_ready (rs := [3]) (by kernel_rfl) (by simp) ?_
      refine AllReadyH.cons (o := ⟨some 38, _, _, _, _, _⟩) rfl (fun K' hK' => ?_) AllReadyH.nil
      refine stepw_call (by rfl) ?_ (putS_text al1 (by have := HAN.out; omega) wd) ?_
      focus go_simp
      rintro vx w1 ⟨ox, bbx⟩
      have HB1 := Lib.hid (HBd.out.trans (bbx.mono HBd.out.size))
      have HS1 := Lib.hid (HSd.out.later bbx)
      have HO1 := Lib.hid (own_below HOd.out bbx)
      have HM1 := Lib.hid (HMd.out.later bbx)
      have HRx1 := Lib.hid (Rd.of_own ox)
      obtain ⟨qx, cx, rfl⟩ := own_form ox
      clear ox bbx
      clear HBd HSd HOd HMd
      refine hK'.out _ _ HS1.out (fun _ => ?_)
      clear hK' K' hHeld
      have hHeld := HS1.out
      try simp only [Act.put, List.setIfInBounds_toArray, List.set_cons_zero, List.set_cons_succ]
      refine wpAnyH_ready (rs := [6]) (by kernel_rfl) (by simp) ?_
      refine AllReadyH.cons (o := ⟨some 41, _, _, _, _, _⟩) rfl (fun K' hK' => ?_) AllReadyH.nil
      refine stepw_call (by rfl) ?_ (putS_text al2 (by have := HAN.out; omega) w1) ?_
      focus go_simp
      rintro vy w2 ⟨oy, bby⟩
      have HB2 := Lib.hid (HB1.out.trans (bby.mono HB1.out.size))
      have HS2 := Lib.hid (HS1.out.later bby)
      have HO2 := Lib.hid (own_below HO1.out bby)
      have HM2 := Lib.hid (HM1.out.later bby)
      have HRx2 := Lib.hid ((HRx1.out.below bby (Nat.le_refl _)).mono bby.size)
      clear HRx1
      have HRy2 := Lib.hid (Rd.of_own oy)
      obtain ⟨qy, cy, rfl⟩ := own_form oy
      clear oy bby
      clear HB1 HS1 HO1 HM1
      refine hK'.out _ _ HS2.out (fun _ => ?_)
      clear hK' K' hHeld
      have hHeld := HS2.out
      try simp only [Act.put, List.setIfInBounds_toArray, List.set_cons_zero, List.set_cons_succ]
      refine wpAnyH_ready (rs := [7]) (by kernel_rfl) (by simp) ?_
      refine AllReadyH.cons (o := ⟨some 42, _, _, _, _, _⟩) rfl (fun K' hK' => ?_) AllReadyH.nil
      go_simp
      have hbb : Below w2.heap.size w2 (w2.alloc (.cells #[.slice qx (putS (bstr al1)).length cx, .slice qy (putS (bstr al2)).length cy] 22)) := (Below.refl _ _).alloc (Nat.le_refl _) _
      have HBs := Lib.hid (HB2.out.trans (hbb.mono HB2.out.size))
      have HSs := Lib.hid (HS2.out.later hbb)
      have HOs := Lib.hid (own_below HO2.out hbb)
      have HMs := Lib.hid (HM2.out.later hbb)
      have HRA : Hid (RdAll (w2.alloc (.cells #[.slice qx (putS (bstr al1)).length cx, .slice qy (putS (bstr al2)).length cy] 22)).heap.size (w2.alloc (.cells #[.slice qx (putS (bstr al1)).length cx, .slice qy (putS (bstr al2)).length cy] 22)) (some ⟨w2.heap.size, 0, none⟩) [putS (bstr al1), putS (bstr al2)]) := rd_two HRx2.out HRy2.out
      clear hbb HRx2 HRy2
      clear HB2 HS2 HO2 HM2
      obtain ⟨gs, hgs⟩ : ∃ g, g = w2.heap.size := ⟨_, rfl⟩
      rw [← hgs] at HRA ⊢
      generalize (w2.alloc (.cells #[.slice qx (putS (bstr al1)).length cx, .slice qy (putS (bstr al2)).length cy] 22)) = ws at HRA HBs HSs HOs HMs ⊢
      clear hgs
      refine hK'.out _ _ HSs.out (fun _ => ?_)
      clear hK' K' hHeld
      have hHeld := HSs.out
      try simp only [Act.put, List.setIfInBounds_toArray, List.set_cons_zero, List.set_cons_succ]
      refine wpAnyH_ready (rs := [8]) (by kernel_rfl) (by simp) ?_
      refine AllReadyH.cons (o := ⟨some 43, _, _, _, _, _⟩) rfl (fun K' hK' => ?_) AllReadyH.nil
      refine stepw_call (by rfl) ?_ (join_any (cap := 2) HRA.out (Nat.le_refl _) (by show 2 ≤ 140737488355328; decide) (by have := HTJ2.out; simpa [total] using this)) ?_
      focus go_simp
      rintro vj wj ⟨oj, bj⟩
      have HBj := Lib.hid (HBs.out.trans (bj.mono HBs.out.size))
      have HSj := Lib.hid (HSs.out.later bj)
      have HOj := Lib.hid (own_below HOs.out bj)
      have HMj := Lib.hid (HMs.out.later bj)
      have HOJ : Hid (wj.ownsRow ws.heap.size 5 1 vj ((putS (bstr al1)) ++ (putS (bstr al2))).length (bvs ((putS (bstr al1)) ++ (putS (bstr al2))))) := by show World.ownsRow _ _ _ _ _ _ _; simpa using oj
      have HSJ : Hid (ws.heap.size ≤ wj.heap.size) := bj.size
      clear oj bj HRA
      clear HBs HSs HOs HMs
      refine hK'.out _ _ HSj.out (fun _ => ?_)
      clear hK' K' hHeld
      have hHeld := HSj.out
      try simp only [Act.put, List.setIfInBounds_toArray, List.set_cons_zero, List.set_cons_succ]
      refine wpAnyH_ready (rs := [9]) (by kernel_rfl) (by simp) ?_
      refine AllReadyH.cons (o := ⟨some 44, _, _, _, _, _⟩) rfl (fun K' hK' => ?_) AllReadyH.nil
      obtain ⟨qj, cj, rfl⟩ := own_form HOJ.out
      obtain ⟨J, hJ⟩ : ∃ J, J = (putS (bstr al1)) ++ (putS (bstr al2)) := ⟨_, rfl⟩
      have HJL := Lib.hid (show J.length ≤ 1000 by have := HTA.out; rw [hJ, List.length_append]; omega)
      have HJP := Lib.hid (show 0 < J.length by rw [hJ, List.length_append]; have h9 : 1 ≤ (putS (bstr al1)).length := by unfold putS; rw [List.length_append]; have := put_pos (bstr al1).size; omega
                                                omega)
      rw [← hJ] at HOJ
      have HRJ := Lib.hid (Rd.of_own HOJ.out)
      try rw [← List.length_append, ← hJ]
      try rw [← hJ]
      refine stepA rfl (.tmp 35) (.tmp 43) rfl rfl HOj.out rfl HRJ.out HJP.out (app_len (Nat.le_trans HAL.out (by decide)) (Nat.le_trans HJL.out (by decide))) (by have := HMj.out.lt; omega) ?_
      intro vn wn hown hg
      have HBn := Lib.hid (below_grown HBj.out HBj.out.size (Nat.le_succ _) HOj.out hg)
      have HMn : Hid (Arr wn 66 w.heap.size [.string (bstr nn), .int .i64 1, .slice (some ⟨ba, oa, none⟩) ls.length ca, .int .i64 mk, .string (bstr mv), .string (bstr mn), .slice q4 ms.length c4]) := (hg.block _ HMj.out.lt (fun e => by have := (HOj.out.lt _ e.symm).1; omega)).trans HMj.out
      have HSn : Hid (Arr wn 70 gA [.string (bstr al1), .string (bstr al2)]) := (hg.block _ HSj.out.lt (fun e => by have := HGA.out _ e.symm; omega)).trans HSj.out
      obtain ⟨qn, cn, rfl⟩ := own_form hown
      obtain ⟨A2, hA⟩ : ∃ A2, A2 = A ++ J := ⟨_, rfl⟩
      have HOn : Hid (wn.ownsRow (w.heap.size + 1) 5 1 (.slice qn A2.length cn) A2.length (bvs A2)) := by show World.ownsRow _ _ _ _ _ _ _; rw [hA]; simpa using hown
      have HQn : Hid (T = A2 ++ ((ls.drop (i + 1)).map putA).flatten) := by show _ = _; rw [hA, hJ, HQ2.out]; simp [putA]
      have hAL2 : (A ++ J).length = A2.length := by rw [hA]
      rw [hAL2]
      clear hown hg hA hAL2 hJ HOJ HRJ HOj HBj HMj HSj HSJ
      refine hK'.out _ _ HSn.out (fun _ => ?_)
      clear hK' K' hHeld
      have hHeld := HSn.out
      try simp only [Act.put, List.setIfInBounds_toArray, List.set_cons_zero, List.set_cons_succ]
      refine wpAnyH_ready (rs := [10]) (by kernel_rfl) (by simp) ?_
      refine AllReadyH.cons (o := ⟨some 3, _, _, _, _, _⟩) rfl (fun K' hK' => ?_) AllReadyH.nil
      go_simp
      refine hK'.out _ _ HSn.out (fun _ => ?_)
      clear hK' K' hHeld
      try simp only [Act.put, List.setIfInBounds_toArray, List.set_cons_zero, List.set_cons_succ]
      refine wpAnyH_done (by kernel_rfl) ?_ _
      refine NoPanic.normal ?_
      go_wp2_with fail
      go_roundw
      case rel => exact ⟨i + 1, A2, qn, cn, HLT.out, by go_num, rfl, HOn.out, HBn.out, HMn.out, HQn.out⟩
      case measure => first | exact meas HLT.out (Nat.le_trans HKL.out (by decide)) | exact meas' HLT.out
    · have hlt' : ¬ (i : Int) < ls.length := by omega
      have hd : ls.drop i = [] := List.drop_eq_nil_of_le (by omega)
      rw [hd] at HQ
      have HQ9 : Hid (T = A) := by show _ = _; rw [HQ.out]; simp
      go_wp2_with fail
      go_ret
      rw [HQ9.out]
      exact ⟨_, rfl, own_le HO.out (Nat.le_succ _), HB.out⟩
end Go.Proofs.YtdnmgemjhpkekaaGreatDoor
/-
  Put: a schema of the form as bytes.
-/
namespace Go.Proofs.YtdnmgemjhpkekaaGreatDoor
open Go.ChangeShapes Go.WideShapes Go.ChangeAt Go.RowKit
set_option linter.unusedVariables false

theorem putD_len {d : DefB} (h : GoodD d) : (putD d).length ≤ 1000000 := by
  obtain ⟨n, l⟩ := d
  obtain ⟨h1, h2, h3⟩ := h
  have hn : n.length ≤ 64 := name_len h1
  have a1 : (putS (bstr n)).length ≤ 80 := by have := putS_len (bstr n) (by rw [bstr_size]; unfold lim64; omega); rw [bstr_size] at this; omega
  have h2 : l.length ≤ 64 := h2
  have a2 : (put l.length).length ≤ 10 := put_small _ (by unfold lim64; omega)
  have a3 : ∀ k : List MemB, (∀ m ∈ k, GoodM m) → ((k.map putM).flatten).length ≤ 14000 * k.length := by
    intro k
    induction k with
    | nil => intro _; exact Nat.le_refl _
    | cons m r ih =>
      intro hk
      have b1 := putM_len (hk m (by simp))
      have b2 := ih fun x hx => hk x (by simp [hx])
      rw [List.map_cons, List.flatten_cons, List.length_append, List.length_cons]
      omega
  have a4 := a3 l h3
  unfold putD
  simp only [List.length_append]
  omega
theorem putSc_len {l : List DefB} (h : GoodS l) : (putSc l).length ≤ 100000000 := by
  have h2 : l.length ≤ 64 := h.1
  have a2 : (put l.length).length ≤ 10 := put_small _ (by unfold lim64; omega)
  have a3 : ∀ k : List DefB, (∀ m ∈ k, GoodD m) → ((k.map putD).flatten).length ≤ 1000000 * k.length := by
    intro k
    induction k with
    | nil => intro _; exact Nat.le_refl _
    | cons m r ih =>
      intro hk
      have b1 := putD_len (hk m (by simp))
      have b2 := ih fun x hx => hk x (by simp [hx])
      rw [List.map_cons, List.flatten_cons, List.length_append, List.length_cons]
      omega
  have a4 := a3 l h.2
  unfold putSc
  rw [List.length_append]
  omega
theorem len_of2 {T A m r : List UInt8} (h : T = A ++ (m ++ r)) (hT : T.length ≤ 100000000) : A.length + m.length ≤ 140737488355328 := by
  rw [h] at hT
  simp only [List.length_append] at hT
  omega
/-- The call hands back a slice of the bytes l in a block of its own, and true. -/
def OwnT (W : World) (l : List UInt8) (r : Ending) (w' : World) : Prop := ∃ v, r = .returned (.tuple #[v, .bool true]) ∧ w'.ownsRow W.heap.size 5 1 v l.length (bvs l) ∧ Below W.heap.size W w'
theorem putMem_any {m : MemB} {cs : List Value} {P : Nat → Prop} {w : World} (hg : GoodM m) (h : rdMem P w m cs) (hP : ∀ b, P b → b < w.heap.size) : Calls Tryz.prog 35 #[.agg cs.toArray] w (Owned w (putM m)) := by
  obtain ⟨n, k, ls, mk, mv, mn, ms⟩ := m
  obtain ⟨vt, v3, v4, v5, v6, rfl, ha, he⟩ := h
  have ha2 := ha
  obtain ⟨q, c, rfl, _⟩ := ha
  have he2 := he
  obtain ⟨q4, c4, hv, _, _⟩ := RdE.form he
  unfold exv at hv
  simp only [Value.agg.injEq, Array.mk.injEq, List.cons.injEq, and_true] at hv
  obtain ⟨rfl, rfl, rfl, rfl⟩ := hv
  rcases hg.2 with h | h
  · obtain rfl : k = 1 := h.1
    exact putMember_1 hg ha2 he2 hP
  · obtain rfl : k = 2 := h.1
    exact putMember_2 hg ha2 he2 hP
theorem rdMem_below {P : Nat → Prop} {w w' : World} {m : MemB} {cs : List Value} (h : rdMem P w m cs) (hb : Below w.heap.size w w') (hP : ∀ b, P b → b < w.heap.size) : rdMem P w' m cs := rdMem_keep h hb hP
theorem drop_cons_of {α : Type} {l : List α} {i : Nat} {d : α} (h : l[i]? = some d) : l.drop i = d :: l.drop (i + 1) := by
  obtain ⟨hi, rfl⟩ := List.getElem?_eq_some_iff.1 h
  exact List.drop_eq_getElem_cons hi
theorem arr_grown {w w' : World} {base n : Nat} {v : Value} {l : List UInt8} {t : TypeId} {g : Nat} {cs : List Value} (hg : w.grownBy w' v.ownBlock) (ho : w.ownsRow base 5 1 v n (bvs l)) (hA : Arr w t g cs) (ht : t ≠ 5) : Arr w' t g cs := by
  refine (hg.block g hA.lt fun e => ?_).trans hA
  rcases ho.2 with ⟨rfl, _⟩ | ⟨k, cap, cur, rfl, _, hk, _⟩
  · cases e
  · obtain rfl : g = k := Option.some.inj e
    have h2 : w.heap[g]? = some (.cells cs.toArray t (0, 0)) := hA
    rw [hk] at h2
    injection h2 with h3
    injection h3 with _ h4
    exact ht h4.symm
set_option maxRecDepth 100000 in
set_option maxHeartbeats 8000000 in
theorem cPut_any (l : List DefB) (q : Option Addr) (c : Nat) (P : Nat → Prop) (w : World) (h : RdK kdDef P w l (.slice q l.length c)) (hP : ∀ b, P b → b < w.heap.size) (hg : GoodS l) (hr : ResT w) : Calls Tryz.prog 12 #[.agg #[.slice q l.length c]] w (OwnT w (putSc l)) := by
  have hb0 : Below w.heap.size w (w.alloc (.cells #[.slice q l.length c] 26)) := (Below.refl _ _).alloc (Nat.le_refl _) _
  have HB00 := Lib.hid hb0
  have HA00 : Hid (Arr (w.alloc (.cells #[.slice q l.length c] 26)) 26 w.heap.size [.slice q l.length c]) := Arr.new' _ _ _ _ rfl
  have HFM := Lib.hid (form_any l q c P (w.alloc (.cells #[.slice q l.length c] 26)) (rdK_keep h hb0 hP) (lt_keep hb0 hP) hg (hr.below hb0 hr.lt))
  have HRK := Lib.hid h
  have HG := Lib.hid hg
  have HKL : Hid (l.length ≤ 64) := hg.1
  obtain ⟨T, hT⟩ : ∃ T, T = putSc l := ⟨_, rfl⟩
  have HT : Hid (T.length ≤ 100000000) := by rw [hT]; exact putSc_len hg
  have HQ1 : Hid (T = put l.length ++ ((l.drop 0).map putD).flatten) := by show _ = _; rw [hT]; simp [putSc]
  rw [← hT]
  clear hT h hg hr hb0
  go_enter Tryz.func12, Tryz.ntmps12
  go_upto_region 1 with (fail)
  generalize w.alloc (.cells #[.slice q l.length c] 26) = w0 at HB00 HA00 HFM ⊢
  have x0 := HA00.out.cell 0
  have y0 := HA00.out.free 0
  simp only [List.getElem?_cons_zero] at x0
  go_wp2_with fail
  refine HFM.out.mono ?_
  rintro e wf ⟨rfl, bf⟩
  have HB0 := Lib.hid (HB00.out.trans (bf.mono HB00.out.size))
  have HA0 := Lib.hid (HA00.out.later bf)
  clear bf HB00 HA00 HFM x0 y0
  have x0 := HA0.out.cell 0
  have y0 := HA0.out.free 0
  simp only [List.getElem?_cons_zero] at x0
  go_wp2_with fail
  refine (putCount_any l.length (by have := HKL.out; omega) wf).mono ?_
  rintro e w1 ⟨v1, rfl, o1, b1⟩
  have HB1 := Lib.hid (HB0.out.trans (b1.mono HB0.out.size))
  have HA1 := Lib.hid (HA0.out.later b1)
  obtain ⟨q1, c1, rfl⟩ := own_form o1
  obtain ⟨A1, hA⟩ : ∃ x, x = put l.length := ⟨_, rfl⟩
  rw [← hA] at o1 HQ1 ⊢
  have HO1 : Hid (w1.ownsRow (w.heap.size + 1) 5 1 (.slice q1 A1.length c1) A1.length (bvs A1)) := own_le o1 HA0.out.lt
  clear o1 b1 HB0 HA0 hA x0 y0
  have x0 := HA1.out.cell 0
  have y0 := HA1.out.free 0
  simp only [List.getElem?_cons_zero] at x0
  go_wp2_with fail
  clear x0 y0
  go_loopw [4, 19] (fun bv iv wr => ∃ (i : Nat) (A : List UInt8) (qb : Option Addr) (cb : Nat), i ≤ l.length ∧ iv = .int .i64 (i : Nat) ∧ bv = .slice qb A.length cb ∧ Hid (wr.ownsRow (w.heap.size + 1) 5 1 (.slice qb A.length cb) A.length (bvs A)) ∧ Hid (Below w.heap.size w wr) ∧ Hid (Arr wr 26 w.heap.size [.slice q l.length c]) ∧ Hid (T = A ++ ((l.drop i).map putD).flatten)) (fun _ iv _ => l.length - (intOf iv).toNat)
  case atStart => exact ⟨0, A1, q1, c1, Nat.zero_le _, rfl, rfl, HO1.out, HB1.out, HA1.out, HQ1.out⟩
  case round =>
    obtain ⟨i, A2, q2, c2, hi, rfl, rfl, HO2x, HB2x, HA2x, HQ2x⟩ := hrel
    by_cases hlt : i < l.length
    · have hlt' : (i : Int) < l.length := by omega
      have hi0 : (0 : Int) ≤ i := by omega
      have hw : wrap64 ((i : Int) + 1) = (i : Int) + 1 := by unfold wrap64; have := HKL.out; omega
      have HLI : Hid (i < l.length) := hlt
      obtain ⟨d, hd⟩ : ∃ d, l[i]? = some d := ⟨_, List.getElem?_eq_getElem hlt⟩
      obtain ⟨db, do_, a, hq, hPd, ⟨vd, rfl, hrd⟩, hcell⟩ := RdK.at HRK.out hd
      have HGD : Hid (GoodD d) := HG.out.2 d (List.mem_of_getElem? hd)
      have E1 := (HB2x.out.cell (p := ⟨db, do_ + i * 2, none⟩) (hP _ hPd)).trans (hcell 0 _ rfl)
      have E2 := (HB2x.out.cell (p := ⟨db, do_ + i * 2 + 1, none⟩) (hP _ hPd)).trans (hcell 1 _ rfl)
      have HQ2y : Hid (T = A2 ++ (putD d ++ ((l.drop (i + 1)).map putD).flatten)) := by
        show _ = _
        rw [HQ2x.out, drop_cons_of hd, List.map_cons, List.flatten_cons]
      obtain ⟨dn, dl⟩ := d
      have hrd2 := hrd
      obtain ⟨qm1, cm1, hvd, _⟩ := hrd
      subst hvd
      have HRM0 : Hid (RdK kdMem P w dl (.slice qm1 dl.length cm1)) := hrd2
      have HNL : Hid (dn.length ≤ 64) := name_len HGD.out.1
      have HML : Hid (dl.length ≤ 64) := HGD.out.2.1
      have HGM : Hid (∀ m ∈ dl, GoodM m) := HGD.out.2.2
      have HQ2 : Hid (T = A2 ++ (putS (bstr dn) ++ (put dl.length ++ (((dl.drop 0).map putM).flatten ++ ((l.drop (i + 1)).map putD).flatten)))) := by
        show _ = _
        rw [HQ2y.out]; simp [putD]
      subst hq
      dsimp only [] at E1 E2
      have hbd : Below wr.heap.size wr (wr.alloc (.cells #[.string (bstr dn), .slice qm1 dl.length cm1] 53)) := (Below.refl _ _).alloc (Nat.le_refl _) _
      have HO2 := Lib.hid (own_below HO2x.out hbd)
      have HB2 := Lib.hid (HB2x.out.trans (hbd.mono HB2x.out.size))
      have HA2 := Lib.hid (HA2x.out.later hbd)
      have HD2 : Hid (Arr (wr.alloc (.cells #[.string (bstr dn), .slice qm1 dl.length cm1] 53)) 53 wr.heap.size [.string (bstr dn), .slice qm1 dl.length cm1]) := Arr.new' _ _ _ _ rfl
      clear hrd2 hcell hd HO2x HB2x HA2x HQ2x HQ2y hbd hlt HGD
      go_upto_region 7 with (fail)
      clear E1 E2
      obtain ⟨gd, hgd⟩ : ∃ g, g = wr.heap.size := ⟨_, rfl⟩
      rw [← hgd] at HD2 ⊢
      generalize wr.alloc (.cells #[.string (bstr dn), .slice qm1 dl.length cm1] 53) = w2 at HO2 HB2 HA2 HD2 ⊢
      clear hgd
      have x0 := HD2.out.cell 0
      have y0 := HD2.out.free 0
      have x1 := HD2.out.cell 1
      have y1 := HD2.out.free 1
      simp only [List.getElem?_cons_zero, List.getElem?_cons_succ] at x0 x1
      go_wp2_with fail
      refine (putS_text dn (by have := HNL.out; omega) w2).mono ?_
      rintro e wa ⟨vm, rfl, om, bm⟩
      have HOA := Lib.hid (own_below HO2.out bm)
      have HBA := Lib.hid (HB2.out.trans (bm.mono HB2.out.size))
      have HAa := Lib.hid (HA2.out.later bm)
      have HDa := Lib.hid (HD2.out.later bm)
      have HRM := Lib.hid (Rd.of_own om)
      obtain ⟨qm, cm, rfl⟩ := own_form om
      have HLN := Lib.hid (len_of2 HQ2.out HT.out)
      have HWB : Hid (w.heap.size + 1 ≤ wa.heap.size) := HAa.out.lt
      clear om bm HO2 HB2 HA2 HD2 x0 x1 y0 y1
      go_wp2_with (at_builtin; refine app_bytes rfl _ _ rfl rfl HOA.out rfl HRM.out HLN.out HWB.out ?_)
      intro vn wn hown hg
      have HB3 := Lib.hid (below_grown HBA.out HBA.out.size (Nat.le_succ _) HOA.out hg)
      have HA3 : Hid (Arr wn 26 w.heap.size [.slice (some ⟨db, do_, none⟩) l.length c]) := arr_grown hg HOA.out HAa.out (by decide)
      have HD3 : Hid (Arr wn 53 gd [.string (bstr dn), .slice qm1 dl.length cm1]) := arr_grown hg HOA.out HDa.out (by decide)
      obtain ⟨q3, c3, rfl⟩ := own_form hown
      obtain ⟨A3, hA⟩ : ∃ x, x = A2 ++ putS (bstr dn) := ⟨_, rfl⟩
      have hAL : A2.length + (putS (bstr dn)).length = A3.length := by rw [hA, List.length_append]
      have HO3 : Hid (wn.ownsRow (w.heap.size + 1) 5 1 (.slice q3 A3.length c3) A3.length (bvs A3)) := by show World.ownsRow _ _ _ _ _ _ _; rw [hA]; simpa using hown
      rw [hAL]
      have HQ3 : Hid (T = A3 ++ (put dl.length ++ (((dl.drop 0).map putM).flatten ++ ((l.drop (i + 1)).map putD).flatten))) := by rw [hA, List.append_assoc]; exact HQ2.out
      clear hAL hown hg HOA HBA HAa HDa HRM HLN HWB hA HQ2
      generalize wn = w3 at HB3 HA3 HD3 HO3 ⊢
      have x0 := HD3.out.cell 0
      have y0 := HD3.out.free 0
      have x1 := HD3.out.cell 1
      have y1 := HD3.out.free 1
      simp only [List.getElem?_cons_zero, List.getElem?_cons_succ] at x0 x1
      go_wp2_with fail
      refine (putCount_any dl.length (by have := HML.out; omega) w3).mono ?_
      rintro e wa ⟨vm, rfl, om, bm⟩
      have HOA := Lib.hid (own_below HO3.out bm)
      have HBA := Lib.hid (HB3.out.trans (bm.mono HB3.out.size))
      have HAa := Lib.hid (HA3.out.later bm)
      have HDa := Lib.hid (HD3.out.later bm)
      have HRM := Lib.hid (Rd.of_own om)
      obtain ⟨qm, cm, rfl⟩ := own_form om
      have HLN := Lib.hid (len_of2 HQ3.out HT.out)
      have HWB : Hid (w.heap.size + 1 ≤ wa.heap.size) := HAa.out.lt
      clear om bm HO3 HB3 HA3 HD3 x0 x1 y0 y1
      go_wp2_with (at_builtin; refine app_bytes rfl _ _ rfl rfl HOA.out rfl HRM.out HLN.out HWB.out ?_)
      intro vn wn hown hg
      have HB4 := Lib.hid (below_grown HBA.out HBA.out.size (Nat.le_succ _) HOA.out hg)
      have HA4 : Hid (Arr wn 26 w.heap.size [.slice (some ⟨db, do_, none⟩) l.length c]) := arr_grown hg HOA.out HAa.out (by decide)
      have HD4 : Hid (Arr wn 53 gd [.string (bstr dn), .slice qm1 dl.length cm1]) := arr_grown hg HOA.out HDa.out (by decide)
      obtain ⟨q4, c4, rfl⟩ := own_form hown
      obtain ⟨A4, hA⟩ : ∃ x, x = A3 ++ put dl.length := ⟨_, rfl⟩
      have hAL : A3.length + (put dl.length).length = A4.length := by rw [hA, List.length_append]
      have HO4 : Hid (wn.ownsRow (w.heap.size + 1) 5 1 (.slice q4 A4.length c4) A4.length (bvs A4)) := by show World.ownsRow _ _ _ _ _ _ _; rw [hA]; simpa using hown
      rw [hAL]
      have HQ4 : Hid (T = A4 ++ (((dl.drop 0).map putM).flatten ++ ((l.drop (i + 1)).map putD).flatten)) := by rw [hA, List.append_assoc]; exact HQ3.out
      clear hAL hown hg HOA HBA HAa HDa HRM HLN HWB hA HQ3
      generalize wn = w4 at HB4 HA4 HD4 HO4 ⊢
      have x0 := HD4.out.cell 0
      have y0 := HD4.out.free 0
      have x1 := HD4.out.cell 1
      have y1 := HD4.out.free 1
      simp only [List.getElem?_cons_zero, List.getElem?_cons_succ] at x0 x1
      go_wp2_with fail
      clear x0 x1 y0 y1
      go_loopw [4, 37] (fun bv jv wr => ∃ (j : Nat) (A : List UInt8) (qb : Option Addr) (cb : Nat), j ≤ dl.length ∧ jv = .int .i64 (j : Nat) ∧ bv = .slice qb A.length cb ∧ Hid (wr.ownsRow (w.heap.size + 1) 5 1 (.slice qb A.length cb) A.length (bvs A)) ∧ Hid (Below w.heap.size w wr) ∧ Hid (Arr wr 26 w.heap.size [.slice (some ⟨db, do_, none⟩) l.length c]) ∧ Hid (Arr wr 53 gd [.string (bstr dn), .slice qm1 dl.length cm1]) ∧ Hid (T = A ++ (((dl.drop j).map putM).flatten ++ ((l.drop (i + 1)).map putD).flatten))) (fun _ jv _ => dl.length - (intOf jv).toNat)
      case atStart => exact ⟨0, A4, q4, c4, Nat.zero_le _, rfl, rfl, HO4.out, HB4.out, HA4.out, HD4.out, HQ4.out⟩
      case round =>
        obtain ⟨j, A5, q5, c5, hj, rfl, rfl, HO5x, HB5x, HA5x, HD5x, HQ5x⟩ := hrel
        by_cases hlj : j < dl.length
        · have hlj' : (j : Int) < dl.length := by omega
          have hj0 : (0 : Int) ≤ j := by omega
          have hwj : wrap64 ((j : Int) + 1) = (j : Int) + 1 := by unfold wrap64; have := HML.out; omega
          have HLJ : Hid (j < dl.length) := hlj
          obtain ⟨x, hx⟩ : ∃ x, dl[j]? = some x := ⟨_, List.getElem?_eq_getElem hlj⟩
          obtain ⟨mb, mo, a, hq2, hPm, hrdm, hcell⟩ := RdK.at HRM0.out hx
          obtain ⟨mnm, mkk, mls, ek, ev, en, es⟩ := x
          have hrdm2 : rdMem P w (mnm, mkk, mls, .mk ek ev en es) a := hrdm
          obtain ⟨mqa, mca, eq4, ec4, rfl, _⟩ := rdMem_form hrdm2
          have HGX : Hid (GoodM (mnm, mkk, mls, .mk ek ev en es)) := HGM.out _ (List.mem_of_getElem? hx)
          have HB5 := HB5x
          have E0 := (HB5x.out.cell (p := ⟨mb, mo + j * 7 + 0, none⟩) (hP _ hPm)).trans (hcell 0 _ rfl)
          have E1 := (HB5x.out.cell (p := ⟨mb, mo + j * 7 + 1, none⟩) (hP _ hPm)).trans (hcell 1 _ rfl)
          have E2 := (HB5x.out.cell (p := ⟨mb, mo + j * 7 + 2, none⟩) (hP _ hPm)).trans (hcell 2 _ rfl)
          have E3 := (HB5x.out.cell (p := ⟨mb, mo + j * 7 + 3, none⟩) (hP _ hPm)).trans (hcell 3 _ rfl)
          have E4 := (HB5x.out.cell (p := ⟨mb, mo + j * 7 + 4, none⟩) (hP _ hPm)).trans (hcell 4 _ rfl)
          have E5 := (HB5x.out.cell (p := ⟨mb, mo + j * 7 + 5, none⟩) (hP _ hPm)).trans (hcell 5 _ rfl)
          have E6 := (HB5x.out.cell (p := ⟨mb, mo + j * 7 + 6, none⟩) (hP _ hPm)).trans (hcell 6 _ rfl)
          simp only [Nat.add_zero] at E0
          have HQ5 : Hid (T = A5 ++ (putM (mnm, mkk, mls, .mk ek ev en es) ++ (((dl.drop (j + 1)).map putM).flatten ++ ((l.drop (i + 1)).map putD).flatten))) := by
            show _ = _
            rw [HQ5x.out, drop_cons_of hx, List.map_cons, List.flatten_cons, List.append_assoc]
          subst hq2
          skip
          have hbm : Below wr.heap.size wr (wr.alloc (.cells #[.string (bstr mnm), .int .i64 mkk, .slice mqa mls.length mca, .int .i64 ek, .string (bstr ev), .string (bstr en), .slice eq4 es.length ec4] 66)) := (Below.refl _ _).alloc (Nat.le_refl _) _
          have HO5 := Lib.hid (own_below HO5x.out hbm)
          have HB5 := Lib.hid (HB5x.out.trans (hbm.mono HB5x.out.size))
          have HA5 := Lib.hid (HA5x.out.later hbm)
          have HD5 := Lib.hid (HD5x.out.later hbm)
          have HPM := Lib.hid (putMem_any HGX.out (rdMem_below hrdm2 HB5.out hP) (fun b hb => Nat.lt_of_lt_of_le (hP b hb) HB5.out.size))
          clear hrdm hrdm2 hcell hx HO5x HB5x HA5x HD5x HQ5x hbm hlj HGX
          go_wp2_with fail
          refine (HPM.out).mono ?_
          rintro e wa ⟨vm, rfl, om, bm⟩
          have HOA := Lib.hid (own_below HO5.out bm)
          have HBA := Lib.hid (HB5.out.trans (bm.mono HB5.out.size))
          have HAa := Lib.hid (HA5.out.later bm)
          have HDa := Lib.hid (HD5.out.later bm)
          have HRM := Lib.hid (Rd.of_own om)
          obtain ⟨qm, cm, rfl⟩ := own_form om
          have HLN := Lib.hid (len_of2 HQ5.out HT.out)
          have HWB : Hid (w.heap.size + 1 ≤ wa.heap.size) := HAa.out.lt
          clear om bm HO5 HB5 HA5 HD5 E0 E1 E2 E3 E4 E5 E6 HPM
          go_wp2_with (at_builtin; refine app_bytes rfl _ _ rfl rfl HOA.out rfl HRM.out HLN.out HWB.out ?_)
          intro vn wn hown hg
          have HB6 := Lib.hid (below_grown HBA.out HBA.out.size (Nat.le_succ _) HOA.out hg)
          have HA6 : Hid (Arr wn 26 w.heap.size [.slice (some ⟨db, do_, none⟩) l.length c]) := arr_grown hg HOA.out HAa.out (by decide)
          have HD6 : Hid (Arr wn 53 gd [.string (bstr dn), .slice (some ⟨mb, mo, none⟩) dl.length cm1]) := arr_grown hg HOA.out HDa.out (by decide)
          obtain ⟨q6, c6, rfl⟩ := own_form hown
          obtain ⟨A6, hA⟩ : ∃ x, x = A5 ++ putM (mnm, mkk, mls, .mk ek ev en es) := ⟨_, rfl⟩
          have hAL : A5.length + (putM (mnm, mkk, mls, .mk ek ev en es)).length = A6.length := by rw [hA, List.length_append]
          have HO6 : Hid (wn.ownsRow (w.heap.size + 1) 5 1 (.slice q6 A6.length c6) A6.length (bvs A6)) := by show World.ownsRow _ _ _ _ _ _ _; rw [hA]; simpa using hown
          rw [hAL]
          have HQ6 : Hid (T = A6 ++ (((dl.drop (j + 1)).map putM).flatten ++ ((l.drop (i + 1)).map putD).flatten)) := by rw [hA, List.append_assoc]; exact HQ5.out
          clear hAL hown hg HOA HBA HAa HDa HRM HLN HWB hA HQ5
          generalize wn = w6 at HB6 HA6 HD6 HO6 ⊢
          go_wp2_with fail
          go_roundw
          case rel => exact ⟨j + 1, A6, q6, c6, HLJ.out, by go_num, rfl, HO6.out, HB6.out, HA6.out, HD6.out, HQ6.out⟩
          case measure => first | exact meas HLJ.out (Nat.le_trans HML.out (by decide)) | exact meas' HLJ.out
        · have hlj' : ¬ (j : Int) < dl.length := by omega
          have hdj : dl.drop j = [] := List.drop_eq_nil_of_le (by omega)
          rw [hdj] at HQ5x
          have HQ9 : Hid (T = A5 ++ ((l.drop (i + 1)).map putD).flatten) := by show _ = _; rw [HQ5x.out]; simp
          clear hdj HQ5x
          go_wp2_with fail
          go_roundw
          case rel => exact ⟨i + 1, A5, q5, c5, HLI.out, by go_num, rfl, HO5x.out, HB5x.out, HA5x.out, HQ9.out⟩
          case measure => first | exact meas HLI.out (Nat.le_trans HKL.out (by decide)) | exact meas' HLI.out
    · have hlt' : ¬ (i : Int) < l.length := by omega
      have hdi : l.drop i = [] := List.drop_eq_nil_of_le (by omega)
      rw [hdi] at HQ2x
      have HQ9 : Hid (T = A2) := by show _ = _; rw [HQ2x.out]; simp
      clear hdi HQ2x
      go_wp2_with fail
      go_ret2
      rw [HQ9.out]
      exact ⟨_, rfl, own_le HO2x.out (Nat.le_succ _), HB2x.out⟩
end Go.Proofs.YtdnmgemjhpkekaaGreatDoor
/-
  PutExpr: the bytes of right expressions; none for others.
-/
namespace Go.Proofs.YtdnmgemjhpkekaaGreatDoor
open Go.ChangeShapes Go.WideShapes Go.ChangeAt Go.RowKit
set_option linter.unusedVariables false

set_option maxRecDepth 100000 in
set_option maxHeartbeats 2000000 in
theorem idxD1 {W : World} {g p : Nat} {b : Bool} {u0 u1 : Value} (hA : Arr W 53 g [u0, u1]) (HC : ∀ W', Below W.heap.size W W' → Calls Tryz.prog 82 #[.agg #[u0, u1], .pointer (some ⟨p, 0, none⟩)] W' fun r w' => r = .returned (.bool b) ∧ Below W'.heap.size W' w') :
    Calls Tryz.prog 98 #[.slice (some ⟨g, 0, none⟩) 1 1, .func (.func 82) #[] #[.pointer (some ⟨p, 0, none⟩)]] W fun r w' => r = .returned (.int .i64 (if b = true then 0 else -1)) ∧ Below W.heap.size W w' := by
  have HH := Lib.hid HC
  have a0 := hA.cell 0
  have z0 := hA.free 0
  have a1 := hA.cell 1
  have z1 := hA.free 1
  simp only [List.getElem?_cons_zero, List.getElem?_cons_succ] at a0 a1
  clear HC hA
  go_enter Tryz.func98, Tryz.ntmps98
  go_wp2_with fail
  refine wp_loop_rounds 2 ?_
  rw [rounds_succ]
  go_wp2_with fail
  refine (HH.out W (Below.refl _ _)).mono ?_
  rintro r w1 ⟨rfl, b1⟩
  have HB := Lib.hid b1
  clear b1
  cases b with
  | true =>
    go_wp2_with fail
    go_ret
    exact ⟨rfl, HB.out⟩
  | false =>
    go_wp2_with fail
    rw [rounds_succ]
    go_wp2_with fail
    go_ret
    exact ⟨rfl, HB.out⟩
set_option maxRecDepth 100000 in
set_option maxHeartbeats 2000000 in
theorem conD1 {W : World} {g p : Nat} {b : Bool} {u0 u1 : Value} (hA : Arr W 53 g [u0, u1]) (HC : ∀ W', Below W.heap.size W W' → Calls Tryz.prog 82 #[.agg #[u0, u1], .pointer (some ⟨p, 0, none⟩)] W' fun r w' => r = .returned (.bool b) ∧ Below W'.heap.size W' w') :
    Calls Tryz.prog 81 #[.slice (some ⟨g, 0, none⟩) 1 1, .func (.func 82) #[] #[.pointer (some ⟨p, 0, none⟩)]] W fun r w' => r = .returned (.bool b) ∧ Below W.heap.size W w' := by
  have HI := Lib.hid (idxD1 hA HC)
  clear HC hA
  go_enter Tryz.func81, Tryz.ntmps81
  go_wp2_with fail
  refine HI.out.mono ?_
  rintro r w1 ⟨rfl, b1⟩
  have HB := Lib.hid b1
  clear b1
  cases b with
  | true =>
    go_wp2_with fail
    go_ret
    exact ⟨rfl, HB.out⟩
  | false =>
    go_wp2_with fail
    go_ret
    exact ⟨rfl, HB.out⟩
set_option maxRecDepth 100000 in
set_option maxHeartbeats 2000000 in
theorem cloD1 {W : World} {p : Nat} {b : Bool} {u0 u1 : Value} (hp : W.cell? ⟨p, 0, none⟩ = some (.func (.func 59) #[] #[])) (HS : ∀ W', Below W.heap.size W W' → Calls Tryz.prog 59 #[.agg #[u0, u1]] W' fun r w' => r = .returned (.bool b) ∧ Below W'.heap.size W' w') :
    Calls Tryz.prog 82 #[.agg #[u0, u1], .pointer (some ⟨p, 0, none⟩)] W fun r w' => r = .returned (.bool (!b)) ∧ Below W.heap.size W w' := by
  have HB0 : Hid (Below W.heap.size W (W.alloc (.cells #[u0, u1] 53))) := (Below.refl _ _).alloc (Nat.le_refl _) _
  have HH := Lib.hid (HS _ HB0.out)
  have hp1 := (HB0.out.cell (p := ⟨p, 0, none⟩) (World.block_lt_of_cell? W _ hp)).trans hp
  clear HS hp
  go_enter Tryz.func82, Tryz.ntmps82
  go_wp2_with fail
  refine HH.out.mono ?_
  rintro r w1 ⟨rfl, b1⟩
  have HB := Lib.hid (HB0.out.trans (b1.mono HB0.out.size))
  clear b1
  go_wp2_with fail
  go_ret
  exact ⟨rfl, HB.out⟩
set_option maxRecDepth 100000 in
set_option maxHeartbeats 2000000 in
theorem allD1 {W : World} {g : Nat} {b : Bool} {u0 u1 : Value} (hA : Arr W 53 g [u0, u1]) (HS : ∀ W', Below W.heap.size W W' → Calls Tryz.prog 59 #[.agg #[u0, u1]] W' fun r w' => r = .returned (.bool b) ∧ Below W'.heap.size W' w') :
    Calls Tryz.prog 58 #[.slice (some ⟨g, 0, none⟩) 1 1, .func (.func 59) #[] #[]] W fun r w' => r = .returned (.bool b) ∧ Below W.heap.size W w' := by
  have HB0 : Hid (Below W.heap.size W (W.alloc (.cells #[.func (.func 59) #[] #[]] 110))) := (Below.refl _ _).alloc (Nat.le_refl _) _
  have hbox : Arr (W.alloc (.cells #[.func (.func 59) #[] #[]] 110)) 110 W.heap.size [.func (.func 59) #[] #[]] := Arr.new' _ _ _ _ rfl
  have HI := Lib.hid (conD1 (p := W.heap.size) (b := !b) (hA.alloc _) fun W' hW => cloD1 (b := b) ((hW.cell (p := ⟨W.heap.size, 0, none⟩) hbox.lt).trans (hbox.cell 0)) fun W2 h2 => HS W2 (HB0.out.trans (((hW.trans (h2.mono hW.size))).mono HB0.out.size)))
  clear HS hA hbox
  go_enter Tryz.func58, Tryz.ntmps58
  go_wp2_with fail
  refine HI.out.mono ?_
  rintro r w1 ⟨rfl, b1⟩
  have HB := Lib.hid (HB0.out.trans (b1.mono HB0.out.size))
  clear b1
  go_wp2_with fail
  go_ret
  exact ⟨rfl, HB.out⟩
set_option maxRecDepth 100000 in
set_option maxHeartbeats 2000000 in
theorem idxM1 {W : World} {g p : Nat} {b : Bool} {u0 u1 u2 u3 u4 u5 u6 : Value} (hA : Arr W 66 g [u0, u1, u2, u3, u4, u5, u6]) (HC : ∀ W', Below W.heap.size W W' → Calls Tryz.prog 100 #[.agg #[u0, u1, u2, u3, u4, u5, u6], .pointer (some ⟨p, 0, none⟩)] W' fun r w' => r = .returned (.bool b) ∧ Below W'.heap.size W' w') :
    Calls Tryz.prog 109 #[.slice (some ⟨g, 0, none⟩) 1 1, .func (.func 100) #[] #[.pointer (some ⟨p, 0, none⟩)]] W fun r w' => r = .returned (.int .i64 (if b = true then 0 else -1)) ∧ Below W.heap.size W w' := by
  have HH := Lib.hid HC
  have a0 := hA.cell 0
  have z0 := hA.free 0
  have a1 := hA.cell 1
  have z1 := hA.free 1
  have a2 := hA.cell 2
  have z2 := hA.free 2
  have a3 := hA.cell 3
  have z3 := hA.free 3
  have a4 := hA.cell 4
  have z4 := hA.free 4
  have a5 := hA.cell 5
  have z5 := hA.free 5
  have a6 := hA.cell 6
  have z6 := hA.free 6
  simp only [List.getElem?_cons_zero, List.getElem?_cons_succ] at a0 a1 a2 a3 a4 a5 a6
  clear HC hA
  go_enter Tryz.func109, Tryz.ntmps109
  go_wp2_with fail
  refine wp_loop_rounds 2 ?_
  rw [rounds_succ]
  go_wp2_with fail
  refine (HH.out W (Below.refl _ _)).mono ?_
  rintro r w1 ⟨rfl, b1⟩
  have HB := Lib.hid b1
  clear b1
  cases b with
  | true =>
    go_wp2_with fail
    go_ret
    exact ⟨rfl, HB.out⟩
  | false =>
    go_wp2_with fail
    rw [rounds_succ]
    go_wp2_with fail
    go_ret
    exact ⟨rfl, HB.out⟩
set_option maxRecDepth 100000 in
set_option maxHeartbeats 2000000 in
theorem conM1 {W : World} {g p : Nat} {b : Bool} {u0 u1 u2 u3 u4 u5 u6 : Value} (hA : Arr W 66 g [u0, u1, u2, u3, u4, u5, u6]) (HC : ∀ W', Below W.heap.size W W' → Calls Tryz.prog 100 #[.agg #[u0, u1, u2, u3, u4, u5, u6], .pointer (some ⟨p, 0, none⟩)] W' fun r w' => r = .returned (.bool b) ∧ Below W'.heap.size W' w') :
    Calls Tryz.prog 99 #[.slice (some ⟨g, 0, none⟩) 1 1, .func (.func 100) #[] #[.pointer (some ⟨p, 0, none⟩)]] W fun r w' => r = .returned (.bool b) ∧ Below W.heap.size W w' := by
  have HI := Lib.hid (idxM1 hA HC)
  clear HC hA
  go_enter Tryz.func99, Tryz.ntmps99
  go_wp2_with fail
  refine HI.out.mono ?_
  rintro r w1 ⟨rfl, b1⟩
  have HB := Lib.hid b1
  clear b1
  cases b with
  | true =>
    go_wp2_with fail
    go_ret
    exact ⟨rfl, HB.out⟩
  | false =>
    go_wp2_with fail
    go_ret
    exact ⟨rfl, HB.out⟩
set_option maxRecDepth 100000 in
set_option maxHeartbeats 2000000 in
theorem cloM1 {W : World} {p : Nat} {b : Bool} {u0 u1 u2 u3 u4 u5 u6 : Value} (hp : W.cell? ⟨p, 0, none⟩ = some (.func (.func 84) #[] #[])) (HS : ∀ W', Below W.heap.size W W' → Calls Tryz.prog 84 #[.agg #[u0, u1, u2, u3, u4, u5, u6]] W' fun r w' => r = .returned (.bool b) ∧ Below W'.heap.size W' w') :
    Calls Tryz.prog 100 #[.agg #[u0, u1, u2, u3, u4, u5, u6], .pointer (some ⟨p, 0, none⟩)] W fun r w' => r = .returned (.bool (!b)) ∧ Below W.heap.size W w' := by
  have HB0 : Hid (Below W.heap.size W (W.alloc (.cells #[u0, u1, u2, u3, u4, u5, u6] 66))) := (Below.refl _ _).alloc (Nat.le_refl _) _
  have HH := Lib.hid (HS _ HB0.out)
  have hp1 := (HB0.out.cell (p := ⟨p, 0, none⟩) (World.block_lt_of_cell? W _ hp)).trans hp
  clear HS hp
  go_enter Tryz.func100, Tryz.ntmps100
  go_wp2_with fail
  refine HH.out.mono ?_
  rintro r w1 ⟨rfl, b1⟩
  have HB := Lib.hid (HB0.out.trans (b1.mono HB0.out.size))
  clear b1
  go_wp2_with fail
  go_ret
  exact ⟨rfl, HB.out⟩
set_option maxRecDepth 100000 in
set_option maxHeartbeats 2000000 in
theorem allM1 {W : World} {g : Nat} {b : Bool} {u0 u1 u2 u3 u4 u5 u6 : Value} (hA : Arr W 66 g [u0, u1, u2, u3, u4, u5, u6]) (HS : ∀ W', Below W.heap.size W W' → Calls Tryz.prog 84 #[.agg #[u0, u1, u2, u3, u4, u5, u6]] W' fun r w' => r = .returned (.bool b) ∧ Below W'.heap.size W' w') :
    Calls Tryz.prog 83 #[.slice (some ⟨g, 0, none⟩) 1 1, .func (.func 84) #[] #[]] W fun r w' => r = .returned (.bool b) ∧ Below W.heap.size W w' := by
  have HB0 : Hid (Below W.heap.size W (W.alloc (.cells #[.func (.func 84) #[] #[]] 82))) := (Below.refl _ _).alloc (Nat.le_refl _) _
  have hbox : Arr (W.alloc (.cells #[.func (.func 84) #[] #[]] 82)) 82 W.heap.size [.func (.func 84) #[] #[]] := Arr.new' _ _ _ _ rfl
  have HI := Lib.hid (conM1 (p := W.heap.size) (b := !b) (hA.alloc _) fun W' hW => cloM1 (b := b) ((hW.cell (p := ⟨W.heap.size, 0, none⟩) hbox.lt).trans (hbox.cell 0)) fun W2 h2 => HS W2 (HB0.out.trans (((hW.trans (h2.mono hW.size))).mono HB0.out.size)))
  clear HS hA hbox
  go_enter Tryz.func83, Tryz.ntmps83
  go_wp2_with fail
  refine HI.out.mono ?_
  rintro r w1 ⟨rfl, b1⟩
  have HB := Lib.hid (HB0.out.trans (b1.mono HB0.out.size))
  clear b1
  go_wp2_with fail
  go_ret
  exact ⟨rfl, HB.out⟩
theorem isName_a : isName ⟨#[97]⟩ = true := by decide
set_option maxRecDepth 100000 in
set_option maxHeartbeats 2000000 in
theorem mhf1 {k : Int} {xv xn : List UInt8} {ks : List Ex} {q : Option Addr} {c : Nat} {P : Nat → Prop} {w : World} (h : RdE P w (.mk k xv xn ks) (.agg #[.int .i64 k, .string (bstr xv), .string (bstr xn), .slice q ks.length c])) (hP : ∀ b, P b → b < w.heap.size) (hm : sizeE (.mk k xv xn ks) ≤ 900000) (hr : ResT w) :
    Calls Tryz.prog 84 #[.agg #[.string ⟨#[97]⟩, .int .i64 2, .slice none 0 0, .int .i64 k, .string (bstr xv), .string (bstr xn), .slice q ks.length c]] w fun e w' => e = .returned (.bool (rightE (.mk k xv xn ks))) ∧ Below w.heap.size w w' := by
  have hb0 : Below w.heap.size w (w.alloc (.cells #[.string ⟨#[97]⟩, .int .i64 2, .slice none 0 0, .int .i64 k, .string (bstr xv), .string (bstr xn), .slice q ks.length c] 66)) := (Below.refl _ _).alloc (Nat.le_refl _) _
  have HB := Lib.hid hb0
  have HX : Hid (Arr (w.alloc (.cells #[.string ⟨#[97]⟩, .int .i64 2, .slice none 0 0, .int .i64 k, .string (bstr xv), .string (bstr xn), .slice q ks.length c] 66)) 66 w.heap.size [.string ⟨#[97]⟩, .int .i64 2, .slice none 0 0, .int .i64 k, .string (bstr xv), .string (bstr xn), .slice q ks.length c]) := Arr.new' _ _ _ _ rfl
  have HR : Hid (ResT (w.alloc (.cells #[.string ⟨#[97]⟩, .int .i64 2, .slice none 0 0, .int .i64 k, .string (bstr xv), .string (bstr xn), .slice q ks.length c] 66))) := hr.below hb0 hr.lt
  have HN := Lib.hid (isName_at ⟨#[97]⟩ isName_a _ HR.out)
  have H1 := Lib.hid (h.below hb0 hP)
  have HP := Lib.hid (lt_keep hb0 hP)
  have HZ := Lib.hid hm
  obtain ⟨rb, hrb⟩ : ∃ x, x = rightE (.mk k xv xn ks) := ⟨_, rfl⟩
  have HRB := Lib.hid hrb
  rw [← hrb]
  clear hb0 h hP hm hr hrb
  go_enter Tryz.func84, Tryz.ntmps84
  go_upto_region 1 with (fail)
  generalize w.alloc (.cells #[.string ⟨#[97]⟩, .int .i64 2, .slice none 0 0, .int .i64 k, .string (bstr xv), .string (bstr xn), .slice q ks.length c] 66) = w0 at HX HB HR HN H1 HP ⊢
  have x0 := HX.out.cell 0
  have y0 := HX.out.free 0
  have x1 := HX.out.cell 1
  have y1 := HX.out.free 1
  have x2 := HX.out.cell 2
  have y2 := HX.out.free 2
  have x3 := HX.out.cell 3
  have y3 := HX.out.free 3
  have x4 := HX.out.cell 4
  have y4 := HX.out.free 4
  have x5 := HX.out.cell 5
  have y5 := HX.out.free 5
  have x6 := HX.out.cell 6
  have y6 := HX.out.free 6
  simp only [List.getElem?_cons_zero, List.getElem?_cons_succ] at x0 x1 x2 x3 x4 x5 x6
  go_wp2_with fail
  refine HN.out.mono ?_
  rintro e w1 ⟨rfl, b1⟩
  have HB := Lib.hid (HB.out.trans (b1.mono HB.out.size))
  have HX := Lib.hid (HX.out.later b1)
  have HR : Hid (ResT w1) := HR.out.below b1 HR.out.lt
  have HS : Hid (Calls Tryz.prog 104 #[.agg #[.int .i64 k, .string (bstr xv), .string (bstr xn), .slice q ks.length c]] w1 fun r w' => r = .returned (.bool rb) ∧ Below w1.heap.size w1 w') := by
    have h := eright_any (.mk k xv xn ks) _ P w1 HZ.out (H1.out.below b1 HP.out) (lt_keep b1 HP.out) HR.out
    rw [← HRB.out] at h
    exact h
  clear b1 x0 x1 x2 x3 x4 x5 x6 y0 y1 y2 y3 y4 y5 y6
  have x0 := HX.out.cell 0
  have y0 := HX.out.free 0
  have x1 := HX.out.cell 1
  have y1 := HX.out.free 1
  have x2 := HX.out.cell 2
  have y2 := HX.out.free 2
  have x3 := HX.out.cell 3
  have y3 := HX.out.free 3
  have x4 := HX.out.cell 4
  have y4 := HX.out.free 4
  have x5 := HX.out.cell 5
  have y5 := HX.out.free 5
  have x6 := HX.out.cell 6
  have y6 := HX.out.free 6
  simp only [List.getElem?_cons_zero, List.getElem?_cons_succ] at x0 x1 x2 x3 x4 x5 x6
  go_wp2_with fail
  refine HS.out.mono ?_
  rintro r w3 ⟨rfl, b3⟩
  have HB := Lib.hid (HB.out.trans (b3.mono HB.out.size))
  clear b3
  cases rb <;> (go_wp2_with fail; go_ret; exact ⟨rfl, HB.out⟩)
set_option maxRecDepth 100000 in
set_option maxHeartbeats 2000000 in
theorem hf1 {g : Nat} {b : Bool} {u0 u1 u2 u3 u4 u5 u6 : Value} {w : World} (hA : Arr w 66 g [u0, u1, u2, u3, u4, u5, u6]) (HS : ∀ W', Below w.heap.size w W' → Calls Tryz.prog 84 #[.agg #[u0, u1, u2, u3, u4, u5, u6]] W' fun r w' => r = .returned (.bool b) ∧ Below W'.heap.size W' w') (hr : ResT w) :
    Calls Tryz.prog 59 #[.agg #[.string ⟨#[97]⟩, .slice (some ⟨g, 0, none⟩) 1 1]] w fun e w' => e = .returned (.bool b) ∧ Below w.heap.size w w' := by
  have hb0 : Below w.heap.size w (w.alloc (.cells #[.string ⟨#[97]⟩, .slice (some ⟨g, 0, none⟩) 1 1] 53)) := (Below.refl _ _).alloc (Nat.le_refl _) _
  have HB := Lib.hid hb0
  have HX : Hid (Arr (w.alloc (.cells #[.string ⟨#[97]⟩, .slice (some ⟨g, 0, none⟩) 1 1] 53)) 53 w.heap.size [.string ⟨#[97]⟩, .slice (some ⟨g, 0, none⟩) 1 1]) := Arr.new' _ _ _ _ rfl
  have HR : Hid (ResT (w.alloc (.cells #[.string ⟨#[97]⟩, .slice (some ⟨g, 0, none⟩) 1 1] 53))) := hr.below hb0 hr.lt
  have HN := Lib.hid (isName_at ⟨#[97]⟩ isName_a _ HR.out)
  have HM := Lib.hid (hA.later hb0)
  have HS := Lib.hid HS
  clear hb0 hA hr
  go_enter Tryz.func59, Tryz.ntmps59
  go_upto_region 1 with (fail)
  generalize w.alloc (.cells #[.string ⟨#[97]⟩, .slice (some ⟨g, 0, none⟩) 1 1] 53) = w0 at HX HB HN HM HR ⊢
  have x0 := HX.out.cell 0
  have y0 := HX.out.free 0
  have x1 := HX.out.cell 1
  have y1 := HX.out.free 1
  simp only [List.getElem?_cons_zero, List.getElem?_cons_succ] at x0 x1
  go_wp2_with fail
  refine HN.out.mono ?_
  rintro e w1 ⟨rfl, b1⟩
  have HB := Lib.hid (HB.out.trans (b1.mono HB.out.size))
  have HX := Lib.hid (HX.out.later b1)
  have HA := Lib.hid (allM1 (HM.out.later b1) fun W' hW => HS.out W' (HB.out.trans (hW.mono HB.out.size)))
  clear b1 x0 x1 y0 y1
  have x0 := HX.out.cell 0
  have y0 := HX.out.free 0
  have x1 := HX.out.cell 1
  have y1 := HX.out.free 1
  simp only [List.getElem?_cons_zero, List.getElem?_cons_succ] at x0 x1
  go_wp2_with fail
  refine HA.out.mono ?_
  rintro r w3 ⟨rfl, b3⟩
  have HB := Lib.hid (HB.out.trans (b3.mono HB.out.size))
  clear b3
  cases b <;> (go_wp2_with fail; go_ret; exact ⟨rfl, HB.out⟩)
set_option maxRecDepth 100000 in
set_option maxHeartbeats 2000000 in
theorem form1 {g : Nat} {b : Bool} {u0 u1 : Value} {w : World} (hA : Arr w 53 g [u0, u1]) (HS : ∀ W', Below w.heap.size w W' → Calls Tryz.prog 59 #[.agg #[u0, u1]] W' fun r w' => r = .returned (.bool b) ∧ Below W'.heap.size W' w') :
    Calls Tryz.prog 32 #[.agg #[.slice (some ⟨g, 0, none⟩) 1 1]] w fun e w' => e = .returned (.bool b) ∧ Below w.heap.size w w' := by
  have hb0 : Below w.heap.size w (w.alloc (.cells #[.slice (some ⟨g, 0, none⟩) 1 1] 26)) := (Below.refl _ _).alloc (Nat.le_refl _) _
  have HB := Lib.hid hb0
  have HX : Hid (Arr (w.alloc (.cells #[.slice (some ⟨g, 0, none⟩) 1 1] 26)) 26 w.heap.size [.slice (some ⟨g, 0, none⟩) 1 1]) := Arr.new' _ _ _ _ rfl
  have HA := Lib.hid (allD1 (hA.later hb0) fun W' hW => HS W' (hb0.trans (hW.mono hb0.size)))
  clear hb0 hA HS
  go_enter Tryz.func32, Tryz.ntmps32
  go_upto_region 1 with (fail)
  generalize w.alloc (.cells #[.slice (some ⟨g, 0, none⟩) 1 1] 26) = w0 at HX HB HA ⊢
  have x0 := HX.out.cell 0
  have y0 := HX.out.free 0
  simp only [List.getElem?_cons_zero] at x0
  go_wp2_with fail
  refine HA.out.mono ?_
  rintro r w3 ⟨rfl, b3⟩
  have HB := Lib.hid (HB.out.trans (b3.mono HB.out.size))
  clear b3
  cases b <;> (go_wp2_with fail; go_ret; exact ⟨rfl, HB.out⟩)
/-- The bytes of a right expression in new memory; none for others. -/
def PutP (w : World) (e : Ex) (r : Ending) (w' : World) : Prop := if rightE e = true then Owned w (putE e) r w' else r = .returned (.slice none 0 0) ∧ Below w.heap.size w w'
set_option maxRecDepth 100000 in
set_option maxHeartbeats 4000000 in
theorem putExpr_any (e : Ex) (v : Value) (P : Nat → Prop) (w : World) (h : RdE P w e v) (hP : ∀ b, P b → b < w.heap.size) (hm : sizeE e ≤ 900000) (hr : ResT w) : Calls Tryz.prog 16 #[v] w (PutP w e) := by
  obtain ⟨q, c, rfl, hc, hk⟩ := h.form
  obtain ⟨k, xv, xn, ks⟩ := e
  unfold exv
  show Calls _ _ #[.agg #[.int .i64 k, .string (bstr xv), .string (bstr xn), .slice q ks.length c]] _ _
  have HK : Hid (0 < ks.length → ∃ b o, q = some ⟨b, o, none⟩ ∧ P b ∧ RdL P w ks b o) := hk
  have hR : RdE P w (.mk k xv xn ks) (.agg #[.int .i64 k, .string (bstr xv), .string (bstr xn), .slice q ks.length c]) := h
  have hb1 : Below w.heap.size w (w.alloc (.cells #[.int .i64 k, .string (bstr xv), .string (bstr xn), .slice q ks.length c] 42)) := (Below.refl _ _).alloc (Nat.le_refl _) _
  obtain ⟨w1, hw1⟩ : ∃ x, x = w.alloc (.cells #[.int .i64 k, .string (bstr xv), .string (bstr xn), .slice q ks.length c] 42) := ⟨_, rfl⟩
  have hA1 : Arr w1 42 w.heap.size [.int .i64 k, .string (bstr xv), .string (bstr xn), .slice q ks.length c] := by rw [hw1]; exact Arr.new' _ _ _ _ rfl
  rw [← hw1] at hb1
  have hb2 : Below w1.heap.size w1 (w1.alloc (.cells #[.string ⟨#[97]⟩, .int .i64 2, .slice none 0 0, .int .i64 k, .string (bstr xv), .string (bstr xn), .slice q ks.length c] 66)) := (Below.refl _ _).alloc (Nat.le_refl _) _
  obtain ⟨w2, hw2⟩ : ∃ x, x = w1.alloc (.cells #[.string ⟨#[97]⟩, .int .i64 2, .slice none 0 0, .int .i64 k, .string (bstr xv), .string (bstr xn), .slice q ks.length c] 66) := ⟨_, rfl⟩
  have hA2 : Arr w2 66 w1.heap.size [.string ⟨#[97]⟩, .int .i64 2, .slice none 0 0, .int .i64 k, .string (bstr xv), .string (bstr xn), .slice q ks.length c] := by rw [hw2]; exact Arr.new' _ _ _ _ rfl
  rw [← hw2] at hb2
  have hb3 : Below w2.heap.size w2 (w2.alloc (.cells #[.string ⟨#[97]⟩, .int .i64 2, .slice none 0 0, .int .i64 k, .string (bstr xv), .string (bstr xn), .slice q ks.length c] 66)) := (Below.refl _ _).alloc (Nat.le_refl _) _
  obtain ⟨w3, hw3⟩ : ∃ x, x = w2.alloc (.cells #[.string ⟨#[97]⟩, .int .i64 2, .slice none 0 0, .int .i64 k, .string (bstr xv), .string (bstr xn), .slice q ks.length c] 66) := ⟨_, rfl⟩
  have hA3 : Arr w3 66 w2.heap.size [.string ⟨#[97]⟩, .int .i64 2, .slice none 0 0, .int .i64 k, .string (bstr xv), .string (bstr xn), .slice q ks.length c] := by rw [hw3]; exact Arr.new' _ _ _ _ rfl
  rw [← hw3] at hb3
  have hb4 : Below w3.heap.size w3 (w3.alloc (.cells #[.string ⟨#[97]⟩, .slice (some ⟨w2.heap.size, 0, none⟩) 1 1] 53)) := (Below.refl _ _).alloc (Nat.le_refl _) _
  obtain ⟨w4, hw4⟩ : ∃ x, x = w3.alloc (.cells #[.string ⟨#[97]⟩, .slice (some ⟨w2.heap.size, 0, none⟩) 1 1] 53) := ⟨_, rfl⟩
  have hA4 : Arr w4 53 w3.heap.size [.string ⟨#[97]⟩, .slice (some ⟨w2.heap.size, 0, none⟩) 1 1] := by rw [hw4]; exact Arr.new' _ _ _ _ rfl
  rw [← hw4] at hb4
  have hb5 : Below w4.heap.size w4 (w4.alloc (.cells #[.string ⟨#[97]⟩, .slice (some ⟨w2.heap.size, 0, none⟩) 1 1] 53)) := (Below.refl _ _).alloc (Nat.le_refl _) _
  obtain ⟨w5, hw5⟩ : ∃ x, x = w4.alloc (.cells #[.string ⟨#[97]⟩, .slice (some ⟨w2.heap.size, 0, none⟩) 1 1] 53) := ⟨_, rfl⟩
  have hA5 : Arr w5 53 w4.heap.size [.string ⟨#[97]⟩, .slice (some ⟨w2.heap.size, 0, none⟩) 1 1] := by rw [hw5]; exact Arr.new' _ _ _ _ rfl
  rw [← hw5] at hb5
  have s12 := hb1.trans (hb2.mono hb1.size)
  have s13 := s12.trans (hb3.mono s12.size)
  have s14 := s13.trans (hb4.mono s13.size)
  have HB5 := Lib.hid (s14.trans (hb5.mono s14.size))
  have HA1 := Lib.hid hA1
  have HA15 := Lib.hid ((((hA1.later hb2).later hb3).later hb4).later hb5)
  have HF := Lib.hid (form1 hA5 (b := rightE (.mk k xv xn ks)) fun W' hW => hf1 (((hA3.later hb4).later hb5).later hW) (fun W2 h2 => mhf1 (hR.below (HB5.out.trans ((hW.trans (h2.mono hW.size)).mono HB5.out.size)) hP) (lt_keep (HB5.out.trans ((hW.trans (h2.mono hW.size)).mono HB5.out.size)) hP) hm (hr.below (HB5.out.trans ((hW.trans (h2.mono hW.size)).mono HB5.out.size)) hr.lt)) (hr.below (HB5.out.trans (hW.mono HB5.out.size)) hr.lt))
  have HRE := Lib.hid hR
  obtain ⟨rb, hrb⟩ : ∃ x, x = rightE (.mk k xv xn ks) := ⟨_, rfl⟩
  rw [← hrb] at HF
  have HRB := Lib.hid hrb
  have HA2 := Lib.hid hA2
  have hs3 : w3.heap.size = w2.heap.size + 1 := by rw [hw3]; exact World.size_alloc _ _
  rw [hs3] at hA4
  have HA4 := Lib.hid hA4
  unfold PutP
  rw [← hrb]
  clear h hR hm hr hb1 hb2 hb3 hb4 hb5 hs3 hA1 hA2 hA3 hA4 hA5 s12 s13 s14 hrb hc hk
  go_enter Tryz.func16, Tryz.ntmps16
  go_upto_region 1 with (fail)
  rw [← hw1]
  clear hw1
  have x0 := HA1.out.cell 0
  have y0 := HA1.out.free 0
  have x1 := HA1.out.cell 1
  have y1 := HA1.out.free 1
  have x2 := HA1.out.cell 2
  have y2 := HA1.out.free 2
  have x3 := HA1.out.cell 3
  have y3 := HA1.out.free 3
  simp only [List.getElem?_cons_zero, List.getElem?_cons_succ] at x0 x1 x2 x3
  go_upto_region 2 with (fail)
  rw [← hw2]
  clear hw2 x0 x1 x2 x3 y0 y1 y2 y3
  have x0 := HA2.out.cell 0
  have y0 := HA2.out.free 0
  have x1 := HA2.out.cell 1
  have y1 := HA2.out.free 1
  have x2 := HA2.out.cell 2
  have y2 := HA2.out.free 2
  have x3 := HA2.out.cell 3
  have y3 := HA2.out.free 3
  have x4 := HA2.out.cell 4
  have y4 := HA2.out.free 4
  have x5 := HA2.out.cell 5
  have y5 := HA2.out.free 5
  have x6 := HA2.out.cell 6
  have y6 := HA2.out.free 6
  simp only [List.getElem?_cons_zero, List.getElem?_cons_succ] at x0 x1 x2 x3 x4 x5 x6
  go_upto_region 3 with (fail)
  rw [← hw3, ← hw4]
  clear hw3 hw4 x0 x1 x2 x3 x4 x5 x6 y0 y1 y2 y3 y4 y5 y6
  have x0 := HA4.out.cell 0
  have y0 := HA4.out.free 0
  have x1 := HA4.out.cell 1
  have y1 := HA4.out.free 1
  simp only [List.getElem?_cons_zero, List.getElem?_cons_succ] at x0 x1
  go_wp2_with fail
  rw [← hw5]
  refine HF.out.mono ?_
  rintro r w6 ⟨rfl, b6⟩
  have HB6 := Lib.hid (HB5.out.trans (b6.mono HB5.out.size))
  have HA6 := Lib.hid (HA15.out.later b6)
  clear b6 hw5 HF HB5 HA15 HA1 HA2 HA4 x0 x1 y0 y1
  cases rb with
  | false =>
    go_wp2_with fail
    go_ret
    exact ⟨rfl, HB6.out⟩
  | true =>
    have HE := right_all HRB.out.symm
    obtain ⟨g1, g2⟩ := form_small (.mk k xv xn ks) HE.1
    have HP := Lib.hid (putX_any 64 (Nat.le_refl _) (.mk k xv xn ks) _ P w6 (by have := HE.2.2; omega) g1 HE.1 (HRE.out.below HB6.out hP) (lt_keep HB6.out hP))
    clear HE g1 g2
    have x0 := HA6.out.cell 0
    have y0 := HA6.out.free 0
    have x1 := HA6.out.cell 1
    have y1 := HA6.out.free 1
    have x2 := HA6.out.cell 2
    have y2 := HA6.out.free 2
    have x3 := HA6.out.cell 3
    have y3 := HA6.out.free 3
    simp only [List.getElem?_cons_zero, List.getElem?_cons_succ] at x0 x1 x2 x3
    go_wp2_with fail
    refine HP.out.mono ?_
    rintro r w7 ⟨v7, rfl, o7, b7⟩
    have HO7 := Lib.hid (own_le o7 HB6.out.size)
    have HB7 := Lib.hid (HB6.out.trans (b7.mono HB6.out.size))
    clear o7 b7
    go_wp2_with fail
    go_ret
    exact ⟨v7, rfl, HO7.out, HB7.out⟩
end Go.Proofs.YtdnmgemjhpkekaaGreatDoor
