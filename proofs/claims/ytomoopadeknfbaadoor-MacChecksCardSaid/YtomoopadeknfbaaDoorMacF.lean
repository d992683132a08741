/-
  The reference's Derive.
-/
import Derived.Test.YtomoopadeknfbaaDoorMacE
import Derived.Test.YtomoopadeknfbaaDoorMacC
namespace Go.Proofs.YtomoopadeknfbaaDoor
open Go.ChangeShapes Go.WideShapes Go.ChangeAt Go.RowKit
set_option linter.unusedVariables false

set_option maxRecDepth 100000 in
set_option maxHeartbeats 1000000 in
theorem rderive_any {w : World} {v : Value} {k : List UInt8} {lab : ByteArray} (n : Nat) (hv : Rd w.heap.size w v k) (hk : k.length ≤ 900000) (hlab : lab.size ≤ 1000) (hn : n ≤ 8160) :
    Calls Tryd.prog 14 #[v, .string lab, .int .i64 n] w fun e w' => ∃ v', e = .returned v' ∧ Held w.heap.size w' v' (derive k lab.data.toList n) ∧ Below w.heap.size w w' := by
  obtain ⟨q, c, rfl, _, _⟩ := hv.form
  have HV := Lib.hid hv
  have HKL := Lib.hid hk
  have HLAB := Lib.hid hlab
  clear hv hk hlab
  have n0 : (0 : Int) ≤ n := by omega
  have n1 : (n : Int) ≤ 8160 := by omega
  go_enter Tryd.func14, Tryd.ntmps14
  go_wp2_with fail
  go_loopw [7, 8] (fun vd iv wr => ∃ i : Nat, i ≤ n ∧ iv = .int .i64 i ∧ Hid (Held w.heap.size wr vd (derN k lab.data.toList ((i + 31) / 32)) ∧ Below w.heap.size w wr)) (fun _ iv _ => n - (intOf iv).toNat)
  case atStart => exact ⟨0, by omega, rfl, .inl ⟨rfl, rfl⟩, Below.refl _ _⟩
  case round =>
    obtain ⟨i, hi, rfl, HM⟩ := hrel
    obtain ⟨q1, c1, rfl, hc1, hc2⟩ := HM.out.1.form
    have hlen := derN_length k lab.data.toList ((i + 31) / 32)
    obtain ⟨T, hT⟩ : ∃ T, T = derN k lab.data.toList ((i + 31) / 32) := ⟨_, rfl⟩
    rw [← hT] at HM hlen hc1 ⊢
    obtain ⟨N, hN⟩ : ∃ N, N = T.length := ⟨_, rfl⟩
    rw [← hN] at HM hc1 ⊢
    have HTE := Lib.hid hT
    have HTL : Hid (N = T.length ∧ T.length = 32 * ((i + 31) / 32)) := ⟨hN, hlen⟩
    clear hT hlen hN
    have hi0 : (0 : Int) ≤ i := by omega
    by_cases hlt : i < n
    · have hlt1 : (i : Int) < n := by omega
      by_cases hm : i % 32 = 0
      · have hm1 : (i : Int) % 32 = 0 := by omega
        obtain ⟨j, hj⟩ : ∃ j, j = i / 32 := ⟨_, rfl⟩
        have hq : (i : Int) / 32 = (j : Int) := by omega
        have hi31 : (i + 31) / 32 = j := by omega
        have hi32 : (i + 1 + 31) / 32 = j + 1 := by omega
        have hj1 : j ≤ 254 := by omega
        have hby : IntKind.u8.wrap ((j : Int) + 1) = (j : Int) + 1 := by rw [IntKind.wrap_u8']; omega
        have hby2 : ((j : Int) + 1) % 256 = (j : Int) + 1 := by omega
        obtain ⟨b, hbE⟩ : ∃ b : UInt8, b = UInt8.ofNat (j + 1) := ⟨_, rfl⟩
        have hbt : ((b.toNat : Nat) : Int) = (j : Int) + 1 := by rw [hbE, UInt8.toNat_ofNat', Nat.mod_eq_of_lt (by omega)]; omega
        have HOW : Hid ((wr.alloc (.cells #[.int .u8 ((j : Int) + 1)] 5)).ownsRow wr.heap.size 5 1 (.slice (some ⟨wr.heap.size, 0, none⟩) 1 1) ([b] : List UInt8).length (bvs [b])) := by
          refine ⟨rfl, .inr ⟨wr.heap.size, 1, #[.int .u8 ((j : Int) + 1)], rfl, Nat.le_refl _, heap_alloc_new wr _, Nat.le_refl _, by decide, rfl, ?_⟩⟩
          simp [bvs, bv, hbt]
        have hb1 : Below wr.heap.size wr (wr.alloc (.cells #[.int .u8 ((j : Int) + 1)] 5)) := (Below.refl _ _).alloc (Nat.le_refl _) _
        have HSW : Hid (wr.heap.size ≤ (wr.alloc (.cells #[.int .u8 ((j : Int) + 1)] 5)).heap.size) := hb1.size
        have HB1 := Lib.hid hb1
        have HLW : Hid (([b] : List UInt8).length + lab.size ≤ 140737488355328) := by have := HLAB.out; show _ ≤ _; simp; omega
        have HBE := Lib.hid hbE
        have HI := Lib.hid (And.intro hi31 hi32)
        clear hb1 hbE hbt hi31 hi32 hj
        go_wp2_with (at_builtin; refine app_str rfl (.tmp 29) (.tmp 30) rfl rfl HOW.out rfl HLW.out HSW.out ?_)
        intro v2 w2 h2 g2
        have b2 : Below wr.heap.size wr w2 := HB1.out.grown g2 HSW.out (fun k hk => (HOW.out.lt k hk).1)
        have HR2 := Lib.hid (Rd.of_own h2)
        have HB2 := Lib.hid (HM.out.2.trans (b2.mono HM.out.2.size))
        have HH2 := Lib.hid (HM.out.1.later b2)
        have HV2 := Lib.hid ((HV.out.below HB2.out (Nat.le_refl _)).mono HB2.out.size)
        have HL2 : Hid (([b] ++ lab.data.toList).length ≤ 900000) := by have := HLAB.out; show _ ≤ _; rw [List.length_append, str_length]; simp; omega
        clear h2 g2 b2 HOW HB1 HSW HLW HM
        go_wp2_with fail
        refine (rmac_any HV2.out HKL.out HR2.out HL2.out).mono ?_
        rintro e w5 ⟨rfl, b5⟩
        have HB5 := Lib.hid (HB2.out.trans (b5.mono HB2.out.size))
        have HH5 := Lib.hid (HH2.out.later b5)
        obtain ⟨D, hD⟩ : ∃ D, D = hmac k (b :: lab.data.toList) := ⟨_, rfl⟩
        rw [← hD]
        have HDL : Hid (D.length = 32) := by rw [hD]; exact hmac_length _ _
        have HNX : Hid (T ++ D = derN k lab.data.toList (j + 1)) := by
          show _ = _
          rw [derN_succ, HTE.out, HI.out.1, hD, HBE.out]
        clear b5 HB2 HH2 HV2 HR2 hD
        have hb6 : Below w5.heap.size w5 (w5.alloc (.cells (bvs D).toArray 26)) := (Below.refl _ _).alloc (Nat.le_refl _) _
        have HB6 := Lib.hid (HB5.out.trans (hb6.mono HB5.out.size))
        have HH6 := Lib.hid (HH5.out.later hb6)
        have HD6 : Hid (Rd (w5.alloc (.cells (bvs D).toArray 26)).heap.size (w5.alloc (.cells (bvs D).toArray 26)) (.slice (some ⟨w5.heap.size, 0, none⟩) 32 32) D) := by
          have := arr_rd (Arr.new' w5 26 (bvs D).toArray (bvs D) (by simp)) (by rw [HDL.out]; unfold maxLen; omega)
          rw [HDL.out] at this
          exact this
        have HL6 : Hid (T.length + D.length ≤ 140737488355328) := by have := HTL.out.2; show _ ≤ _; rw [HDL.out]; omega
        have HS6 : Hid (w.heap.size ≤ (w5.alloc (.cells (bvs D).toArray 26)).heap.size) := HB6.out.size
        clear hb6 HB5 HH5
        go_wp2_with (first
          | ((with_reducible refine at32b w5.heap.size (x := .tmp 9) (y := .tmp 32) (l := D) (o := ⟨none, .store _ _ _, _, _, _, _⟩) HDL.out ?_ ?_); exact ⟨rfl, rfl, rfl, rfl, rfl, rfl⟩)
          | (at_builtin; refine app_held rfl (.tmp 33) (.tmp 34) rfl rfl HH6.out rfl HD6.out HL6.out HS6.out ?_))
        intro v7 w7 h7 b7
        rw [HNX.out] at h7
        have HM7 : Hid (Held w.heap.size w7 v7 (derN k lab.data.toList ((i + 1 + 31) / 32)) ∧ Below w.heap.size w w7) := ⟨by rw [HI.out.2]; exact h7, HB6.out.trans b7⟩
        clear h7 b7 HB6 HH6 HD6 HS6
        go_wp2_with fail
        go_roundw
        case rel => exact ⟨i + 1, by omega, by go_num, HM7.out⟩
        case measure => simp [intOf]; omega
      · have hm1 : ¬ (i : Int) % 32 = 0 := by omega
        have HM7 : Hid (Held w.heap.size wr (.slice q1 N c1) (derN k lab.data.toList ((i + 1 + 31) / 32)) ∧ Below w.heap.size w wr) := by
          rw [show (i + 1 + 31) / 32 = (i + 31) / 32 by omega, ← HTE.out]; exact HM.out
        clear HM
        go_wp2_with fail
        go_roundw
        case rel => exact ⟨i + 1, by omega, by go_num, HM7.out⟩
        case measure => simp [intOf]; omega
    · obtain rfl : i = n := by omega
      have HFIN := Lib.hid (HM.out.1.take (k := i) (by rw [HTL.out.2]; omega))
      have HB := Lib.hid HM.out.2
      have hcn : (i : Int) ≤ c1 := by have := HTL.out; omega
      have HNN : (i : Int) ≤ N := by have := HTL.out; omega
      clear HM
      go_wp2_with fail
      go_ret
      exact ⟨_, rfl, by rw [derive, ← HTE.out]; exact HFIN.out, HB.out⟩
theorem rderive_out {w : World} {v : Value} {lab : ByteArray} (n : Int) (hn : n < 0 ∨ 8160 < n) :
    Calls Tryd.prog 14 #[v, .string lab, .int .i64 n] w fun e w' => e = .returned (.slice none 0 0) ∧ w = w' := by
  by_cases h : n < 0
  · go_enter Tryd.func14, Tryd.ntmps14
    go_wp2_with fail
    go_ret
    exact ⟨rfl, rfl⟩
  · have h2 : 8160 < n := by omega
    go_enter Tryd.func14, Tryd.ntmps14
    go_wp2_with fail
    go_ret
    exact ⟨rfl, rfl⟩
end Go.Proofs.YtomoopadeknfbaaDoor
