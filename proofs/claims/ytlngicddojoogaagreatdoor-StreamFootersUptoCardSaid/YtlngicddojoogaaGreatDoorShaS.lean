/-
  sha.Sum.
-/
import Derived.Test.YtlngicddojoogaaGreatDoorShaD
import Derived.Test.YtlngicddojoogaaGreatDoorShaN
import Derived.Test.YtlngicddojoogaaGreatDoorShaE
import Derived.Test.YtlngicddojoogaaGreatDoorShaJ
import Derived.Test.YtlngicddojoogaaGreatDoorShaP
import Derived.Test.YtlngicddojoogaaGreatDoorRefJoin
import Derived.Test.YtlngicddojoogaaGreatDoorStep
namespace Go.Proofs.YtlngicddojoogaaGreatDoor
open Go.ChangeShapes Go.WideShapes Go.ChangeAt Go.RowKit
set_option linter.unusedVariables false

/-- What Sum keeps: t are the bytes so far; block w.heap.size is the result's, the next one the state's. -/
def Sm (w : World) (t : List UInt8) (v : Value) (wr : World) : Prop :=
  Held (w.heap.size + 2) wr v (t.drop (64 * (t.length / 64))) ∧ Arr wr 97 (w.heap.size + 1) (wvs (compN (t.length / 64) st0 t).list) ∧ (∃ z, z.length = 32 ∧ Arr wr 23 w.heap.size z) ∧ Below w.heap.size w wr
theorem cells8 {w : World} {g : Nat} {a b c d e f g' h : UInt32} (hA : Arr w 97 g (wvs (S8.list ⟨a, b, c, d, e, f, g', h⟩))) :
    (w.cell? ⟨g, 0, none⟩ = some (.int .u32 a.toNat) ∧ w.cell? ⟨g, 1, none⟩ = some (.int .u32 b.toNat) ∧ w.cell? ⟨g, 2, none⟩ = some (.int .u32 c.toNat) ∧ w.cell? ⟨g, 3, none⟩ = some (.int .u32 d.toNat) ∧
      w.cell? ⟨g, 4, none⟩ = some (.int .u32 e.toNat) ∧ w.cell? ⟨g, 5, none⟩ = some (.int .u32 f.toNat) ∧ w.cell? ⟨g, 6, none⟩ = some (.int .u32 g'.toNat) ∧ w.cell? ⟨g, 7, none⟩ = some (.int .u32 h.toNat)) ∧
    (w.frozen? ⟨g, 0, none⟩ = false ∧ w.frozen? ⟨g, 1, none⟩ = false ∧ w.frozen? ⟨g, 2, none⟩ = false ∧ w.frozen? ⟨g, 3, none⟩ = false ∧ w.frozen? ⟨g, 4, none⟩ = false ∧ w.frozen? ⟨g, 5, none⟩ = false ∧ w.frozen? ⟨g, 6, none⟩ = false ∧ w.frozen? ⟨g, 7, none⟩ = false) :=
  ⟨⟨hA.cell 0, hA.cell 1, hA.cell 2, hA.cell 3, hA.cell 4, hA.cell 5, hA.cell 6, hA.cell 7⟩, ⟨hA.free 0, hA.free 1, hA.free 2, hA.free 3, hA.free 4, hA.free 5, hA.free 6, hA.free 7⟩⟩
/-- What is left of the digest at the end: the last blocks. -/
theorem digest_last (t : List UInt8) : compN ((t.drop (64 * (t.length / 64)) ++ padding t.length).length / 64) (compN (t.length / 64) st0 t) (t.drop (64 * (t.length / 64)) ++ padding t.length) = compN ((t ++ padding t.length).length / 64) st0 (t ++ padding t.length) := (comp_next st0 t (padding t.length)).1

set_option maxRecDepth 100000 in
set_option maxHeartbeats 4000000 in
theorem sum_any {B : Nat} {w : World} {oa : Option Addr} {cap : Nat} {ls : List (List UInt8)} (hr : RdAll B w oa ls) (hB : B ≤ w.heap.size) (hn : ls.length ≤ 140737488355328) (ht : total ls ≤ 100000000000000) (he : Env w) :
    Calls Tryz.prog 33 #[.slice oa ls.length cap] w fun e w' => e = .returned (.agg (bvs (digest ls.flatten)).toArray) ∧ Below w.heap.size w w' := by
  obtain ⟨L0, hL0⟩ : ∃ L0, L0 = st0.list := ⟨_, rfl⟩
  have HL0 := Lib.hid hL0
  have HLL : Hid (L0.length = 8) := by rw [hL0]; rfl
  obtain ⟨tt, hh0⟩ := he.1
  have hA : ∀ o, Arr (w.alloc o) tt 0 (wvs L0) := fun o => by rw [hL0]; exact hh0.alloc o
  clear hh0
  have HE := Lib.hid he
  clear hL0 he
  go_enter Tryz.func33, Tryz.ntmps33
  go_wp2_with (first
    | ((with_reducible refine load8w (x := .global 0) (o := ⟨some 8, _, _, _, _, _⟩) (hA _) HLL.out ?_ ?_); exact ⟨rfl, rfl, rfl⟩)
    | ((with_reducible refine at8w (w.heap.size + 1) (x := .tmp 3) (y := .tmp 8) (l := L0) (o := ⟨none, .store _ _ _, _, _, _, _⟩) HLL.out ?_ ?_); exact ⟨rfl, rfl, rfl, rfl, rfl, by simp⟩))
  clear hA
  have HST : Hid (∀ cs : Array Value, cs.toList.length = 32 → Sm w [] (.slice none 0 0) ((w.alloc (.cells cs 23)).alloc (.cells (wvs L0).toArray 97))) := by
    intro cs hcs
    have h1 : Below w.heap.size w ((w.alloc (.cells cs 23)).alloc (.cells (wvs L0).toArray 97)) := ((Below.refl _ _).alloc (Nat.le_refl _) _).alloc (by simp) _
    refine ⟨.inl ⟨rfl, rfl⟩, ?_, ⟨_, hcs, (Arr.new w _ cs).alloc _⟩, h1⟩
    have := Arr.new2 w (.cells cs 23) 97 (wvs L0).toArray (wvs L0) (by simp)
    rw [HL0.out] at this ⊢
    exact this
  go_wp2_with fail
  go_loopw [4, 5, 11] (fun v nv iv wr => ∃ (k : Nat) (t : List UInt8), k ≤ ls.length ∧ iv = .int .i64 k ∧ nv = .int .i64 (t.length : Nat) ∧ Hid (t = (ls.take k).flatten) ∧ Hid (Sm w t v wr)) (fun _ _ iv _ => ls.length - (intOf iv).toNat)
  case atStart => exact ⟨0, [], Nat.zero_le _, rfl, rfl, rfl, HST.out _ rfl⟩
  case round =>
    obtain ⟨k, t, hk, rfl, rfl, HT, HM⟩ := hrel
    clear HST
    have htl := total_le ls k
    rw [← HT.out] at htl
    by_cases hlt : k < ls.length
    · obtain ⟨b, off, rfl, hbB, hc⟩ := hr (by omega)
      obtain ⟨u, hu, hru⟩ := hc k hlt
      obtain ⟨ou, cu, rfl, hmu, _⟩ := hru.form
      have hnx := total_le ls (k + 1)
      have hsm := total_take ls k hlt
      obtain ⟨p, hp⟩ : ∃ p, p = ls.getD k [] := ⟨_, rfl⟩
      rw [← hp] at hsm hu hru hmu
      rw [← HT.out] at hsm
      rw [hsm, List.length_append] at hnx
      have HSM := Lib.hid hsm
      have hu' : wr.cell? ⟨b, off + k, none⟩ = some (.slice ou p.length cu) := (HM.out.2.2.2.cell (by show b < w.heap.size; omega)).trans hu
      have HRU := Lib.hid (hru.below HM.out.2.2.2 hB)
      obtain ⟨n, hn2⟩ : ∃ n, n = t.length := ⟨_, rfl⟩
      obtain ⟨m, hm2⟩ : ∃ m, m = p.length := ⟨_, rfl⟩
      have HN := Lib.hid hn2
      have HMM := Lib.hid hm2
      rw [← hn2] at htl hnx ⊢
      rw [← hm2] at hnx hu' hmu
      have hi1 : (k : Int) < ls.length := by omega
      have hi0 : (0 : Int) ≤ k := by omega
      have hn0 : (0 : Int) ≤ n := by omega
      have hn1 : (n : Int) ≤ 100000000000000 := by omega
      have hm0 : (m : Int) ≤ 100000000000000 := by omega
      have hsz : w.heap.size + 2 ≤ wr.heap.size := HM.out.2.1.lt
      have HRU2 : Hid (Rd B wr (.slice ou m cu) p) := by rw [hm2]; exact HRU.out
      have hdl : (t.drop (64 * (t.length / 64))).length + p.length ≤ 140737488355328 := by rw [List.length_drop]; omega
      have HDL := Lib.hid hdl
      clear hc hu hru hsm hp hn2 hm2 HRU hdl
      go_wp2_with (at_builtin; refine app_held rfl (.tmp 15) (.tmp 16) rfl rfl HM.out.1 rfl HRU2.out HDL.out hsz ?_)
      intro v1 w1 h1 b1
      obtain ⟨z, hzl, hzA⟩ := HM.out.2.2.1
      obtain ⟨S, hS⟩ : ∃ S, S = compN (t.length / 64) st0 t := ⟨_, rfl⟩
      have hB1 : Below w.heap.size w w1 := HM.out.2.2.2.trans (b1.mono (by omega))
      have hA1 := HM.out.2.1.below b1 (by omega)
      rw [← hS] at hA1
      have HZ1 := Lib.hid (And.intro hzl (hzA.below b1 (by omega)))
      have HB1 := Lib.hid hB1
      have HSS := Lib.hid hS
      have HAA := Lib.hid hA1
      have HH1 := Lib.hid h1
      obtain ⟨SL, hSL⟩ : ∃ SL, SL = S.list := ⟨_, rfl⟩
      have HSL := Lib.hid hSL
      have HSN : Hid (SL.length = 8) := by rw [hSL]; rfl
      rw [← hSL] at hA1
      have hsz1 : w.heap.size + 2 ≤ w1.heap.size := Nat.le_trans hsz b1.size
      have HNX := Lib.hid (comp_next st0 t p)
      rw [← hS] at HNX
      have HLT : Hid ((t.drop (64 * (t.length / 64)) ++ p).length ≤ 140737488355328) := by show _ ≤ _; rw [List.length_append]; exact HDL.out
      clear hS hSL hB1 hzA hzl h1 b1
      go_wp2_with ((with_reducible refine load8w (x := .tmp 3) (o := ⟨some 23, _, _, _, _, _⟩) hA1 HSN.out ?_ ?_); exact ⟨rfl, rfl, rfl⟩)
      rw [HSL.out]
      refine (blocks_any (s := S) HH1.out hsz1 HLT.out (HE.out.below HB1.out)).mono ?_
      rintro e w2 ⟨v2, rfl, h2, b2⟩
      obtain ⟨R8, hR8⟩ : ∃ R8, R8 = compN ((t.drop (64 * (t.length / 64)) ++ p).length / 64) S (t.drop (64 * (t.length / 64)) ++ p) := ⟨_, rfl⟩
      rw [← hR8]
      obtain ⟨R, hR⟩ : ∃ R, R = R8.list := ⟨_, rfl⟩
      have HR := Lib.hid hR
      have HRN : Hid (R.length = 8) := by rw [hR]; rfl
      rw [← hR]
      have hA2 := HAA.out.later b2
      have HON : Hid ((wvs S.list).length = 8) := rfl
      have HM2 : Hid (Sm w (t ++ p) v2 (w2.setRow (w.heap.size + 1) (wvs R).toArray)) := by
        have hx := HNX.out
        rw [← hR8] at hx
        refine ⟨?_, ?_, ⟨z, HZ1.out.1, (HZ1.out.2.later b2).row_other (by omega) _⟩, below_row (HB1.out.trans (b2.mono HB1.out.size)) (by omega) _⟩
        · rw [hx.2] at h2
          exact h2.row (by omega) _
        · rw [← hx.1, ← hR]
          exact hA2.row _
      clear hR hR8 h2 b2 HAA
      go_wp2_with ((with_reducible refine store8w (x := .tmp 3) (y := .tmp 26) (l := R) (o := ⟨none, .store _ _ _, _, _, _, _⟩) hA2 HON.out HRN.out ?_ ?_); exact ⟨rfl, rfl, rfl, rfl⟩)
      go_roundw
      case rel => exact ⟨k + 1, t ++ p, by omega, by go_num, by rw [List.length_append, ← HN.out, ← HMM.out]; go_num, by rw [HSM.out]; rfl, HM2.out⟩
      case measure => simp [intOf]; omega
    · rw [show (k : Int) = ls.length by omega]
      have HT2 : Hid (t = ls.flatten) := by show _ = _; rw [HT.out, show k = ls.length by omega, List.take_length]
      clear HT hlt hk
      have HDG := Lib.hid (digest_last t)
      obtain ⟨N, hN⟩ : ∃ N, N = t.length := ⟨_, rfl⟩
      have htn : t.length ≤ 100000000000000 := by rw [HT2.out]; exact ht
      have hpl := padding_length t.length
      have hzz : zeros t.length < 64 := by unfold zeros; omega
      have HPW : Hid (Calls Tryz.prog 48 #[.int .i64 N] wr.drew fun e w' => ∃ v, e = .returned v ∧ (w'.ownsRow wr.drew.heap.size 5 1 v (padding N).length (bvs (padding N)) ∧ Below wr.drew.heap.size wr.drew w')) := by
        rw [hN]; exact pad_any t.length (by omega) _
      have hsz : w.heap.size + 2 ≤ wr.heap.size := HM.out.2.1.lt
      obtain ⟨z, hzl, hzA⟩ := HM.out.2.2.1
      obtain ⟨S, hS⟩ : ∃ S, S = compN (t.length / 64) st0 t := ⟨_, rfl⟩
      rw [← hS] at HDG
      have HS0 := Lib.hid (show Arr wr.drew 97 (w.heap.size + 1) (wvs S.list) by rw [hS]; exact HM.out.2.1)
      have HH0 := Lib.hid (show Held (w.heap.size + 2) wr.drew u4 (t.drop (64 * (t.length / 64))) from HM.out.1.later (Below.refl _ _).drew)
      have HB0 := Lib.hid (show Below w.heap.size w wr.drew from HM.out.2.2.2.drew)
      have HZ0 := Lib.hid (show Arr wr.drew 23 w.heap.size z from hzA)
      have HZL := Lib.hid hzl
      obtain ⟨T, hT⟩ : ∃ T, T = t.drop (64 * (t.length / 64)) := ⟨_, rfl⟩
      have HTL : Hid (T.length + (padding N).length ≤ 140737488355328) := by show _ ≤ _; rw [hN, hpl, hT, List.length_drop]; omega
      rw [← hT, ← hN] at HDG
      rw [← hT] at HH0
      obtain ⟨R, hR⟩ : ∃ R, R = compN ((T ++ padding N).length / 64) S (T ++ padding N) := ⟨_, rfl⟩
      rw [← hR] at HDG
      have HRR := Lib.hid hR
      have HDR : Hid (joinS R = digest ls.flatten) := by
        show _ = _
        rw [HDG.out, ← HT2.out, hN]; rfl
      have HBW := Lib.hid (fun (v' : Value) (w' : World) (hh : Held (w.heap.size + 2) w' v' (T ++ padding N)) (hb : Below w.heap.size w w') (hz : w.heap.size + 2 ≤ w'.heap.size) =>
        blocks_any (s := S) hh hz (by rw [List.length_append]; exact HTL.out) (HE.out.below hb))
      rw [← hN]
      have HSZ := Lib.hid hsz
      obtain ⟨a0, b0, c0, d0, e0, f0, g0, h0⟩ := S
      obtain ⟨A0, B0, C0, D0, E0, F0, G0, H0⟩ := R
      obtain ⟨⟨q0, q1, q2, q3, q4, q5, q6, q7⟩, _⟩ := cells8 (w := wr) HS0.out
      clear hS hzA hzl HM hN htn hT hR hpl hzz HDG
      have HJO : Hid (∀ w', Calls Tryz.prog 49 #[.agg #[.int .u32 A0.toNat, .int .u32 B0.toNat, .int .u32 C0.toNat, .int .u32 D0.toNat, .int .u32 E0.toNat, .int .u32 F0.toNat, .int .u32 G0.toNat, .int .u32 H0.toNat]] w' fun e w'' => e = .returned (.agg (bvs (joinS ⟨A0, B0, C0, D0, E0, F0, G0, H0⟩)).toArray) ∧ Below w'.heap.size w' w'') := fun w' => sjoin_any ⟨A0, B0, C0, D0, E0, F0, G0, H0⟩ w'
      go_wp2_with fail
      go_region_law ((first | (refine step_held rfl (.tmp 31) (.tmp 33) rfl rfl HHP.out rfl HRP.out HTL.out HGP.out ?_; intro vA wA hA bA; have HBA := Lib.hid (HBP.out.trans (bA.mono (by omega))); have HSA := Lib.hid (HSP.out.below bA (by omega)); have HZA := Lib.hid (HZP.out.below bA (by omega)); obtain ⟨⟨m0, m1, m2, m3, m4, m5, m6, m7⟩, _⟩ := cells8 HSA.out; have HCA := Lib.hid (HBW.out vA wA hA HBA.out (Nat.le_trans HGP.out bA.size)); clear hA bA) | (go_simp; go_at_call 48; refine HPW.out.mono ?_; rintro e wP ⟨vP, rfl, oP, bP⟩; (try simp only []); have HHP := Lib.hid (HH0.out.later bP); have HRP := Lib.hid (Rd.of_own oP); have HBP := Lib.hid (HB0.out.trans (bP.mono HB0.out.size)); have HSP := Lib.hid (HS0.out.later bP); have HZP := Lib.hid (HZ0.out.later bP); have HGP := Lib.hid (show w.heap.size + 2 ≤ wP.heap.size from Nat.le_trans HSZ.out bP.size); obtain ⟨⟨k0, k1, k2, k3, k4, k5, k6, k7⟩, _⟩ := cells8 HSP.out; clear oP bP) | (go_simp; go_at_call 47; refine HCA.out.mono ?_; rintro e wB ⟨vB, rfl, hB2, bB⟩; (try simp only []); rw [← HRR.out]; rw [show (wvs (S8.list ⟨A0, B0, C0, D0, E0, F0, G0, H0⟩)).toArray = #[.int .u32 A0.toNat, .int .u32 B0.toNat, .int .u32 C0.toNat, .int .u32 D0.toNat, .int .u32 E0.toNat, .int .u32 F0.toNat, .int .u32 G0.toNat, .int .u32 H0.toNat] from rfl]; have HBB := Lib.hid (HBA.out.trans (bB.mono HBA.out.size)); have HSB := Lib.hid (HSA.out.later bB); have HZB := Lib.hid (HZA.out.later bB); obtain ⟨⟨m0, m1, m2, m3, m4, m5, m6, m7⟩, ⟨f0, f1, f2, f3, f4, f5, f6, f7⟩⟩ := cells8 HSB.out; clear hB2 bB)))
      all_goals go_wp2_with fail
      all_goals refine (HJO.out _).mono ?_
      all_goals rintro e wJ ⟨rfl, bJ⟩
      all_goals
        have hZJ : Arr wJ 23 w.heap.size z := by
          refine Arr.later ?_ bJ
          repeat (first | (with_reducible exact HZB.out) | refine Arr.setCell ?_ (by show w.heap.size ≠ w.heap.size + 1; omega) _)
        have hBJ : Below w.heap.size w wJ := by
          refine Below.trans ?_ (Below.mono bJ ?_)
          · repeat (first | (with_reducible exact HBB.out) | refine Below.setCell ?_ (by show w.heap.size ≤ w.heap.size + 1; omega) _)
          · refine Below.size (B := w.heap.size) ?_
            repeat (first | (with_reducible exact HBB.out) | refine Below.setCell ?_ (by show w.heap.size ≤ w.heap.size + 1; omega) _)
        obtain ⟨D, hD⟩ : ∃ D, D = joinS ⟨A0, B0, C0, D0, E0, F0, G0, H0⟩ := ⟨_, rfl⟩
        have HDN : Hid (D.length = 32) := by rw [hD]; exact joinS_length _
        rw [← hD]
        have HDE : Hid (D = digest ls.flatten) := by rw [hD]; exact HDR.out
        clear hD bJ
      all_goals go_wp2_with ((with_reducible refine store32b (x := .tmp 2) (y := .tmp 39) (l := D) (o := ⟨none, .store _ _ _, _, _, _, _⟩) hZJ HZL.out HDN.out ?_ ?_); exact ⟨rfl, rfl, rfl, rfl⟩)
      all_goals exact bodyPost_ret (res32b rfl (hZJ.row _) HDN.out rfl) rfl ⟨by rw [HDE.out], below_row hBJ (Nat.le_refl _) _⟩
end Go.Proofs.YtlngicddojoogaaGreatDoor
