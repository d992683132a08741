/-
  vestrylaw05.FrameLimits: the walk.
-/
import Derived.Test.YtikokimnhanloaaDoorFrF
import Derived.Test.YtikokimnhanloaaDoorStep
namespace Go.Proofs.YtikokimnhanloaaDoor
open Go.ChangeShapes Go.WideShapes Go.ChangeAt Go.RowKit
open errAs (ErrT)
set_option linter.unusedVariables false

theorem put_len3 {k : Nat} (h1 : 65530 ≤ k) (h2 : k ≤ 65541) : (put k).length = 3 := by
  rw [put_ge (by omega), put_ge (by omega), put_lt (by omega)]; rfl
theorem eqlCE (c d : Int) (w : World) : (binOp BinOp.eql 25 (.iface 51 (.int .i64 c)) (.iface 51 (.int .i64 d))).run Tryd.prog w = .ok (.bool (decide (c = d))) w := by kernel_rfl
/-- The frame of a payload that is too long. -/
theorem readF_long {l : List UInt8} (hl : 65536 < l.length) (h64 : l.length < lim64) : readF (put l.length ++ sealed l) = ([], 0, 15, 0) := by
  have hn : num (put l.length ++ sealed l) = (l.length, (put l.length).length, 0) := num_put h64 _
  exact read_limit (by rw [hn]) (by rw [hn]; exact hl)
theorem run_mk (k : Nat) (hk : k ≤ 1000000) : ∃ C : Array Value, C.toList = bvs (List.replicate k 0) ∧ ∀ w : World, (Instr.makeSlice 22 (.int .i64 (k : Int)) (.int .i64 (k : Int))).run Tryd.prog w = .ok (.slice (some ⟨w.heap.size, 0, none⟩) k k) (w.alloc (.cells C 5)) := by
  obtain ⟨i0, hi, hz0, hz1, hz2⟩ := info_parts Tryd.info5
  refine ⟨madeCells (Value.int .u8 0).cells (k * i0.size), ?_, fun w => ?_⟩
  · rw [hz1, Nat.mul_one]
    show (madeCells #[Value.int .u8 0] k).toList = _
    rw [toList_madeCells_one]; simp [bvs, bv]
  · have hr := run_make (P := Tryd.prog) w 22 5 i0 (.int .u8 0) Tryd.underlying22 hi hz0 .i64 .i64 (k : Int) (k : Int) (by omega) (by omega) (by rw [hz2]; omega) (by omega)
    simpa using hr
set_option maxRecDepth 100000 in
set_option maxHeartbeats 4000000 in
theorem limits_walk (m : Nat) (hm : m ≤ 255) (w : World) (hg : ErrT w) :
    Calls Tryd.prog 6 #[.int .u8 m] w fun e w' => e = .returned (.bool true) ∧ Below w.heap.size w w' := by
  have HE := Lib.hid hg
  clear hg
  obtain ⟨k, hk⟩ : ∃ k, k = 65530 + m % 12 := ⟨_, rfl⟩
  have hk1 : 65530 ≤ k := by omega
  have hk2 : k ≤ 65541 := by omega
  have HKI : Hid ((65530 : Int) + (m : Int) % 12 = k) := by show _ = _; omega
  have hm0 : (0 : Int) ≤ m := by omega
  have hm1 : (m : Int) ≤ 255 := by omega
  have hki := HKI.out
  have hk3 : (k : Int) ≤ 65541 := by omega
  have hk4 : (0 : Int) ≤ k := by omega
  clear hk
  obtain ⟨ZC, hZC, hmk⟩ := run_mk k (by omega)
  obtain ⟨Z, hZ⟩ : ∃ Z, Z = List.replicate k (0 : UInt8) := ⟨_, rfl⟩
  rw [← hZ] at hZC
  have hzl : Z.length = k := by rw [hZ]; simp
  have HZL := Lib.hid hzl
  have HMZ := Lib.hid (fun w' : World => rd_lit w' Z ZC hZC k hzl.symm (by rw [hzl]; unfold maxLen; omega))
  have h3 := put_len3 hk1 hk2
  have HRP := Lib.hid (fun w => rput k (by unfold lim64; omega) w)
  have HH3 := Lib.hid h3
  have HSL : Hid ((put k).length + (sealed Z).length ≤ 140737488355328) := by show _ ≤ _; rw [sealed_len, hzl, h3]; omega
  have HLN : Hid ((put k ++ sealed Z).length ≤ 1000000000) := by show _ ≤ _; rw [List.length_append, sealed_len, hzl, h3]; omega
  clear hZ hzl hZC h3
  go_enter Tryd.func6, Tryd.ntmps6
  go_wp2_with fail
  refine (eawake_any _ HE.out).mono ?_
  rintro e w1 ⟨rfl, b1⟩
  have HE1 := Lib.hid (errT_below HE.out b1)
  have HB1 := Lib.hid b1
  clear b1 HE
  have hba : Below w1.heap.size w1 (w1.alloc (.cells ZC 5)) := (Below.refl _ _).alloc (Nat.le_refl _) _
  have HB1a := Lib.hid (HB1.out.trans (hba.mono HB1.out.size))
  have HE1a := Lib.hid (errT_below HE1.out hba)
  have HR1a := Lib.hid ((HMZ.out w1).mono (show w1.heap.size + 1 ≤ (w1.alloc (.cells ZC 5)).heap.size by simp))
  clear hba HB1 HE1
  by_cases hbig : 65536 < k
  · have gb : (65536 : Int) < k := by omega
    have HPUT := Lib.hid (fput_long HR1a.out (by rw [HZL.out]; exact hbig))
    have HRF : Hid (readF (put k ++ sealed Z) = ([], 0, 15, 0)) := by
      have := readF_long (l := Z) (by rw [HZL.out]; exact hbig) (by rw [HZL.out]; unfold lim64; omega)
      rw [HZL.out] at this
      exact this
    have hq := eqlCE
    go_wp2_with fail
    refine HPUT.out.mono ?_
    rintro e w2 ⟨rfl, rfl⟩
    have HB2 := HB1a
    have HE2 := HE1a
    clear HPUT HR1a HB1a HE1a
    generalize w1.alloc (.cells ZC 5) = w2 at HB2 HE2 ⊢
    have HBd : Hid (Below w2.heap.size w2 w2.drew) := (Below.refl _ _).drew
    have HBa : Hid (Below w2.heap.size w2 (w2.drew.alloc (.cells ZC 5))) := HBd.out.alloc HBd.out.size _
    have HZa : Hid (Rd (w2.drew.alloc (.cells ZC 5)).heap.size (w2.drew.alloc (.cells ZC 5)) (.slice (some ⟨w2.heap.size, 0, none⟩) k k) Z) := (HMZ.out w2.drew).mono (by simp)
    have hwk : IntKind.u64.wrap (k : Int) = (k : Int) := by rw [IntKind.wrap_u64]; omega
    go_wp2_with fail
    go_region_law (first
      | (refine step_held rfl (.tmp 24) (.tmp 27) rfl rfl (Held.of_own HOs.out) rfl HRs.out HSL.out HB6.out.size ?_; intro v7 w7 hA bA; have HB7 := Lib.hid (HB6.out.trans bA); have HE7 := Lib.hid (errT_below HE2.out HB7.out); have HR7 := Lib.hid hA.rd; clear hA bA)
      | (refine step_held rfl (.tmp 24) (.tmp 27) rfl rfl (Held.of_own HOp.out) rfl HRs.out HSL.out HBp.out.size ?_; intro v7 w7 hA bA; have HB7 := Lib.hid (HBp.out.trans bA); have HE7 := Lib.hid (errT_below HE2.out HB7.out); have HR7 := Lib.hid hA.rd; clear hA bA)
      | (go_simp; go_at_call 20; (with_reducible refine (HRP.out _).mono ?_); rintro e w4 ⟨v4, rfl, o4, b4⟩; (try simp only []); (first | ((with_reducible have HBp := Lib.hid (HBd.out.trans (b4.mono HBd.out.size))); (with_reducible have HOp := Lib.hid (own_le o4 HBd.out.size))) | ((with_reducible have HBp := Lib.hid (HBa.out.trans (b4.mono HBa.out.size))); (with_reducible have HOp := Lib.hid (own_le o4 HBa.out.size)); (with_reducible have HZp := Lib.hid ((HZa.out.below b4 (Nat.le_refl _)).mono b4.size))) | ((with_reducible have HBp := Lib.hid (HB6.out.trans (b4.mono HB6.out.size))); (with_reducible have HOp := Lib.hid (own_le o4 HB6.out.size)); (with_reducible have HRt := Lib.hid ((HRs.out.below b4 (Nat.le_refl _)).mono b4.size)); clear HRs HB6; have HRs := HRt; clear HRt)); clear o4 b4)
      | (go_simp; go_at_call 21; (first | ((with_reducible refine (rseal_any HZp.out (Nat.le_refl _) (by rw [HZL.out]; omega)).mono ?_); rintro e w6 ⟨v6, rfl, o6, b6⟩; (try simp only []); have HB6 := Lib.hid (HBp.out.trans (b6.mono HBp.out.size)); have HOs := Lib.hid (own_below HOp.out b6)) | ((with_reducible refine (rseal_any HZa.out (Nat.le_refl _) (by rw [HZL.out]; omega)).mono ?_); rintro e w6 ⟨v6, rfl, o6, b6⟩; (try simp only []); have HB6 := Lib.hid (HBa.out.trans (b6.mono HBa.out.size))) | ((with_reducible refine (rseal_any (HMZ.out w4) (by simp) (by rw [HZL.out]; omega)).mono ?_); rintro e w6 ⟨v6, rfl, o6, b6⟩; (try simp only []); have HBq := Lib.hid (HBp.out.alloc HBp.out.size (.cells ZC 5)); have HB6 := Lib.hid (HBq.out.trans (b6.mono HBq.out.size)); have HOs := Lib.hid (own_below (own_below HOp.out ((Below.refl _ _).alloc (Nat.le_refl _) _)) b6))); have HRs := Lib.hid (Rd.of_own o6); clear o6 b6)
      | (go_simp; go_at_call 10; refine (fread_any HR7.out (Nat.le_refl _) HLN.out HE7.out).mono ?_; rintro e w8 ⟨v8, rfl, o8, b8⟩; (try simp only []); rw [HRF.out]; rw [show errF ([], 0, 15, 0).2.2.1 ([], 0, 15, 0).2.2.2 = faultN 15 0 from rfl]; have HB8 := Lib.hid (HB7.out.trans (b8.mono HB7.out.size)); clear o8 b8))
    all_goals have HTO := Lib.hid (told_fault 15 0 (by decide) w8 (errT_below HE2.out HB8.out))
    all_goals have HB9 := Lib.hid (HB2.out.trans (HB8.out.mono HB2.out.size))
    all_goals go_wp2_with fail
    all_goals refine HTO.out.mono ?_
    all_goals rintro e w9 ⟨rfl, b9⟩
    all_goals have HBX := Lib.hid (HB9.out.trans (b9.mono HB9.out.size))
    all_goals clear b9 HTO
    all_goals go_wp2_with fail
    all_goals go_ret
    all_goals exact ⟨rfl, HBX.out⟩
  · have gb : ¬ (65536 : Int) < k := by omega
    have HPUT := Lib.hid (fput_any HR1a.out (Nat.le_refl _) (by rw [HZL.out]; omega))
    have HFL : Hid ((framed Z).length = k + 7) := by
      show _ = _
      unfold framed
      rw [List.length_append, sealed_len, HZL.out, HH3.out]; omega
    have HRF : Hid (readF (put k ++ sealed Z) = (Z, k + 7, 0, 0)) := by
      have := readF_framed (l := Z) (by rw [HZL.out]; omega) []
      rw [List.append_nil, HFL.out] at this
      unfold framed at this
      rw [HZL.out] at this
      exact this
    go_wp2_with fail
    refine HPUT.out.mono ?_
    rintro e w2 ⟨vb, rfl, ob, bb⟩
    rw [HFL.out] at ob
    have HB2 := Lib.hid (HB1a.out.trans (bb.mono HB1a.out.size))
    have HE2 := Lib.hid (errT_below HE1a.out bb)
    have hvb : ∃ q c, vb = .slice q (k + 7) c := by
      obtain ⟨q, c, h⟩ := own_form ob
      rw [HFL.out] at h
      exact ⟨q, c, h⟩
    obtain ⟨qb, cb, rfl⟩ := hvb
    clear ob bb HPUT HR1a HB1a HE1a
    have HBd : Hid (Below w2.heap.size w2 w2.drew) := (Below.refl _ _).drew
    have HBa : Hid (Below w2.heap.size w2 (w2.drew.alloc (.cells ZC 5))) := HBd.out.alloc HBd.out.size _
    have HZa : Hid (Rd (w2.drew.alloc (.cells ZC 5)).heap.size (w2.drew.alloc (.cells ZC 5)) (.slice (some ⟨w2.heap.size, 0, none⟩) k k) Z) := (HMZ.out w2.drew).mono (by simp)
    have hwk : IntKind.u64.wrap (k : Int) = (k : Int) := by rw [IntKind.wrap_u64]; omega
    go_wp2_with fail
    go_region_law (first
      | (refine step_held rfl (.tmp 24) (.tmp 27) rfl rfl (Held.of_own HOs.out) rfl HRs.out HSL.out HB6.out.size ?_; intro v7 w7 hA bA; have HB7 := Lib.hid (HB6.out.trans bA); have HE7 := Lib.hid (errT_below HE2.out HB7.out); have HR7 := Lib.hid hA.rd; clear hA bA)
      | (refine step_held rfl (.tmp 24) (.tmp 27) rfl rfl (Held.of_own HOp.out) rfl HRs.out HSL.out HBp.out.size ?_; intro v7 w7 hA bA; have HB7 := Lib.hid (HBp.out.trans bA); have HE7 := Lib.hid (errT_below HE2.out HB7.out); have HR7 := Lib.hid hA.rd; clear hA bA)
      | (go_simp; go_at_call 20; (with_reducible refine (HRP.out _).mono ?_); rintro e w4 ⟨v4, rfl, o4, b4⟩; (try simp only []); (first | ((with_reducible have HBp := Lib.hid (HBd.out.trans (b4.mono HBd.out.size))); (with_reducible have HOp := Lib.hid (own_le o4 HBd.out.size))) | ((with_reducible have HBp := Lib.hid (HBa.out.trans (b4.mono HBa.out.size))); (with_reducible have HOp := Lib.hid (own_le o4 HBa.out.size)); (with_reducible have HZp := Lib.hid ((HZa.out.below b4 (Nat.le_refl _)).mono b4.size))) | ((with_reducible have HBp := Lib.hid (HB6.out.trans (b4.mono HB6.out.size))); (with_reducible have HOp := Lib.hid (own_le o4 HB6.out.size)); (with_reducible have HRt := Lib.hid ((HRs.out.below b4 (Nat.le_refl _)).mono b4.size)); clear HRs HB6; have HRs := HRt; clear HRt)); clear o4 b4)
      | (go_simp; go_at_call 21; (first | ((with_reducible refine (rseal_any HZp.out (Nat.le_refl _) (by rw [HZL.out]; omega)).mono ?_); rintro e w6 ⟨v6, rfl, o6, b6⟩; (try simp only []); have HB6 := Lib.hid (HBp.out.trans (b6.mono HBp.out.size)); have HOs := Lib.hid (own_below HOp.out b6)) | ((with_reducible refine (rseal_any HZa.out (Nat.le_refl _) (by rw [HZL.out]; omega)).mono ?_); rintro e w6 ⟨v6, rfl, o6, b6⟩; (try simp only []); have HB6 := Lib.hid (HBa.out.trans (b6.mono HBa.out.size))) | ((with_reducible refine (rseal_any (HMZ.out w4) (by simp) (by rw [HZL.out]; omega)).mono ?_); rintro e w6 ⟨v6, rfl, o6, b6⟩; (try simp only []); have HBq := Lib.hid (HBp.out.alloc HBp.out.size (.cells ZC 5)); have HB6 := Lib.hid (HBq.out.trans (b6.mono HBq.out.size)); have HOs := Lib.hid (own_below (own_below HOp.out ((Below.refl _ _).alloc (Nat.le_refl _) _)) b6))); have HRs := Lib.hid (Rd.of_own o6); clear o6 b6)
      | (go_simp; go_at_call 10; refine (fread_any HR7.out (Nat.le_refl _) HLN.out HE7.out).mono ?_; rintro e w8 ⟨v8, rfl, o8, b8⟩; (try simp only []); rw [HRF.out]; rw [show errF (Z, k + 7, 0, 0).2.2.1 (Z, k + 7, 0, 0).2.2.2 = .nilIface from rfl]; have HB8 := Lib.hid (HB7.out.trans (b8.mono HB7.out.size)); clear o8 b8))
    all_goals have HSZ := Lib.hid (fsize_any k (by omega) w8)
    all_goals rw [HH3.out, show 3 + k + 4 = k + 7 by omega] at HSZ
    all_goals have HB9 := Lib.hid (HB2.out.trans (HB8.out.mono HB2.out.size))
    all_goals go_wp2_with fail
    all_goals refine HSZ.out.mono ?_
    all_goals rintro e w9 ⟨rfl, b9⟩
    all_goals have HBX := Lib.hid (HB9.out.trans (b9.mono HB9.out.size))
    all_goals clear b9 HSZ
    all_goals go_wp2_with fail
    all_goals go_ret
    all_goals exact ⟨rfl, HBX.out⟩
end Go.Proofs.YtikokimnhanloaaDoor
