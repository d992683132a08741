/-
  The reference's Sum (HMAC).
-/
import Derived.Test.YtomoopadeknfbaaDoorMacB
import Derived.Test.YtomoopadeknfbaaDoorShaRS
import Derived.Test.YtomoopadeknfbaaDoorTwo
namespace Go.Proofs.YtomoopadeknfbaaDoor
open Go.ChangeShapes Go.WideShapes Go.ChangeAt Go.RowKit
set_option linter.unusedVariables false

set_option maxRecDepth 100000 in
set_option maxHeartbeats 1000000 in
theorem rmac_short {w : World} {v u : Value} {k l : List UInt8} (hv : Rd w.heap.size w v k) (hk : k.length ≤ 64) (hr : Rd w.heap.size w u l) (hl : l.length ≤ 900000) :
    Calls Tryd.prog 11 #[v, u] w fun e w' => e = .returned (.agg (bvs (hmac k l)).toArray) ∧ Below w.heap.size w w' := by
  obtain ⟨Z, hZ⟩ : ∃ Z : List UInt8, Z = List.replicate 32 0 := ⟨_, rfl⟩
  have HZ := Lib.hid hZ
  have HZ2 : Hid (∀ cs : Array Value, cs.toList = bvs (List.replicate 32 0) → cs.toList = bvs Z) := fun cs h => by rw [hZ]; exact h
  have HST : Hid (∀ (z y : Array Value) (t : TypeId), z.toList = bvs Z → Arr ((w.alloc (.cells z 26)).alloc (.cells y t)) 26 w.heap.size (bvs Z) ∧ Below w.heap.size w ((w.alloc (.cells z 26)).alloc (.cells y t)) ∧ Rd w.heap.size ((w.alloc (.cells z 26)).alloc (.cells y t)) v k ∧ Rd w.heap.size ((w.alloc (.cells z 26)).alloc (.cells y t)) u l ∧ Held (w.heap.size + 1) ((w.alloc (.cells z 26)).alloc (.cells y t)) (.slice (some ⟨w.heap.size + 1, 0, none⟩) 0 0) [] ∧ w.heap.size + 1 ≤ ((w.alloc (.cells z 26)).alloc (.cells y t)).heap.size) := fun z y t hz => by
    have hb : Below w.heap.size w ((w.alloc (.cells z 26)).alloc (.cells y t)) := ((Below.refl _ _).alloc (Nat.le_refl _) _).alloc (by simp) _
    exact ⟨(Arr.new' w _ z _ hz).alloc _, hb, hv.below hb (Nat.le_refl _), hr.below hb (Nat.le_refl _), .inr ⟨w.heap.size + 1, 0, 0, rfl, by simp, by unfold maxLen; omega, by omega, by simp, fun i hi => absurd hi (by simp), fun i hi => absurd hi (by omega)⟩, by simp⟩
  obtain ⟨q, c, rfl, _, _⟩ := hv.form
  obtain ⟨q2, c2, rfl, _, _⟩ := hr.form
  have HK := Lib.hid hk
  have HKN : Hid (([] : List UInt8).length + k.length ≤ 140737488355328) := by show _ ≤ _; simp; omega
  have HL := Lib.hid hl
  clear hv hr hk hl hZ
  go_enter Tryd.func11, Tryd.ntmps11
  go_wp2_with (at_builtin; refine app_held rfl (.tmp 12) (.tmp 13) rfl rfl (HST.out _ _ _ (HZ2.out _ rfl)).2.2.2.2.1 rfl (HST.out _ _ _ (HZ2.out _ rfl)).2.2.1 HKN.out (HST.out _ _ _ (HZ2.out _ rfl)).2.2.2.2.2 ?_)
  intro v1 w1 h1 b1
  try rw [List.nil_append] at h1
  obtain ⟨q1, c1, rfl, _, _⟩ := h1.form
  have HF := Lib.hid (And.intro ((HST.out _ _ _ (HZ2.out _ rfl)).1.below b1 (by omega)) (And.intro ((HST.out _ _ _ (HZ2.out _ rfl)).2.1.trans (b1.mono (by omega))) ((HST.out _ _ _ (HZ2.out _ rfl)).2.2.2.1.below b1 (by omega))))
  obtain ⟨K, hK⟩ : ∃ K, K = k := ⟨_, rfl⟩
  rw [← hK] at h1 ⊢
  have HKE : Hid (K = keyOf k) := by have := HK.out; show _ = _; unfold keyOf; rw [if_neg (by omega), hK]
  have hkl : ¬ (64 : Int) < K.length := by have := HK.out; rw [hK]; omega
  have HKR : Hid (Rd w1.heap.size w1 (.slice q1 K.length c1) K) := h1.rd
  clear b1 HST HZ2 h1 HKN
  obtain ⟨N, hN⟩ : ∃ N, N = K.length := ⟨_, rfl⟩
  have HN := Lib.hid hN
  rw [← hN] at hkl HKR ⊢
  obtain ⟨P, hP⟩ : ∃ P, P = padK k := ⟨_, rfl⟩
  have HPL : Hid (P.length = 64) := by rw [hP]; exact padK_length k
  have HPG : Hid (∀ i, P.getD i 0 = if i < N then K.getD i 0 else 0) := by
    intro i
    rw [hP, padK, ← HKE.out, hN]
    simp only [List.getD_eq_getElem?_getD, List.getElem?_append]
    split
    · rfl
    · rw [List.getElem?_replicate]; split <;> rfl
  have HPE := Lib.hid hP
  have HSZ : Hid (w.heap.size < w1.heap.size) := HF.out.1.lt
  clear hN hP
  go_wp2_with fail
  have hTWO : Hid (Two w1.heap.size w1 (.slice none 0 0) (xorL 54 (P.take 0)) (.slice none 0 0) (xorL 92 (P.take 0)) ∧ Below w1.heap.size w1 w1) := ⟨Two.nil _ _, Below.refl _ _⟩
  go_loopw [7, 8, 9] (fun vi vo iv wr => ∃ i : Nat, i ≤ 64 ∧ iv = .int .i64 i ∧ Hid (Two w1.heap.size wr vi (xorL 54 (P.take i)) vo (xorL 92 (P.take i)) ∧ Below w1.heap.size w1 wr)) (fun _ _ iv _ => 64 - (intOf iv).toNat)
  case atStart => exact ⟨0, by omega, rfl, hTWO.out⟩
  case round =>
    obtain ⟨i, hi, rfl, HM⟩ := hrel
    clear hTWO
    have hi0 : (0 : Int) ≤ i := by omega
    by_cases hlt : i < 64
    · have hlt1 : (i : Int) < 64 := by omega
      have hiP : i < P.length := by rw [HPL.out]; exact hlt
      obtain ⟨x, hx⟩ : ∃ x, x = P.getD i 0 := ⟨_, rfl⟩
      have hxg := HPG.out i
      rw [← hx] at hxg
      have key : ∀ m : UInt8, xorL m (P.take i) ++ [x ^^^ m] = xorL m (P.take (i + 1)) := fun m => by
        rw [List.take_succ_eq_append_getElem hiP, hx]
        simp only [xorL, List.map_append, List.map_cons, List.map_nil, List.getD_eq_getElem?_getD, List.getElem?_eq_getElem hiP, Option.getD_some]
      have hll : ∀ m : UInt8, (xorL m (P.take i)).length = i := fun m => by rw [xorL_length, List.length_take]; omega
      have HK54 := Lib.hid (key 54)
      have HK92 := Lib.hid (key 92)
      have HL54 : Hid ((xorL 54 (P.take i)).length + ([x ^^^ 54] : List UInt8).length ≤ 140737488355328) := by show _ ≤ _; rw [hll]; simp; omega
      have HL92 : Hid ((xorL 92 (P.take i)).length + ([x ^^^ 92] : List UInt8).length ≤ 140737488355328) := by show _ ≤ _; rw [hll]; simp; omega
      obtain ⟨y1, hy1⟩ : ∃ y1, y1 = x ^^^ 54 := ⟨_, rfl⟩
      obtain ⟨y2, hy2⟩ : ∃ y2, y2 = x ^^^ 92 := ⟨_, rfl⟩
      rw [← hy1] at HK54 HL54
      rw [← hy2] at HK92 HL92
      have e54 : bits .xor .u8 (x.toNat : Int) 54 = (y1.toNat : Int) := by rw [hy1, ← u8x]; rfl
      have e92 : bits .xor .u8 (x.toNat : Int) 92 = (y2.toNat : Int) := by rw [hy2, ← u8x]; rfl
      have HX : Hid (N ≤ i → x = 0) := fun h => by rw [hxg, if_neg (by omega)]
      have HXK : Hid (i < N → wr.cell? = wr.cell? ∧ x = K.getD i 0) := fun h => ⟨rfl, by rw [hxg, if_pos h]⟩
      have hb1 : Below wr.heap.size wr (wr.alloc (.cells #[.int .u8 y1.toNat] 5)) := (Below.refl _ _).alloc (Nat.le_refl _) _
      have HT1 := Lib.hid (HM.out.1.later hb1)
      have HB1 := Lib.hid (HM.out.2.trans (hb1.mono HM.out.2.size))
      have HR1 := Lib.hid (rd_lit wr [y1] #[.int .u8 y1.toNat] rfl 1 rfl (by simp [maxLen]))
      have HKX : Hid (i < N → ∃ b off, q1 = some ⟨b, off, none⟩ ∧ wr.cell? ⟨b, off + i, none⟩ = some (.int .u8 x.toNat)) := fun h => by
        rcases HKR.out with ⟨oa, _, h0⟩ | ⟨b, off, cap, hv, _, _, h3, h4⟩
        · have := HN.out; rw [h0] at this; simp at this; omega
        · simp only [Value.slice.injEq] at hv
          refine ⟨b, off, hv.1, ?_⟩
          rw [HM.out.2.cell (p := ⟨b, off + i, none⟩) h3, h4 i (by have := HN.out; omega), ← HXK.out h |>.2]
          rfl
      clear hb1 HM key hll hxg hx HXK hi hy1 hy2
      have step2 : Hid (∀ v2 w2, Two w1.heap.size w2 v2 (xorL 54 (P.take (i + 1))) u8 (xorL 92 (P.take i)) → Below w1.heap.size w1 w2 → Two w1.heap.size (w2.alloc (.cells #[.int .u8 y2.toNat] 5)) u8 (xorL 92 (P.take i)) v2 (xorL 54 (P.take (i + 1))) ∧ Rd (w2.heap.size + 1) (w2.alloc (.cells #[.int .u8 y2.toNat] 5)) (.slice (some ⟨w2.heap.size, 0, none⟩) 1 1) [y2] ∧ Below w1.heap.size w1 (w2.alloc (.cells #[.int .u8 y2.toNat] 5))) := fun v2 w2 h2 hb => by
        have hbn : Below w2.heap.size w2 (w2.alloc (.cells #[.int .u8 y2.toNat] 5)) := (Below.refl _ _).alloc (Nat.le_refl _) _
        exact ⟨(h2.later hbn).swap, rd_lit w2 [y2] #[.int .u8 y2.toNat] rfl 1 rfl (by simp [maxLen]), hb.trans (hbn.mono hb.size)⟩
      by_cases hin : i < N
      · have hin1 : (i : Int) < N := by omega
        obtain ⟨b, off, rfl, hcx⟩ := HKX.out hin
        have hcx1 : (wr.alloc (.cells #[.int .u8 y1.toNat] 5)).heap.size = wr.heap.size + 1 := by simp
        clear hcx1
        go_wp2_with (at_builtin; refine app_two rfl (.tmp 33) (.tmp 36) rfl rfl HT1.out rfl HR1.out HL54.out HB1.out.size ?_)
        intro v2 w2 h2 b2
        rw [HK54.out] at h2
        have HS2 := Lib.hid (step2.out v2 w2 h2 (HB1.out.trans b2))
        clear h2 b2 step2 HT1 HB1 HR1 hcx
        go_wp2_with (at_builtin; refine app_two rfl (.tmp 38) (.tmp 41) rfl rfl HS2.out.1 rfl HS2.out.2.1 HL92.out HS2.out.2.2.size ?_)
        intro v3 w3 h3 b3
        rw [HK92.out] at h3
        have HS3 : Hid (Two w1.heap.size w3 v2 (xorL 54 (P.take (i + 1))) v3 (xorL 92 (P.take (i + 1))) ∧ Below w1.heap.size w1 w3) := ⟨h3.swap, HS2.out.2.2.trans b3⟩
        clear h3 b3 HS2
        go_wp2_with fail
        go_roundw
        case rel => exact ⟨i + 1, by omega, by go_num, HS3.out⟩
        case measure => simp [intOf]; omega
      · have hin1 : ¬ (i : Int) < N := by omega
        have hx0 : x = 0 := HX.out (by omega)
        rw [hx0, show (((0 : UInt8).toNat : Nat) : Int) = 0 from rfl] at e54 e92
        go_wp2_with (at_builtin; refine app_two rfl (.tmp 33) (.tmp 36) rfl rfl HT1.out rfl HR1.out HL54.out HB1.out.size ?_)
        intro v2 w2 h2 b2
        rw [HK54.out] at h2
        have HS2 := Lib.hid (step2.out v2 w2 h2 (HB1.out.trans b2))
        clear h2 b2 step2 HT1 HB1 HR1
        go_wp2_with (at_builtin; refine app_two rfl (.tmp 38) (.tmp 41) rfl rfl HS2.out.1 rfl HS2.out.2.1 HL92.out HS2.out.2.2.size ?_)
        intro v3 w3 h3 b3
        rw [HK92.out] at h3
        have HS3 : Hid (Two w1.heap.size w3 v2 (xorL 54 (P.take (i + 1))) v3 (xorL 92 (P.take (i + 1))) ∧ Below w1.heap.size w1 w3) := ⟨h3.swap, HS2.out.2.2.trans b3⟩
        clear h3 b3 HS2
        go_wp2_with fail
        go_roundw
        case rel => exact ⟨i + 1, by omega, by go_num, HS3.out⟩
        case measure => simp [intOf]; omega
    · obtain rfl : i = 64 := by omega
      have hp64 : P.take 64 = P := List.take_of_length_le (by rw [HPL.out]; exact Nat.le_refl _)
      rw [hp64] at HM
      clear hp64 hlt hi hi0
      have HLB : Hid ((xorL 54 P).length + l.length ≤ 140737488355328) := by have := HL.out; have := HPL.out; show _ ≤ _; rw [xorL_length]; omega
      have HBL : Hid (Rd w.heap.size wr (.slice q2 l.length c2) l) := HF.out.2.2.below HM.out.2 (Nat.le_of_lt HSZ.out)
      have HMS : Hid (w1.heap.size ≤ wr.heap.size) := HM.out.2.size
      have HMB := Lib.hid HM.out.2
      go_wp2_with (at_builtin; refine app_two rfl (.tmp 43) (.tmp 44) rfl rfl HM.out.1 rfl HBL.out HLB.out HMS.out ?_)
      intro v2 w2 h2 b2
      have HB2 : Hid (Below w1.heap.size w1 w2) := HMB.out.trans b2
      have HH2 := Lib.hid h2
      have HL2 : Hid ((xorL 54 P ++ l).length ≤ 1000000) := by have := HL.out; have := HPL.out; show _ ≤ _; rw [List.length_append, xorL_length]; omega
      clear h2 b2 HM HBL HLB HMB HMS
      go_wp2_with fail
      refine (rsum_any HH2.out.1.rd HL2.out).mono ?_
      rintro e w3 ⟨rfl, b3⟩
      have HB3 : Hid (Below w1.heap.size w1 w3) := HB2.out.trans (b3.mono HB2.out.size)
      have HH3 := Lib.hid (HH2.out.later b3)
      obtain ⟨I, hI⟩ : ∃ I, I = digest (xorL 54 P ++ l) := ⟨_, rfl⟩
      rw [← hI]
      have HIL : Hid (I.length = 32) := by rw [hI]; exact digest_length _
      have HIE := Lib.hid hI
      clear b3 HB2 HH2 HL2 hI
      have hb4 : Below w3.heap.size w3 (w3.alloc (.cells (bvs I).toArray 26)) := (Below.refl _ _).alloc (Nat.le_refl _) _
      have HI4 : Hid (Rd (w3.alloc (.cells (bvs I).toArray 26)).heap.size (w3.alloc (.cells (bvs I).toArray 26)) (.slice (some ⟨w3.heap.size, 0, none⟩) 32 32) I) := by
        have := arr_rd (Arr.new' w3 26 (bvs I).toArray (bvs I) (by simp)) (by rw [HIL.out]; unfold maxLen; omega)
        rw [HIL.out] at this
        exact this
      have HB4 : Hid (Below w1.heap.size w1 (w3.alloc (.cells (bvs I).toArray 26))) := HB3.out.trans (hb4.mono HB3.out.size)
      have HH4 := Lib.hid (HH3.out.later hb4).swap
      have HL4 : Hid ((xorL 92 P).length + I.length ≤ 140737488355328) := by have := HPL.out; show _ ≤ _; rw [xorL_length, HIL.out]; omega
      have HS4 : Hid (w1.heap.size ≤ (w3.alloc (.cells (bvs I).toArray 26)).heap.size) := HB4.out.size
      clear hb4 HB3 HH3
      go_wp2_with (first
        | ((with_reducible refine at32b w3.heap.size (x := .tmp 11) (y := .tmp 46) (l := I) (o := ⟨none, .store _ _ _, _, _, _, _⟩) HIL.out ?_ ?_); exact ⟨rfl, rfl, rfl, rfl, rfl, rfl⟩)
        | (at_builtin; refine app_two rfl (.tmp 47) (.tmp 48) rfl rfl HH4.out rfl HI4.out HL4.out HS4.out ?_))
      intro v5 w5 h5 b5
      have HB5 : Hid (Below w1.heap.size w1 w5) := HB4.out.trans b5
      have HH5 := Lib.hid h5.1
      have HL5 : Hid ((xorL 92 P ++ I).length ≤ 1000000) := by have := HPL.out; show _ ≤ _; rw [List.length_append, xorL_length, HIL.out]; omega
      clear h5 b5 HB4 HH4 HI4 HL4 HS4
      go_wp2_with fail
      refine (rsum_any HH5.out.rd HL5.out).mono ?_
      rintro e w6 ⟨rfl, b6⟩
      have HB6 : Hid (Below w1.heap.size w1 w6) := HB5.out.trans (b6.mono HB5.out.size)
      have hM : Arr w6 26 w.heap.size (bvs Z) := HF.out.1.below HB6.out HSZ.out
      have HBW : Hid (Below w.heap.size w w6) := HF.out.2.1.trans (HB6.out.mono (Nat.le_of_lt HSZ.out))
      obtain ⟨D, hD⟩ : ∃ D, D = digest (xorL 92 P ++ I) := ⟨_, rfl⟩
      rw [← hD]
      have HDL : Hid (D.length = 32) := by rw [hD]; exact digest_length _
      have HDE : Hid (D = hmac k l) := by
        show _ = _
        rw [hD, HIE.out, HPE.out]; rfl
      have HZL : Hid ((bvs Z).length = 32) := by show _ = _; rw [bvs_length, HZ.out]; rfl
      clear b6 hD HB5 HH5 HB6 HL5
      go_wp2_with ((with_reducible refine store32b (x := .tmp 4) (y := .tmp 50) (l := D) (o := ⟨none, .store _ _ _, _, _, _, _⟩) hM HZL.out HDL.out ?_ ?_); exact ⟨rfl, rfl, rfl, rfl⟩)
      exact bodyPost_ret (res32b rfl (hM.row _) HDL.out rfl) rfl ⟨by rw [HDE.out], below_row HBW.out (Nat.le_refl _) _⟩
set_option maxRecDepth 100000 in
set_option maxHeartbeats 1000000 in
theorem rmac_long {w : World} {v u : Value} {k l : List UInt8} (hv : Rd w.heap.size w v k) (hk : 64 < k.length) (hk2 : k.length ≤ 900000) (hr : Rd w.heap.size w u l) (hl : l.length ≤ 900000) :
    Calls Tryd.prog 11 #[v, u] w fun e w' => e = .returned (.agg (bvs (hmac k l)).toArray) ∧ Below w.heap.size w w' := by
  obtain ⟨Z, hZ⟩ : ∃ Z : List UInt8, Z = List.replicate 32 0 := ⟨_, rfl⟩
  have HZ := Lib.hid hZ
  have HZ2 : Hid (∀ cs : Array Value, cs.toList = bvs (List.replicate 32 0) → cs.toList = bvs Z) := fun cs h => by rw [hZ]; exact h
  have HST : Hid (∀ (z y : Array Value) (t : TypeId), z.toList = bvs Z → Arr ((w.alloc (.cells z 26)).alloc (.cells y t)) 26 w.heap.size (bvs Z) ∧ Below w.heap.size w ((w.alloc (.cells z 26)).alloc (.cells y t)) ∧ Rd w.heap.size ((w.alloc (.cells z 26)).alloc (.cells y t)) v k ∧ Rd w.heap.size ((w.alloc (.cells z 26)).alloc (.cells y t)) u l ∧ Held (w.heap.size + 1) ((w.alloc (.cells z 26)).alloc (.cells y t)) (.slice (some ⟨w.heap.size + 1, 0, none⟩) 0 0) [] ∧ w.heap.size + 1 ≤ ((w.alloc (.cells z 26)).alloc (.cells y t)).heap.size) := fun z y t hz => by
    have hb : Below w.heap.size w ((w.alloc (.cells z 26)).alloc (.cells y t)) := ((Below.refl _ _).alloc (Nat.le_refl _) _).alloc (by simp) _
    exact ⟨(Arr.new' w _ z _ hz).alloc _, hb, hv.below hb (Nat.le_refl _), hr.below hb (Nat.le_refl _), .inr ⟨w.heap.size + 1, 0, 0, rfl, by simp, by unfold maxLen; omega, by omega, by simp, fun i hi => absurd hi (by simp), fun i hi => absurd hi (by omega)⟩, by simp⟩
  obtain ⟨q, c, rfl, _, _⟩ := hv.form
  obtain ⟨q2, c2, rfl, _, _⟩ := hr.form
  have HK := Lib.hid hk2
  have hkl0 : (64 : Int) < k.length := by omega
  have HKN : Hid (([] : List UInt8).length + k.length ≤ 140737488355328) := by show _ ≤ _; simp; omega
  have HL := Lib.hid hl
  clear hv hr hl hZ
  go_enter Tryd.func11, Tryd.ntmps11
  go_wp2_with (at_builtin; refine app_held rfl (.tmp 12) (.tmp 13) rfl rfl (HST.out _ _ _ (HZ2.out _ rfl)).2.2.2.2.1 rfl (HST.out _ _ _ (HZ2.out _ rfl)).2.2.1 HKN.out (HST.out _ _ _ (HZ2.out _ rfl)).2.2.2.2.2 ?_)
  intro v1 w1 h1 b1
  try rw [List.nil_append] at h1
  obtain ⟨q1, c1, rfl, _, _⟩ := h1.form
  have HFa := Lib.hid (And.intro ((HST.out _ _ _ (HZ2.out _ rfl)).1.below b1 (by omega)) (And.intro ((HST.out _ _ _ (HZ2.out _ rfl)).2.1.trans (b1.mono (by omega))) ((HST.out _ _ _ (HZ2.out _ rfl)).2.2.2.1.below b1 (by omega))))
  have HHa := Lib.hid h1
  have HKL : Hid (64 < k.length) := hk
  clear b1 HST HZ2 h1 HKN hk hk2
  go_wp2_with fail
  refine (rsum_any HHa.out.rd (Nat.le_trans HK.out (by omega))).mono ?_
  rintro e wb ⟨rfl, bb⟩
  have HFb := Lib.hid (And.intro (HFa.out.1.later bb) (And.intro (HFa.out.2.1.trans (bb.mono HFa.out.2.1.size)) (HFa.out.2.2.below bb HFa.out.2.1.size)))
  obtain ⟨K, hK⟩ : ∃ K, K = digest k := ⟨_, rfl⟩
  rw [← hK]
  have HKE : Hid (K = keyOf k) := by have := HKL.out; show _ = _; unfold keyOf; rw [if_pos (by omega), hK]
  have HK32 : Hid (K.length = 32) := by rw [hK]; exact digest_length _
  clear bb HFa HHa hK hkl0
  have hbc : Below wb.heap.size wb (wb.alloc (.cells (bvs K).toArray 26)) := (Below.refl _ _).alloc (Nat.le_refl _) _
  have HF : Hid (Arr (wb.alloc (.cells (bvs K).toArray 26)) 26 w.heap.size (bvs Z) ∧ Below w.heap.size w (wb.alloc (.cells (bvs K).toArray 26)) ∧ Rd w.heap.size (wb.alloc (.cells (bvs K).toArray 26)) (.slice q2 l.length c2) l) :=
    ⟨HFb.out.1.later hbc, HFb.out.2.1.trans (hbc.mono HFb.out.2.1.size), HFb.out.2.2.below hbc HFb.out.2.1.size⟩
  have HKR : Hid (Rd (wb.alloc (.cells (bvs K).toArray 26)).heap.size (wb.alloc (.cells (bvs K).toArray 26)) (.slice (some ⟨wb.heap.size, 0, none⟩) 32 32) K) := by
    have := arr_rd (Arr.new' wb 26 (bvs K).toArray (bvs K) (by simp)) (by rw [HK32.out]; unfold maxLen; omega)
    rw [HK32.out] at this
    exact this
  clear hbc HFb
  go_wp2_with ((with_reducible refine at32b wb.heap.size (x := .tmp 6) (y := .tmp 19) (l := K) (o := ⟨none, .store _ _ _, _, _, _, _⟩) HK32.out ?_ ?_); exact ⟨rfl, rfl, rfl, rfl, rfl, rfl⟩)
  generalize wb.alloc (.cells (bvs K).toArray 26) = w1 at HF HKR ⊢
  obtain ⟨q1, hq1⟩ : ∃ q1 : Option Addr, q1 = some ⟨wb.heap.size, 0, none⟩ := ⟨_, rfl⟩
  obtain ⟨c1, hc1⟩ : ∃ c1 : Nat, c1 = 32 := ⟨_, rfl⟩
  obtain ⟨N, hN⟩ : ∃ N, N = K.length := ⟨_, rfl⟩
  have HN := Lib.hid hN
  have hvk : Value.slice (some ⟨wb.heap.size, 0, none⟩) 32 32 = .slice q1 N c1 := by rw [hq1, hN, HK32.out, hc1]
  rw [hvk] at HKR ⊢
  obtain ⟨P, hP⟩ : ∃ P, P = padK k := ⟨_, rfl⟩
  have HPL : Hid (P.length = 64) := by rw [hP]; exact padK_length k
  have HPG : Hid (∀ i, P.getD i 0 = if i < N then K.getD i 0 else 0) := by
    intro i
    rw [hP, padK, ← HKE.out, hN]
    simp only [List.getD_eq_getElem?_getD, List.getElem?_append]
    split
    · rfl
    · rw [List.getElem?_replicate]; split <;> rfl
  have HPE := Lib.hid hP
  have HSZ : Hid (w.heap.size < w1.heap.size) := HF.out.1.lt
  clear hN hP hvk hq1 hc1
  have hTWO : Hid (Two w1.heap.size w1 (.slice none 0 0) (xorL 54 (P.take 0)) (.slice none 0 0) (xorL 92 (P.take 0)) ∧ Below w1.heap.size w1 w1) := ⟨Two.nil _ _, Below.refl _ _⟩
  go_loopw [7, 8, 9] (fun vi vo iv wr => ∃ i : Nat, i ≤ 64 ∧ iv = .int .i64 i ∧ Hid (Two w1.heap.size wr vi (xorL 54 (P.take i)) vo (xorL 92 (P.take i)) ∧ Below w1.heap.size w1 wr)) (fun _ _ iv _ => 64 - (intOf iv).toNat)
  case atStart => exact ⟨0, by omega, rfl, hTWO.out⟩
  case round =>
    obtain ⟨i, hi, rfl, HM⟩ := hrel
    clear hTWO
    have hi0 : (0 : Int) ≤ i := by omega
    by_cases hlt : i < 64
    · have hlt1 : (i : Int) < 64 := by omega
      have hiP : i < P.length := by rw [HPL.out]; exact hlt
      obtain ⟨x, hx⟩ : ∃ x, x = P.getD i 0 := ⟨_, rfl⟩
      have hxg := HPG.out i
      rw [← hx] at hxg
      have key : ∀ m : UInt8, xorL m (P.take i) ++ [x ^^^ m] = xorL m (P.take (i + 1)) := fun m => by
        rw [List.take_succ_eq_append_getElem hiP, hx]
        simp only [xorL, List.map_append, List.map_cons, List.map_nil, List.getD_eq_getElem?_getD, List.getElem?_eq_getElem hiP, Option.getD_some]
      have hll : ∀ m : UInt8, (xorL m (P.take i)).length = i := fun m => by rw [xorL_length, List.length_take]; omega
      have HK54 := Lib.hid (key 54)
      have HK92 := Lib.hid (key 92)
      have HL54 : Hid ((xorL 54 (P.take i)).length + ([x ^^^ 54] : List UInt8).length ≤ 140737488355328) := by show _ ≤ _; rw [hll]; simp; omega
      have HL92 : Hid ((xorL 92 (P.take i)).length + ([x ^^^ 92] : List UInt8).length ≤ 140737488355328) := by show _ ≤ _; rw [hll]; simp; omega
      obtain ⟨y1, hy1⟩ : ∃ y1, y1 = x ^^^ 54 := ⟨_, rfl⟩
      obtain ⟨y2, hy2⟩ : ∃ y2, y2 = x ^^^ 92 := ⟨_, rfl⟩
      rw [← hy1] at HK54 HL54
      rw [← hy2] at HK92 HL92
      have e54 : bits .xor .u8 (x.toNat : Int) 54 = (y1.toNat : Int) := by rw [hy1, ← u8x]; rfl
      have e92 : bits .xor .u8 (x.toNat : Int) 92 = (y2.toNat : Int) := by rw [hy2, ← u8x]; rfl
      have HX : Hid (N ≤ i → x = 0) := fun h => by rw [hxg, if_neg (by omega)]
      have HXK : Hid (i < N → wr.cell? = wr.cell? ∧ x = K.getD i 0) := fun h => ⟨rfl, by rw [hxg, if_pos h]⟩
      have hb1 : Below wr.heap.size wr (wr.alloc (.cells #[.int .u8 y1.toNat] 5)) := (Below.refl _ _).alloc (Nat.le_refl _) _
      have HT1 := Lib.hid (HM.out.1.later hb1)
      have HB1 := Lib.hid (HM.out.2.trans (hb1.mono HM.out.2.size))
      have HR1 := Lib.hid (rd_lit wr [y1] #[.int .u8 y1.toNat] rfl 1 rfl (by simp [maxLen]))
      have HKX : Hid (i < N → ∃ b off, q1 = some ⟨b, off, none⟩ ∧ wr.cell? ⟨b, off + i, none⟩ = some (.int .u8 x.toNat)) := fun h => by
        rcases HKR.out with ⟨oa, _, h0⟩ | ⟨b, off, cap, hv, _, _, h3, h4⟩
        · have := HN.out; rw [h0] at this; simp at this; omega
        · simp only [Value.slice.injEq] at hv
          refine ⟨b, off, hv.1, ?_⟩
          rw [HM.out.2.cell (p := ⟨b, off + i, none⟩) h3, h4 i (by have := HN.out; omega), ← HXK.out h |>.2]
          rfl
      clear hb1 HM key hll hxg hx HXK hi hy1 hy2
      have step2 : Hid (∀ v2 w2, Two w1.heap.size w2 v2 (xorL 54 (P.take (i + 1))) u8 (xorL 92 (P.take i)) → Below w1.heap.size w1 w2 → Two w1.heap.size (w2.alloc (.cells #[.int .u8 y2.toNat] 5)) u8 (xorL 92 (P.take i)) v2 (xorL 54 (P.take (i + 1))) ∧ Rd (w2.heap.size + 1) (w2.alloc (.cells #[.int .u8 y2.toNat] 5)) (.slice (some ⟨w2.heap.size, 0, none⟩) 1 1) [y2] ∧ Below w1.heap.size w1 (w2.alloc (.cells #[.int .u8 y2.toNat] 5))) := fun v2 w2 h2 hb => by
        have hbn : Below w2.heap.size w2 (w2.alloc (.cells #[.int .u8 y2.toNat] 5)) := (Below.refl _ _).alloc (Nat.le_refl _) _
        exact ⟨(h2.later hbn).swap, rd_lit w2 [y2] #[.int .u8 y2.toNat] rfl 1 rfl (by simp [maxLen]), hb.trans (hbn.mono hb.size)⟩
      by_cases hin : i < N
      · have hin1 : (i : Int) < N := by omega
        obtain ⟨b, off, rfl, hcx⟩ := HKX.out hin
        have hcx1 : (wr.alloc (.cells #[.int .u8 y1.toNat] 5)).heap.size = wr.heap.size + 1 := by simp
        clear hcx1
        go_wp2_with (at_builtin; refine app_two rfl (.tmp 33) (.tmp 36) rfl rfl HT1.out rfl HR1.out HL54.out HB1.out.size ?_)
        intro v2 w2 h2 b2
        rw [HK54.out] at h2
        have HS2 := Lib.hid (step2.out v2 w2 h2 (HB1.out.trans b2))
        clear h2 b2 step2 HT1 HB1 HR1 hcx
        go_wp2_with (at_builtin; refine app_two rfl (.tmp 38) (.tmp 41) rfl rfl HS2.out.1 rfl HS2.out.2.1 HL92.out HS2.out.2.2.size ?_)
        intro v3 w3 h3 b3
        rw [HK92.out] at h3
        have HS3 : Hid (Two w1.heap.size w3 v2 (xorL 54 (P.take (i + 1))) v3 (xorL 92 (P.take (i + 1))) ∧ Below w1.heap.size w1 w3) := ⟨h3.swap, HS2.out.2.2.trans b3⟩
        clear h3 b3 HS2
        go_wp2_with fail
        go_roundw
        case rel => exact ⟨i + 1, by omega, by go_num, HS3.out⟩
        case measure => simp [intOf]; omega
      · have hin1 : ¬ (i : Int) < N := by omega
        have hx0 : x = 0 := HX.out (by omega)
        rw [hx0, show (((0 : UInt8).toNat : Nat) : Int) = 0 from rfl] at e54 e92
        go_wp2_with (at_builtin; refine app_two rfl (.tmp 33) (.tmp 36) rfl rfl HT1.out rfl HR1.out HL54.out HB1.out.size ?_)
        intro v2 w2 h2 b2
        rw [HK54.out] at h2
        have HS2 := Lib.hid (step2.out v2 w2 h2 (HB1.out.trans b2))
        clear h2 b2 step2 HT1 HB1 HR1
        go_wp2_with (at_builtin; refine app_two rfl (.tmp 38) (.tmp 41) rfl rfl HS2.out.1 rfl HS2.out.2.1 HL92.out HS2.out.2.2.size ?_)
        intro v3 w3 h3 b3
        rw [HK92.out] at h3
        have HS3 : Hid (Two w1.heap.size w3 v2 (xorL 54 (P.take (i + 1))) v3 (xorL 92 (P.take (i + 1))) ∧ Below w1.heap.size w1 w3) := ⟨h3.swap, HS2.out.2.2.trans b3⟩
        clear h3 b3 HS2
        go_wp2_with fail
        go_roundw
        case rel => exact ⟨i + 1, by omega, by go_num, HS3.out⟩
        case measure => simp [intOf]; omega
    · obtain rfl : i = 64 := by omega
      have hp64 : P.take 64 = P := List.take_of_length_le (by rw [HPL.out]; exact Nat.le_refl _)
      rw [hp64] at HM
      clear hp64 hlt hi hi0
      have HLB : Hid ((xorL 54 P).length + l.length ≤ 140737488355328) := by have := HL.out; have := HPL.out; show _ ≤ _; rw [xorL_length]; omega
      have HBL : Hid (Rd w.heap.size wr (.slice q2 l.length c2) l) := HF.out.2.2.below HM.out.2 (Nat.le_of_lt HSZ.out)
      have HMS : Hid (w1.heap.size ≤ wr.heap.size) := HM.out.2.size
      have HMB := Lib.hid HM.out.2
      go_wp2_with (at_builtin; refine app_two rfl (.tmp 43) (.tmp 44) rfl rfl HM.out.1 rfl HBL.out HLB.out HMS.out ?_)
      intro v2 w2 h2 b2
      have HB2 : Hid (Below w1.heap.size w1 w2) := HMB.out.trans b2
      have HH2 := Lib.hid h2
      have HL2 : Hid ((xorL 54 P ++ l).length ≤ 1000000) := by have := HL.out; have := HPL.out; show _ ≤ _; rw [List.length_append, xorL_length]; omega
      clear h2 b2 HM HBL HLB HMB HMS
      go_wp2_with fail
      refine (rsum_any HH2.out.1.rd HL2.out).mono ?_
      rintro e w3 ⟨rfl, b3⟩
      have HB3 : Hid (Below w1.heap.size w1 w3) := HB2.out.trans (b3.mono HB2.out.size)
      have HH3 := Lib.hid (HH2.out.later b3)
      obtain ⟨I, hI⟩ : ∃ I, I = digest (xorL 54 P ++ l) := ⟨_, rfl⟩
      rw [← hI]
      have HIL : Hid (I.length = 32) := by rw [hI]; exact digest_length _
      have HIE := Lib.hid hI
      clear b3 HB2 HH2 HL2 hI
      have hb4 : Below w3.heap.size w3 (w3.alloc (.cells (bvs I).toArray 26)) := (Below.refl _ _).alloc (Nat.le_refl _) _
      have HI4 : Hid (Rd (w3.alloc (.cells (bvs I).toArray 26)).heap.size (w3.alloc (.cells (bvs I).toArray 26)) (.slice (some ⟨w3.heap.size, 0, none⟩) 32 32) I) := by
        have := arr_rd (Arr.new' w3 26 (bvs I).toArray (bvs I) (by simp)) (by rw [HIL.out]; unfold maxLen; omega)
        rw [HIL.out] at this
        exact this
      have HB4 : Hid (Below w1.heap.size w1 (w3.alloc (.cells (bvs I).toArray 26))) := HB3.out.trans (hb4.mono HB3.out.size)
      have HH4 := Lib.hid (HH3.out.later hb4).swap
      have HL4 : Hid ((xorL 92 P).length + I.length ≤ 140737488355328) := by have := HPL.out; show _ ≤ _; rw [xorL_length, HIL.out]; omega
      have HS4 : Hid (w1.heap.size ≤ (w3.alloc (.cells (bvs I).toArray 26)).heap.size) := HB4.out.size
      clear hb4 HB3 HH3
      go_wp2_with (first
        | ((with_reducible refine at32b w3.heap.size (x := .tmp 11) (y := .tmp 46) (l := I) (o := ⟨none, .store _ _ _, _, _, _, _⟩) HIL.out ?_ ?_); exact ⟨rfl, rfl, rfl, rfl, rfl, rfl⟩)
        | (at_builtin; refine app_two rfl (.tmp 47) (.tmp 48) rfl rfl HH4.out rfl HI4.out HL4.out HS4.out ?_))
      intro v5 w5 h5 b5
      have HB5 : Hid (Below w1.heap.size w1 w5) := HB4.out.trans b5
      have HH5 := Lib.hid h5.1
      have HL5 : Hid ((xorL 92 P ++ I).length ≤ 1000000) := by have := HPL.out; show _ ≤ _; rw [List.length_append, xorL_length, HIL.out]; omega
      clear h5 b5 HB4 HH4 HI4 HL4 HS4
      go_wp2_with fail
      refine (rsum_any HH5.out.rd HL5.out).mono ?_
      rintro e w6 ⟨rfl, b6⟩
      have HB6 : Hid (Below w1.heap.size w1 w6) := HB5.out.trans (b6.mono HB5.out.size)
      have hM : Arr w6 26 w.heap.size (bvs Z) := HF.out.1.below HB6.out HSZ.out
      have HBW : Hid (Below w.heap.size w w6) := HF.out.2.1.trans (HB6.out.mono (Nat.le_of_lt HSZ.out))
      obtain ⟨D, hD⟩ : ∃ D, D = digest (xorL 92 P ++ I) := ⟨_, rfl⟩
      rw [← hD]
      have HDL : Hid (D.length = 32) := by rw [hD]; exact digest_length _
      have HDE : Hid (D = hmac k l) := by
        show _ = _
        rw [hD, HIE.out, HPE.out]; rfl
      have HZL : Hid ((bvs Z).length = 32) := by show _ = _; rw [bvs_length, HZ.out]; rfl
      clear b6 hD HB5 HH5 HB6 HL5
      go_wp2_with ((with_reducible refine store32b (x := .tmp 4) (y := .tmp 50) (l := D) (o := ⟨none, .store _ _ _, _, _, _, _⟩) hM HZL.out HDL.out ?_ ?_); exact ⟨rfl, rfl, rfl, rfl⟩)
      exact bodyPost_ret (res32b rfl (hM.row _) HDL.out rfl) rfl ⟨by rw [HDE.out], below_row HBW.out (Nat.le_refl _) _⟩
theorem rmac_any {w : World} {v u : Value} {k l : List UInt8} (hv : Rd w.heap.size w v k) (hk : k.length ≤ 900000) (hr : Rd w.heap.size w u l) (hl : l.length ≤ 900000) :
    Calls Tryd.prog 11 #[v, u] w fun e w' => e = .returned (.agg (bvs (hmac k l)).toArray) ∧ Below w.heap.size w w' := by
  by_cases h : k.length ≤ 64
  · exact rmac_short hv h hr hl
  · exact rmac_long hv (by omega) hk hr hl
end Go.Proofs.YtomoopadeknfbaaDoor
