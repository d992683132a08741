/-
  The reference's Sum (HMAC).
-/
import Derived.Test.YtaikdbbakdicgaaDoorMg3
import Derived.Test.YtaikdbbakdicgaaDoorMg5
import Derived.Test.YtaikdbbakdicgaaDoorMg0
import Derived.Test.YtaikdbbakdicgaaDoorMg1
import Derived.LoopN
import Derived.Outline
namespace Go.Proofs.YtaikdbbakdicgaaDoor
open Go.ChangeShapes Go.WideShapes Go.ChangeAt Go.RowKit
set_option linter.unusedVariables false

set_option maxRecDepth 100000 in
set_option maxHeartbeats 1000000 in
theorem rmac_short {w : World} {v u : Value} {k l : List UInt8} (hv : Rd w.heap.size w v k) (hk : k.length ≤ 64) (hr : Rd w.heap.size w u l) (hl : l.length ≤ 900000) :
    Calls Tryd.prog 41 #[v, u] w fun e w' => e = .returned (.agg (bvs (hmac k l)).toArray) ∧ Below w.heap.size w w' := by
  obtain ⟨Z, hZ⟩ : ∃ Z : List UInt8, Z = List.replicate 32 0 := ⟨_, rfl⟩
  have HZ := Lib.hid hZ
  have HZ2 : Hid (∀ cs : Array Value, cs.toList = bvs (List.replicate 32 0) → cs.toList = bvs Z) := fun cs h => by rw [hZ]; exact h
  have HST : Hid (∀ (z y : Array Value) (t : TypeId), z.toList = bvs Z → Arr ((w.alloc (.cells z 24)).alloc (.cells y t)) 24 w.heap.size (bvs Z) ∧ Below w.heap.size w ((w.alloc (.cells z 24)).alloc (.cells y t)) ∧ Rd w.heap.size ((w.alloc (.cells z 24)).alloc (.cells y t)) v k ∧ Rd w.heap.size ((w.alloc (.cells z 24)).alloc (.cells y t)) u l ∧ Held (w.heap.size + 1) ((w.alloc (.cells z 24)).alloc (.cells y t)) (.slice (some ⟨w.heap.size + 1, 0, none⟩) 0 0) [] ∧ w.heap.size + 1 ≤ ((w.alloc (.cells z 24)).alloc (.cells y t)).heap.size) := fun z y t hz => by
    have hb : Below w.heap.size w ((w.alloc (.cells z 24)).alloc (.cells y t)) := ((Below.refl _ _).alloc (Nat.le_refl _) _).alloc (by simp) _
    exact ⟨(Arr.new' w _ z _ hz).alloc _, hb, hv.below hb (Nat.le_refl _), hr.below hb (Nat.le_refl _), .inr ⟨w.heap.size + 1, 0, 0, rfl, by simp, by unfold maxLen; omega, by omega, by simp, fun i hi => absurd hi (by simp), fun i hi => absurd hi (by omega)⟩, by simp⟩
  obtain ⟨q, c, rfl, _, _⟩ := hv.form
  obtain ⟨q2, c2, rfl, _, _⟩ := hr.form
  have HK := Lib.hid hk
  have HKN : Hid (([] : List UInt8).length + k.length ≤ 140737488355328) := by show _ ≤ _; simp; omega
  have HL := Lib.hid hl
  clear hv hr hk hl hZ
  go_enter Tryd.func41, Tryd.ntmps41
  go_wp2_with (at_builtin; refine app_held rfl (.tmp 12) (.tmp 13) rfl rfl (HST.out _ _ _ (HZ2.out _ rfl)).2.2.2.2.1 rfl (HST.out _ _ _ (HZ2.out _ rfl)).2.2.1 HKN.out (HST.out _ _ _ (HZ2.out _ rfl)).2.2.2.2.2 ?_)
  intro v1 w1 h1 b1
  try rw [List.nil_append] at h1
  obtain ⟨q1, c1, rfl, _, _⟩ := h1.form
  have HF := Lib.hid (And.intro ((HST.out _ _ _ (HZ2.out _ rfl)).1.below b1 (by omega)) (And.intro ((HST.out _ _ _ (HZ2.out _ rfl)).2.1.trans (b1.mono (by omega))) ((HST.out _ _ _ (HZ2.out _ rfl)).2.2.2.1.below b1 (by omega))))
  obtain ⟨K, hK⟩ : ∃ K, K = k := ⟨_, rfl⟩
  rw [← hK] at h1 ⊢
  have HKE : Hid (K = keyOf k) := by have := HK.out; show _ = _; unfold keyOf; rw [if_neg (by omega), hK]
  have hkl : ¬ (64 : Int) < K.length := by have := HK.out; rw [hK]; omega
  have HKR : Hid (Rd w1.heap.size w1 (.slice q1 K.length c1) K) := h1.rd
  clear b1 HST HZ2 h1 HKN
  obtain ⟨N, hN⟩ : ∃ N, N = K.length := ⟨_, rfl⟩
  have HN := Lib.hid hN
  rw [← hN] at hkl HKR ⊢
  obtain ⟨P, hP⟩ : ∃ P, P = padK k := ⟨_, rfl⟩
  have HPL : Hid (P.length = 64) := by rw [hP]; exact padK_length k
  have HPG : Hid (∀ i, P.getD i 0 = if i < N then K.getD i 0 else 0) := by
    intro i
    rw [hP, padK, ← HKE.out, hN]
    simp only [List.getD_eq_getElem?_getD, List.getElem?_append]
    split
    · rfl
    · rw [List.getElem?_replicate]; split <;> rfl
  have HPE := Lib.hid hP
  have HSZ : Hid (w.heap.size < w1.heap.size) := HF.out.1.lt
  clear hN hP
  go_wp2_with fail
  have hTWO : Hid (Two w1.heap.size w1 (.slice none 0 0) (xorL 54 (P.take 0)) (.slice none 0 0) (xorL 92 (P.take 0)) ∧ Below w1.heap.size w1 w1) := ⟨Two.nil _ _, Below.refl _ _⟩
  go_loopw [7, 8, 9] (fun vi vo iv wr => ∃ i : Nat, i ≤ 64 ∧ iv = .int .i64 i ∧ Hid (Two w1.heap.size wr vi (xorL 54 (P.take i)) vo (xorL 92 (P.take i)) ∧ Below w1.heap.size w1 wr)) (fun _ _ iv _ => 64 - (intOf iv).toNat)
  case atStart => exact ⟨0, by omega, rfl, hTWO.out⟩
  case round =>
    obtain ⟨i, hi, rfl, HM⟩ := hrel
    clear hTWO
    have hi0 : (0 : Int) ≤ i := by omega
    by_cases hlt : i < 64
    · have hlt1 : (i : Int) < 64 := by omega
      have hiP : i < P.length := by rw [HPL.out]; exact hlt
      obtain ⟨x, hx⟩ : ∃ x, x = P.getD i 0 := ⟨_, rfl⟩
      have hxg := HPG.out i
      rw [← hx] at hxg
      have key : ∀ m : UInt8, xorL m (P.take i) ++ [x ^^^ m] = xorL m (P.take (i + 1)) := fun m => by
        rw [List.take_succ_eq_append_getElem hiP, hx]
        simp only [xorL, List.map_append, List.map_cons, List.map_nil, List.getD_eq_getElem?_getD, List.getElem?_eq_getElem hiP, Option.getD_some]
      have hll : ∀ m : UInt8, (xorL m (P.take i)).length = i := fun m => by rw [xorL_length, List.length_take]; omega
      have HK54 := Lib.hid (key 54)
      have HK92 := Lib.hid (key 92)
      have HL54 : Hid ((xorL 54 (P.take i)).length + ([x ^^^ 54] : List UInt8).length ≤ 140737488355328) := by show _ ≤ _; rw [hll]; simp; omega
      have HL92 : Hid ((xorL 92 (P.take i)).length + ([x ^^^ 92] : List UInt8).length ≤ 140737488355328) := by show _ ≤ _; rw [hll]; simp; omega
      obtain ⟨y1, hy1⟩ : ∃ y1, y1 = x ^^^ 54 := ⟨_, rfl⟩
      obtain ⟨y2, hy2⟩ : ∃ y2, y2 = x ^^^ 92 := ⟨_, rfl⟩
      rw [← hy1] at HK54 HL54
      rw [← hy2] at HK92 HL92
      have e54 : bits .xor .u8 (x.toNat : Int) 54 = (y1.toNat : Int) := by rw [hy1, ← u8x]; rfl
      have e92 : bits .xor .u8 (x.toNat : Int) 92 = (y2.toNat : Int) := by rw [hy2, ← u8x]; rfl
      have HX : Hid (N ≤ i → x = 0) := fun h => by rw [hxg, if_neg (by omega)]
      have HXK : Hid (i < N → wr.cell? = wr.cell? ∧ x = K.getD i 0) := fun h => ⟨rfl, by rw [hxg, if_pos h]⟩
      have hb1 : Below wr.heap.size wr (wr.alloc (.cells #[.int .u8 y1.toNat] 5)) := (Below.refl _ _).alloc (Nat.le_refl _) _
      have HT1 := Lib.hid (HM.out.1.later hb1)
      have HB1 := Lib.hid (HM.out.2.trans (hb1.mono HM.out.2.size))
      have HR1 := Lib.hid (rd_lit wr [y1] #[.int .u8 y1.toNat] rfl 1 rfl (by simp [maxLen]))
      have HKX : Hid (i < N → ∃ b off, q1 = some ⟨b, off, none⟩ ∧ wr.cell? ⟨b, off + i, none⟩ = some (.int .u8 x.toNat)) := fun h => by
        rcases HKR.out with ⟨oa, _, h0⟩ | ⟨b, off, cap, hv, _, _, h3, h4⟩
        · have := HN.out; rw [h0] at this; simp at this; omega
        · simp only [Value.slice.injEq] at hv
          refine ⟨b, off, hv.1, ?_⟩
          rw [HM.out.2.cell (p := ⟨b, off + i, none⟩) h3, h4 i (by have := HN.out; omega), ← HXK.out h |>.2]
          rfl
      clear hb1 HM key hll hxg hx HXK hi hy1 hy2
      have step2 : Hid (∀ v2 w2, Two w1.heap.size w2 v2 (xorL 54 (P.take (i + 1))) u8 (xorL 92 (P.take i)) → Below w1.heap.size w1 w2 → Two w1.heap.size (w2.alloc (.cells #[.int .u8 y2.toNat] 5)) u8 (xorL 92 (P.take i)) v2 (xorL 54 (P.take (i + 1))) ∧ Rd (w2.heap.size + 1) (w2.alloc (.cells #[.int .u8 y2.toNat] 5)) (.slice (some ⟨w2.heap.size, 0, none⟩) 1 1) [y2] ∧ Below w1.heap.size w1 (w2.alloc (.cells #[.int .u8 y2.toNat] 5))) := fun v2 w2 h2 hb => by
        have hbn : Below w2.heap.size w2 (w2.alloc (.cells #[.int .u8 y2.toNat] 5)) := (Below.refl _ _).alloc (Nat.le_refl _) _
        exact ⟨(h2.later hbn).swap, rd_lit w2 [y2] #[.int .u8 y2.toNat] rfl 1 rfl (by simp [maxLen]), hb.trans (hbn.mono hb.size)⟩
      by_cases hin : i < N
      · have hin1 : (i : Int) < N := by omega
        obtain ⟨b, off, rfl, hcx⟩ := HKX.out hin
        have hcx1 : (wr.alloc (.cells #[.int .u8 y1.toNat] 5)).heap.size = wr.heap.size + 1 := by simp
        clear hcx1
        go_wp2_with (at_builtin; refine app_two rfl (.tmp 33) (.tmp 36) rfl rfl HT1.out rfl HR1.out HL54.out HB1.out.size ?_)
        intro v2 w2 h2 b2
        rw [HK54.out] at h2
        have HS2 := Lib.hid (step2.out v2 w2 h2 (HB1.out.trans b2))
        clear h2 b2 step2 HT1 HB1 HR1 hcx
        go_wp2_with (at_builtin; refine app_two rfl (.tmp 38) (.tmp 41) rfl rfl HS2.out.1 rfl HS2.out.2.1 HL92.out HS2.out.2.2.size ?_)
        intro v3 w3 h3 b3
        rw [HK92.out] at h3
        have HS3 : Hid (Two w1.heap.size w3 v2 (xorL 54 (P.take (i + 1))) v3 (xorL 92 (P.take (i + 1))) ∧ Below w1.heap.size w1 w3) := ⟨h3.swap, HS2.out.2.2.trans b3⟩
        clear h3 b3 HS2
        go_wp2_with fail
        go_roundw
        case rel => exact ⟨i + 1, by omega, by go_num, HS3.out⟩
        case measure => simp [intOf]; omega
      · have hin1 : ¬ (i : Int) < N := by omega
        have hx0 : x = 0 := HX.out (by omega)
        rw [hx0, show (((0 : UInt8).toNat : Nat) : Int) = 0 from rfl] at e54 e92
        go_wp2_with (at_builtin; refine app_two rfl (.tmp 33) (.tmp 36) rfl rfl HT1.out rfl HR1.out HL54.out HB1.out.size ?_)
        intro v2 w2 h2 b2
        rw [HK54.out] at h2
        have HS2 := Lib.hid (step2.out v2 w2 h2 (HB1.out.trans b2))
        clear h2 b2 step2 HT1 HB1 HR1
        go_wp2_with (at_builtin; refine app_two rfl (.tmp 38) (.tmp 41) rfl rfl HS2.out.1 rfl HS2.out.2.1 HL92.out HS2.out.2.2.size ?_)
        intro v3 w3 h3 b3
        rw [HK92.out] at h3
        have HS3 : Hid (Two w1.heap.size w3 v2 (xorL 54 (P.take (i + 1))) v3 (xorL 92 (P.take (i + 1))) ∧ Below w1.heap.size w1 w3) := ⟨h3.swap, HS2.out.2.2.trans b3⟩
        clear h3 b3 HS2
        go_wp2_with fail
        go_roundw
        case rel => exact ⟨i + 1, by omega, by go_num, HS3.out⟩
        case measure => simp [intOf]; omega
    · obtain rfl : i = 64 := by omega
      have hp64 : P.take 64 = P := List.take_of_length_le (by rw [HPL.out]; exact Nat.le_refl _)
      rw [hp64] at HM
      clear hp64 hlt hi hi0
      have HLB : Hid ((xorL 54 P).length + l.length ≤ 140737488355328) := by have := HL.out; have := HPL.out; show _ ≤ _; rw [xorL_length]; omega
      have HBL : Hid (Rd w.heap.size wr (.slice q2 l.length c2) l) := HF.out.2.2.below HM.out.2 (Nat.le_of_lt HSZ.out)
      have HMS : Hid (w1.heap.size ≤ wr.heap.size) := HM.out.2.size
      have HMB := Lib.hid HM.out.2
      go_wp2_with (at_builtin; refine app_two rfl (.tmp 43) (.tmp 44) rfl rfl HM.out.1 rfl HBL.out HLB.out HMS.out ?_)
      intro v2 w2 h2 b2
      have HB2 : Hid (Below w1.heap.size w1 w2) := HMB.out.trans b2
      have HH2 := Lib.hid h2
      have HL2 : Hid ((xorL 54 P ++ l).length ≤ 1000000) := by have := HL.out; have := HPL.out; show _ ≤ _; rw [List.length_append, xorL_length]; omega
      clear h2 b2 HM HBL HLB HMB HMS
      go_wp2_with fail
      refine (rsum_any HH2.out.1.rd HL2.out).mono ?_
      rintro e w3 ⟨rfl, b3⟩
      have HB3 : Hid (Below w1.heap.size w1 w3) := HB2.out.trans (b3.mono HB2.out.size)
      have HH3 := Lib.hid (HH2.out.later b3)
      obtain ⟨I, hI⟩ : ∃ I, I = digest (xorL 54 P ++ l) := ⟨_, rfl⟩
      rw [← hI]
      have HIL : Hid (I.length = 32) := by rw [hI]; exact digest_length _
      have HIE := Lib.hid hI
      clear b3 HB2 HH2 HL2 hI
      have hb4 : Below w3.heap.size w3 (w3.alloc (.cells (bvs I).toArray 24)) := (Below.refl _ _).alloc (Nat.le_refl _) _
      have HI4 : Hid (Rd (w3.alloc (.cells (bvs I).toArray 24)).heap.size (w3.alloc (.cells (bvs I).toArray 24)) (.slice (some ⟨w3.heap.size, 0, none⟩) 32 32) I) := by
        have := arr_rd (Arr.new' w3 24 (bvs I).toArray (bvs I) (by simp)) (by rw [HIL.out]; unfold maxLen; omega)
        rw [HIL.out] at this
        exact this
      have HB4 : Hid (Below w1.heap.size w1 (w3.alloc (.cells (bvs I).toArray 24))) := HB3.out.trans (hb4.mono HB3.out.size)
      have HH4 := Lib.hid (HH3.out.later hb4).swap
      have HL4 : Hid ((xorL 92 P).length + I.length ≤ 140737488355328) := by have := HPL.out; show _ ≤ _; rw [xorL_length, HIL.out]; omega
      have HS4 : Hid (w1.heap.size ≤ (w3.alloc (.cells (bvs I).toArray 24)).heap.size) := HB4.out.size
      clear hb4 HB3 HH3
      go_wp2_with (first
        | ((with_reducible refine at32b w3.heap.size (x := .tmp 11) (y := .tmp 46) (l := I) (o := ⟨none, .store _ _ _, _, _, _, _⟩) HIL.out ?_ ?_); exact ⟨rfl, rfl, rfl, rfl, rfl, rfl⟩)
        | (at_builtin; refine app_two rfl (.tmp 47) (.tmp 48) rfl rfl HH4.out rfl HI4.out HL4.out HS4.out ?_))
      intro v5 w5 h5 b5
      have HB5 : Hid (Below w1.heap.size w1 w5) := HB4.out.trans b5
      have HH5 := Lib.hid h5.1
      have HL5 : Hid ((xorL 92 P ++ I).length ≤ 1000000) := by have := HPL.out; show _ ≤ _; rw [List.length_append, xorL_length, HIL.out]; omega
      clear h5 b5 HB4 HH4 HI4 HL4 HS4
      go_wp2_with fail
      refine (rsum_any HH5.out.rd HL5.out).mono ?_
      rintro e w6 ⟨rfl, b6⟩
      have HB6 : Hid (Below w1.heap.size w1 w6) := HB5.out.trans (b6.mono HB5.out.size)
      have hM : Arr w6 24 w.heap.size (bvs Z) := HF.out.1.below HB6.out HSZ.out
      have HBW : Hid (Below w.heap.size w w6) := HF.out.2.1.trans (HB6.out.mono (Nat.le_of_lt HSZ.out))
      obtain ⟨D, hD⟩ : ∃ D, D = digest (xorL 92 P ++ I) := ⟨_, rfl⟩
      rw [← hD]
      have HDL : Hid (D.length = 32) := by rw [hD]; exact digest_length _
      have HDE : Hid (D = hmac k l) := by
        show _ = _
        rw [hD, HIE.out, HPE.out]; rfl
      have HZL : Hid ((bvs Z).length = 32) := by show _ = _; rw [bvs_length, HZ.out]; rfl
      clear b6 hD HB5 HH5 HB6 HL5
      go_wp2_with ((with_reducible refine store32b (x := .tmp 4) (y := .tmp 50) (l := D) (o := ⟨none, .store _ _ _, _, _, _, _⟩) hM HZL.out HDL.out ?_ ?_); exact ⟨rfl, rfl, rfl, rfl⟩)
      exact bodyPost_ret (res32b rfl (hM.row _) HDL.out rfl) rfl ⟨by rw [HDE.out], below_row HBW.out (Nat.le_refl _) _⟩
set_option maxRecDepth 100000 in
set_option maxHeartbeats 1000000 in
theorem rmac_long {w : World} {v u : Value} {k l : List UInt8} (hv : Rd w.heap.size w v k) (hk : 64 < k.length) (hk2 : k.length ≤ 900000) (hr : Rd w.heap.size w u l) (hl : l.length ≤ 900000) :
    Calls Tryd.prog 41 #[v, u] w fun e w' => e = .returned (.agg (bvs (hmac k l)).toArray) ∧ Below w.heap.size w w' := by
  obtain ⟨Z, hZ⟩ : ∃ Z : List UInt8, Z = List.replicate 32 0 := ⟨_, rfl⟩
  have HZ := Lib.hid hZ
  have HZ2 : Hid (∀ cs : Array Value, cs.toList = bvs (List.replicate 32 0) → cs.toList = bvs Z) := fun cs h => by rw [hZ]; exact h
  have HST : Hid (∀ (z y : Array Value) (t : TypeId), z.toList = bvs Z → Arr ((w.alloc (.cells z 24)).alloc (.cells y t)) 24 w.heap.size (bvs Z) ∧ Below w.heap.size w ((w.alloc (.cells z 24)).alloc (.cells y t)) ∧ Rd w.heap.size ((w.alloc (.cells z 24)).alloc (.cells y t)) v k ∧ Rd w.heap.size ((w.alloc (.cells z 24)).alloc (.cells y t)) u l ∧ Held (w.heap.size + 1) ((w.alloc (.cells z 24)).alloc (.cells y t)) (.slice (some ⟨w.heap.size + 1, 0, none⟩) 0 0) [] ∧ w.heap.size + 1 ≤ ((w.alloc (.cells z 24)).alloc (.cells y t)).heap.size) := fun z y t hz => by
    have hb : Below w.heap.size w ((w.alloc (.cells z 24)).alloc (.cells y t)) := ((Below.refl _ _).alloc (Nat.le_refl _) _).alloc (by simp) _
    exact ⟨(Arr.new' w _ z _ hz).alloc _, hb, hv.below hb (Nat.le_refl _), hr.below hb (Nat.le_refl _), .inr ⟨w.heap.size + 1, 0, 0, rfl, by simp, by unfold maxLen; omega, by omega, by simp, fun i hi => absurd hi (by simp), fun i hi => absurd hi (by omega)⟩, by simp⟩
  obtain ⟨q, c, rfl, _, _⟩ := hv.form
  obtain ⟨q2, c2, rfl, _, _⟩ := hr.form
  have HK := Lib.hid hk2
  have hkl0 : (64 : Int) < k.length := by omega
  have HKN : Hid (([] : List UInt8).length + k.length ≤ 140737488355328) := by show _ ≤ _; simp; omega
  have HL := Lib.hid hl
  clear hv hr hl hZ
  go_enter Tryd.func41, Tryd.ntmps41
  go_wp2_with (at_builtin; refine app_held rfl (.tmp 12) (.tmp 13) rfl rfl (HST.out _ _ _ (HZ2.out _ rfl)).2.2.2.2.1 rfl (HST.out _ _ _ (HZ2.out _ rfl)).2.2.1 HKN.out (HST.out _ _ _ (HZ2.out _ rfl)).2.2.2.2.2 ?_)
  intro v1 w1 h1 b1
  try rw [List.nil_append] at h1
  obtain ⟨q1, c1, rfl, _, _⟩ := h1.form
  have HFa := Lib.hid (And.intro ((HST.out _ _ _ (HZ2.out _ rfl)).1.below b1 (by omega)) (And.intro ((HST.out _ _ _ (HZ2.out _ rfl)).2.1.trans (b1.mono (by omega))) ((HST.out _ _ _ (HZ2.out _ rfl)).2.2.2.1.below b1 (by omega))))
  have HHa := Lib.hid h1
  have HKL : Hid (64 < k.length) := hk
  clear b1 HST HZ2 h1 HKN hk hk2
  go_wp2_with fail
  refine (rsum_any HHa.out.rd (Nat.le_trans HK.out (by omega))).mono ?_
  rintro e wb ⟨rfl, bb⟩
  have HFb := Lib.hid (And.intro (HFa.out.1.later bb) (And.intro (HFa.out.2.1.trans (bb.mono HFa.out.2.1.size)) (HFa.out.2.2.below bb HFa.out.2.1.size)))
  obtain ⟨K, hK⟩ : ∃ K, K = digest k := ⟨_, rfl⟩
  rw [← hK]
  have HKE : Hid (K = keyOf k) := by have := HKL.out; show _ = _; unfold keyOf; rw [if_pos (by omega), hK]
  have HK32 : Hid (K.length = 32) := by rw [hK]; exact digest_length _
  clear bb HFa HHa hK hkl0
  have hbc : Below wb.heap.size wb (wb.alloc (.cells (bvs K).toArray 24)) := (Below.refl _ _).alloc (Nat.le_refl _) _
  have HF : Hid (Arr (wb.alloc (.cells (bvs K).toArray 24)) 24 w.heap.size (bvs Z) ∧ Below w.heap.size w (wb.alloc (.cells (bvs K).toArray 24)) ∧ Rd w.heap.size (wb.alloc (.cells (bvs K).toArray 24)) (.slice q2 l.length c2) l) :=
    ⟨HFb.out.1.later hbc, HFb.out.2.1.trans (hbc.mono HFb.out.2.1.size), HFb.out.2.2.below hbc HFb.out.2.1.size⟩
  have HKR : Hid (Rd (wb.alloc (.cells (bvs K).toArray 24)).heap.size (wb.alloc (.cells (bvs K).toArray 24)) (.slice (some ⟨wb.heap.size, 0, none⟩) 32 32) K) := by
    have := arr_rd (Arr.new' wb 24 (bvs K).toArray (bvs K) (by simp)) (by rw [HK32.out]; unfold maxLen; omega)
    rw [HK32.out] at this
    exact this
  clear hbc HFb
  go_wp2_with ((with_reducible refine at32b wb.heap.size (x := .tmp 6) (y := .tmp 19) (l := K) (o := ⟨none, .store _ _ _, _, _, _, _⟩) HK32.out ?_ ?_); exact ⟨rfl, rfl, rfl, rfl, rfl, rfl⟩)
  generalize wb.alloc (.cells (bvs K).toArray 24) = w1 at HF HKR ⊢
  obtain ⟨q1, hq1⟩ : ∃ q1 : Option Addr, q1 = some ⟨wb.heap.size, 0, none⟩ := ⟨_, rfl⟩
  obtain ⟨c1, hc1⟩ : ∃ c1 : Nat, c1 = 32 := ⟨_, rfl⟩
  obtain ⟨N, hN⟩ : ∃ N, N = K.length := ⟨_, rfl⟩
  have HN := Lib.hid hN
  have hvk : Value.slice (some ⟨wb.heap.size, 0, none⟩) 32 32 = .slice q1 N c1 := by rw [hq1, hN, HK32.out, hc1]
  rw [hvk] at HKR ⊢
  obtain ⟨P, hP⟩ : ∃ P, P = padK k := ⟨_, rfl⟩
  have HPL : Hid (P.length = 64) := by rw [hP]; exact padK_length k
  have HPG : Hid (∀ i, P.getD i 0 = if i < N then K.getD i 0 else 0) := by
    intro i
    rw [hP, padK, ← HKE.out, hN]
    simp only [List.getD_eq_getElem?_getD, List.getElem?_append]
    split
    · rfl
    · rw [List.getElem?_replicate]; split <;> rfl
  have HPE := Lib.hid hP
  have HSZ : Hid (w.heap.size < w1.heap.size) := HF.out.1.lt
  clear hN hP hvk hq1 hc1
  have hTWO : Hid (Two w1.heap.size w1 (.slice none 0 0) (xorL 54 (P.take 0)) (.slice none 0 0) (xorL 92 (P.take 0)) ∧ Below w1.heap.size w1 w1) := ⟨Two.nil _ _, Below.refl _ _⟩
  go_loopw [7, 8, 9] (fun vi vo iv wr => ∃ i : Nat, i ≤ 64 ∧ iv = .int .i64 i ∧ Hid (Two w1.heap.size wr vi (xorL 54 (P.take i)) vo (xorL 92 (P.take i)) ∧ Below w1.heap.size w1 wr)) (fun _ _ iv _ => 64 - (intOf iv).toNat)
  case atStart => exact ⟨0, by omega, rfl, hTWO.out⟩
  case round =>
    obtain ⟨i, hi, rfl, HM⟩ := hrel
    clear hTWO
    have hi0 : (0 : Int) ≤ i := by omega
    by_cases hlt : i < 64
    · have hlt1 : (i : Int) < 64 := by omega
      have hiP : i < P.length := by rw [HPL.out]; exact hlt
      obtain ⟨x, hx⟩ : ∃ x, x = P.getD i 0 := ⟨_, rfl⟩
      have hxg := HPG.out i
      rw [← hx] at hxg
      have key : ∀ m : UInt8, xorL m (P.take i) ++ [x ^^^ m] = xorL m (P.take (i + 1)) := fun m => by
        rw [List.take_succ_eq_append_getElem hiP, hx]
        simp only [xorL, List.map_append, List.map_cons, List.map_nil, List.getD_eq_getElem?_getD, List.getElem?_eq_getElem hiP, Option.getD_some]
      have hll : ∀ m : UInt8, (xorL m (P.take i)).length = i := fun m => by rw [xorL_length, List.length_take]; omega
      have HK54 := Lib.hid (key 54)
      have HK92 := Lib.hid (key 92)
      have HL54 : Hid ((xorL 54 (P.take i)).length + ([x ^^^ 54] : List UInt8).length ≤ 140737488355328) := by show _ ≤ _; rw [hll]; simp; omega
      have HL92 : Hid ((xorL 92 (P.take i)).length + ([x ^^^ 92] : List UInt8).length ≤ 140737488355328) := by show _ ≤ _; rw [hll]; simp; omega
      obtain ⟨y1, hy1⟩ : ∃ y1, y1 = x ^^^ 54 := ⟨_, rfl⟩
      obtain ⟨y2, hy2⟩ : ∃ y2, y2 = x ^^^ 92 := ⟨_, rfl⟩
      rw [← hy1] at HK54 HL54
      rw [← hy2] at HK92 HL92
      have e54 : bits .xor .u8 (x.toNat : Int) 54 = (y1.toNat : Int) := by rw [hy1, ← u8x]; rfl
      have e92 : bits .xor .u8 (x.toNat : Int) 92 = (y2.toNat : Int) := by rw [hy2, ← u8x]; rfl
      have HX : Hid (N ≤ i → x = 0) := fun h => by rw [hxg, if_neg (by omega)]
      have HXK : Hid (i < N → wr.cell? = wr.cell? ∧ x = K.getD i 0) := fun h => ⟨rfl, by rw [hxg, if_pos h]⟩
      have hb1 : Below wr.heap.size wr (wr.alloc (.cells #[.int .u8 y1.toNat] 5)) := (Below.refl _ _).alloc (Nat.le_refl _) _
      have HT1 := Lib.hid (HM.out.1.later hb1)
      have HB1 := Lib.hid (HM.out.2.trans (hb1.mono HM.out.2.size))
      have HR1 := Lib.hid (rd_lit wr [y1] #[.int .u8 y1.toNat] rfl 1 rfl (by simp [maxLen]))
      have HKX : Hid (i < N → ∃ b off, q1 = some ⟨b, off, none⟩ ∧ wr.cell? ⟨b, off + i, none⟩ = some (.int .u8 x.toNat)) := fun h => by
        rcases HKR.out with ⟨oa, _, h0⟩ | ⟨b, off, cap, hv, _, _, h3, h4⟩
        · have := HN.out; rw [h0] at this; simp at this; omega
        · simp only [Value.slice.injEq] at hv
          refine ⟨b, off, hv.1, ?_⟩
          rw [HM.out.2.cell (p := ⟨b, off + i, none⟩) h3, h4 i (by have := HN.out; omega), ← HXK.out h |>.2]
          rfl
      clear hb1 HM key hll hxg hx HXK hi hy1 hy2
      have step2 : Hid (∀ v2 w2, Two w1.heap.size w2 v2 (xorL 54 (P.take (i + 1))) u8 (xorL 92 (P.take i)) → Below w1.heap.size w1 w2 → Two w1.heap.size (w2.alloc (.cells #[.int .u8 y2.toNat] 5)) u8 (xorL 92 (P.take i)) v2 (xorL 54 (P.take (i + 1))) ∧ Rd (w2.heap.size + 1) (w2.alloc (.cells #[.int .u8 y2.toNat] 5)) (.slice (some ⟨w2.heap.size, 0, none⟩) 1 1) [y2] ∧ Below w1.heap.size w1 (w2.alloc (.cells #[.int .u8 y2.toNat] 5))) := fun v2 w2 h2 hb => by
        have hbn : Below w2.heap.size w2 (w2.alloc (.cells #[.int .u8 y2.toNat] 5)) := (Below.refl _ _).alloc (Nat.le_refl _) _
        exact ⟨(h2.later hbn).swap, rd_lit w2 [y2] #[.int .u8 y2.toNat] rfl 1 rfl (by simp [maxLen]), hb.trans (hbn.mono hb.size)⟩
      by_cases hin : i < N
      · have hin1 : (i : Int) < N := by omega
        obtain ⟨b, off, rfl, hcx⟩ := HKX.out hin
        have hcx1 : (wr.alloc (.cells #[.int .u8 y1.toNat] 5)).heap.size = wr.heap.size + 1 := by simp
        clear hcx1
        go_wp2_with (at_builtin; refine app_two rfl (.tmp 33) (.tmp 36) rfl rfl HT1.out rfl HR1.out HL54.out HB1.out.size ?_)
        intro v2 w2 h2 b2
        rw [HK54.out] at h2
        have HS2 := Lib.hid (step2.out v2 w2 h2 (HB1.out.trans b2))
        clear h2 b2 step2 HT1 HB1 HR1 hcx
        go_wp2_with (at_builtin; refine app_two rfl (.tmp 38) (.tmp 41) rfl rfl HS2.out.1 rfl HS2.out.2.1 HL92.out HS2.out.2.2.size ?_)
        intro v3 w3 h3 b3
        rw [HK92.out] at h3
        have HS3 : Hid (Two w1.heap.size w3 v2 (xorL 54 (P.take (i + 1))) v3 (xorL 92 (P.take (i + 1))) ∧ Below w1.heap.size w1 w3) := ⟨h3.swap, HS2.out.2.2.trans b3⟩
        clear h3 b3 HS2
        go_wp2_with fail
        go_roundw
        case rel => exact ⟨i + 1, by omega, by go_num, HS3.out⟩
        case measure => simp [intOf]; omega
      · have hin1 : ¬ (i : Int) < N := by omega
        have hx0 : x = 0 := HX.out (by omega)
        rw [hx0, show (((0 : UInt8).toNat : Nat) : Int) = 0 from rfl] at e54 e92
        go_wp2_with (at_builtin; refine app_two rfl (.tmp 33) (.tmp 36) rfl rfl HT1.out rfl HR1.out HL54.out HB1.out.size ?_)
        intro v2 w2 h2 b2
        rw [HK54.out] at h2
        have HS2 := Lib.hid (step2.out v2 w2 h2 (HB1.out.trans b2))
        clear h2 b2 step2 HT1 HB1 HR1
        go_wp2_with (at_builtin; refine app_two rfl (.tmp 38) (.tmp 41) rfl rfl HS2.out.1 rfl HS2.out.2.1 HL92.out HS2.out.2.2.size ?_)
        intro v3 w3 h3 b3
        rw [HK92.out] at h3
        have HS3 : Hid (Two w1.heap.size w3 v2 (xorL 54 (P.take (i + 1))) v3 (xorL 92 (P.take (i + 1))) ∧ Below w1.heap.size w1 w3) := ⟨h3.swap, HS2.out.2.2.trans b3⟩
        clear h3 b3 HS2
        go_wp2_with fail
        go_roundw
        case rel => exact ⟨i + 1, by omega, by go_num, HS3.out⟩
        case measure => simp [intOf]; omega
    · obtain rfl : i = 64 := by omega
      have hp64 : P.take 64 = P := List.take_of_length_le (by rw [HPL.out]; exact Nat.le_refl _)
      rw [hp64] at HM
      clear hp64 hlt hi hi0
      have HLB : Hid ((xorL 54 P).length + l.length ≤ 140737488355328) := by have := HL.out; have := HPL.out; show _ ≤ _; rw [xorL_length]; omega
      have HBL : Hid (Rd w.heap.size wr (.slice q2 l.length c2) l) := HF.out.2.2.below HM.out.2 (Nat.le_of_lt HSZ.out)
      have HMS : Hid (w1.heap.size ≤ wr.heap.size) := HM.out.2.size
      have HMB := Lib.hid HM.out.2
      go_wp2_with (at_builtin; refine app_two rfl (.tmp 43) (.tmp 44) rfl rfl HM.out.1 rfl HBL.out HLB.out HMS.out ?_)
      intro v2 w2 h2 b2
      have HB2 : Hid (Below w1.heap.size w1 w2) := HMB.out.trans b2
      have HH2 := Lib.hid h2
      have HL2 : Hid ((xorL 54 P ++ l).length ≤ 1000000) := by have := HL.out; have := HPL.out; show _ ≤ _; rw [List.length_append, xorL_length]; omega
      clear h2 b2 HM HBL HLB HMB HMS
      go_wp2_with fail
      refine (rsum_any HH2.out.1.rd HL2.out).mono ?_
      rintro e w3 ⟨rfl, b3⟩
      have HB3 : Hid (Below w1.heap.size w1 w3) := HB2.out.trans (b3.mono HB2.out.size)
      have HH3 := Lib.hid (HH2.out.later b3)
      obtain ⟨I, hI⟩ : ∃ I, I = digest (xorL 54 P ++ l) := ⟨_, rfl⟩
      rw [← hI]
      have HIL : Hid (I.length = 32) := by rw [hI]; exact digest_length _
      have HIE := Lib.hid hI
      clear b3 HB2 HH2 HL2 hI
      have hb4 : Below w3.heap.size w3 (w3.alloc (.cells (bvs I).toArray 24)) := (Below.refl _ _).alloc (Nat.le_refl _) _
      have HI4 : Hid (Rd (w3.alloc (.cells (bvs I).toArray 24)).heap.size (w3.alloc (.cells (bvs I).toArray 24)) (.slice (some ⟨w3.heap.size, 0, none⟩) 32 32) I) := by
        have := arr_rd (Arr.new' w3 24 (bvs I).toArray (bvs I) (by simp)) (by rw [HIL.out]; unfold maxLen; omega)
        rw [HIL.out] at this
        exact this
      have HB4 : Hid (Below w1.heap.size w1 (w3.alloc (.cells (bvs I).toArray 24))) := HB3.out.trans (hb4.mono HB3.out.size)
      have HH4 := Lib.hid (HH3.out.later hb4).swap
      have HL4 : Hid ((xorL 92 P).length + I.length ≤ 140737488355328) := by have := HPL.out; show _ ≤ _; rw [xorL_length, HIL.out]; omega
      have HS4 : Hid (w1.heap.size ≤ (w3.alloc (.cells (bvs I).toArray 24)).heap.size) := HB4.out.size
      clear hb4 HB3 HH3
      go_wp2_with (first
        | ((with_reducible refine at32b w3.heap.size (x := .tmp 11) (y := .tmp 46) (l := I) (o := ⟨none, .store _ _ _, _, _, _, _⟩) HIL.out ?_ ?_); exact ⟨rfl, rfl, rfl, rfl, rfl, rfl⟩)
        | (at_builtin; refine app_two rfl (.tmp 47) (.tmp 48) rfl rfl HH4.out rfl HI4.out HL4.out HS4.out ?_))
      intro v5 w5 h5 b5
      have HB5 : Hid (Below w1.heap.size w1 w5) := HB4.out.trans b5
      have HH5 := Lib.hid h5.1
      have HL5 : Hid ((xorL 92 P ++ I).length ≤ 1000000) := by have := HPL.out; show _ ≤ _; rw [List.length_append, xorL_length, HIL.out]; omega
      clear h5 b5 HB4 HH4 HI4 HL4 HS4
      go_wp2_with fail
      refine (rsum_any HH5.out.rd HL5.out).mono ?_
      rintro e w6 ⟨rfl, b6⟩
      have HB6 : Hid (Below w1.heap.size w1 w6) := HB5.out.trans (b6.mono HB5.out.size)
      have hM : Arr w6 24 w.heap.size (bvs Z) := HF.out.1.below HB6.out HSZ.out
      have HBW : Hid (Below w.heap.size w w6) := HF.out.2.1.trans (HB6.out.mono (Nat.le_of_lt HSZ.out))
      obtain ⟨D, hD⟩ : ∃ D, D = digest (xorL 92 P ++ I) := ⟨_, rfl⟩
      rw [← hD]
      have HDL : Hid (D.length = 32) := by rw [hD]; exact digest_length _
      have HDE : Hid (D = hmac k l) := by
        show _ = _
        rw [hD, HIE.out, HPE.out]; rfl
      have HZL : Hid ((bvs Z).length = 32) := by show _ = _; rw [bvs_length, HZ.out]; rfl
      clear b6 hD HB5 HH5 HB6 HL5
      go_wp2_with ((with_reducible refine store32b (x := .tmp 4) (y := .tmp 50) (l := D) (o := ⟨none, .store _ _ _, _, _, _, _⟩) hM HZL.out HDL.out ?_ ?_); exact ⟨rfl, rfl, rfl, rfl⟩)
      exact bodyPost_ret (res32b rfl (hM.row _) HDL.out rfl) rfl ⟨by rw [HDE.out], below_row HBW.out (Nat.le_refl _) _⟩
theorem rmac_any {w : World} {v u : Value} {k l : List UInt8} (hv : Rd w.heap.size w v k) (hk : k.length ≤ 900000) (hr : Rd w.heap.size w u l) (hl : l.length ≤ 900000) :
    Calls Tryd.prog 41 #[v, u] w fun e w' => e = .returned (.agg (bvs (hmac k l)).toArray) ∧ Below w.heap.size w w' := by
  by_cases h : k.length ≤ 64
  · exact rmac_short hv h hr hl
  · exact rmac_long hv (by omega) hk hr hl
end Go.Proofs.YtaikdbbakdicgaaDoor
/-
  vestryref22: Check, Payload, Sign, Mint.
-/
namespace Go.Proofs.YtaikdbbakdicgaaDoor
open Go.ChangeShapes Go.WideShapes Go.ChangeAt Go.RowKit
open errAs (ErrT)
set_option linter.unusedVariables false

set_option maxRecDepth 100000 in
theorem rzcheck_any (v r : Nat) (d : List UInt8) (hd : d.length = 32) (w : World) :
    Calls Tryd.prog 11 #[zkV v r d] w fun e w' => e = .returned (.int .i64 (checkZ v r : Nat)) ∧ Below w.heap.size w w' := by
  obtain ⟨h0, h1⟩ := boxZ v r d w 26
  have HB : Hid (Below w.heap.size w (w.alloc (.cells (zc v r d).toArray 26))) := (Below.refl _ _).alloc (Nat.le_refl _) _
  by_cases a : v = 1
  · by_cases b : r < lim63
    · have c : Hid (checkZ v r = 0) := by show _ = _; unfold checkZ; rw [if_neg (by omega), if_neg (by omega)]
      unfold lim63 at b
      have a' : (v : Int) = 1 := by omega
      have b' : ¬ (9223372036854775808 : Int) ≤ (r : Int) := by omega
      clear a b
      go_enter Tryd.func11, Tryd.ntmps11
      go_wp2_with fail
      go_ret
      exact ⟨by rw [c.out]; rfl, HB.out⟩
    · have c : Hid (checkZ v r = 15) := by show _ = _; unfold checkZ; rw [if_neg (by omega), if_pos (by omega)]
      unfold lim63 at b
      have a' : (v : Int) = 1 := by omega
      have b' : (9223372036854775808 : Int) ≤ (r : Int) := by omega
      clear a b
      go_enter Tryd.func11, Tryd.ntmps11
      go_wp2_with fail
      go_ret
      exact ⟨by rw [c.out]; rfl, HB.out⟩
  · have c : Hid (checkZ v r = 13) := by show _ = _; unfold checkZ; rw [if_pos a]
    have a' : ¬ (v : Int) = 1 := by omega
    clear a
    go_enter Tryd.func11, Tryd.ntmps11
    go_wp2_with fail
    go_ret
    exact ⟨by rw [c.out]; rfl, HB.out⟩
theorem held_byte1 (w : World) (base : Nat) (hb : base ≤ w.heap.size) : Held base (w.alloc (.cells #[.int .u8 (1 : Nat)] 5)) (.slice (some ⟨w.heap.size, 0, none⟩) 1 1) [1] := by
  have hA := Arr.new' w 5 #[.int .u8 (1 : Nat)] [.int .u8 (1 : Nat)] rfl
  refine .inr ⟨w.heap.size, 0, 1, rfl, Nat.le_refl _, by unfold maxLen; omega, hb, hA.lt, fun i hi => ?_, fun i hi => ?_⟩
  · obtain rfl : i = 0 := by simpa using hi
    exact hA.cell 0
  · obtain rfl : i = 0 := by omega
    exact ⟨by rw [Nat.zero_add, hA.cell 0]; rfl, hA.free 0⟩
theorem held_byte0 (w : World) (base : Nat) (hb : base ≤ w.heap.size) : Held base (w.alloc (.cells #[] 5)) (.slice (some ⟨w.heap.size, 0, none⟩) 0 0) [] :=
  .inr ⟨w.heap.size, 0, 0, rfl, Nat.le_refl _, by unfold maxLen; omega, hb, by simp, fun i hi => by simp at hi, fun i hi => by omega⟩
set_option maxRecDepth 100000 in
set_option maxHeartbeats 1000000 in
theorem rpay_any (r : Nat) (d : List UInt8) (hr : r < lim63) (hd : d.length = 32) (w : World) :
    Calls Tryd.prog 15 #[zkV 1 r d] w fun e w' => ∃ v, e = .returned v ∧ Rd w'.heap.size w' v (payZ r d) ∧ Below w.heap.size w w' := by
  have hA := Arr.new' w 26 (zc 1 r d).toArray (zc 1 r d) rfl
  have HB2 : Hid (Below w.heap.size w (w.alloc (.cells (zc 1 r d).toArray 26))) := (Below.refl _ _).alloc (Nat.le_refl _) _
  have HA2 := Lib.hid hA
  have HD := Lib.hid hd
  have HRL := Lib.hid hr
  have HPL := Lib.hid (payZ_len hr hd)
  clear hA hd hr
  go_enter Tryd.func15, Tryd.ntmps15
  go_upto_region 1 with fail
  obtain ⟨g, hg⟩ : ∃ g, g = w.heap.size := ⟨_, rfl⟩
  rw [← hg] at HA2 ⊢
  have HG := Lib.hid hg
  generalize w.alloc (.cells (zc 1 r d).toArray 26) = w2 at HA2 HB2 ⊢
  clear hg
  refine wp_region_noPanic ?_
  refine wp_region_held_drew (S := fun W' => Arr W' 26 g (zc 1 r d)) (by kernel_rfl) (HA2.out.later (Below.refl _ _).drew) (fun hHeld => ?_)
  try simp only [Act.put]
  have HB3 := Lib.hid (HB2.out.drew)
  generalize w2.drew = w3 at hHeld HB3 ⊢
  clear HA2 HB2
  refine wpAnyH_take (i := 1) (oi := ⟨some 4, _, _, _, _, _⟩) (v := .pointer (some ⟨g, 1, none⟩)) rfl (by kernel_rfl) (by kernel_rfl) (by kernel_rfl) (fun _ _ _ h => h) (.inl ⟨by rfl, fun w' hSw => ?_⟩) hHeld ?_
  focus (skip; clear hHeld; go_simp)
  try simp only [Act.put, List.setIfInBounds_toArray, List.set_cons_zero, List.set_cons_succ]
  refine wpAnyH_take (i := 2) (oi := ⟨some 5, _, _, _, _, _⟩) (v := .int .u64 r) rfl (by kernel_rfl) (by kernel_rfl) (by kernel_rfl) (fun _ _ _ h => h) (.inl ⟨by rfl, fun w' hSw => ?_⟩) hHeld ?_
  focus ((have q0 := hSw.cell 0; have q1 := hSw.cell 1; simp only [zc, List.getElem?_cons_zero, List.getElem?_cons_succ] at q0 q1); clear hHeld; go_simp)
  try simp only [Act.put, List.setIfInBounds_toArray, List.set_cons_zero, List.set_cons_succ]
  refine wpAnyH_take (i := 5) (oi := ⟨some 8, _, _, _, _, _⟩) (v := .pointer (some ⟨g, 2, none⟩)) rfl (by kernel_rfl) (by kernel_rfl) (by kernel_rfl) (fun _ _ _ h => h) (.inl ⟨by rfl, fun w' hSw => ?_⟩) hHeld ?_
  focus (skip; clear hHeld; go_simp)
  try simp only [Act.put, List.setIfInBounds_toArray, List.set_cons_zero, List.set_cons_succ]
  refine wpAnyH_take (i := 6) (oi := ⟨some 9, _, _, _, _, _⟩) (v := .slice (some ⟨g, 2, none⟩) 32 32) rfl (by kernel_rfl) (by kernel_rfl) (by kernel_rfl) (fun _ _ _ h => h) (.inl ⟨by rfl, fun w' hSw => ?_⟩) hHeld ?_
  focus (skip; clear hHeld; go_simp)
  try simp only [Act.put, List.setIfInBounds_toArray, List.set_cons_zero, List.set_cons_succ]
  refine wpAnyH_ready (rs := [0, 3]) (by kernel_rfl) (by simp) ?_
  refine AllReadyH.cons (o := ⟨some 3, _, _, _, _, _⟩) rfl (fun K' hK' => ?_) (AllReadyH.cons (o := ⟨some 6, _, _, _, _, _⟩) rfl (fun K' hK' => ?_) AllReadyH.nil)
  · go_simp
    have hb0 : Below w3.heap.size w3 (w3.alloc (.cells #[.int .u8 (1 : Nat)] 5)) := (Below.refl _ _).alloc (Nat.le_refl _) _
    have hkn := hHeld.later hb0
    have HV3 := Lib.hid (held_byte1 w3 (g + 1) hHeld.lt)
    refine hK'.out _ _ hkn (fun _ => ?_)
    clear hK' K' hHeld
    have hHeld := hkn
    clear hkn
    have HB4 := Lib.hid (HB3.out.trans (hb0.mono HB3.out.size))
    generalize w3.heap.size = n9 at HV3 ⊢
    generalize w3.alloc (.cells #[.int .u8 (1 : Nat)] 5) = w4 at hHeld HV3 HB4 ⊢
    clear hb0 HB3
    try simp only [Act.put, List.setIfInBounds_toArray, List.set_cons_zero, List.set_cons_succ]
    refine wpAnyH_ready (rs := [3]) (by kernel_rfl) (by simp) ?_
    refine AllReadyH.cons (o := ⟨some 6, _, _, _, _, _⟩) rfl (fun K' hK' => ?_) AllReadyH.nil
    refine stepw_call (R := fun v' w'' => w''.ownsRow w4.heap.size 5 1 v' (put r).length (bvs (put r)) ∧ Below w4.heap.size w4 w'') (by rfl) ?_ ((rput r (by have := HRL.out; unfold lim63 at this; unfold lim64; omega) _).mono fun e w'' ⟨v', h1, h2, h3⟩ => ⟨v', h1, h2, h3⟩) ?_
    focus go_simp
    rintro v12 w5 ⟨o12, b12⟩
    have hkn := hHeld.later b12
    refine hK'.out _ _ hkn (fun _ => ?_)
    clear hK' K' hHeld
    have hHeld := hkn
    clear hkn
    have HV12 := Lib.hid (Rd.of_own o12)
    have HB5 := Lib.hid (HB4.out.trans (b12.mono HB4.out.size))
    have HV3 := Lib.hid (HV3.out.later b12)
    clear o12 b12 HB4
    try simp only [Act.put, List.setIfInBounds_toArray, List.set_cons_zero, List.set_cons_succ]
    have HS5 := Lib.hid hHeld.lt
    refine wpAnyH_ready (rs := [4]) (by kernel_rfl) (by simp) ?_
    refine AllReadyH.cons (o := ⟨some 7, _, _, _, _, _⟩) rfl (fun K' hK' => ?_) AllReadyH.nil
    refine step_held rfl (.tmp 3) (.tmp 6) rfl rfl HV3.out rfl HV12.out (by have := put_len10 (x := r) (by have := HRL.out; unfold lim63 at this; unfold lim64; omega); simp; omega) HS5.out ?_
    intro v7 w6 h6 b6
    have hkn := hHeld.below b6 (Nat.lt_succ_self g)
    refine hK'.out _ _ hkn (fun _ => ?_)
    clear hK' K' hHeld
    have hHeld := hkn
    clear hkn
    have HB6 := Lib.hid (HB5.out.trans (b6.mono (by have := HG.out; omega)))
    have HS6 := Lib.hid hHeld.lt
    have HH6 := Lib.hid h6
    have hr9 := rdZ hHeld HD.out
    clear b6 h6 HV3 HV12 HB5 HS5
    try simp only [Act.put, List.setIfInBounds_toArray, List.set_cons_zero, List.set_cons_succ]
    refine wpAnyH_ready (rs := [7]) (by kernel_rfl) (by simp) ?_
    refine AllReadyH.cons (o := ⟨some 10, _, _, _, _, _⟩) rfl (fun K' hK' => ?_) AllReadyH.nil
    refine step_held rfl (.tmp 7) (.tmp 9) rfl rfl HH6.out rfl hr9 (by have := put_len10 (x := r) (by have := HRL.out; unfold lim63 at this; unfold lim64; omega); have := HD.out; simp; omega) HS6.out ?_
    intro v10 w7 h7 b7
    have hkn := hHeld.below b7 (Nat.lt_succ_self g)
    refine hK'.out _ _ hkn (fun _ => ?_)
    clear hK' K' hHeld
    have hHeld := hkn
    clear hkn
    have HB7 := Lib.hid (HB6.out.trans (b7.mono (by have := HG.out; omega)))
    have HV7 := Lib.hid h7.rd
    obtain ⟨q7, c7, rfl, _, _⟩ := h7.form
    clear b7 h7 HH6 hr9 HB6 HS6
    try simp only [Act.put, List.setIfInBounds_toArray, List.set_cons_zero, List.set_cons_succ]
    refine wpAnyH_take (i := 8) (oi := ⟨some 2, _, _, _, _, _⟩) (v := .slice q7 (([1] ++ put r) ++ d).length c7) rfl (by kernel_rfl) (by kernel_rfl) (by kernel_rfl) (fun _ _ _ h => h) (.inl ⟨by rfl, fun w' hSw => ?_⟩) hHeld ?_
    focus (skip; clear hHeld; go_simp)
    try simp only [Act.put, List.setIfInBounds_toArray, List.set_cons_zero, List.set_cons_succ]
    refine wpAnyH_done (by kernel_rfl) ?_ _
    refine NoPanic.normal ?_
    clear hHeld
    have hpe : ([1] ++ put r) ++ d = payZ r d := by simp [payZ]
    rw [hpe] at HV7
    have HQ := Lib.hid hpe
    clear hpe
    have HB7' := HB7.out
    go_wp2_with fail
    go_ret
    exact ⟨_, by rw [← HQ.out]; rfl, HV7.out, HB7.out⟩
  · refine stepw_call (R := fun v' w'' => w''.ownsRow w3.heap.size 5 1 v' (put r).length (bvs (put r)) ∧ Below w3.heap.size w3 w'') (by rfl) ?_ ((rput r (by have := HRL.out; unfold lim63 at this; unfold lim64; omega) _).mono fun e w'' ⟨v', h1, h2, h3⟩ => ⟨v', h1, h2, h3⟩) ?_
    focus go_simp
    rintro v12 w4 ⟨o12, b12⟩
    have hkn := hHeld.later b12
    refine hK'.out _ _ hkn (fun _ => ?_)
    clear hK' K' hHeld
    have hHeld := hkn
    clear hkn
    have HV12 := Lib.hid (Rd.of_own o12)
    have HB4 := Lib.hid (HB3.out.trans (b12.mono HB3.out.size))
    clear o12 b12 HB3
    try simp only [Act.put, List.setIfInBounds_toArray, List.set_cons_zero, List.set_cons_succ]
    refine wpAnyH_ready (rs := [0]) (by kernel_rfl) (by simp) ?_
    refine AllReadyH.cons (o := ⟨some 3, _, _, _, _, _⟩) rfl (fun K' hK' => ?_) AllReadyH.nil
    go_simp
    have hb0 : Below w4.heap.size w4 (w4.alloc (.cells #[.int .u8 (1 : Nat)] 5)) := (Below.refl _ _).alloc (Nat.le_refl _) _
    have hkn := hHeld.later hb0
    have HV3 := Lib.hid (held_byte1 w4 (g + 1) hHeld.lt)
    refine hK'.out _ _ hkn (fun _ => ?_)
    clear hK' K' hHeld
    have hHeld := hkn
    clear hkn
    have HB5 := Lib.hid (HB4.out.trans (hb0.mono HB4.out.size))
    have HV12 := Lib.hid (rd_now (B := 0) HV12.out hb0)
    generalize w4.heap.size = n9 at HV3 ⊢
    generalize w4.alloc (.cells #[.int .u8 (1 : Nat)] 5) = w5 at hHeld HV3 HB5 HV12 ⊢
    clear hb0 HB4
    try simp only [Act.put, List.setIfInBounds_toArray, List.set_cons_zero, List.set_cons_succ]
    have HS5 := Lib.hid hHeld.lt
    refine wpAnyH_ready (rs := [4]) (by kernel_rfl) (by simp) ?_
    refine AllReadyH.cons (o := ⟨some 7, _, _, _, _, _⟩) rfl (fun K' hK' => ?_) AllReadyH.nil
    refine step_held rfl (.tmp 3) (.tmp 6) rfl rfl HV3.out rfl HV12.out (by have := put_len10 (x := r) (by have := HRL.out; unfold lim63 at this; unfold lim64; omega); simp; omega) HS5.out ?_
    intro v7 w6 h6 b6
    have hkn := hHeld.below b6 (Nat.lt_succ_self g)
    refine hK'.out _ _ hkn (fun _ => ?_)
    clear hK' K' hHeld
    have hHeld := hkn
    clear hkn
    have HB6 := Lib.hid (HB5.out.trans (b6.mono (by have := HG.out; omega)))
    have HS6 := Lib.hid hHeld.lt
    have HH6 := Lib.hid h6
    have hr9 := rdZ hHeld HD.out
    clear b6 h6 HV3 HV12 HB5 HS5
    try simp only [Act.put, List.setIfInBounds_toArray, List.set_cons_zero, List.set_cons_succ]
    refine wpAnyH_ready (rs := [7]) (by kernel_rfl) (by simp) ?_
    refine AllReadyH.cons (o := ⟨some 10, _, _, _, _, _⟩) rfl (fun K' hK' => ?_) AllReadyH.nil
    refine step_held rfl (.tmp 7) (.tmp 9) rfl rfl HH6.out rfl hr9 (by have := put_len10 (x := r) (by have := HRL.out; unfold lim63 at this; unfold lim64; omega); have := HD.out; simp; omega) HS6.out ?_
    intro v10 w7 h7 b7
    have hkn := hHeld.below b7 (Nat.lt_succ_self g)
    refine hK'.out _ _ hkn (fun _ => ?_)
    clear hK' K' hHeld
    have hHeld := hkn
    clear hkn
    have HB7 := Lib.hid (HB6.out.trans (b7.mono (by have := HG.out; omega)))
    have HV7 := Lib.hid h7.rd
    obtain ⟨q7, c7, rfl, _, _⟩ := h7.form
    clear b7 h7 HH6 hr9 HB6 HS6
    try simp only [Act.put, List.setIfInBounds_toArray, List.set_cons_zero, List.set_cons_succ]
    refine wpAnyH_take (i := 8) (oi := ⟨some 2, _, _, _, _, _⟩) (v := .slice q7 (([1] ++ put r) ++ d).length c7) rfl (by kernel_rfl) (by kernel_rfl) (by kernel_rfl) (fun _ _ _ h => h) (.inl ⟨by rfl, fun w' hSw => ?_⟩) hHeld ?_
    focus (skip; clear hHeld; go_simp)
    try simp only [Act.put, List.setIfInBounds_toArray, List.set_cons_zero, List.set_cons_succ]
    refine wpAnyH_done (by kernel_rfl) ?_ _
    refine NoPanic.normal ?_
    clear hHeld
    have hpe : ([1] ++ put r) ++ d = payZ r d := by simp [payZ]
    rw [hpe] at HV7
    have HQ := Lib.hid hpe
    clear hpe
    have HB7' := HB7.out
    go_wp2_with fail
    go_ret
    exact ⟨_, by rw [← HQ.out]; rfl, HV7.out, HB7.out⟩
set_option maxRecDepth 100000 in
set_option maxHeartbeats 1000000 in
theorem rsign_any {w : World} {vk vb : Value} {k b : List UInt8} (hv : Rd w.heap.size w vk k) (hk : k.length ≤ 900000) (hr : Rd w.heap.size w vb b) (hb : b.length ≤ 900) :
    Calls Tryd.prog 20 #[vk, vb] w fun e w' => e = .returned (.string (str (signZ k b))) ∧ Below w.heap.size w w' := by
  obtain ⟨qk, ck, rfl⟩ := rd_form hv
  obtain ⟨qb, cb, rfl⟩ := rd_form hr
  have HM := Lib.hid (rmac_any hv hk hr (by omega))
  have HR := Lib.hid hr
  have HBL := Lib.hid hb
  clear hv hk hr hb
  go_enter Tryd.func20, Tryd.ntmps20
  go_wp2_with fail
  refine HM.out.mono ?_
  rintro e w1 ⟨rfl, b1⟩
  have HB1 := Lib.hid b1
  have hR1 := rd_now (B := 0) HR.out b1
  obtain ⟨D, hD⟩ : ∃ D, D = hmac k b := ⟨_, rfl⟩
  rw [← hD]
  have HDE := Lib.hid hD
  have HDL : Hid (D.length = 32) := by show _ = _; rw [hD]; exact hmac_length _ _
  have hb2 : Below w1.heap.size w1 (w1.alloc (.cells (bvs D).toArray 24)) := (Below.refl _ _).alloc (Nat.le_refl _) _
  have HB2 := Lib.hid (HB1.out.trans (hb2.mono HB1.out.size))
  have HR2 := Lib.hid (rd_now (B := 0) hR1 hb2)
  have HA2 := Lib.hid (Arr.new' w1 24 (bvs D).toArray (bvs D) (by simp))
  obtain ⟨g, hg⟩ : ∃ g, g = w1.heap.size := ⟨_, rfl⟩
  have HG : Hid (w.heap.size ≤ g) := by have := HB1.out.size; show _ ≤ _; omega
  clear b1 hR1 hD hb2 HB1 HR HM
  go_upto_region 2 with ((with_reducible refine at32b w1.heap.size (x := .tmp 5) (y := .tmp 8) (l := D) (o := ⟨none, .store _ _ _, _, _, _, _⟩) HDL.out ?_ ?_); exact ⟨rfl, rfl, rfl, rfl, rfl, rfl⟩)
  rw [← hg] at HA2 ⊢
  clear hg
  generalize w1.alloc (.cells (bvs D).toArray 24) = w2 at HA2 HB2 HR2 ⊢
  refine wp_region_noPanic ?_
  refine wp_region_held_drew (S := fun W' => Arr W' 24 g (bvs D)) (by kernel_rfl) (HA2.out.later (Below.refl _ _).drew) (fun hHeld => ?_)
  try simp only [Act.put]
  have HB3 := Lib.hid (HB2.out.drew)
  have HR3 := Lib.hid (rd_now (B := 0) HR2.out (Below.refl _ _).drew)
  generalize w2.drew = w3 at hHeld HB3 HR3 ⊢
  clear HA2 HB2 HR2
  refine wpAnyH_take (i := 1) (oi := ⟨some 10, _, _, _, _, _⟩) (v := .slice qb b.length cb) rfl (by kernel_rfl) (by kernel_rfl) (by kernel_rfl) (fun _ _ _ h => h) (.inl ⟨by rfl, fun w' hSw => ?_⟩) hHeld ?_
  focus (skip; clear hHeld; go_simp)
  try simp only [Act.put, List.setIfInBounds_toArray, List.set_cons_zero, List.set_cons_succ]
  refine wpAnyH_take (i := 3) (oi := ⟨some 12, _, _, _, _, _⟩) (v := .slice (some ⟨g, 0, none⟩) 32 32) rfl (by kernel_rfl) (by kernel_rfl) (by kernel_rfl) (fun _ _ _ h => h) (.inl ⟨by rfl, fun w' hSw => ?_⟩) hHeld ?_
  focus (skip; clear hHeld; go_simp)
  try simp only [Act.put, List.setIfInBounds_toArray, List.set_cons_zero, List.set_cons_succ]
  refine wpAnyH_ready (rs := [0]) (by kernel_rfl) (by simp) ?_
  refine AllReadyH.cons (o := ⟨some 9, _, _, _, _, _⟩) rfl (fun K' hK' => ?_) AllReadyH.nil
  go_simp
  have hb0 : Below w3.heap.size w3 (w3.alloc (.cells #[] 5)) := (Below.refl _ _).alloc (Nat.le_refl _) _
  have hkn := hHeld.later hb0
  have HV9 := Lib.hid (held_byte0 w3 (g + 1) hHeld.lt)
  refine hK'.out _ _ hkn (fun _ => ?_)
  clear hK' K' hHeld
  have hHeld := hkn
  clear hkn
  have HB4 := Lib.hid (HB3.out.trans (hb0.mono HB3.out.size))
  have HR4 := Lib.hid (rd_now (B := 0) HR3.out hb0)
  generalize w3.heap.size = n9 at HV9 ⊢
  generalize w3.alloc (.cells #[] 5) = w4 at hHeld HV9 HB4 HR4 ⊢
  have HS4 := Lib.hid hHeld.lt
  clear hb0 HB3 HR3
  try simp only [Act.put, List.setIfInBounds_toArray, List.set_cons_zero, List.set_cons_succ]
  refine wpAnyH_ready (rs := [2]) (by kernel_rfl) (by simp) ?_
  refine AllReadyH.cons (o := ⟨some 11, _, _, _, _, _⟩) rfl (fun K' hK' => ?_) AllReadyH.nil
  refine step_held rfl (.tmp 9) (.tmp 10) rfl rfl HV9.out rfl HR4.out (by have := HBL.out; simp; omega) HS4.out ?_
  intro v5 w5 h5 b5
  have hkn := hHeld.below b5 (Nat.lt_succ_self g)
  refine hK'.out _ _ hkn (fun _ => ?_)
  clear hK' K' hHeld
  have hHeld := hkn
  clear hkn
  have HB5 := Lib.hid (HB4.out.trans (b5.mono (by have := HG.out; omega)))
  have HS5 := Lib.hid hHeld.lt
  have HH5 := Lib.hid h5
  have hr12 := arr_rd hHeld (by rw [HDL.out]; unfold maxLen; omega)
  rw [HDL.out] at hr12
  clear b5 h5 HV9 HB4 HS4 HR4
  try simp only [Act.put, List.setIfInBounds_toArray, List.set_cons_zero, List.set_cons_succ]
  refine wpAnyH_ready (rs := [4]) (by kernel_rfl) (by simp) ?_
  refine AllReadyH.cons (o := ⟨some 13, _, _, _, _, _⟩) rfl (fun K' hK' => ?_) AllReadyH.nil
  refine step_held rfl (.tmp 11) (.tmp 12) rfl rfl HH5.out rfl hr12 (by have := HBL.out; have := HDL.out; simp; omega) HS5.out ?_
  intro v6 w6 h6 b6
  have hkn := hHeld.below b6 (Nat.lt_succ_self g)
  refine hK'.out _ _ hkn (fun _ => ?_)
  clear hK' K' hHeld
  have hHeld := hkn
  clear hkn
  have HB6 := Lib.hid (HB5.out.trans (b6.mono (by have := HG.out; omega)))
  obtain ⟨Q, hQ⟩ : ∃ Q, Q = b ++ D := ⟨_, rfl⟩
  rw [List.nil_append, ← hQ] at h6
  have HQL : Hid (Q.length ≤ 1000) := by have := HBL.out; have := HDL.out; show Q.length ≤ 1000; rw [hQ, List.length_append]; omega
  have HQ := Lib.hid hQ
  have HV6 := Lib.hid h6.rd
  obtain ⟨q6, c6, rfl, _, _⟩ := h6.form
  clear b6 h6 HH5 hr12 HB5 HS5 hQ
  try simp only [Act.put, List.setIfInBounds_toArray, List.set_cons_zero, List.set_cons_succ]
  refine wpAnyH_ready (rs := [5]) (by kernel_rfl) (by simp) ?_
  refine AllReadyH.cons (o := ⟨some 14, _, _, _, _, _⟩) rfl (fun K' hK' => ?_) AllReadyH.nil
  refine stepw_call (R := fun v' w'' => v' = .string (str (enc Q)) ∧ Below w6.heap.size w6 w'') (by rfl) ?_ ((rencode_any HV6.out (Nat.le_refl _) HQL.out).mono fun e w'' ⟨h1, h3⟩ => ⟨_, h1, rfl, h3⟩) ?_
  focus go_simp
  rintro v14 w7 ⟨rfl, b7⟩
  have hkn := hHeld.later b7
  refine hK'.out _ _ hkn (fun _ => ?_)
  clear hK' K' hHeld
  have hHeld := hkn
  clear hkn
  have HB7 := Lib.hid (HB6.out.trans (b7.mono HB6.out.size))
  clear b7 HB6 HV6
  try simp only [Act.put, List.setIfInBounds_toArray, List.set_cons_zero, List.set_cons_succ]
  refine wpAnyH_take (i := 6) (oi := ⟨some 4, _, _, _, _, _⟩) (v := .string (str (enc Q))) rfl (by kernel_rfl) (by kernel_rfl) (by kernel_rfl) (fun _ _ _ h => h) (.inl ⟨by rfl, fun w' hSw => ?_⟩) hHeld ?_
  focus (skip; clear hHeld; go_simp)
  try simp only [Act.put, List.setIfInBounds_toArray, List.set_cons_zero, List.set_cons_succ]
  refine wpAnyH_done (by kernel_rfl) ?_ _
  refine NoPanic.normal ?_
  clear hHeld
  go_wp2_with fail
  go_ret
  refine ⟨?_, HB7.out⟩
  rw [signZ, ← HDE.out, ← HQ.out]
  rfl
set_option maxRecDepth 100000 in
theorem rmint_any {w : World} {vk : Value} {k : List UInt8} (r : Nat) (d : List UInt8) (hv : Rd w.heap.size w vk k) (hk : k.length ≤ 900000) (hr : r < lim63) (hd : d.length = 32) :
    Calls Tryd.prog 16 #[vk, zkV 1 r d] w fun e w' => e = .returned (.string (str (signZ k (payZ r d)))) ∧ Below w.heap.size w w' := by
  have hA := Arr.new' w 26 (zc 1 r d).toArray (zc 1 r d) rfl
  have hb0 : Below w.heap.size w (w.alloc (.cells (zc 1 r d).toArray 26)) := (Below.refl _ _).alloc (Nat.le_refl _) _
  have HB := Lib.hid hb0
  have HA := Lib.hid hA
  have HD := Lib.hid hd
  have HRL := Lib.hid hr
  have HK := Lib.hid (rd_now (B := 0) hv hb0)
  have HKL := Lib.hid hk
  have HPL := Lib.hid (payZ_len hr hd)
  obtain ⟨qk, ck, rfl⟩ := rd_form hv
  clear hA hd hr hb0 hv hk
  go_enter Tryd.func16, Tryd.ntmps16
  go_wp2_with ((with_reducible refine loadZ (x := .tmp 3) (o := ⟨some 6, _, _, _, _, _⟩) HA.out HD.out ?_ ?_); exact ⟨rfl, rfl, rfl⟩)
  refine (rpay_any r d HRL.out HD.out _).mono ?_
  rintro e w2 ⟨v2, rfl, r2, b2⟩
  have HB2 := Lib.hid (HB.out.trans (b2.mono HB.out.size))
  have HS := Lib.hid (rsign_any (rd_now (B := 0) HK.out b2) HKL.out r2 (by have := HPL.out; omega))
  obtain ⟨q2, c2, rfl⟩ := rd_form r2
  clear b2 HB HA HK r2
  go_wp2_with fail
  refine HS.out.mono ?_
  rintro e w3 ⟨rfl, b3⟩
  have HB3 := Lib.hid (HB2.out.trans (b3.mono HB2.out.size))
  clear b3 HB2 HS
  go_wp2_with fail
  go_ret
  exact ⟨rfl, HB3.out⟩
end Go.Proofs.YtaikdbbakdicgaaDoor
/-
  vestryref01.Number reads the number at an offset, as numGo says; vestrylaw01.coded compares an error with a code.
-/
namespace Go.Proofs.YtaikdbbakdicgaaDoor
open Go.ChangeShapes Go.WideShapes Go.ChangeAt Go.RowKit

theorem shl_add {x k g : Nat} (hx : x < 128 ^ k) (hk : k ≤ 9) (h9 : k = 9 → g ≤ 1) :
    IntKind.u64.wrap ((x : Int) + IntKind.u64.wrap (((g : Int) % 128) * 2 ^ (7 * k))) = ((x + g % 128 * 128 ^ k : Nat) : Int) := by
  have hlt := grp_lt hk h9
  have hnx := grp_next (g := g) hx
  have e1 : ((g : Int) % 128) = ((g % 128 : Nat) : Int) := by omega
  have w2 : (2 : Int) ^ (7 * k) = ((128 ^ k : Nat) : Int) := by rw [← pow128]; simp
  rw [e1, w2, ← Int.natCast_mul]
  have w3 : IntKind.u64.wrap ((g % 128 * 128 ^ k : Nat) : Int) = ((g % 128 * 128 ^ k : Nat) : Int) := by
    rw [IntKind.wrap_u64]
    generalize g % 128 * 128 ^ k = z at *
    omega
  rw [w3, ← Int.natCast_add, IntKind.wrap_u64]
  have hfin : x + g % 128 * 128 ^ k < 18446744073709551616 := by
    by_cases h : k = 9
    · subst h; have := h9 rfl
      have h1 : g % 128 * 128 ^ 9 ≤ 1 * 128 ^ 9 := Nat.mul_le_mul_right _ (by omega)
      have h2 : (128 : Nat) ^ 9 = 9223372036854775808 := by decide
      omega
    · have hp : 128 ^ (k + 1) ≤ 128 ^ 9 := Nat.pow_le_pow_right (by decide) (by omega)
      have : (128 : Nat) ^ 9 < 18446744073709551616 := by decide
      omega
  generalize x + g % 128 * 128 ^ k = z at *
  omega

set_option maxRecDepth 100000 in
set_option maxHeartbeats 800000 in
theorem rnumber_any {B : Nat} {w : World} {vb : Value} {l : List UInt8} (hr : Rd B w vb l) (hlen : l.length ≤ 1000000) :
    Calls Tryd.prog 37 #[vb, .int .i64 0] w fun e w' => e = .returned (.tuple #[.int .u64 (num l).1, .int .i64 (num l).2.1, .int .i64 (num l).2.2]) ∧ w = w' := by
  obtain ⟨oa, cap, rfl, _, hcell⟩ := hr.form
  by_cases hz : 0 < l.length
  · obtain ⟨b, off, rfl, _, _, _, hc⟩ := hcell hz
    clear hcell hr
    go_enter Tryd.func37, Tryd.ntmps37
    go_wp2
    go_loop [7, 8] (fun xv iv => ∃ (k x : Nat), k ≤ l.length ∧ iv = .int .i64 k ∧ xv = .int .u64 x ∧ Hid (x < 128 ^ k ∧ num l = numGo k x (l.drop k)) ∧ k ≤ 9)
      (fun _ iv => 11 - (intOf iv).toNat)
    case atStart => exact ⟨0, 0, Nat.zero_le _, rfl, rfl, ⟨by decide, rfl⟩, by omega⟩
    case round =>
      obtain ⟨k, x, hk, rfl, rfl, HP, hk9⟩ := hrel
      have hk11 : (k : Int) < 11 := by omega
      by_cases hlt : k < l.length
      · obtain ⟨g, HG, hg⟩ : ∃ g : UInt8, Hid (num l = numGo k x (g :: l.drop (k + 1))) ∧ w.cell? ⟨b, off + k, none⟩ = some (.int .u8 g.toNat) :=
          ⟨_, by have := HP.out.2; rw [drop_at l k hlt] at this; exact this, hc k hlt⟩
        have hi1 : (k : Int) < l.length := by omega
        have hi1' : ¬ (l.length : Int) ≤ k := by omega
        have hi0 : (0 : Int) ≤ k := by omega
        have hg0 : (0 : Int) ≤ (g.toNat : Int) := by omega
        have hgn := g.toNat_lt
        have hg1 : (g.toNat : Int) < 256 := by omega
        clear hc
        by_cases hA : k = 9 ∧ 1 < g.toNat
        · obtain ⟨rfl, hA⟩ := hA
          have hA' : (1 : Int) < g.toNat := by omega
          have hn := HG.out.trans (go_long ⟨rfl, hA⟩)
          have HN := Lib.hid hn
          clear hn
          go_wp2
          go_ret3
          exact ⟨by rw [HN.out]; rfl, rfl⟩
        · by_cases hB : 0 < k ∧ g.toNat = 0
          · have hn := HG.out.trans (go_min hA hB)
            have HN := Lib.hid hn
            clear hn
            obtain ⟨hB1, hB2⟩ := hB
            have hB1' : (0 : Int) < k := by omega
            have t2 : ((g.toNat : Int) == 0) = true := by rw [beq_iff_eq]; omega
            have hng : ¬ (1 : Int) < g.toNat := by omega
            have hng' : decide ((1 : Int) < g.toNat) = false := by simpa using hng
            clear hA hB2
            go_wp2
            all_goals go_ret3
            all_goals exact ⟨by rw [HN.out]; rfl, rfl⟩
          · obtain ⟨y, HY, hy⟩ : ∃ y : Nat, Hid (y = x + g.toNat % 128 * 128 ^ k) ∧ IntKind.u64.wrap ((x : Int) + IntKind.u64.wrap (((g.toNat : Int) % 128) * 2 ^ (7 * k))) = (y : Int) :=
              ⟨_, rfl, shl_add HP.out.1 hk9 (by omega)⟩
            have hng : k = 9 → ¬ 1 < g.toNat := fun e h => hA ⟨e, h⟩
            have hnz : 0 < k → ¬ g.toNat = 0 := fun e h => hB ⟨e, h⟩
            by_cases hC : g.toNat < 128
            · have hn := HG.out.trans (go_last hA hB hC)
              rw [← HY.out] at hn
              have HN := Lib.hid hn
              clear hn hA hB
              have hC' : (g.toNat : Int) < 128 := by omega
              have HNG := Lib.hid hng
              have HNZ := Lib.hid hnz
              clear hng hnz
              by_cases h9 : k = 9
              · have t0 : ((k : Int) == 9) = true := by rw [beq_iff_eq]; omega
                have t1 : ¬ (1 : Int) < g.toNat := by have := HNG.out h9; omega
                have t1' : decide ((1 : Int) < g.toNat) = false := by simpa using t1
                have t2 : ((g.toNat : Int) == 0) = false := by rw [beq_eq_false_iff_ne]; have := HNZ.out (by omega); omega
                have t3 : (0 : Int) < k := by omega
                clear h9
                go_wp2
                all_goals go_ret3
                all_goals exact ⟨by rw [HN.out]; rfl, rfl⟩
              · have t0 : ((k : Int) == 9) = false := by rw [beq_eq_false_iff_ne]; omega
                clear h9
                by_cases h0 : 0 < k
                · have t2 : ((g.toNat : Int) == 0) = false := by rw [beq_eq_false_iff_ne]; have := HNZ.out h0; omega
                  have t3 : (0 : Int) < k := by omega
                  go_wp2
                  all_goals go_ret3
                  all_goals exact ⟨by rw [HN.out]; rfl, rfl⟩
                · have t3 : ¬ (0 : Int) < k := by omega
                  have t3' : decide ((0 : Int) < k) = false := by simpa using t3
                  go_wp2
                  all_goals go_ret3
                  all_goals exact ⟨by rw [HN.out]; rfl, rfl⟩
            · have hk8 : k ≠ 9 := fun e => hA ⟨e, by omega⟩
              have hn := HG.out.trans (go_next hA hB hC)
              rw [← HY.out] at hn
              have HN := Lib.hid hn
              have hyl : y < 128 ^ (k + 1) := by rw [HY.out]; exact grp_next HP.out.1
              have HYL := Lib.hid hyl
              have hC' : (128 : Int) ≤ g.toNat := by omega
              have t1 : ((k : Int) == 9) = false := by rw [beq_eq_false_iff_ne]; omega
              have t2 : ((g.toNat : Int) == 0) = false := by rw [beq_eq_false_iff_ne]; omega
              clear hA hB hC hn hng hnz hyl
              go_wp2
              all_goals
                go_round
                case rel => exact ⟨k + 1, y, by omega, by go_num, rfl, ⟨HYL.out, HN.out⟩, by omega⟩
                case measure => simp [intOf]; omega
      · obtain rfl : k = l.length := by omega
        have hn : num l = (0, 0, 1) := by have := HP.out.2; rw [List.drop_length] at this; exact this
        have HN := Lib.hid hn
        clear hn hc
        go_wp2
        go_ret3
        exact ⟨by rw [HN.out]; rfl, rfl⟩
  · obtain rfl : l = [] := List.eq_nil_of_length_eq_zero (by omega)
    clear hcell hr
    go_enter Tryd.func37, Tryd.ntmps37
    go_wp2
    go_loop [7, 8] (fun xv iv => iv = .int .i64 0 ∧ xv = .int .u64 0) (fun _ iv => 0)
    case atStart => exact ⟨rfl, rfl⟩
    case round =>
      obtain ⟨rfl, rfl⟩ := hrel
      go_wp2
      go_ret3
      exact ⟨rfl, rfl⟩

end Go.Proofs.YtaikdbbakdicgaaDoor
/-
  vestryref01.Number at any offset.
-/
namespace Go.Proofs.YtaikdbbakdicgaaDoor
open Go.ChangeShapes Go.WideShapes Go.ChangeAt Go.RowKit
set_option linter.unusedVariables false

set_option maxRecDepth 100000 in
set_option maxHeartbeats 800000 in
theorem rnumber_at {B : Nat} {w : World} {vb : Value} {l : List UInt8} (hr : Rd B w vb l) (hlen : l.length ≤ 1000000) (A : Nat) (hA0 : A ≤ l.length) :
    Calls Tryd.prog 37 #[vb, .int .i64 A] w fun e w' => e = .returned (.tuple #[.int .u64 (num (l.drop A)).1, .int .i64 ((A + (num (l.drop A)).2.1 : Nat) : Int), .int .i64 (num (l.drop A)).2.2]) ∧ w = w' := by
  obtain ⟨oa, cap, rfl, _, hcell⟩ := hr.form
  obtain ⟨m, hm⟩ : ∃ m, m = l.drop A := ⟨_, rfl⟩
  have hml : m.length = l.length - A := by rw [hm, List.length_drop]
  have hmg : ∀ k, m.getD k 0 = l.getD (A + k) 0 := fun k => by rw [hm]; simp [List.getD_eq_getElem?_getD, List.getElem?_drop]
  rw [← hm]
  clear hm
  by_cases hz : 0 < l.length
  · obtain ⟨b, off, rfl, _, _, _, hc⟩ := hcell hz
    clear hcell hr
    go_enter Tryd.func37, Tryd.ntmps37
    go_wp2
    go_loop [7, 8] (fun xv iv => ∃ (k x : Nat), A + k ≤ l.length ∧ iv = .int .i64 k ∧ xv = .int .u64 x ∧ Hid (x < 128 ^ k ∧ num m = numGo k x (m.drop k)) ∧ k ≤ 9)
      (fun _ iv => 11 - (intOf iv).toNat)
    case atStart => exact ⟨0, 0, by omega, rfl, rfl, ⟨by decide, rfl⟩, by omega⟩
    case round =>
      obtain ⟨k, x, hk, rfl, rfl, HP, hk9⟩ := hrel
      have hk11 : (k : Int) < 11 := by omega
      by_cases hlt : A + k < l.length
      · obtain ⟨g, HG, hg⟩ : ∃ g : UInt8, Hid (num m = numGo k x (g :: m.drop (k + 1))) ∧ w.cell? ⟨b, off + (A + k), none⟩ = some (.int .u8 g.toNat) :=
          ⟨_, by have := HP.out.2; rw [drop_at m k (by omega), hmg] at this; exact this, hc (A + k) hlt⟩
        have hi1 : (A : Int) + k < l.length := by omega
        have hi1' : ¬ (l.length : Int) ≤ (A : Int) + k := by omega
        have hi0 : (0 : Int) ≤ (A : Int) + k := by omega
        have hg0 : (0 : Int) ≤ (g.toNat : Int) := by omega
        have hgn := g.toNat_lt
        have hg1 : (g.toNat : Int) < 256 := by omega
        clear hc hmg hml
        by_cases hA : k = 9 ∧ 1 < g.toNat
        · obtain ⟨rfl, hA⟩ := hA
          have hA' : (1 : Int) < g.toNat := by omega
          have hn := HG.out.trans (go_long ⟨rfl, hA⟩)
          have HN := Lib.hid hn
          clear hn
          go_wp2
          go_ret3
          exact ⟨by rw [HN.out]; first | rfl | (simp only [Nat.add_zero]; rfl) | (refine congrArg _ (congrArg _ ?_); simp only [← Nat.add_assoc]; first | rfl | (simp; omega)), rfl⟩
        · by_cases hB : 0 < k ∧ g.toNat = 0
          · have hn := HG.out.trans (go_min hA hB)
            have HN := Lib.hid hn
            clear hn
            obtain ⟨hB1, hB2⟩ := hB
            have hB1' : (0 : Int) < k := by omega
            have t2 : ((g.toNat : Int) == 0) = true := by rw [beq_iff_eq]; omega
            have hng : ¬ (1 : Int) < g.toNat := by omega
            have hng' : decide ((1 : Int) < g.toNat) = false := by simpa using hng
            clear hA hB2
            go_wp2
            all_goals go_ret3
            all_goals exact ⟨by rw [HN.out]; first | rfl | (simp only [Nat.add_zero]; rfl) | (refine congrArg _ (congrArg _ ?_); simp only [← Nat.add_assoc]; first | rfl | (simp; omega)), rfl⟩
          · obtain ⟨y, HY, hy⟩ : ∃ y : Nat, Hid (y = x + g.toNat % 128 * 128 ^ k) ∧ IntKind.u64.wrap ((x : Int) + IntKind.u64.wrap (((g.toNat : Int) % 128) * 2 ^ (7 * k))) = (y : Int) :=
              ⟨_, rfl, shl_add HP.out.1 hk9 (by omega)⟩
            have hng : k = 9 → ¬ 1 < g.toNat := fun e h => hA ⟨e, h⟩
            have hnz : 0 < k → ¬ g.toNat = 0 := fun e h => hB ⟨e, h⟩
            by_cases hC : g.toNat < 128
            · have hn := HG.out.trans (go_last hA hB hC)
              rw [← HY.out] at hn
              have HN := Lib.hid hn
              clear hn hA hB
              have hC' : (g.toNat : Int) < 128 := by omega
              have HNG := Lib.hid hng
              have HNZ := Lib.hid hnz
              clear hng hnz
              by_cases h9 : k = 9
              · have t0 : ((k : Int) == 9) = true := by rw [beq_iff_eq]; omega
                have t1 : ¬ (1 : Int) < g.toNat := by have := HNG.out h9; omega
                have t1' : decide ((1 : Int) < g.toNat) = false := by simpa using t1
                have t2 : ((g.toNat : Int) == 0) = false := by rw [beq_eq_false_iff_ne]; have := HNZ.out (by omega); omega
                have t3 : (0 : Int) < k := by omega
                clear h9
                go_wp2
                all_goals go_ret3
                all_goals exact ⟨by rw [HN.out]; first | rfl | (simp only [Nat.add_zero]; rfl) | (refine congrArg _ (congrArg _ ?_); simp only [← Nat.add_assoc]; first | rfl | (simp; omega)), rfl⟩
              · have t0 : ((k : Int) == 9) = false := by rw [beq_eq_false_iff_ne]; omega
                clear h9
                by_cases h0 : 0 < k
                · have t2 : ((g.toNat : Int) == 0) = false := by rw [beq_eq_false_iff_ne]; have := HNZ.out h0; omega
                  have t3 : (0 : Int) < k := by omega
                  go_wp2
                  all_goals go_ret3
                  all_goals exact ⟨by rw [HN.out]; first | rfl | (simp only [Nat.add_zero]; rfl) | (refine congrArg _ (congrArg _ ?_); simp only [← Nat.add_assoc]; first | rfl | (simp; omega)), rfl⟩
                · have t3 : ¬ (0 : Int) < k := by omega
                  have t3' : decide ((0 : Int) < k) = false := by simpa using t3
                  go_wp2
                  all_goals go_ret3
                  all_goals exact ⟨by rw [HN.out]; first | rfl | (simp only [Nat.add_zero]; rfl) | (refine congrArg _ (congrArg _ ?_); simp only [← Nat.add_assoc]; first | rfl | (simp; omega)), rfl⟩
            · have hk8 : k ≠ 9 := fun e => hA ⟨e, by omega⟩
              have hn := HG.out.trans (go_next hA hB hC)
              rw [← HY.out] at hn
              have HN := Lib.hid hn
              have hyl : y < 128 ^ (k + 1) := by rw [HY.out]; exact grp_next HP.out.1
              have HYL := Lib.hid hyl
              have hC' : (128 : Int) ≤ g.toNat := by omega
              have t1 : ((k : Int) == 9) = false := by rw [beq_eq_false_iff_ne]; omega
              have t2 : ((g.toNat : Int) == 0) = false := by rw [beq_eq_false_iff_ne]; omega
              clear hA hB hC hn hng hnz hyl
              go_wp2
              all_goals
                go_round
                case rel => exact ⟨k + 1, y, by omega, by go_num, rfl, ⟨HYL.out, HN.out⟩, by omega⟩
                case measure => simp [intOf]; omega
      · have hn : num m = (0, 0, 1) := by have := HP.out.2; rw [List.drop_of_length_le (by omega)] at this; exact this
        have hend : (l.length : Int) ≤ (A : Int) + k := by omega
        have HN := Lib.hid hn
        clear hn hc hmg hml
        go_wp2
        go_ret3
        exact ⟨by rw [HN.out]; first | rfl | (simp only [Nat.add_zero]; rfl) | (refine congrArg _ (congrArg _ ?_); simp only [← Nat.add_assoc]; first | rfl | (simp; omega)), rfl⟩
  · obtain rfl : l = [] := List.eq_nil_of_length_eq_zero (by omega)
    obtain rfl : A = 0 := by simpa using hA0
    obtain rfl : m = [] := List.eq_nil_of_length_eq_zero (by simpa using hml)
    clear hcell hr
    go_enter Tryd.func37, Tryd.ntmps37
    go_wp2
    go_loop [7, 8] (fun xv iv => iv = .int .i64 0 ∧ xv = .int .u64 0) (fun _ iv => 0)
    case atStart => exact ⟨rfl, rfl⟩
    case round =>
      obtain ⟨rfl, rfl⟩ := hrel
      go_wp2
      go_ret3
      exact ⟨rfl, rfl⟩

end Go.Proofs.YtaikdbbakdicgaaDoor
/-
  vestryref04.Decode answers what base.Decode answers.
-/
namespace Go.Proofs.YtaikdbbakdicgaaDoor
open Go.ChangeShapes Go.WideShapes Go.ChangeAt Go.RowKit
set_option linter.unusedVariables false

theorem bitsN_sum : ∀ (n v : Nat), v < 2 ^ n → ((bitsN n v).sum = 0 ↔ v = 0)
  | 0, v, h => by simp [bitsN]; omega
  | n + 1, v, h => by
    rw [bitsN, List.sum_append]
    have := bitsN_sum n (v / 2) (by omega)
    simp
    omega
theorem bitsN_le : ∀ (n v k : Nat), (bitsN n v).getD k 0 ≤ 1
  | 0, v, k => by simp [bitsN]
  | n + 1, v, k => by
    rw [bitsN, List.getD_eq_getElem?_getD]
    by_cases h : k < n
    · rw [List.getElem?_append_left (by rw [bitsN_len]; exact h), ← List.getD_eq_getElem?_getD]
      exact bitsN_le n _ k
    · rw [List.getElem?_append_right (by rw [bitsN_len]; omega), bitsN_len]
      by_cases h2 : k - n = 0
      · rw [h2]; simp; omega
      · rw [List.getElem?_eq_none (by simp; omega)]; simp

set_option maxRecDepth 100000 in
set_option maxHeartbeats 4000000 in
theorem rdecode_any (s : ByteArray) (hs : s.size ≤ 1000) (w : World) :
    Calls Tryd.prog 40 #[.string s] w (DecPost w (dec s.data.toList)) := by
  have hsl : s.data.toList.length = s.size := by rw [Array.length_toList]; rfl
  have HSL := Lib.hid hsl
  clear hsl
  go_enter Tryd.func40, Tryd.ntmps40
  go_wp2_with fail
  go_loopw [4, 5] (fun v iv wr => ∃ (k n : Nat) (acc : List UInt8) (bb ss : Nat), k ≤ s.size ∧ iv = .int .i64 k ∧ wr.ownsRow w.heap.size 3 1 v n (ivs (bitsOf acc ++ bitsN ss bb)) ∧ Below w.heap.size w wr ∧ Hid (okB bb ss ∧ 8 * acc.length + ss = 6 * k ∧ dec s.data.toList = decGo (s.data.toList.drop k) k acc bb ss)) (fun _ iv _ => s.size - (intOf iv).toNat)
  case atStart => exact ⟨0, 0, [], 0, 0, Nat.zero_le _, rfl, World.ownsRow_nil _ _ _ _, Below.refl _ _, .inl ⟨rfl, by decide⟩, rfl, rfl⟩
  case round =>
    obtain ⟨k, n0, acc, bb, ss, hk, rfl, hown0, hb0, HK⟩ := hrel
    by_cases hlt : k < s.size
    · obtain ⟨o1, hal, hd⟩ := HK.out
      have hdk : s.data.toList.drop k = s[k] :: s.data.toList.drop (k + 1) := by
        rw [List.drop_eq_getElem_cons (by rw [HSL.out]; exact hlt)]; rfl
      rw [hdk] at hd
      have hbd := valI_bd s[k]
      have hi1 : (k : Int) < s.size := by omega
      have hi0 : (0 : Int) ≤ k := by omega
      by_cases hneg : valI s[k] < 0
      · have hv : valI s[k] = -1 := by omega
        rw [decGo, if_pos hneg] at hd
        have HD := Lib.hid hd
        have HV := Lib.hid hv
        have HB := Lib.hid hb0
        clear hd hv hbd hneg hdk hown0 hb0 o1 hal HK
        go_wp2_with fail
        refine (baseSigns.rvalue_any _ _).mono ?_
        rintro e w3 ⟨rfl, rfl⟩
        rw [HV.out]
        go_wp2_with fail
        go_ret2
        exact ⟨_, by rw [HD.out]; rfl, by rw [HD.out]; exact .inl ⟨none, rfl, rfl⟩, HB.out⟩
      · obtain ⟨v, hv⟩ : ∃ v : Nat, valI s[k] = v := Int.eq_ofNat_of_zero_le (show 0 ≤ valI s[k] by omega)
        have hv64 : v < 64 := by omega
        rw [decGo, if_neg hneg, hv, Int.toNat_natCast] at hd
        have HD := Lib.hid hd
        have HV := Lib.hid hv
        have HO := Lib.hid (okB_step (g := v) o1 hv64)
        have HBI := Lib.hid (stB_bits o1 hv64)
        have hv0 : (0 : Int) ≤ v := by omega
        have hv1 : (v : Int) < 64 := by omega
        have hv2 : ¬ (v : Int) < 0 := by omega
        obtain ⟨L, HL⟩ : ∃ L, Hid (L = bitsOf acc ++ bitsN ss bb) := ⟨_, rfl⟩
        have hLl : L.length ≤ 6000 := by rw [HL.out, List.length_append, bitsOf_len, bitsN_len]; omega
        have HAL := Lib.hid hal
        rw [← HL.out] at hown0
        clear hd hv hbd hneg hdk o1 hal HK
        go_wp2_with fail
        refine (baseSigns.rvalue_any _ _).mono ?_
        rintro e w3 ⟨rfl, rfl⟩
        rw [HV.out]
        go_wp2_with fail
        refine wp_loop_rounds 7 ?_
        rw [rounds_succ]
        go_wp2_with (at_builtin; refine app_int (b := v / 32 % 2) rfl (.tmp 32) (.tmp 38) rfl rfl (hown0.alloc _) rfl (cell_lit _ _ _) ?c1 ?c2 ?_)
        case c1 => simp <;> omega
        case c2 => have := hb0.size; simp <;> omega
        intro v1 w1 hown1 hg1
        have hb1 := below_append hb0 hb0.size (Nat.le_refl _) hown0 hg1
        clear hown0 hb0 hg1
        go_wp2_with fail
        rw [rounds_succ]
        go_wp2_with (at_builtin; refine app_int (b := v / 16 % 2) rfl (.tmp 32) (.tmp 38) rfl rfl (hown1.alloc _) rfl (cell_lit _ _ _) ?c1 ?c2 ?_)
        case c1 => simp <;> omega
        case c2 => have := hb1.size; simp <;> omega
        intro v2 w2 hown2 hg2
        have hb2 := below_append hb1 hb1.size (Nat.le_refl _) hown1 hg2
        clear hown1 hb1 hg2
        go_wp2_with fail
        rw [rounds_succ]
        go_wp2_with (at_builtin; refine app_int (b := v / 8 % 2) rfl (.tmp 32) (.tmp 38) rfl rfl (hown2.alloc _) rfl (cell_lit _ _ _) ?c1 ?c2 ?_)
        case c1 => simp <;> omega
        case c2 => have := hb2.size; simp <;> omega
        intro v3 w3 hown3 hg3
        have hb3 := below_append hb2 hb2.size (Nat.le_refl _) hown2 hg3
        clear hown2 hb2 hg3
        go_wp2_with fail
        rw [rounds_succ]
        go_wp2_with (at_builtin; refine app_int (b := v / 4 % 2) rfl (.tmp 32) (.tmp 38) rfl rfl (hown3.alloc _) rfl (cell_lit _ _ _) ?c1 ?c2 ?_)
        case c1 => simp <;> omega
        case c2 => have := hb3.size; simp <;> omega
        intro v4 w4 hown4 hg4
        have hb4 := below_append hb3 hb3.size (Nat.le_refl _) hown3 hg4
        clear hown3 hb3 hg4
        go_wp2_with fail
        rw [rounds_succ]
        go_wp2_with (at_builtin; refine app_int (b := v / 2 % 2) rfl (.tmp 32) (.tmp 38) rfl rfl (hown4.alloc _) rfl (cell_lit _ _ _) ?c1 ?c2 ?_)
        case c1 => simp <;> omega
        case c2 => have := hb4.size; simp <;> omega
        intro v5 w5 hown5 hg5
        have hb5 := below_append hb4 hb4.size (Nat.le_refl _) hown4 hg5
        clear hown4 hb4 hg5
        go_wp2_with fail
        rw [rounds_succ]
        go_wp2_with (at_builtin; refine app_int (b := v % 2) rfl (.tmp 32) (.tmp 38) rfl rfl (hown5.alloc _) rfl (cell_lit _ _ _) ?c1 ?c2 ?_)
        case c1 => simp <;> omega
        case c2 => have := hb5.size; simp <;> omega
        intro v6 w6 hown6 hg6
        have hb6 := below_append hb5 hb5.size (Nat.le_refl _) hown5 hg6
        clear hown5 hb5 hg6
        go_wp2_with fail
        have hlen := congrArg List.length HBI.out
        rw [List.length_append, List.length_append, bitsN_len, bitsN_len, bitsN_len, bitsOf_len] at hlen
        have hfin : ∃ n, w6.ownsRow w.heap.size 3 1 v6 n (ivs (bitsOf (acc ++ (stB bb ss v).1) ++ bitsN (stB bb ss v).2.2 (stB bb ss v).2.1)) := by
          have e : bitsOf (acc ++ (stB bb ss v).1) ++ bitsN (stB bb ss v).2.2 (stB bb ss v).2.1 = L ++ [v / 32 % 2, v / 16 % 2, v / 8 % 2, v / 4 % 2, v / 2 % 2, v % 2] := by
            rw [HL.out, List.append_assoc, ← bits6, HBI.out, ← List.append_assoc]
            congr 1
            simp [bitsOf, List.flatMap_append]
          rw [e]
          exact ⟨_, hown6⟩
        obtain ⟨n6, hfin⟩ := hfin
        have HF := Lib.hid hfin
        have HLN := Lib.hid hlen
        clear hfin hown6 hlen
        rw [rounds_succ]
        go_wp2_with fail
        go_roundw
        case rel => exact ⟨k + 1, n6, _, _, _, by omega, by go_num, HF.out, hb6, HO.out, by rw [List.length_append]; have := HLN.out; have := HAL.out; omega, HD.out⟩
        case measure => simp [intOf]; omega
    · obtain rfl : k = s.size := by omega
      obtain ⟨o1, hal, hd⟩ := HK.out
      have hdk : s.data.toList.drop s.size = [] := List.eq_nil_of_length_eq_zero (by rw [List.length_drop, HSL.out]; omega)
      rw [hdk, decGo] at hd
      rename World => wr
      obtain ⟨m, HM⟩ : ∃ m, Hid (m = 8 * acc.length + ss) := ⟨_, rfl⟩
      have hBl : (bitsOf acc ++ bitsN ss bb).length = m := by rw [List.length_append, bitsOf_len, bitsN_len, HM.out]
      obtain ⟨hn1, o2, c2, rfl, _, hrd⟩ := own_int hown0
      rw [hBl] at hrd
      have hss : ss ≤ 6 := by rcases o1 with h | h | h | h <;> omega
      have hbb : bb < 2 ^ ss := by rcases o1 with ⟨rfl, h⟩ | ⟨rfl, h⟩ | ⟨rfl, h⟩ | ⟨rfl, h⟩ <;> exact h
      obtain ⟨na, HNA⟩ : ∃ na, Hid (na = acc.length) := ⟨_, rfl⟩
      have hm := HM.out
      rw [← HNA.out] at hm
      have hq : (m : Int) / 8 = na := by omega
      have hm0 : (0 : Int) ≤ m := by omega
      have hm1 : (m : Int) ≤ 6000 := by have := HM.out; omega
      have hna1 : 8 * (na : Int) ≤ m := by omega
      have hcb : ∀ j, j < ss → ∃ g, o2 = some ⟨g, 0, none⟩ ∧ wr.cell? ⟨g, 8 * na + j, none⟩ = some (iv ((bitsN ss bb).getD j 0)) := by
        intro j hj
        obtain ⟨g, h1, h2, h3, h4⟩ := hrd (by omega)
        refine ⟨g, h1, ?_⟩
        rw [h4 (8 * na + j) (by omega), List.getD_eq_getElem?_getD, List.getElem?_append_right (by rw [bitsOf_len]; have := HNA.out; omega), ← List.getD_eq_getElem?_getD]
        congr 3
        rw [bitsOf_len, HNA.out]; omega
      have hca : ∀ i, i < na → ∃ g x, o2 = some ⟨g, 0, none⟩ ∧ g < wr.heap.size ∧ acc.take (i + 1) = acc.take i ++ [x] ∧ ∀ k, k < 8 → wr.cell? ⟨g, 8 * i + k, none⟩ = some (iv ((bitsN 8 x.toNat).getD k 0)) := by
        intro i hi
        have hil : i < acc.length := by rw [← HNA.out]; exact hi
        obtain ⟨g, h1, h2, h3, h4⟩ := hrd (by omega)
        obtain ⟨x, hx⟩ : ∃ x, acc.take (i + 1) = acc.take i ++ [x] := ⟨_, List.take_succ_eq_append_getElem hil⟩
        refine ⟨g, x, h1, World.block_lt_of_cell? _ ⟨g, 0, none⟩ (h4 0 (by omega)), hx, fun k hk => ?_⟩
        rw [h4 (8 * i + k) (by omega)]
        have e1 : acc = acc.take i ++ x :: acc.drop (i + 1) := by
          have h1 := List.take_append_drop (i + 1) acc
          rw [hx, List.append_assoc] at h1
          exact h1.symm
        have e2 : bitsOf acc = bitsOf (acc.take i) ++ (bitsN 8 x.toNat ++ bitsOf (acc.drop (i + 1))) := by
          conv => lhs; rw [e1]
          simp [bitsOf, List.flatMap_append, List.flatMap_cons]
        have e3 : (bitsOf (acc.take i)).length = 8 * i := by rw [bitsOf_len, List.length_take]; omega
        rw [e2, List.append_assoc, List.append_assoc, List.getD_eq_getElem?_getD, List.getElem?_append_right (by omega), e3, List.getElem?_append_left (by rw [bitsN_len]; omega), ← List.getD_eq_getElem?_getD]
        congr 3; omega
      have HCA := Lib.hid hca
      have HCB := Lib.hid hcb
      have HBB := Lib.hid hbb
      have HD := Lib.hid hd
      have HB0 := Lib.hid hb0
      rw [hBl]
      have HMM := Lib.hid hm
      clear hca hcb hbb hd hdk HK hal o1 hown0 hrd hBl hn1 hb0 hm HSL
      go_wp2_with fail
      go_loop [9, 10] (fun rv iv => ∃ j r p : Nat, j ≤ ss ∧ rv = .int .i64 r ∧ iv = .int .i64 p ∧ Hid (p = 8 * na + j ∧ r = ((bitsN ss bb).take j).sum) ∧ r ≤ j ∧ p ≤ m) (fun _ iv => m - (intOf iv).toNat)
      case atStart => exact ⟨0, 0, 8 * na, Nat.zero_le _, rfl, by go_num, ⟨rfl, by simp⟩, Nat.zero_le _, by omega⟩
      case round =>
        obtain ⟨j, r, p, hj, rfl, rfl, HP, hrj, hpm⟩ := hrel
        by_cases hlt2 : j < ss
        · obtain ⟨g, rfl, hc⟩ := HCB.out j hlt2
          rw [← HP.out.1] at hc
          obtain ⟨z, hz⟩ : ∃ z, z = (bitsN ss bb).getD j 0 := ⟨_, rfl⟩
          have hz1 : (z : Int) ≤ 1 := by have := bitsN_le ss bb j; omega
          rw [← hz] at hc
          have hc' : wr.cell? ⟨g, p, none⟩ = some (.int .i64 z) := hc
          have hpm1 : (p : Int) < m := by have := HMM.out; have := HP.out.1; omega
          have hp0 : (0 : Int) ≤ p := by omega
          have hr6 : (r : Int) ≤ 6 := by omega
          have hsum : r + z = ((bitsN ss bb).take (j + 1)).sum := by
            have hlj : j < (bitsN ss bb).length := by rw [bitsN_len]; exact hlt2
            rw [List.take_succ_eq_append_getElem hlj, List.sum_append, ← HP.out.2, hz, List.getD_eq_getElem?_getD, List.getElem?_eq_getElem hlj]
            simp
          have HSU := Lib.hid hsum
          clear hz hc hsum
          go_wp2_with fail
          go_round
          case rel => exact ⟨j + 1, r + z, p + 1, by omega, by go_num, by go_num, ⟨by have := HP.out.1; omega, HSU.out⟩, by omega, by omega⟩
          case measure => simp [intOf]; omega
        · obtain rfl : j = ss := by omega
          have hp : p = m := by rw [HP.out.1, HMM.out]
          subst hp
          have hr0 : r = 0 ↔ bb = 0 := by
            have h1 := HP.out.2
            rw [List.take_of_length_le (by rw [bitsN_len]; omega)] at h1
            rw [h1]
            exact bitsN_sum _ _ HBB.out
          have hsub : (p : Int) - 8 * na = j := by have := HMM.out; omega
          have hd := HD.out
          have hszz : (s.size : Int) ≤ 1000 := by omega
          by_cases hbad : 6 ≤ j ∨ bb ≠ 0
          · rw [if_pos hbad] at hd
            have HD2 := Lib.hid hd
            by_cases h6 : 6 ≤ j
            · have h6' : (6 : Int) ≤ j := by omega
              clear hd hr0 hbad HD
              go_wp2_with fail
              go_ret2
              exact ⟨_, by rw [HD2.out]; rfl, by rw [HD2.out]; exact .inl ⟨none, rfl, rfl⟩, HB0.out⟩
            · have h6' : ¬ (6 : Int) ≤ j := by omega
              have hr' : (0 : Int) < r := by omega
              clear hd hr0 hbad HD
              go_wp2_with fail
              go_ret2
              exact ⟨_, by rw [HD2.out]; rfl, by rw [HD2.out]; exact .inl ⟨none, rfl, rfl⟩, HB0.out⟩
          · rw [if_neg hbad] at hd
            have HD2 := Lib.hid hd
            have h6' : ¬ (6 : Int) ≤ j := by omega
            have hr' : ¬ (0 : Int) < r := by omega
            have hnb : (na : Int) ≤ 1000 := by omega
            clear hd hr0 hbad HD HCB
            go_wp2_with fail
            go_loopw [11, 12] (fun v iv wr_1 => ∃ (i n : Nat), i ≤ na ∧ iv = .int .i64 i ∧ Hid (wr_1.ownsRow wr.heap.size 5 1 v n (bvs (acc.take i))) ∧ Below wr.heap.size wr wr_1) (fun _ iv _ => na - (intOf iv).toNat)
            case atStart => exact ⟨0, 0, Nat.zero_le _, rfl, World.ownsRow_nil _ _ _ _, Below.refl _ _⟩
            case round =>
              obtain ⟨i, n2, hi, rfl, HO, hb2⟩ := hrel
              rename World => wr_2
              by_cases hlt3 : i < na
              · obtain ⟨g, x, rfl, hgs, HX, hcg⟩ := HCA.out i hlt3
                have hx := Lib.hid HX
                clear HX
                have hcb : ∀ k, k < 8 → wr_2.cell? ⟨g, 8 * i + k, none⟩ = some (iv ((bitsN 8 x.toNat).getD k 0)) := by
                  intro k hk
                  exact (hb2.cell (p := ⟨g, 8 * i + k, none⟩) hgs).trans (hcg k hk)
                have hx255 := x.toNat_lt
                rw [bits8] at hcb
                have c0 : wr_2.cell? ⟨g, 8 * i, none⟩ = some (.int .i64 (x.toNat / 128 % 2 : Nat)) := hcb 0 (by omega)
                have c1 : wr_2.cell? ⟨g, 8 * i + 1, none⟩ = some (.int .i64 (x.toNat / 64 % 2 : Nat)) := hcb 1 (by omega)
                have c2 : wr_2.cell? ⟨g, 8 * i + 2, none⟩ = some (.int .i64 (x.toNat / 32 % 2 : Nat)) := hcb 2 (by omega)
                have c3 : wr_2.cell? ⟨g, 8 * i + 3, none⟩ = some (.int .i64 (x.toNat / 16 % 2 : Nat)) := hcb 3 (by omega)
                have c4 : wr_2.cell? ⟨g, 8 * i + 4, none⟩ = some (.int .i64 (x.toNat / 8 % 2 : Nat)) := hcb 4 (by omega)
                have c5 : wr_2.cell? ⟨g, 8 * i + 5, none⟩ = some (.int .i64 (x.toNat / 4 % 2 : Nat)) := hcb 5 (by omega)
                have c6 : wr_2.cell? ⟨g, 8 * i + 6, none⟩ = some (.int .i64 (x.toNat / 2 % 2 : Nat)) := hcb 6 (by omega)
                have c7 : wr_2.cell? ⟨g, 8 * i + 7, none⟩ = some (.int .i64 (x.toNat % 2 : Nat)) := hcb 7 (by omega)
                obtain ⟨z0, hz0⟩ : ∃ z, z = x.toNat / 128 % 2 := ⟨_, rfl⟩
                obtain ⟨z1, hz1⟩ : ∃ z, z = x.toNat / 64 % 2 := ⟨_, rfl⟩
                obtain ⟨z2, hz2⟩ : ∃ z, z = x.toNat / 32 % 2 := ⟨_, rfl⟩
                obtain ⟨z3, hz3⟩ : ∃ z, z = x.toNat / 16 % 2 := ⟨_, rfl⟩
                obtain ⟨z4, hz4⟩ : ∃ z, z = x.toNat / 8 % 2 := ⟨_, rfl⟩
                obtain ⟨z5, hz5⟩ : ∃ z, z = x.toNat / 4 % 2 := ⟨_, rfl⟩
                obtain ⟨z6, hz6⟩ : ∃ z, z = x.toNat / 2 % 2 := ⟨_, rfl⟩
                obtain ⟨z7, hz7⟩ : ∃ z, z = x.toNat % 2 := ⟨_, rfl⟩
                rw [← hz0] at c0
                rw [← hz1] at c1
                rw [← hz2] at c2
                rw [← hz3] at c3
                rw [← hz4] at c4
                rw [← hz5] at c5
                rw [← hz6] at c6
                rw [← hz7] at c7
                have hxq : x.toNat = 128 * z0 + 64 * z1 + 32 * z2 + 16 * z3 + 8 * z4 + 4 * z5 + 2 * z6 + z7 := by omega
                have HXQ := Lib.hid hxq
                have l0 : (z0 : Int) ≤ 1 := by omega
                have l1 : (z1 : Int) ≤ 1 := by omega
                have l2 : (z2 : Int) ≤ 1 := by omega
                have l3 : (z3 : Int) ≤ 1 := by omega
                have l4 : (z4 : Int) ≤ 1 := by omega
                have l5 : (z5 : Int) ≤ 1 := by omega
                have l6 : (z6 : Int) ≤ 1 := by omega
                have l7 : (z7 : Int) ≤ 1 := by omega
                have hi0 : (0 : Int) ≤ i := by omega
                have hi3 : (i : Int) < na := by omega
                have hrl : ∀ y : Value, y = bv x → Rd (wr_2.heap.size + 1) (wr_2.alloc (.cells #[y] 5)) (.slice (some ⟨wr_2.heap.size, 0, none⟩) 1 1) [x] := by
                  intro y hy
                  exact rd_lit wr_2 [x] #[y] (by rw [hy]; rfl) 1 rfl (by show 1 ≤ maxLen; decide)
                have HRL := Lib.hid hrl
                have hlen2 : (acc.take i).length ≤ 1000 := by rw [List.length_take, ← HNA.out]; omega
                have HL2 := Lib.hid hlen2
                have hown2 := own_norm HO.out
                have HO2 := Lib.hid hown2
                clear hz0 hz1 hz2 hz3 hz4 hz5 hz6 hz7 hxq hcb hcg hx255 hrl hlen2 hown2
                go_wp2_with fail
                refine wp_loop_rounds 9 ?_
                rw [rounds_succ]
                go_wp2_with fail
                rw [rounds_succ]
                go_wp2_with fail
                rw [rounds_succ]
                go_wp2_with fail
                rw [rounds_succ]
                go_wp2_with fail
                rw [rounds_succ]
                go_wp2_with fail
                rw [rounds_succ]
                go_wp2_with fail
                rw [rounds_succ]
                go_wp2_with fail
                rw [rounds_succ]
                go_wp2_with fail
                rw [rounds_succ]
                go_wp2_with (at_builtin; refine app_bytes rfl (.tmp 89) (.tmp 92) rfl rfl (HO2.out.alloc _) rfl (HRL.out _ ?hrr) ?c1 ?c2 ?_)
                case hrr => unfold bv; rw [HXQ.out]; congr 1; omega
                case c1 => have := HL2.out; simp only [List.length_singleton]; omega
                case c2 => have := hb2.size; simp <;> omega
                intro v9 w9 hown9 hg9
                have hb9 := below_append hb2 hb2.size (Nat.le_refl _) HO2.out hg9
                have hfin : ∃ n, w9.ownsRow wr.heap.size 5 1 v9 n (bvs (acc.take (i + 1))) := by
                  rw [hx.out]
                  exact ⟨_, hown9⟩
                obtain ⟨n9, hfin⟩ := hfin
                have HF := Lib.hid hfin
                clear hown9 hg9 hfin HO2 HO hb2
                go_wp2_with fail
                go_roundw
                case rel => exact ⟨i + 1, n9, by omega, by go_num, HF.out, hb9⟩
                case measure => simp [intOf]; omega
              · obtain rfl : i = na := by omega
                have hown2 := HO.out
                rw [HNA.out, List.take_length] at hown2
                have hr2 := Rd.of_own hown2
                obtain ⟨o2, c2, rfl, _, _⟩ := hr2.form
                have HR2 := Lib.hid hr2
                have HB2 := Lib.hid (HB0.out.trans (hb2.mono HB0.out.size))
                clear hown2 hr2 HO hb2
                go_wp2_with fail
                go_ret2
                exact ⟨_, by rw [HD2.out]; rfl, by rw [HD2.out]; exact HR2.out, HB2.out⟩
end Go.Proofs.YtaikdbbakdicgaaDoor
/-
  vestryref22: Parse, Verify.
-/
namespace Go.Proofs.YtaikdbbakdicgaaDoor
open Go.ChangeShapes Go.WideShapes Go.ChangeAt Go.RowKit
open errAs (ErrT)
set_option linter.unusedVariables false

theorem resZ2 {fn : Func} {p q q2 : Tmp} {tmps : Array Value} {w : World} {g v r : Nat} {t : TypeId} {d : List UInt8} (h : fn.results = #[.cell p 26, .tmp q, .tmp q2]) (hA : Arr w t g (zc v r d)) (hd : d.length = 32) (hp : tmps.getD p undef = .pointer (some ⟨g, 0, none⟩)) :
    (results fn tmps).run Tryd.prog w = .ok (.tuple #[zkV v r d, tmps.getD q undef, tmps.getD q2 undef]) w := by
  have hp' : tmps[p]?.getD undef = .pointer (some ⟨g, 0, none⟩) := by simpa using hp
  have hl := run_loadVar_row (P := Tryd.prog) w g t 26 (zc v r d).toArray (0, 0) _ hA Tryd.underlying26 rfl (by rw [List.size_toArray, zc_length hd]; kernel_rfl)
  simp [results, h, hp', asAddr, hl]
theorem atZ {ops : Array Oper} {rest : List Oper} {o : Oper} {a : Act} {Q : Exit → Act → World → Prop} {w : World} {t : TypeId} {x y : Operand} {v r : Nat} {d : List UInt8} {cs : Array Value} (n : Nat) (hd : d.length = 32)
    (hs : o.guard = none ∧ o.op = .store 26 x y ∧ a.eval x = .pointer (some ⟨n, 0, none⟩) ∧ a.eval y = zkV v r d ∧ cs.toList.length = 34 ∧ n = w.heap.size)
    (hk : wpList Tryd.prog ops Q rest (a.put o.dst undef) (w.alloc (.cells (zc v r d).toArray t))) : wpList Tryd.prog ops Q (o :: rest) a (w.alloc (.cells cs t)) := by
  obtain ⟨h1, h2, h3, h4, h5, rfl⟩ := hs
  exact store_arr h1 _ _ _ h2 (Arr.new w t cs) h3 h4 (by rw [zc_length hd]; kernel_rfl) (by rw [h5, zc_length hd]) zc_one (by rw [World.setRow_alloc_new]; exact hk)
theorem eqInD {d e : List UInt8} (hd : d.length = 32) (he : e.length = 32) (w : World) : (Op.equalIn 10000 24 (.agg (bvs d).toArray) (.agg (bvs e).toArray)).run Tryd.prog w = .ok (d == e) w :=
  run_equalIn_bytes w 9998 24 5 32 Tryd.underlying24 Tryd.underlying5 sizeB d e hd he
theorem neqD {d e : List UInt8} (hd : d.length = 32) (he : e.length = 32) (w : World) : (binOp .neq 24 (.agg (bvs d).toArray) (.agg (bvs e).toArray)).run Tryd.prog w = .ok (.bool (!(d == e))) w := by
  have h : (Op.equalIn 10000 24 (.agg (bvs d).toArray) (.agg (bvs e).toArray)).run Tryd.prog w = .ok (d == e) w :=
    run_equalIn_bytes w 9998 24 5 32 Tryd.underlying24 Tryd.underlying5 sizeB d e hd he
  rw [run_neq_struct, h]; rfl
/-- What the reference's readers hand back. -/
def zkR (P : Nat × Nat × List UInt8 × Nat × Nat) : Value := .tuple #[zkT P, .int .i64 (P.2.2.2.1 : Nat), .int .i64 (P.2.2.2.2 : Nat)]
set_option maxRecDepth 100000 in
set_option maxHeartbeats 2000000 in
theorem rparse_any {w : World} {vb : Value} {l : List UInt8} (hr : Rd w.heap.size w vb l) (hl : l.length ≤ 1000000) :
    Calls Tryd.prog 17 #[vb] w fun e w' => e = .returned (zkR (parseZ l)) ∧ Below w.heap.size w w' := by
  obtain ⟨ov, cv, rfl⟩ := rd_form hr
  cases l with
  | nil =>
    go_enter Tryd.func17, Tryd.ntmps17
    go_wp2_with ((with_reducible refine atZ w.heap.size (x := .tmp 2) (y := .tmp 11) (v := 0) (r := 0) (d := z32) (o := ⟨none, .store _ _ _, _, _, _, _⟩) z32_length ?_ ?_); exact ⟨rfl, rfl, rfl, rfl, rfl, rfl⟩)
    refine bodyPost_ret (resZ2 rfl (Arr.new' w _ _ _ rfl) z32_length rfl) rfl ⟨?_, (Below.refl _ _).alloc (Nat.le_refl _) _⟩
    rw [show parseZ [] = badZ 1 0 from rfl]
    rfl
  | cons x b =>
    have HRD := Lib.hid hr
    obtain ⟨bk, of, y1, y2, rfl, y3, y4, hcell⟩ : ∃ bk of, (x :: b).length ≤ cv ∧ cv ≤ maxLen ∧ ov = some ⟨bk, of, none⟩ ∧ bk < w.heap.size ∧ w.cell? ⟨bk, of, none⟩ = some (.int .u8 x.toNat) ∧ ∀ i, i < (x :: b).length → w.cell? ⟨bk, of + i, none⟩ = some (bv ((x :: b).getD i 0)) := by
      rcases hr with ⟨_, _, h⟩ | ⟨bk, of, cp, hv, z1, z2, z3, h⟩
      · cases h
      · simp only [Value.slice.injEq] at hv
        obtain ⟨rfl, _, rfl⟩ := hv
        exact ⟨bk, of, z1, z2, rfl, z3, h 0 (by simp), h⟩
    rw [List.length_cons] at y1 hl
    have i0 : (0 : Int) < (b.length : Int) + 1 := by omega
    have HCELL := Lib.hid hcell
    have Y1 := Lib.hid y1
    have Y2 := Lib.hid y2
    clear hcell hr y1 y2
    by_cases hx : x.toNat = 1
    · have hx1 : (x.toNat : Int) = 1 := by omega
      have hx2 : ((x.toNat : Int) != 1) = false := by rw [hx1]; rfl
      obtain ⟨m, hm⟩ : ∃ m, m = num b := ⟨_, rfl⟩
      have HN : Hid (∀ z : Array Value, z.toList = zc 0 0 z32 → Calls Tryd.prog 37 #[.slice (some ⟨bk, of, none⟩) (b.length + 1) cv, .int .i64 1] (w.alloc (.cells z 26)) fun e w1 => e = .returned (.tuple #[.int .u64 m.1, .int .i64 ((1 + m.2.1 : Nat) : Int), .int .i64 (m.2.2 : Nat)]) ∧ PV w w.heap.size w1) := by
        intro z hz
        have hA := Arr.new' w 26 z _ hz
        have hb0 : Below w.heap.size w (w.alloc (.cells z 26)) := (Below.refl _ _).alloc (Nat.le_refl _) _
        have hn := rnumber_at (rd_now (B := 0) HRD.out hb0) (by rw [List.length_cons]; omega) 1 (by simp)
        rw [show (x :: b).drop 1 = b from rfl, ← hm] at hn
        refine hn.mono ?_
        rintro e w1 ⟨h1, rfl⟩
        exact ⟨h1, hA, hb0, Nat.le_refl _⟩
      have HM := Lib.hid hm
      have HMP := Lib.hid (fun (h1 : m.2.2 ≠ 0) => parseZ_num (v := x) (b := b) hx (by rw [← hm]; exact h1))
      rw [← hm] at HMP
      clear hm HRD
      go_enter Tryd.func17, Tryd.ntmps17
      go_wp2_with fail
      refine (HN.out _ rfl).mono ?_
      rintro e w1 ⟨rfl, hp1⟩
      have HP1 := Lib.hid hp1
      obtain ⟨g, hg⟩ : ∃ g, g = w.heap.size := ⟨_, rfl⟩
      have HBK : Hid (∀ i, i < (x :: b).length → w1.cell? ⟨bk, of + i, none⟩ = some (bv ((x :: b).getD i 0))) := fun i hi => (hp1.2.1.cell (by exact y3)).trans (HCELL.out i hi)
      rw [← hg] at HP1 ⊢
      clear HN hp1 hg y4 HCELL
      by_cases hm0 : m.2.2 = 0
      · have HM0 : Hid ((num b).2.2 = 0) := by rw [← HM.out]; exact hm0
        have HAT0 := num_at HM0.out
        rw [← HM.out] at HAT0
        obtain ⟨rv, hrv⟩ : ∃ rv, rv = m.1 := ⟨_, rfl⟩
        obtain ⟨k, hk⟩ : ∃ k, k = m.2.1 := ⟨_, rfl⟩
        rw [← hrv, ← hk, hm0]
        rw [← hk] at HAT0
        have HRV : Hid (rv = (num b).1) := by rw [hrv, HM.out]; rfl
        have HK : Hid (k = (num b).2.1) := by rw [hk, HM.out]; rfl
        obtain ⟨z1, z2, z3⟩ := HAT0
        clear hrv hk HM hm0 HMP
        by_cases hlim : lim63 ≤ rv
        · have h1 : (9223372036854775808 : Int) ≤ rv := by unfold lim63 at hlim; omega
          have HPZ := Lib.hid (parseZ_lim (v := x) (b := b) hx HM0.out (by rw [← HRV.out]; exact hlim))
          clear hlim
          have hA := HP1.out.1
          have HB := Lib.hid HP1.out.2.1
          have HG := Lib.hid HP1.out.2.2
          go_wp2_with ((with_reducible refine storeZ (x := .tmp 2) (y := .tmp 31) (v := 0) (r := 0) (d := z32) (o := ⟨none, .store _ _ _, _, _, _, _⟩) hA z32_length z32_length ?_ ?_); exact ⟨rfl, rfl, rfl, rfl⟩)
          refine bodyPost_ret (resZ2 rfl (hA.row _) z32_length rfl) rfl ⟨?_, below_row HB.out HG.out _⟩
          rw [HPZ.out]
          rfl
        · have h1 : decide ((9223372036854775808 : Int) ≤ rv) = false := by unfold lim63 at hlim; rw [decide_eq_false_iff_not]; omega
          have HLM : Hid (¬ lim63 ≤ (num b).1) := by rw [← HRV.out]; exact hlim
          obtain ⟨a2, ha2⟩ : ∃ a2, a2 = 1 + k := ⟨_, rfl⟩
          rw [← ha2]
          have HA2 := Lib.hid ha2
          have e1 : a2 ≤ b.length + 1 := by omega
          have e2 : (b.length : Int) + 1 - a2 = ((b.length + 1 - a2 : Nat) : Int) := by omega
          clear hlim
          by_cases hs : b.length < k + 32
          · have HPZ := Lib.hid (parseZ_short (v := x) (b := b) hx HM0.out HLM.out (by rw [← HK.out]; exact hs))
            rw [← HK.out, ← HA2.out] at HPZ
            have e3 : (b.length : Int) + 1 - a2 < 32 := by omega
            clear ha2
            have hA := HP1.out.1
            have HB := Lib.hid HP1.out.2.1
            have HG := Lib.hid HP1.out.2.2
            go_wp2_with ((with_reducible refine storeZ (x := .tmp 2) (y := .tmp 38) (v := 0) (r := 0) (d := z32) (o := ⟨none, .store _ _ _, _, _, _, _⟩) hA z32_length z32_length ?_ ?_); exact ⟨rfl, rfl, rfl, rfl⟩)
            refine bodyPost_ret (resZ2 rfl (hA.row _) z32_length rfl) rfl ⟨?_, below_row HB.out HG.out _⟩
            rw [HPZ.out]
            rfl
          · have e3 : ¬ (b.length : Int) + 1 - a2 < 32 := by omega
            by_cases hlong : k + 32 < b.length
            · have HPZ := Lib.hid (parseZ_long (v := x) (b := b) hx HM0.out HLM.out (by rw [← HK.out]; exact hlong))
              rw [← HK.out, show 33 + k = a2 + 32 by omega] at HPZ
              have e4 : (32 : Int) < (b.length : Int) + 1 - a2 := by omega
              clear ha2
              have hA := HP1.out.1
              have HB := Lib.hid HP1.out.2.1
              have HG := Lib.hid HP1.out.2.2
              go_wp2_with ((with_reducible refine storeZ (x := .tmp 2) (y := .tmp 45) (v := 0) (r := 0) (d := z32) (o := ⟨none, .store _ _ _, _, _, _, _⟩) hA z32_length z32_length ?_ ?_); exact ⟨rfl, rfl, rfl, rfl⟩)
              refine bodyPost_ret (resZ2 rfl (hA.row _) z32_length rfl) rfl ⟨?_, below_row HB.out HG.out _⟩
              rw [HPZ.out]
              rfl
            · have e4 : ¬ (32 : Int) < (b.length : Int) + 1 - a2 := by omega
              obtain ⟨d, hd⟩ : ∃ d, d = b.drop k := ⟨_, rfl⟩
              have HPZ := Lib.hid (parseZ_yes (v := x) (b := b) hx HM0.out HLM.out (by rw [← HK.out]; omega))
              rw [← HK.out, ← HRV.out, ← hd] at HPZ
              have HDL : Hid (d.length = 32) := by show _ = _; rw [hd, List.length_drop]; omega
              have HRA : Hid (w1.rangeAt bk (of + a2) (bvs d)) := fun j u hu => by
                have hj : j < d.length := by have := (List.getElem?_eq_some_iff.1 hu).1; simpa [bvs] using this
                have := HDL.out
                rw [bvs_getElem d j hj] at hu
                rw [Nat.add_assoc, HBK.out (a2 + j) (by rw [List.length_cons]; omega), ← hu, hd, ha2, show 1 + k + j = (k + j) + 1 by omega]
                simp [List.getD_eq_getElem?_getD, List.getElem?_drop]
              have g5 : b.length + 1 - a2 = 32 := by omega
              have g6 : ¬ cv = a2 := by have := Y1.out; omega
              have g7 : ¬ a2 = cv := by omega
              have g8 : (a2 : Int) ≤ (b.length : Int) + 1 := by omega
              have g9 : (b.length : Int) + 1 ≤ cv := by have := Y1.out; omega
              have hbl : (bvs d).length = 32 := by rw [bvs_length, HDL.out]
              have har := fun c => arr_at32 ⟨bk, of + a2, none⟩ 32 c (by omega)
              have HBZ := Lib.hid (buildZ rv d HDL.out)
              have hA := HP1.out.1
              have HB := Lib.hid HP1.out.2.1
              have HG := Lib.hid HP1.out.2.2
              clear HP1 HBK hd ha2 hs hlong
              go_wp2_with (first
                | ((with_reducible refine load32w (x := .tmp 52) (l := d) (o := ⟨some 53, _, _, _, _, _⟩) HRA.out HDL.out ?_ ?_); exact ⟨rfl, rfl, rfl⟩)
                | ((with_reducible refine storeZ (x := .tmp 2) (y := .tmp 54) (v := 1) (r := rv) (d := d) (o := ⟨none, .store _ _ _, _, _, _, _⟩) hA z32_length HDL.out ?_ ?_); exact ⟨rfl, rfl, rfl, congrArg Value.agg HBZ.out⟩))
              refine bodyPost_ret (resZ2 rfl (hA.row _) HDL.out rfl) rfl ⟨?_, below_row HB.out HG.out _⟩
              rw [HPZ.out]
              rfl
      · have HPZ := Lib.hid (HMP.out hm0)
        have h1 : ((m.2.2 : Int) == 0) = false := by rw [beq_eq_false_iff_ne]; omega
        have h2 : ¬ (m.2.2 : Int) = 0 := by omega
        have h3 : ((m.2.2 : Int) != 0) = true := by rw [bne_iff_ne]; omega
        clear hm0 HMP
        have hA := HP1.out.1
        have HB := Lib.hid HP1.out.2.1
        have HG := Lib.hid HP1.out.2.2
        go_wp2_with ((with_reducible refine storeZ (x := .tmp 2) (y := .tmp 31) (v := 0) (r := 0) (d := z32) (o := ⟨none, .store _ _ _, _, _, _, _⟩) hA z32_length z32_length ?_ ?_); exact ⟨rfl, rfl, rfl, rfl⟩)
        refine bodyPost_ret (resZ2 rfl (hA.row _) z32_length rfl) rfl ⟨?_, below_row HB.out HG.out _⟩
        rw [HPZ.out]
        rfl
    · have hx1 : ¬ (x.toNat : Int) = 1 := by omega
      have hx2 : ((x.toNat : Int) != 1) = true := by rw [bne_iff_ne]; exact hx1
      have HPZ := Lib.hid (parseZ_ver (b := b) hx)
      go_enter Tryd.func17, Tryd.ntmps17
      go_wp2_with ((with_reducible refine atZ w.heap.size (x := .tmp 2) (y := .tmp 16) (v := 0) (r := 0) (d := z32) (o := ⟨none, .store _ _ _, _, _, _, _⟩) z32_length ?_ ?_); exact ⟨rfl, rfl, rfl, rfl, rfl, rfl⟩)
      refine bodyPost_ret (resZ2 rfl (Arr.new' w _ _ _ rfl) z32_length rfl) rfl ⟨?_, (Below.refl _ _).alloc (Nat.le_refl _) _⟩
      rw [HPZ.out]
      rfl
set_option maxRecDepth 100000 in
set_option maxHeartbeats 2000000 in
theorem rverify_any {w : World} {vk : Value} {k : List UInt8} (s : ByteArray) (hv : Rd w.heap.size w vk k) (hk : k.length ≤ 900000) (hs : s.size ≤ 1000) :
    Calls Tryd.prog 19 #[vk, .string s] w fun e w' => e = .returned (zkR (verZ k s.data.toList)) ∧ Below w.heap.size w w' := by
  have HK := Lib.hid hv
  have HKL := Lib.hid hk
  have HSL := Lib.hid hs
  obtain ⟨L, hL⟩ : ∃ L, L = (dec s.data.toList).1 := ⟨_, rfl⟩
  obtain ⟨N, hNN⟩ : ∃ N, N = (dec s.data.toList).2 := ⟨_, rfl⟩
  have HL := Lib.hid hL
  have HNN := Lib.hid hNN
  have HLL : Hid (L.length ≤ s.size) := by
    have := dec_le s.data.toList 0 [] 0 0
    show L.length ≤ _
    rw [hL]; unfold dec; rw [str_length] at this; simpa using this
  have HN : Hid (∀ z : Array Value, z.toList = zc 0 0 z32 → Calls Tryd.prog 40 #[.string s] (w.alloc (.cells z 26)) fun e w1 => ∃ v, e = .returned (.tuple #[v, .int .i64 N]) ∧ Rd w1.heap.size w1 v L ∧ PV w w.heap.size w1) := by
    intro z hz
    have hA := Arr.new' w 26 z _ hz
    have hb0 : Below w.heap.size w (w.alloc (.cells z 26)) := (Below.refl _ _).alloc (Nat.le_refl _) _
    have hd := rdecode_any s hs (w.alloc (.cells z 26))
    rw [show dec s.data.toList = (L, N) by rw [hL, hNN]] at hd
    refine hd.mono ?_
    rintro e w1 ⟨v, h1, h2, h3⟩
    exact ⟨v, h1, h2, hA.later h3, hb0.trans (h3.mono hb0.size), Nat.le_refl _⟩
  obtain ⟨qk, ck, rfl⟩ := rd_form hv
  clear hv hk hs hL hNN
  go_enter Tryd.func19, Tryd.ntmps19
  go_wp2_with fail
  refine (HN.out _ rfl).mono ?_
  rintro e w1 ⟨v1, rfl, r1, hp1⟩
  have HP1 := Lib.hid hp1
  obtain ⟨g, hg⟩ : ∃ g, g = w.heap.size := ⟨_, rfl⟩
  rw [← hg] at HP1 ⊢
  clear HN hp1 hg
  by_cases hN : 0 ≤ N
  · obtain ⟨n, rfl⟩ : ∃ n : Nat, N = n := ⟨N.toNat, by omega⟩
    have HPZ : Hid (verZ k s.data.toList = badZ 6 n) := by
      show _ = _
      rw [verZ_bad (by rw [← HNN.out]; exact hN), ← HNN.out, Int.toNat_natCast]
    obtain ⟨q1, c1, rfl⟩ := rd_form r1
    clear r1
    have hA := HP1.out.1
    have HB := Lib.hid HP1.out.2.1
    have HG := Lib.hid HP1.out.2.2
    go_wp2_with ((with_reducible refine storeZ (x := .tmp 4) (y := .tmp 17) (v := 0) (r := 0) (d := z32) (o := ⟨none, .store _ _ _, _, _, _, _⟩) hA z32_length z32_length ?_ ?_); exact ⟨rfl, rfl, rfl, rfl⟩)
    refine bodyPost_ret (resZ2 rfl (hA.row _) z32_length rfl) rfl ⟨?_, below_row HB.out HG.out _⟩
    rw [HPZ.out]
    rfl
  · have HNG : Hid (¬ 0 ≤ (dec s.data.toList).2) := by rw [← HNN.out]; exact hN
    by_cases h32 : L.length < 32
    · have HPZ : Hid (verZ k s.data.toList = badZ 1 L.length) := by
        show _ = _
        rw [verZ_short HNG.out (by rw [← HL.out]; exact h32), ← HL.out]
      have g1 : (L.length : Int) - 32 < 0 := by omega
      obtain ⟨q1, c1, rfl⟩ := rd_form r1
      clear r1
      have hA := HP1.out.1
      have HB := Lib.hid HP1.out.2.1
      have HG := Lib.hid HP1.out.2.2
      go_wp2_with ((with_reducible refine storeZ (x := .tmp 4) (y := .tmp 24) (v := 0) (r := 0) (d := z32) (o := ⟨none, .store _ _ _, _, _, _, _⟩) hA z32_length z32_length ?_ ?_); exact ⟨rfl, rfl, rfl, rfl⟩)
      refine bodyPost_ret (resZ2 rfl (hA.row _) z32_length rfl) rfl ⟨?_, below_row HB.out HG.out _⟩
      rw [HPZ.out]
      rfl
    · have HB32 : Hid (¬ (dec s.data.toList).1.length < 32) := by rw [← HL.out]; exact h32
      obtain ⟨n, hn⟩ : ∃ n, n = L.length - 32 := ⟨_, rfl⟩
      have hln : L.length = n + 32 := by omega
      rcases r1 with ⟨_, _, h⟩ | ⟨bk, of, cp, rfl, y1, y2, y3, hcell⟩
      · rw [h] at hln; simp at hln
      have hsubH : Rd w1.heap.size w1 (.slice (some ⟨bk, of, none⟩) n cp) (L.take n) := Rd.take (.inr ⟨bk, of, cp, rfl, y1, y2, y3, hcell⟩) (by omega)
      have HRA : Hid (w1.rangeAt bk (of + n) (bvs (L.drop n))) := fun j u hu => by
        have hj : j < (L.drop n).length := by have := (List.getElem?_eq_some_iff.1 hu).1; simpa [bvs] using this
        rw [bvs_getElem _ j hj] at hu
        rw [List.length_drop] at hj
        rw [Nat.add_assoc, hcell (n + j) (by omega), ← hu]
        simp [List.getD_eq_getElem?_getD, List.getElem?_drop]
      have HH1 := Lib.hid hsubH
      have HYES : Hid (hmac k (L.take n) = L.drop n → verZ k s.data.toList = parseZ (L.take n)) := fun h => by
        have := verZ_yes (k := k) HNG.out HB32.out (by rw [← HL.out, ← hn]; exact h)
        rw [this, ← HL.out, ← hn]
      have HTAG : Hid (¬ hmac k (L.take n) = L.drop n → verZ k s.data.toList = badZ 12 n) := fun h => by
        have := verZ_tag (k := k) HNG.out HB32.out (by rw [← HL.out, ← hn]; exact h)
        rw [this, ← HL.out, ← hn]
      have HTL : Hid ((L.take n).length = n) := by show _ = _; rw [List.length_take]; omega
      have HDL : Hid ((L.drop n).length = 32) := by show _ = _; rw [List.length_drop]; omega
      have HBK : Hid (bk < w1.heap.size) := y3
      have hNB := HLL.out
      have hSB := HSL.out
      have hnb : n ≤ 1000 := by omega
      rw [hln] at y1 ⊢
      obtain ⟨T, hT⟩ : ∃ T, T = L.drop n := ⟨_, rfl⟩
      obtain ⟨P, hP⟩ : ∃ P, P = L.take n := ⟨_, rfl⟩
      rw [← hT] at HRA HYES HTAG HDL
      rw [← hP] at HH1 HYES HTAG HTL
      have w1i : ((n + 32 : Nat) : Int) - 32 = n := by omega
      have g1 : ¬ (n : Int) < 0 := by omega
      have g2 : (n : Int) ≤ (n : Int) + 32 := by omega
      have g3 : (n : Int) ≤ cp := by omega
      have g4 : ¬ n = cp := by omega
      have g5 : n + 32 - n = 32 := by omega
      have g6 : ¬ cp = n := by omega
      have har := fun c => arr_at32 ⟨bk, of + n, none⟩ 32 c (by omega)
      clear hsubH hcell hn hln h32 hT hP hNB hSB HL HLL y3 y2 y1
      go_upto_region 7 with fail
      refine wp_region_noPanic ?_
      refine wp_region_held_drew (S := fun W' => Below w1.heap.size w1 W') (by kernel_rfl) ((Below.refl _ _).drew) (fun hHeld => ?_)
      try simp only [Act.put]
      generalize w1.drew = w2 at hHeld ⊢
      refine wpAnyH_take (i := 0) (oi := ⟨some 27, _, _, _, _, _⟩) (v := .slice qk k.length ck) rfl (by kernel_rfl) (by kernel_rfl) (by kernel_rfl) (fun _ _ _ h => h) (.inl ⟨by rfl, fun w' hSw => ?_⟩) hHeld ?_
      focus (skip; clear hHeld; go_simp)
      try simp only [Act.put, List.setIfInBounds_toArray, List.set_cons_zero, List.set_cons_succ]
      refine wpAnyH_take (i := 1) (oi := ⟨some 28, _, _, _, _, _⟩) (v := .slice (some ⟨bk, of, none⟩) (n + 32) cp) rfl (by kernel_rfl) (by kernel_rfl) (by kernel_rfl) (fun _ _ _ h => h) (.inl ⟨by rfl, fun w' hSw => ?_⟩) hHeld ?_
      focus (skip; clear hHeld; go_simp)
      try simp only [Act.put, List.setIfInBounds_toArray, List.set_cons_zero, List.set_cons_succ]
      refine wpAnyH_take (i := 2) (oi := ⟨some 29, _, _, _, _, _⟩) (v := .int .i64 n) rfl (by kernel_rfl) (by kernel_rfl) (by kernel_rfl) (fun _ _ _ h => h) (.inl ⟨by rfl, fun w' hSw => ?_⟩) hHeld ?_
      focus (skip; clear hHeld; go_simp)
      try simp only [Act.put, List.setIfInBounds_toArray, List.set_cons_zero, List.set_cons_succ]
      refine wpAnyH_take (i := 3) (oi := ⟨some 30, _, _, _, _, _⟩) (v := .slice (some ⟨bk, of, none⟩) n cp) rfl (by kernel_rfl) (by kernel_rfl) (by kernel_rfl) (fun _ _ _ h => h) (.inl ⟨by rfl, fun w' hSw => ?_⟩) hHeld ?_
      focus (skip; clear hHeld; go_simp)
      try simp only [Act.put, List.setIfInBounds_toArray, List.set_cons_zero, List.set_cons_succ]
      refine wpAnyH_take (i := 5) (oi := ⟨some 32, _, _, _, _, _⟩) (v := .slice (some ⟨bk, of, none⟩) (n + 32) cp) rfl (by kernel_rfl) (by kernel_rfl) (by kernel_rfl) (fun _ _ _ h => h) (.inl ⟨by rfl, fun w' hSw => ?_⟩) hHeld ?_
      focus (skip; clear hHeld; go_simp)
      try simp only [Act.put, List.setIfInBounds_toArray, List.set_cons_zero, List.set_cons_succ]
      refine wpAnyH_take (i := 6) (oi := ⟨some 33, _, _, _, _, _⟩) (v := .int .i64 n) rfl (by kernel_rfl) (by kernel_rfl) (by kernel_rfl) (fun _ _ _ h => h) (.inl ⟨by rfl, fun w' hSw => ?_⟩) hHeld ?_
      focus (skip; clear hHeld; go_simp)
      try simp only [Act.put, List.setIfInBounds_toArray, List.set_cons_zero, List.set_cons_succ]
      refine wpAnyH_take (i := 7) (oi := ⟨some 34, _, _, _, _, _⟩) (v := .slice (some ⟨bk, of + n, none⟩) 32 (cp - n)) rfl (by kernel_rfl) (by kernel_rfl) (by kernel_rfl) (fun _ _ _ h => h) (.inl ⟨by rfl, fun w' hSw => ?_⟩) hHeld ?_
      focus (skip; clear hHeld; go_simp)
      try simp only [Act.put, List.setIfInBounds_toArray, List.set_cons_zero, List.set_cons_succ]
      refine wpAnyH_take (i := 8) (oi := ⟨some 35, _, _, _, _, _⟩) (v := .pointer (some ⟨bk, of + n, none⟩)) rfl (by kernel_rfl) (by kernel_rfl) (by kernel_rfl) (fun _ _ _ h => h) (.inl ⟨by rfl, fun w' hSw => ?_⟩) hHeld ?_
      focus (skip; clear hHeld; go_simp)
      try simp only [Act.put, List.setIfInBounds_toArray, List.set_cons_zero, List.set_cons_succ]
      refine wpAnyH_take (i := 9) (oi := ⟨some 36, _, _, _, _, _⟩) (v := .agg (bvs T).toArray) rfl (by kernel_rfl) (by kernel_rfl) (by kernel_rfl) (fun _ _ _ h => h) (yieldsIf_load_mid (by rfl) 24 (.tmp 35) rfl bk (of + n) rfl (bvs T) _ (fun W' hW' => fun j u hu => (hW'.cell (by exact HBK.out)).trans (HRA.out j u hu)) Tryd.underlying24 rfl (by rw [bvs_length, HDL.out]; kernel_rfl)) hHeld ?_
      try simp only [Act.put, List.setIfInBounds_toArray, List.set_cons_zero, List.set_cons_succ]
      refine wpAnyH_ready (rs := [4]) (by kernel_rfl) (by simp) ?_
      refine AllReadyH.cons (o := ⟨some 31, _, _, _, _, _⟩) rfl (fun K' hK' => ?_) AllReadyH.nil
      have hrp := rd_now (B := 0) HH1.out hHeld
      rw [← HTL.out] at hrp
      have HCK := Lib.hid (rmac_any (rd_now (B := 0) (rd_now (B := 0) HK.out HP1.out.2.1) hHeld) HKL.out hrp (by have := HTL.out; omega))
      rw [HTL.out] at HCK
      clear hrp
      refine stepw_call (R := fun v' w'' => v' = .agg (bvs (hmac k P)).toArray ∧ Below w2.heap.size w2 w'') (by rfl) ?_ (HCK.out.mono fun e w'' ⟨h1, h3⟩ => ⟨_, h1, rfl, h3⟩) ?_
      focus go_simp
      rintro v31 w4 ⟨rfl, b4⟩
      have hkn := hHeld.trans (b4.mono hHeld.size)
      refine hK'.out _ _ hkn (fun _ => ?_)
      clear hK' K' hHeld HCK
      have hHeld := hkn
      clear hkn b4
      have hmq := eqInD (hmac_length k P) HDL.out
      try simp only [Act.put, List.setIfInBounds_toArray, List.set_cons_zero, List.set_cons_succ]
      obtain ⟨H, hH⟩ : ∃ H, H = hmac k P := ⟨_, rfl⟩
      obtain ⟨E, hE⟩ : ∃ E, E = (H == T) := ⟨_, rfl⟩
      rw [← hH, ← hE] at hmq
      rw [← hH]
      have HHH := Lib.hid hH
      have HEE := Lib.hid hE
      clear hH hE
      refine wpAnyH_take (i := 10) (oi := ⟨some 37, _, _, _, _, _⟩) (v := .bool (!E)) rfl (by kernel_rfl) (by kernel_rfl) (by kernel_rfl) (fun _ _ _ h => h) (.inl ⟨by rfl, fun w' hSw => ?_⟩) hHeld ?_
      focus (skip; clear hHeld; go_simp)
      try simp only [Act.put, List.setIfInBounds_toArray, List.set_cons_zero, List.set_cons_succ]
      refine wpAnyH_done (by kernel_rfl) ?_ _
      refine NoPanic.normal ?_
      have HP4 := Lib.hid (HP1.out.same hHeld)
      have HH4 := Lib.hid (rd_now (B := 0) HH1.out hHeld)
      clear hHeld HP1 HH1 hmq
      have hE : E = (hmac k P == T) := by rw [← HHH.out]; exact HEE.out
      by_cases hh : hmac k P = T
      · have hEt : E = true := by rw [hE]; simpa using hh
        subst hEt
        have HPZ := Lib.hid (HYES.out hh)
        have hpr := HH4.out
        rw [← HTL.out] at hpr
        have HPA := Lib.hid (rparse_any hpr (by have := HTL.out; omega))
        unfold zkR at HPA
        rw [HTL.out] at HPA
        clear hpr hE hh
        go_wp2_with fail
        refine HPA.out.mono ?_
        rintro e w5 ⟨rfl, b5⟩
        have HP5 := Lib.hid (HP4.out.same b5)
        have hA := HP5.out.1
        have HB := Lib.hid HP5.out.2.1
        have HG := Lib.hid HP5.out.2.2
        have HLN := Lib.hid (parseZ_len P)
        clear b5 HP4 HPA HH4
        go_wp2_with ((with_reducible refine storeZ (x := .tmp 4) (y := .tmp 44) (v := (parseZ P).1) (r := (parseZ P).2.1) (d := (parseZ P).2.2.1) (o := ⟨none, .store _ _ _, _, _, _, _⟩) hA z32_length HLN.out ?_ ?_); exact ⟨rfl, rfl, rfl, rfl⟩)
        refine bodyPost_ret (resZ2 rfl (hA.row _) HLN.out rfl) rfl ⟨?_, below_row HB.out HG.out _⟩
        rw [HPZ.out]
        rfl
      · have hEf : E = false := by rw [hE]; simpa using hh
        subst hEf
        have HPZ := Lib.hid (HTAG.out hh)
        clear hE hh
        have hA := HP4.out.1
        have HB := Lib.hid HP4.out.2.1
        have HG := Lib.hid HP4.out.2.2
        go_wp2_with ((with_reducible refine storeZ (x := .tmp 4) (y := .tmp 38) (v := 0) (r := 0) (d := z32) (o := ⟨none, .store _ _ _, _, _, _, _⟩) hA z32_length z32_length ?_ ?_); exact ⟨rfl, rfl, rfl, rfl⟩)
        refine bodyPost_ret (resZ2 rfl (hA.row _) z32_length rfl) rfl ⟨?_, below_row HB.out HG.out _⟩
        rw [HPZ.out]
        rfl
end Go.Proofs.YtaikdbbakdicgaaDoor
