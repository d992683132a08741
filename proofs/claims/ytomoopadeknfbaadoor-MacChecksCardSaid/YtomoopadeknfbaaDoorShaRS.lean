/-
  The reference's Sum.
-/
import Derived.Test.YtomoopadeknfbaaDoorShaRB
import Derived.Test.YtomoopadeknfbaaDoorShaS
namespace Go.Proofs.YtomoopadeknfbaaDoor
open Go.ChangeShapes Go.WideShapes Go.ChangeAt Go.RowKit
set_option linter.unusedVariables false

/-- What the reference's Sum keeps: the digest's place, the state after k blocks, the table, the bytes. -/
def Rl (w : World) (G K : Nat) (T : List UInt8) (v : Value) (KK : List UInt32) (k : Nat) (wr : World) : Prop :=
  Arr wr 26 w.heap.size (bvs (List.replicate 32 0)) ∧ Arr wr 47 G (wvs (compN k st0 T).list) ∧ Arr wr 53 K (wvs KK) ∧ Held (w.heap.size + 1) wr v T ∧ Below w.heap.size w wr
theorem Rl.later {w wr w' : World} {G K : Nat} {T : List UInt8} {v : Value} {KK : List UInt32} {k : Nat} (h : Rl w G K T v KK k wr) (hb : Below wr.heap.size wr w') : Rl w G K T v KK k w' :=
  ⟨h.1.later hb, h.2.1.later hb, h.2.2.1.later hb, h.2.2.2.1.later hb, h.2.2.2.2.trans (hb.mono h.2.2.2.2.size)⟩
theorem Rl.next {w wr : World} {G K : Nat} {T : List UInt8} {v : Value} {KK : List UInt32} {k : Nat} (h : Rl w G K T v KK k wr) (hG : w.heap.size + 1 ≤ G) (hv : ∀ a n c, v = .slice (some a) n c → a.block < G) (hK : K ≠ G) :
    Rl w G K T v KK (k + 1) (wr.setRow G (wvs (blk (compN k st0 T) ((T.drop (64 * k)).take 64)).list).toArray) := by
  have hb : Below G wr (wr.setRow G (wvs (blk (compN k st0 T) ((T.drop (64 * k)).take 64)).list).toArray) := below_row (Below.refl _ _) (Nat.le_refl _) _
  refine ⟨h.1.below hb (by omega), ?_, h.2.2.1.row_other hK _, h.2.2.2.1.under hv hb, below_row h.2.2.2.2 (by omega) _⟩
  rw [comp_succ]
  exact h.2.1.row _
set_option maxRecDepth 100000 in
set_option maxHeartbeats 1000000 in
theorem rsum_any {w : World} {v : Value} {l : List UInt8} (hr : Rd w.heap.size w v l) (hl : l.length ≤ 1000000) :
    Calls Tryd.prog 22 #[v] w fun e w' => e = .returned (.agg (bvs (digest l)).toArray) ∧ Below w.heap.size w w' := by
  have HR := Lib.hid hr
  obtain ⟨q, c, rfl, hc1, hc2⟩ := hr.form
  have HL := Lib.hid hl
  have HLN : Hid (([] : List UInt8).length + l.length ≤ 140737488355328) := by show _ ≤ _; simp; omega
  have HB0 : Hid (∀ (z y : Array Value) (t t' : TypeId), Below w.heap.size w ((w.alloc (.cells z t)).alloc (.cells y t'))) := fun z y t t' => ((Below.refl _ _).alloc (Nat.le_refl _) _).alloc (by simp) _
  have HH0 : Hid (∀ (z y : Array Value) (t t' : TypeId), Held (w.heap.size + 1) ((w.alloc (.cells z t)).alloc (.cells y t')) (.slice (some ⟨w.heap.size + 1, 0, none⟩) 0 0) []) := fun z y t t' =>
    .inr ⟨w.heap.size + 1, 0, 0, rfl, by simp, by unfold maxLen; omega, by omega, by simp, fun i hi => absurd hi (by simp), fun i hi => absurd hi (by omega)⟩
  have HR0 : Hid (∀ (z y : Array Value) (t t' : TypeId), Rd w.heap.size ((w.alloc (.cells z t)).alloc (.cells y t')) (.slice q l.length c) l) := fun z y t t' => HR.out.below (HB0.out z y t t') (Nat.le_refl _)
  have HA0 : Hid (∀ (z y : Array Value) (t t' : TypeId), Arr ((w.alloc (.cells z t)).alloc (.cells y t')) t w.heap.size z.toList) := fun z y t t' => (Arr.new w t z).alloc _
  have HS0 : Hid (∀ (z y : Array Value) (t t' : TypeId), w.heap.size + 1 ≤ ((w.alloc (.cells z t)).alloc (.cells y t')).heap.size) := fun z y t t' => by simp
  clear hr hl hc1 hc2
  go_enter Tryd.func22, Tryd.ntmps22
  go_wp2_with (at_builtin; refine app_held rfl (.tmp 9) (.tmp 10) rfl rfl (HH0.out _ _ _ _) rfl (HR0.out _ _ _ _) HLN.out (HS0.out _ _ _ _) ?_; intro v1 w1 h1 b1)
  have HB1 := Lib.hid ((HB0.out _ _ _ _).trans (b1.mono (by omega)))
  have HA1 : Hid (Arr w1 26 w.heap.size (bvs (List.replicate 32 0))) := Arr.below (HA0.out _ _ _ _) b1 (by omega)
  have hsz1 : w.heap.size + 1 ≤ w1.heap.size := Nat.le_trans (HS0.out _ _ _ _) b1.size
  rw [List.nil_append] at h1
  have HH1 := Lib.hid h1
  clear b1 h1 HR0 HA0 HS0 HH0 HB0 HLN
  have HSZ1 := Lib.hid hsz1
  clear hsz1
  refine (rpad_any l.length (by have := HL.out; omega) w1).mono ?_
  rintro e w2 ⟨v2, rfl, o2, b2⟩
  have HB2 := Lib.hid (HB1.out.trans (b2.mono HB1.out.size))
  have HA2 := Lib.hid (HA1.out.later b2)
  have HSZ2 := Lib.hid (Nat.le_trans HSZ1.out b2.size)
  have HH2 := Lib.hid (HH1.out.later b2)
  have HR2 := Lib.hid (Rd.of_own o2)
  obtain ⟨P, hP⟩ : ∃ P, P = padding l.length := ⟨_, rfl⟩
  rw [← hP] at HR2
  have HPL : Hid (P.length ≤ 72) := by
    have := padding_length l.length
    have hz : zeros l.length < 64 := by unfold zeros; omega
    show _ ≤ _; rw [hP]; omega
  have HPM : Hid ((l ++ P).length % 64 = 0) := by
    have := padding_whole l.length
    show _ = _; rw [List.length_append, hP]; omega
  have HP := Lib.hid hP
  have HLN : Hid (l.length + P.length ≤ 140737488355328) := by have := HL.out; have := HPL.out; show _ ≤ _; omega
  clear o2 b2 hP HB1 HA1 HH1 HSZ1
  go_wp2_with (at_builtin; refine app_held rfl (.tmp 11) (.tmp 14) rfl rfl HH2.out rfl HR2.out HLN.out HSZ2.out ?_; intro v3 w3 h3 b3)
  have HB3 := Lib.hid (HB2.out.trans (b3.mono (by omega)))
  have HA3 := Lib.hid (HA2.out.below b3 (by omega))
  have HSZ3 := Lib.hid (Nat.le_trans HSZ2.out b3.size)
  obtain ⟨T, hT⟩ : ∃ T, T = l ++ P := ⟨_, rfl⟩
  have HTL : Hid (T.length % 64 = 0 ∧ T.length ≤ 1000100) := by
    have h1 := HPM.out; have h2 := HPL.out; have h3 := HL.out
    rw [← hT] at h1
    refine ⟨h1, ?_⟩
    rw [hT, List.length_append]; omega
  have HD : Hid (joinS (compN (T.length / 64) st0 T) = digest l) := by show _ = _; rw [hT, HP.out]; rfl
  rw [← hT] at h3
  have HH3 := Lib.hid h3
  clear h3 b3 hT HB2 HA2 HSZ2 HH2 HR2 HPL HPM HP HLN HR HL
  refine (rstart_any w3).mono ?_
  rintro e w4 ⟨rfl, b4⟩
  have HB4 := Lib.hid (HB3.out.trans (b4.mono HB3.out.size))
  have HA4 := Lib.hid (HA3.out.later b4)
  have HSZ4 := Lib.hid (Nat.le_trans HSZ3.out b4.size)
  have HH4 := Lib.hid (HH3.out.later b4)
  clear b4 HB3 HA3 HSZ3 HH3
  obtain ⟨S0, hS0⟩ : ∃ S0, S0 = st0.list := ⟨_, rfl⟩
  rw [← hS0]
  have HS0 := Lib.hid hS0
  have HS0L : Hid (S0.length = 8) := by rw [hS0]; rfl
  clear hS0
  go_wp2_with ((with_reducible refine new8w (x := .tmp 4) (y := .tmp 16) (l := S0) (o := ⟨none, .store _ _ _, _, _, _, _⟩) HS0L.out ?_ ?_); exact ⟨rfl, rfl, rfl, rfl, rfl⟩)
  have hba : Below w4.heap.size w4 (w4.alloc (.cells (wvs S0).toArray 47)) := (Below.refl _ _).alloc (Nat.le_refl _) _
  have HB5 := Lib.hid (HB4.out.trans (hba.mono HB4.out.size))
  have HA5 := Lib.hid (HA4.out.later hba)
  have HH5 := Lib.hid (HH4.out.later hba)
  have HG5 : Hid (w.heap.size + 1 ≤ w4.heap.size ∧ ∀ a n c, v3 = .slice (some a) n c → a.block < w4.heap.size) := ⟨HSZ4.out, HH4.out.lt⟩
  have HS5 : Hid (Arr (w4.alloc (.cells (wvs S0).toArray 47)) 47 w4.heap.size (wvs S0)) := Arr.new' w4 _ _ (wvs S0) (by simp)
  generalize w4.alloc (.cells (wvs S0).toArray 47) = w5 at HB5 HA5 HH5 HS5 ⊢
  clear hba HB4 HA4 HSZ4 HH4
  generalize w4.heap.size = G at HG5 HS5 ⊢
  refine (rtable_any w5).mono ?_
  rintro e w6 ⟨rfl, b6⟩
  have HB6 := Lib.hid (HB5.out.trans (b6.mono HB5.out.size))
  have HA6 := Lib.hid (HA5.out.later b6)
  have HS6 := Lib.hid (HS5.out.later b6)
  have HH6 := Lib.hid (HH5.out.later b6)
  clear b6 HB5 HA5 HS5 HH5
  obtain ⟨KK, hKK⟩ : ∃ KK, KK = kk := ⟨_, rfl⟩
  rw [← hKK]
  have HKK := Lib.hid hKK
  have HKL : Hid (KK.length = 64) := by rw [hKK]; rfl
  clear hKK
  go_wp2_with ((with_reducible refine new64w (x := .tmp 5) (y := .tmp 17) (l := KK) (o := ⟨none, .store _ _ _, _, _, _, _⟩) HKL.out ?_ ?_); exact ⟨rfl, rfl, rfl, rfl, rfl⟩)
  have hbk : Below w6.heap.size w6 (w6.alloc (.cells (wvs KK).toArray 53)) := (Below.refl _ _).alloc (Nat.le_refl _) _
  have HRL : Hid (Rl w G w6.heap.size T v3 KK 0 (w6.alloc (.cells (wvs KK).toArray 53))) := by
    refine ⟨HA6.out.later hbk, ?_, Arr.new' w6 _ _ (wvs KK) (by simp), HH6.out.later hbk, HB6.out.trans (hbk.mono HB6.out.size)⟩
    have := HS6.out.later hbk
    rw [HS0.out] at this
    exact this
  have HKG : Hid (w6.heap.size ≠ G) := Nat.ne_of_gt HS6.out.lt
  generalize w6.alloc (.cells (wvs KK).toArray 53) = w7 at HRL ⊢
  clear hbk HB6 HA6 HS6 HH6 HS0 HS0L
  generalize w6.heap.size = K at HRL HKG ⊢
  go_loopw [6] (fun iv wr => ∃ k : Nat, 64 * k ≤ T.length ∧ iv = .int .i64 (64 * k : Nat) ∧ Hid (Rl w G K T v3 KK k wr)) (fun iv _ => T.length - (intOf iv).toNat)
  case atStart => exact ⟨0, by omega, rfl, HRL.out⟩
  case round =>
    obtain ⟨k, hk, rfl, HM⟩ := hrel
    clear HRL
    obtain ⟨j, hj⟩ : ∃ j, j = 64 * k := ⟨_, rfl⟩
    obtain ⟨n, hn⟩ : ∃ n, n = T.length := ⟨_, rfl⟩
    have hn1 : n ≤ 1000100 := by rw [hn]; exact HTL.out.2
    have hnm : n % 64 = 0 := by rw [hn]; exact HTL.out.1
    rw [← hj]
    rw [← hj, ← hn] at hk
    by_cases hlt : j < n
    · have h64 : j + 64 ≤ n := by omega
      have HHe := HM.out.2.2.2.1
      rcases HHe with ⟨_, h0⟩ | ⟨g, off, c3, rfl, h1, h2, h3, h4, h5, h6⟩
      · rw [h0] at hn; simp at hn; omega
      have HRG : Hid (wr.rangeAt g (off + j) (bvs ((T.drop j).take 64))) := by
        refine range_bytes (l := T.drop j) (fun i hi => ?_) 64 (by rw [List.length_drop]; omega)
        rw [List.length_drop] at hi
        rw [Nat.add_assoc, h5 (j + i) (by omega)]
        congr 2
        simp [List.getD_eq_getElem?_getD]
      rw [← hn] at HM HG5 h1 ⊢
      have i0 : (0 : Int) ≤ j := by omega
      have i1 : (j : Int) < n := by omega
      have i2 : (j : Int) + 64 ≤ n := by omega
      have i3 : (j : Int) + 64 ≤ c3 := by omega
      have i4 : (n : Int) ≤ c3 := by omega
      have i5 : IntKind.i64.wrap ((j : Int) + 64) = (j : Int) + 64 := by rw [IntKind.wrap_i64]; omega
      have i6 : (0 : Int) ≤ (j : Int) + 64 := by omega
      have i7 : ((j : Int) + 64).toNat = j + 64 := by omega
      have i8 : ¬ c3 = j := by omega
      have i9 : j ≤ j + 64 := by omega
      have i10 : j + 64 - j = 64 := by omega
      clear h2 h3 h4 h5 h6
      have HT64 : Hid (((T.drop j).take 64).length = 64) := by show _ = _; rw [List.length_take, List.length_drop, ← hn]; omega
      have HJ := Lib.hid hj
      have HN := Lib.hid hn
      clear hj hn
      go_wp2_with fail
      refine region_tail 9 (by kernel_rfl) (by kernel_rfl) ?_
      simp only [List.take_succ_cons, List.take_zero, List.drop_succ_cons, List.drop_zero]
      have hM : Rl w G K T (.slice (some ⟨g, off, none⟩) n c3) KK k wr.drew := HM.out.later (Below.refl _ _).drew
      have hR : wr.drew.rangeAt g (off + j) (bvs (List.take 64 (List.drop j T))) := HRG.out
      clear HM HRG
      generalize wr.drew = w8 at hM hR ⊢
      have HM := Lib.hid hM
      have hS := hM.2.1
      have hK := hM.2.2.1
      clear hM
      obtain ⟨S, hS8⟩ : ∃ S, S = compN k st0 T := ⟨_, rfl⟩
      rw [← hS8] at hS
      have HS8 := Lib.hid hS8
      clear hS8
      have HL8 : Hid (S.list.length = 8) := rfl
      ((with_reducible refine still8w (x := .tmp 4) (o := ⟨some 24, _, _, _, _, _⟩) hS HL8.out ?_ ?_); exact ⟨rfl, rfl, rfl⟩)
      have har := arr_at ⟨g, off + j, none⟩ 64 (c3 - j) (by omega)
      still_step
      still_step
      still_step
      still_step
      still_step
      still_step
      ((with_reducible refine still64b (x := .tmp 30) (o := ⟨some 31, _, _, _, _, _⟩) hR HT64.out ?_ ?_); exact ⟨rfl, rfl, rfl⟩)
      ((with_reducible refine still64w (x := .tmp 5) (o := ⟨some 32, _, _, _, _, _⟩) hK HKL.out ?_ ?_); exact ⟨rfl, rfl, rfl⟩)
      refine wpStill_nil ?_
      have HK8 := Lib.hid hK
      have HSS := Lib.hid hS
      clear hK hS hR har
      go_wp2_with fail
      have hbk := rblock_any S (List.take 64 (List.drop j T)) HT64.out w8
      rw [← HKK.out] at hbk
      refine hbk.mono ?_
      clear hbk
      rintro e w9 ⟨rfl, b9⟩
      obtain ⟨R, hRR⟩ : ∃ R, R = (blk S (List.take 64 (List.drop j T))).list := ⟨_, rfl⟩
      rw [← hRR]
      have HBL : Hid (R.length = 8) := by rw [hRR]; rfl
      have HRR := Lib.hid hRR
      clear hRR
      have hA := HSS.out.later b9
      have HBN : Hid ((wvs S.list).length = 8) := rfl
      have HM9 := Lib.hid (HM.out.later b9)
      clear b9 HM HSS HK8
      go_wp2_with ((with_reducible refine store8w (x := .tmp 4) (y := .tmp 33) (l := R) (o := ⟨none, .store _ _ _, _, _, _, _⟩) hA HBN.out HBL.out ?_ ?_); exact ⟨rfl, rfl, rfl, rfl⟩)
      have hnx := HM9.out.next HG5.out.1 HG5.out.2 HKG.out
      rw [← HJ.out, ← HS8.out, ← HRR.out] at hnx
      have HNX := Lib.hid hnx
      have hj2 : j + 64 = 64 * (k + 1) := by have := HJ.out; omega
      clear hnx HM9 hA
      go_roundw
      case rel =>
        refine ⟨k + 1, ?_, ?_, HNX.out⟩
        · have := HN.out; omega
        · rw [← hj2]; go_num
      case measure => simp [intOf]; have := HN.out; omega
    · have hjn : j = n := by omega
      have hkq : k = T.length / 64 := by omega
      obtain ⟨S, hS8⟩ : ∃ S, S = compN k st0 T := ⟨_, rfl⟩
      have HDS : Hid (joinS S = digest l) := by show _ = _; rw [hS8, hkq]; exact HD.out
      have HJD := Lib.hid (jpart_done S)
      obtain ⟨L, hL⟩ : ∃ L, L = S.list := ⟨_, rfl⟩
      rw [← hL] at HJD
      have HLL : Hid (L.length = 8) := by rw [hL]; rfl
      have HM2 : Hid (Arr wr 26 w.heap.size (bvs (jpart L 0)) ∧ Arr wr 47 G (wvs L) ∧ Below w.heap.size w wr) := by
        refine ⟨?_, ?_, HM.out.2.2.2.2⟩
        · rw [jpart_zero]; exact HM.out.1
        · rw [hL, hS8]; exact HM.out.2.1
      have HHF := HM.out.2.2.2.1.form
      obtain ⟨q3, c3, rfl, _, _⟩ := HHF
      rw [← hn]
      rw [hjn]
      clear HM hk hlt hnm hS8 hL hkq hj hjn HD HTL hn
      go_wp2_with fail
      obtain ⟨wo, hwo⟩ : ∃ wo, wo = wr := ⟨_, rfl⟩
      subst hwo
      have hlo := HM2.out.2.2.size
      have HGW : Hid (wo.heap.size ≠ G ∧ w.heap.size < wo.heap.size) := ⟨Nat.ne_of_gt HM2.out.2.1.lt, HM2.out.1.lt⟩
      have HST : Hid (∀ z : Array Value, z.toList = bvs (jpart L 0) → Arr (wo.alloc (.cells z 26)) 26 wo.heap.size (bvs (jpart L 0)) ∧ Arr (wo.alloc (.cells z 26)) 47 G (wvs L) ∧ Arr (wo.alloc (.cells z 26)) 26 w.heap.size (bvs (jpart L 0)) ∧ Below w.heap.size w (wo.alloc (.cells z 26))) :=
        fun z hz => ⟨Arr.new' _ _ _ _ hz, HM2.out.2.1.alloc _, HM2.out.1.alloc _, HM2.out.2.2.alloc hlo _⟩
      clear HG5 HKG HKK HKL hlo HM2
      go_loopw [8] (fun iv wr => ∃ i : Nat, i ≤ 32 ∧ iv = .int .i64 i ∧ Hid (Arr wr 26 wo.heap.size (bvs (jpart L i)) ∧ Arr wr 47 G (wvs L) ∧ Arr wr 26 w.heap.size (bvs (jpart L 0)) ∧ Below w.heap.size w wr)) (fun iv _ => 32 - (intOf iv).toNat)
      case atStart => exact ⟨0, by omega, rfl, HST.out _ (by rw [jpart_zero]; rfl)⟩
      case round =>
        obtain ⟨i, hi, rfl, HK⟩ := hrel
        clear HST
        have hi0 : (0 : Int) ≤ i := by omega
        by_cases hlt : i < 32
        · have hlt1 : (i : Int) < 32 := by omega
          have hf := HK.out.1.free i
          have hc := (HK.out.1.cell i).trans (bvs_getElem _ _ (by rw [jpart_length]; omega))
          have hd := (HK.out.2.1.cell (i / 4)).trans (wvs_get L (i / 4) (by rw [HLL.out]; omega))
          have h0 : (0 : Int) ≤ (i : Int) / 4 := by omega
          have h1 : (i : Int) / 4 < 8 := by omega
          have h2 : (0 : Int) ≤ 24 - 8 * ((i : Int) % 4) := by omega
          unfold bv at hc
          go_wp2_with fail
          go_roundw
          case rel =>
            refine ⟨i + 1, by omega, by go_num, ?_⟩
            have hv := jbyte_val L (i / 4) (i % 4) (Nat.mod_lt _ (by omega))
            rw [show 4 * (i / 4) + i % 4 = i from Nat.div_add_mod _ _, List.getD_eq_getElem?_getD] at hv
            rw [hv, ← jpart_next L i (by omega), ← bvs_set]
            exact ⟨HK.out.1.set _ _, HK.out.2.1.setCell (Ne.symm HGW.out.1) _, HK.out.2.2.1.setCell (Nat.ne_of_lt HGW.out.2) _, HK.out.2.2.2.setCell (Nat.le_of_lt HGW.out.2) _⟩
          case measure => simp [intOf]; omega
        · rw [show (i : Int) = 32 by omega]
          have HK2 : Hid (Arr wr 26 wo.heap.size (bvs (digest l)) ∧ Arr wr 26 w.heap.size (bvs (jpart L 0)) ∧ Below w.heap.size w wr) := by
            rw [← HDS.out, ← HJD.out, show 32 = i by omega]; exact ⟨HK.out.1, HK.out.2.2⟩
          clear HK hlt hi hi0
          obtain ⟨R, hR⟩ : ∃ R, R = digest l := ⟨_, rfl⟩
          have HRL : Hid (R.length = 32) := by rw [hR, ← HDS.out]; exact joinS_length S
          rw [← hR] at HK2
          have HRE := Lib.hid hR
          clear hR
          have hM := HK2.out.1
          have hO := HK2.out.2.1
          have HO : Hid ((bvs (jpart L 0)).length = 32) := by show _ = _; rw [bvs_length, jpart_length]
          go_wp2_with (first
            | ((with_reducible refine load32b (x := .tmp 7) (o := ⟨some 51, _, _, _, _, _⟩) hM HRL.out ?_ ?_); exact ⟨rfl, rfl, rfl⟩)
            | ((with_reducible refine store32b (x := .tmp 2) (y := .tmp 51) (l := R) (o := ⟨none, .store _ _ _, _, _, _, _⟩) hO HO.out HRL.out ?_ ?_); exact ⟨rfl, rfl, rfl, rfl⟩))
          exact bodyPost_ret (res32b rfl (hO.row _) HRL.out rfl) rfl ⟨by rw [HRE.out], below_row HK2.out.2.2 (Nat.le_refl _) _⟩
end Go.Proofs.YtomoopadeknfbaaDoor
