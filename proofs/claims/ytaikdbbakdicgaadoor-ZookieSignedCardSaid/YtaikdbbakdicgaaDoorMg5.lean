/-
  zookie.Mint, zookie.Verify.
-/
import Derived.Test.YtaikdbbakdicgaaDoorMg4
import Derived.Test.YtaikdbbakdicgaaDoorMg1
import Derived.ShutString
import Derived.ChangeOld
import Derived.LoopN
import Derived.Outline
import Derived.Test.YtaikdbbakdicgaaDoorMg2
namespace Go.Proofs.YtaikdbbakdicgaaDoor
open Go.ChangeShapes Go.WideShapes Go.ChangeAt Go.RowKit
open errAs (ErrT)
set_option linter.unusedVariables false

theorem rd_sub2 {B : Nat} {w : World} {b off cap i n : Nat} {l : List UInt8} (h1 : l.length ≤ cap) (h2 : cap ≤ maxLen) (h3 : b < B) (hc : ∀ i, i < l.length → w.cell? ⟨b, off + i, none⟩ = some (bv (l.getD i 0))) (hi : i + n ≤ l.length) (c2 : Nat) (hc2 : c2 = cap - i) :
    Rd B w (.slice (some ⟨b, off + i, none⟩) n c2) ((l.drop i).take n) := by
  have hl : ((l.drop i).take n).length = n := by rw [List.length_take, List.length_drop]; omega
  refine .inr ⟨b, off + i, c2, by rw [hl], by omega, by omega, h3, fun j hj => ?_⟩
  rw [hl] at hj
  rw [Nat.add_assoc, hc (i + j) (by omega)]
  congr 2
  simp [List.getD_eq_getElem?_getD, hj]
theorem rd_one1 {w : World} {t : TypeId} {v0 : Value} {l0 : List UInt8} (h0 : Rd w.heap.size w v0 l0) :
    RdAll (w.alloc (.cells #[v0] t)).heap.size (w.alloc (.cells #[v0] t)) (some ⟨w.heap.size, 0, none⟩) [l0] := by
  intro _
  have hb : Below w.heap.size w (w.alloc (.cells #[v0] t)) := (Below.refl _ _).alloc (Nat.le_refl _) _
  refine ⟨w.heap.size, 0, rfl, by simp, fun i hi => ?_⟩
  obtain rfl : i = 0 := by simpa using hi
  exact ⟨v0, (Arr.new' w t #[v0] [v0] rfl).cell 0, rd_now (B := 0) h0 hb⟩
theorem dec_le : ∀ (r : List UInt8) (i : Nat) (acc : List UInt8) (b s : Nat), (decGo r i acc b s).1.length ≤ acc.length + r.length
  | [], i, acc, b, s => by
    unfold decGo
    split <;> simp
  | c :: r, i, acc, b, s => by
    unfold decGo
    split
    · simp
    · have h := dec_le r (i + 1) (acc ++ (stB b s (valI c).toNat).1) (stB b s (valI c).toNat).2.1 (stB b s (valI c).toNat).2.2
      have h2 := stB_len b s (valI c).toNat
      rw [List.length_append] at h
      rw [List.length_cons]
      omega
theorem signZ_len {k b : List UInt8} : (signZ k b).length ≤ 2 * b.length + 65 := by
  unfold signZ
  rw [enc_len, List.length_append, hmac_length]; omega
theorem parseZ_len (b : List UInt8) : (parseZ b).2.2.1.length = 32 := by
  rcases parseZ_cases b with ⟨c, n, _, e⟩ | ⟨r, d, _, hd, _, e⟩
  · rw [e]; rfl
  · rw [e]; exact hd
theorem verZ_len (k s : List UInt8) : (verZ k s).2.2.1.length = 32 := by
  rcases verZ_cases k s with ⟨c, n, _, e⟩ | ⟨r, d, _, hd, _, e⟩
  · rw [e]; rfl
  · rw [e]; exact hd
set_option maxRecDepth 100000 in
theorem zmint_no (v r : Nat) (d : List UInt8) (vk : Value) (hd : d.length = 32) (hc : checkZ v r ≠ 0) (w : World) :
    Calls Tryd.prog 10 #[vk, zkV v r d] w fun e w' => e = .returned (.tuple #[.string ByteArray.empty, .iface 35 (.int .i64 (checkZ v r : Nat))]) ∧ Below w.heap.size w w' := by
  have hA := Arr.new' w 26 (zc v r d).toArray (zc v r d) rfl
  have HB : Hid (Below w.heap.size w (w.alloc (.cells (zc v r d).toArray 26))) := (Below.refl _ _).alloc (Nat.le_refl _) _
  have HA := Lib.hid hA
  have HD := Lib.hid hd
  have hq := eqlNilN
  have hv : errV (checkZ v r) = .iface 35 (.int .i64 (checkZ v r : Nat)) := by unfold errV; rw [if_neg hc]
  have HV := Lib.hid hv
  clear hA hd hv hc
  go_enter Tryd.func10, Tryd.ntmps10
  go_wp2_with ((with_reducible refine loadZ (x := .tmp 3) (o := ⟨some 10, _, _, _, _, _⟩) HA.out HD.out ?_ ?_); exact ⟨rfl, rfl, rfl⟩)
  refine (zcheck_any v r d HD.out _).mono ?_
  rintro e w2 ⟨rfl, b2⟩
  rw [HV.out]
  have HB2 := Lib.hid (HB.out.trans (b2.mono HB.out.size))
  clear b2
  go_wp2_with fail
  go_ret2
  exact ⟨rfl, HB2.out⟩
set_option maxRecDepth 100000 in
set_option maxHeartbeats 1000000 in
theorem zmint_yes {w : World} {vk : Value} {k : List UInt8} (r : Nat) (d : List UInt8) (hv : Rd w.heap.size w vk k) (hk : k.length ≤ 1000000) (hr : r < lim63) (hd : d.length = 32) (he : Env w) :
    Calls Tryd.prog 10 #[vk, zkV 1 r d] w fun e w' => e = .returned (.tuple #[.string (str (signZ k (payZ r d))), .nilIface]) ∧ Below w.heap.size w w' := by
  have hA := Arr.new' w 26 (zc 1 r d).toArray (zc 1 r d) rfl
  have hb0 : Below w.heap.size w (w.alloc (.cells (zc 1 r d).toArray 26)) := (Below.refl _ _).alloc (Nat.le_refl _) _
  have HB := Lib.hid hb0
  have HA := Lib.hid hA
  have HD := Lib.hid hd
  have HRL := Lib.hid hr
  have HK := Lib.hid (rd_now (B := 0) hv hb0)
  have HE := Lib.hid (he.below hb0)
  have HKL := Lib.hid hk
  have HPL := Lib.hid (payZ_len hr hd)
  have HV : Hid (errV (checkZ 1 r) = .nilIface) := by
    show errV _ = _
    rw [show checkZ 1 r = 0 by unfold checkZ; rw [if_neg (by omega), if_neg (by omega)]]; rfl
  obtain ⟨qk, ck, rfl⟩ := rd_form hv
  clear hA hd hr hb0 hv he hk
  go_enter Tryd.func10, Tryd.ntmps10
  go_wp2_with ((with_reducible refine loadZ (x := .tmp 3) (o := ⟨some 10, _, _, _, _, _⟩) HA.out HD.out ?_ ?_); exact ⟨rfl, rfl, rfl⟩)
  refine (zcheck_any 1 r d HD.out _).mono ?_
  rintro e w2 ⟨rfl, b2⟩
  rw [HV.out]
  have HB2 := Lib.hid (HB.out.trans (b2.mono HB.out.size))
  have HA2 := Lib.hid (HA.out.later b2)
  have HK2 := Lib.hid (rd_now (B := 0) HK.out b2)
  have HE2 := Lib.hid (HE.out.below b2)
  clear b2 HA HB HK HE
  go_wp2_with ((with_reducible refine loadZ (x := .tmp 3) (o := ⟨some 16, _, _, _, _, _⟩) HA2.out HD.out ?_ ?_); exact ⟨rfl, rfl, rfl⟩)
  refine (zpay_yes r d HRL.out HD.out _).mono ?_
  rintro e w3 ⟨v3, rfl, r3, b3⟩
  have HB3 := Lib.hid (HB2.out.trans (b3.mono HB2.out.size))
  have hK3 := rd_now (B := 0) HK2.out b3
  have hE3 := HE2.out.below b3
  obtain ⟨p, hp⟩ : ∃ p, p = payZ r d := ⟨_, rfl⟩
  rw [← hp] at r3 HPL
  have HP := Lib.hid hp
  obtain ⟨q3, c3, rfl⟩ := rd_form r3
  have hb4 : Below w3.heap.size w3 (w3.alloc (.cells #[.slice q3 p.length c3] 22)) := (Below.refl _ _).alloc (Nat.le_refl _) _
  have HB4 := Lib.hid (HB3.out.trans (hb4.mono HB3.out.size))
  have HK4 := Lib.hid (rd_now (B := 0) hK3 hb4)
  have HE4 := Lib.hid (hE3.below hb4)
  have HR4 := Lib.hid (rd_now (B := 0) r3 hb4)
  have HL4 := Lib.hid (rd_one1 (t := 22) r3)
  clear b3 HB2 HA2 HK2 HE2 hK3 hE3 hb4 HB3 r3 hp
  go_wp2_with fail
  refine (msum_any (cap := 1) HK4.out (by have := HKL.out; omega) HL4.out (by simp) (by have := HPL.out; simp [total]; omega) HE4.out).mono ?_
  rintro e w5 ⟨rfl, b5⟩
  rw [show [p].flatten = p from List.append_nil p]
  have HB5 := Lib.hid (HB4.out.trans (b5.mono HB4.out.size))
  have HR5 := Lib.hid (rd_now (B := 0) HR4.out b5)
  obtain ⟨D, hD⟩ : ∃ D, D = hmac k p := ⟨_, rfl⟩
  rw [← hD]
  have HDE := Lib.hid hD
  have HDL : Hid (D.length = 32) := by show _ = _; rw [hD]; exact hmac_length _ _
  clear b5 HB4 HR4 HK4 HE4 HL4 hD
  have hb6 : Below w5.heap.size w5 (w5.alloc (.cells (bvs D).toArray 24)) := (Below.refl _ _).alloc (Nat.le_refl _) _
  have HB6 := Lib.hid (HB5.out.trans (hb6.mono HB5.out.size))
  have hR6 := rd_now (B := 0) HR5.out hb6
  have hD6 : Rd (w5.alloc (.cells (bvs D).toArray 24)).heap.size (w5.alloc (.cells (bvs D).toArray 24)) (.slice (some ⟨w5.heap.size, 0, none⟩) 32 32) D := by
    have := arr_rd (Arr.new' w5 24 (bvs D).toArray (bvs D) (by simp)) (by rw [HDL.out]; unfold maxLen; omega)
    rw [HDL.out] at this
    exact this
  have hs6 : (w5.alloc (.cells (bvs D).toArray 24)).heap.size = w5.heap.size + 1 := by simp
  have HJ : Hid (Calls Tryd.prog 23 #[.slice (some ⟨w5.heap.size + 1, 0, none⟩) 2 2] ((w5.alloc (.cells (bvs D).toArray 24)).alloc (.cells #[.slice q3 p.length c3, .slice (some ⟨w5.heap.size, 0, none⟩) 32 32] 22)) (Owned ((w5.alloc (.cells (bvs D).toArray 24)).alloc (.cells #[.slice q3 p.length c3, .slice (some ⟨w5.heap.size, 0, none⟩) 32 32] 22)) [p, D].flatten)) := by
    rw [← hs6]
    exact join_any (cap := 2) (rd_two (t := 22) hR6 hD6) (Nat.le_refl _) (by simp) (by have := HPL.out; have := HDL.out; simp [total]; omega)
  have hb7 : Below (w5.alloc (.cells (bvs D).toArray 24)).heap.size (w5.alloc (.cells (bvs D).toArray 24)) ((w5.alloc (.cells (bvs D).toArray 24)).alloc (.cells #[.slice q3 p.length c3, .slice (some ⟨w5.heap.size, 0, none⟩) 32 32] 22)) := (Below.refl _ _).alloc (Nat.le_refl _) _
  have HB7 := Lib.hid (HB6.out.trans (hb7.mono HB6.out.size))
  clear hb6 HB5 HR5 hR6 hD6 hb7 HB6 hs6
  go_wp2_with ((with_reducible refine at32b w5.heap.size (x := .tmp 9) (y := .tmp 23) (l := D) (o := ⟨none, .store _ _ _, _, _, _, _⟩) HDL.out ?_ ?_); exact ⟨rfl, rfl, rfl, rfl, rfl, rfl⟩)
  refine HJ.out.mono ?_
  rintro e w8 ⟨v8, rfl, o8, b8⟩
  obtain ⟨Q, hQ⟩ : ∃ Q, Q = p ++ D := ⟨_, rfl⟩
  rw [show [p, D].flatten = Q by rw [hQ]; simp] at o8
  have HQL : Hid (Q.length ≤ 100) := by have := HPL.out; have := HDL.out; show Q.length ≤ 100; rw [hQ, List.length_append]; omega
  have HQ := Lib.hid hQ
  clear hQ
  have HB8 := Lib.hid (HB7.out.trans (b8.mono HB7.out.size))
  have r8 := Rd.of_own o8
  have HENC := Lib.hid (encode_any r8 (Nat.le_refl _) (by have := HQL.out; omega))
  obtain ⟨q8, c8, rfl⟩ := rd_form r8
  clear o8 b8 r8 HB7 HJ
  go_wp2_with fail
  refine HENC.out.mono ?_
  rintro e w9 ⟨rfl, b9⟩
  have HB9 := Lib.hid (HB8.out.trans (b9.mono HB8.out.size))
  clear b9 HB8 HENC
  go_wp2_with fail
  go_ret2
  refine ⟨?_, HB9.out⟩
  rw [signZ, ← HP.out, ← HDE.out, ← HQ.out]
  rfl

/-- The result's block g holds the zero zookie. -/
def PV (w : World) (g : Nat) (W : World) : Prop := Arr W 26 g (zc 0 0 z32) ∧ Below w.heap.size w W ∧ w.heap.size ≤ g
theorem PV.same {w W W' : World} {g : Nat} (h : PV w g W) (hb : Below W.heap.size W W') : PV w g W' := ⟨h.1.later hb, h.2.1.trans (hb.mono h.2.1.size), h.2.2⟩
theorem tailB (D cd : List UInt8) (hD : D.length = 32) (hc : cd.length = 32) : (decide (16 ≤ cd.length ∧ cd.length ≤ 32) && D.take cd.length == cd) = (D == cd) := by
  rw [hc, List.take_of_length_le (by omega)]; rfl
set_option maxRecDepth 100000 in
set_option maxHeartbeats 2000000 in
theorem zverify_any {w : World} {vk : Value} {k : List UInt8} (s : ByteArray) (hv : Rd w.heap.size w vk k) (hk : k.length ≤ 1000000) (hs : s.size ≤ 1000000) (he : Env w) (hE : ErrT w) :
    Calls Tryd.prog 13 #[vk, .string s] w fun e w' => e = .returned (.tuple #[zkT (verZ k s.data.toList), zkE (verZ k s.data.toList)]) ∧ Below w.heap.size w w' := by
  have HE := Lib.hid hE
  have HV := Lib.hid he
  have HK := Lib.hid hv
  have HKL := Lib.hid hk
  have HSL := Lib.hid hs
  obtain ⟨L, hL⟩ : ∃ L, L = (dec s.data.toList).1 := ⟨_, rfl⟩
  obtain ⟨N, hNN⟩ : ∃ N, N = (dec s.data.toList).2 := ⟨_, rfl⟩
  have HL := Lib.hid hL
  have HNN := Lib.hid hNN
  have HLL : Hid (L.length ≤ s.size) := by
    have := dec_le s.data.toList 0 [] 0 0
    show L.length ≤ _
    rw [hL]; unfold dec; rw [str_length] at this; simpa using this
  have HN : Hid (∀ z : Array Value, z.toList = zc 0 0 z32 → Calls Tryd.prog 34 #[.string s] (w.alloc (.cells z 26)) fun e w1 => ∃ v, e = .returned (.tuple #[v, .int .i64 N]) ∧ Rd w1.heap.size w1 v L ∧ PV w w.heap.size w1) := by
    intro z hz
    have hA := Arr.new' w 26 z _ hz
    have hb0 : Below w.heap.size w (w.alloc (.cells z 26)) := (Below.refl _ _).alloc (Nat.le_refl _) _
    refine (decode_at s (by omega) _ (show dec s.data.toList = (L, N) by rw [hL, hNN])).mono ?_
    rintro e w1 ⟨v, h1, h2, h3⟩
    exact ⟨v, h1, h2, hA.later h3, hb0.trans (h3.mono hb0.size), Nat.le_refl _⟩
  obtain ⟨qk, ck, rfl⟩ := rd_form hv
  clear hv he hE hk hs hL hNN
  go_enter Tryd.func13, Tryd.ntmps13
  go_wp2_with fail
  refine (HN.out _ rfl).mono ?_
  rintro e w1 ⟨v1, rfl, r1, hp1⟩
  have HP1 := Lib.hid hp1
  obtain ⟨g, hg⟩ : ∃ g, g = w.heap.size := ⟨_, rfl⟩
  rw [← hg] at HP1 ⊢
  clear HN hp1 hg
  by_cases hN : 0 ≤ N
  · obtain ⟨n, rfl⟩ : ∃ n : Nat, N = n := ⟨N.toNat, by omega⟩
    have HPZ : Hid (verZ k s.data.toList = badZ 6 n) := by
      show _ = _
      rw [verZ_bad (by rw [← HNN.out]; exact hN), ← HNN.out, Int.toNat_natCast]
    obtain ⟨q1, c1, rfl⟩ := rd_form r1
    clear r1
    go_wp2_with fail
    refine (fnew_any _ _ _).mono ?_
    rintro e w2 ⟨rfl, rfl⟩
    have hA := HP1.out.1
    have HB := Lib.hid HP1.out.2.1
    have HG := Lib.hid HP1.out.2.2
    go_wp2_with ((with_reducible refine storeZ (x := .tmp 4) (y := .tmp 16) (v := 0) (r := 0) (d := z32) (o := ⟨none, .store _ _ _, _, _, _, _⟩) hA z32_length z32_length ?_ ?_); exact ⟨rfl, rfl, rfl, rfl⟩)
    refine bodyPost_ret (resZ rfl (hA.row _) z32_length rfl) rfl ⟨?_, below_row HB.out HG.out _⟩
    rw [HPZ.out, zkE_bad _ _ (by decide)]
    rfl
  · have HNG : Hid (¬ 0 ≤ (dec s.data.toList).2) := by rw [← HNN.out]; exact hN
    by_cases h32 : L.length < 32
    · have HPZ : Hid (verZ k s.data.toList = badZ 1 L.length) := by
        show _ = _
        rw [verZ_short HNG.out (by rw [← HL.out]; exact h32), ← HL.out]
      have g1 : (L.length : Int) - 32 < 0 := by omega
      obtain ⟨q1, c1, rfl⟩ := rd_form r1
      clear r1
      go_wp2_with fail
      refine (fnew_any _ _ _).mono ?_
      rintro e w2 ⟨rfl, rfl⟩
      have hA := HP1.out.1
      have HB := Lib.hid HP1.out.2.1
      have HG := Lib.hid HP1.out.2.2
      go_wp2_with ((with_reducible refine storeZ (x := .tmp 4) (y := .tmp 24) (v := 0) (r := 0) (d := z32) (o := ⟨none, .store _ _ _, _, _, _, _⟩) hA z32_length z32_length ?_ ?_); exact ⟨rfl, rfl, rfl, rfl⟩)
      refine bodyPost_ret (resZ rfl (hA.row _) z32_length rfl) rfl ⟨?_, below_row HB.out HG.out _⟩
      rw [HPZ.out, zkE_bad _ _ (by decide)]
      rfl
    · have HB32 : Hid (¬ (dec s.data.toList).1.length < 32) := by rw [← HL.out]; exact h32
      obtain ⟨n, hn⟩ : ∃ n, n = L.length - 32 := ⟨_, rfl⟩
      have hln : L.length = n + 32 := by omega
      rcases r1 with ⟨_, _, h⟩ | ⟨bk, of, cp, rfl, y1, y2, y3, hcell⟩
      · rw [h] at hln; simp at hln
      have hsubT := rd_sub2 (i := n) (n := 32) y1 y2 y3 hcell (by omega) (cp - n) rfl
      have hsubH : Rd w1.heap.size w1 (.slice (some ⟨bk, of, none⟩) n cp) (L.take n) := Rd.take (.inr ⟨bk, of, cp, rfl, y1, y2, y3, hcell⟩) (by omega)
      rw [List.take_of_length_le (by rw [List.length_drop]; omega)] at hsubT
      have HT1 := Lib.hid hsubT
      have HH1 := Lib.hid hsubH
      have HYES : Hid (hmac k (L.take n) = L.drop n → verZ k s.data.toList = parseZ (L.take n)) := fun h => by
        have := verZ_yes (k := k) HNG.out HB32.out (by rw [← HL.out, ← hn]; exact h)
        rw [this, ← HL.out, ← hn]
      have HTAG : Hid (¬ hmac k (L.take n) = L.drop n → verZ k s.data.toList = badZ 12 n) := fun h => by
        have := verZ_tag (k := k) HNG.out HB32.out (by rw [← HL.out, ← hn]; exact h)
        rw [this, ← HL.out, ← hn]
      have HTL : Hid ((L.take n).length = n) := by show _ = _; rw [List.length_take]; omega
      have HDL : Hid ((L.drop n).length = 32) := by show _ = _; rw [List.length_drop]; omega
      have hNB := HLL.out
      have hSB := HSL.out
      have hnb : n ≤ 1000000 := by omega
      rw [hln] at y1 ⊢
      obtain ⟨T, hT⟩ : ∃ T, T = L.drop n := ⟨_, rfl⟩
      obtain ⟨P, hP⟩ : ∃ P, P = L.take n := ⟨_, rfl⟩
      rw [← hT] at HT1 HYES HTAG HDL
      rw [← hP] at HH1 HYES HTAG HTL
      have w1i : ((n + 32 : Nat) : Int) - 32 = n := by omega
      have g1 : ¬ (n : Int) < 0 := by omega
      have g2 : (n : Int) ≤ (n : Int) + 32 := by omega
      have g3 : (n : Int) ≤ cp := by omega
      have g4 : ¬ n = cp := by omega
      have g5 : n + 32 - n = 32 := by omega
      have g6 : ¬ cp = n := by omega
      have HCP := Lib.hid y1
      clear hsubT hsubH hcell hn hln h32 hT hP hNB hSB HL HLL y3 y2 y1
      go_upto_region 7 with fail
      refine wp_region_noPanic ?_
      refine wp_region_held_drew (S := fun W' => Below w1.heap.size w1 W') (by kernel_rfl) ((Below.refl _ _).drew) (fun hHeld => ?_)
      try simp only [Act.put]
      generalize w1.drew = w2 at hHeld ⊢
      refine wpAnyH_take (i := 0) (oi := ⟨some 28, _, _, _, _, _⟩) (v := .slice qk k.length ck) rfl (by kernel_rfl) (by kernel_rfl) (by kernel_rfl) (fun _ _ _ h => h) (.inl ⟨by rfl, fun w' hSw => ?_⟩) hHeld ?_
      focus (skip; clear hHeld; go_simp)
      try simp only [Act.put, List.setIfInBounds_toArray, List.set_cons_zero, List.set_cons_succ]
      refine wpAnyH_take (i := 1) (oi := ⟨some 29, _, _, _, _, _⟩) (v := .slice (some ⟨bk, of, none⟩) (n + 32) cp) rfl (by kernel_rfl) (by kernel_rfl) (by kernel_rfl) (fun _ _ _ h => h) (.inl ⟨by rfl, fun w' hSw => ?_⟩) hHeld ?_
      focus (skip; clear hHeld; go_simp)
      try simp only [Act.put, List.setIfInBounds_toArray, List.set_cons_zero, List.set_cons_succ]
      refine wpAnyH_take (i := 2) (oi := ⟨some 30, _, _, _, _, _⟩) (v := .int .i64 n) rfl (by kernel_rfl) (by kernel_rfl) (by kernel_rfl) (fun _ _ _ h => h) (.inl ⟨by rfl, fun w' hSw => ?_⟩) hHeld ?_
      focus (skip; clear hHeld; go_simp)
      try simp only [Act.put, List.setIfInBounds_toArray, List.set_cons_zero, List.set_cons_succ]
      refine wpAnyH_take (i := 3) (oi := ⟨some 31, _, _, _, _, _⟩) (v := .slice (some ⟨bk, of + n, none⟩) 32 (cp - n)) rfl (by kernel_rfl) (by kernel_rfl) (by kernel_rfl) (fun _ _ _ h => h) (.inl ⟨by rfl, fun w' hSw => ?_⟩) hHeld ?_
      focus (skip; clear hHeld; go_simp)
      try simp only [Act.put, List.setIfInBounds_toArray, List.set_cons_zero, List.set_cons_succ]
      refine wpAnyH_take (i := 4) (oi := ⟨some 32, _, _, _, _, _⟩) (v := .slice (some ⟨bk, of, none⟩) (n + 32) cp) rfl (by kernel_rfl) (by kernel_rfl) (by kernel_rfl) (fun _ _ _ h => h) (.inl ⟨by rfl, fun w' hSw => ?_⟩) hHeld ?_
      focus (skip; clear hHeld; go_simp)
      try simp only [Act.put, List.setIfInBounds_toArray, List.set_cons_zero, List.set_cons_succ]
      refine wpAnyH_take (i := 5) (oi := ⟨some 33, _, _, _, _, _⟩) (v := .int .i64 n) rfl (by kernel_rfl) (by kernel_rfl) (by kernel_rfl) (fun _ _ _ h => h) (.inl ⟨by rfl, fun w' hSw => ?_⟩) hHeld ?_
      focus (skip; clear hHeld; go_simp)
      try simp only [Act.put, List.setIfInBounds_toArray, List.set_cons_zero, List.set_cons_succ]
      refine wpAnyH_take (i := 6) (oi := ⟨some 34, _, _, _, _, _⟩) (v := .slice (some ⟨bk, of, none⟩) n cp) rfl (by kernel_rfl) (by kernel_rfl) (by kernel_rfl) (fun _ _ _ h => h) (.inl ⟨by rfl, fun w' hSw => ?_⟩) hHeld ?_
      focus (skip; clear hHeld; go_simp)
      try simp only [Act.put, List.setIfInBounds_toArray, List.set_cons_zero, List.set_cons_succ]
      refine wpAnyH_ready (rs := [7]) (by kernel_rfl) (by simp) ?_
      refine AllReadyH.cons (o := ⟨some 35, _, _, _, _, _⟩) rfl (fun K' hK' => ?_) AllReadyH.nil
      go_simp
      have hb3 : Below w2.heap.size w2 (w2.alloc (.cells #[.slice (some ⟨bk, of, none⟩) n cp] 22)) := (Below.refl _ _).alloc (Nat.le_refl _) _
      have hkn := hHeld.trans (hb3.mono hHeld.size)
      have hrp := rd_now (B := 0) HH1.out hHeld
      rw [← HTL.out] at hrp
      have HL3 := Lib.hid (rd_one1 (t := 22) hrp)
      rw [HTL.out] at HL3
      clear hrp
      refine hK'.out _ _ hkn (fun _ => ?_)
      clear hK' K' hHeld
      have hHeld := hkn
      clear hkn hb3
      generalize w2.heap.size = n35 at HL3 ⊢
      generalize w2.alloc (.cells #[.slice (some ⟨bk, of, none⟩) n cp] 22) = w3 at hHeld HL3 ⊢
      have HCK := Lib.hid (mcheck_any (cap := 1) (rd_now (B := 0) (rd_now (B := 0) HK.out HP1.out.2.1) hHeld) (by have := HKL.out; omega) (rd_now (B := 0) HT1.out hHeld) HL3.out (by simp) (by have := HTL.out; simp [total]; omega) ((HV.out.below HP1.out.2.1).below hHeld))
      rw [show [P].flatten = P from List.append_nil P, tailB _ _ (hmac_length _ _) HDL.out] at HCK
      try simp only [Act.put, List.setIfInBounds_toArray, List.set_cons_zero, List.set_cons_succ]
      refine wpAnyH_ready (rs := [8]) (by kernel_rfl) (by simp) ?_
      refine AllReadyH.cons (o := ⟨some 36, _, _, _, _, _⟩) rfl (fun K' hK' => ?_) AllReadyH.nil
      refine stepw_call (R := fun v' w'' => v' = .bool (hmac k P == T) ∧ Below w3.heap.size w3 w'') (by rfl) ?_ (HCK.out.mono fun e w'' ⟨h1, h3⟩ => ⟨_, h1, rfl, h3⟩) ?_
      focus go_simp
      rintro v36 w4 ⟨rfl, b4⟩
      have hkn := hHeld.trans (b4.mono hHeld.size)
      refine hK'.out _ _ hkn (fun _ => ?_)
      clear hK' K' hHeld HCK HL3
      have hHeld := hkn
      clear hkn b4
      obtain ⟨E, hE⟩ : ∃ E, E = (hmac k P == T) := ⟨_, rfl⟩
      rw [← hE]
      try simp only [Act.put, List.setIfInBounds_toArray, List.set_cons_zero, List.set_cons_succ]
      refine wpAnyH_take (i := 9) (oi := ⟨some 37, _, _, _, _, _⟩) (v := .bool (!E)) rfl (by kernel_rfl) (by kernel_rfl) (by kernel_rfl) (fun _ _ _ h => h) (.inl ⟨by rfl, fun w' hSw => ?_⟩) hHeld ?_
      focus (skip; clear hHeld; go_simp)
      try simp only [Act.put, List.setIfInBounds_toArray, List.set_cons_zero, List.set_cons_succ]
      refine wpAnyH_done (by kernel_rfl) ?_ _
      refine NoPanic.normal ?_
      have HP4 := Lib.hid (HP1.out.same hHeld)
      have HH4 := Lib.hid (rd_now (B := 0) HH1.out hHeld)
      clear hHeld HP1 HH1 HT1
      by_cases hh : hmac k P = T
      · have hEt : E = true := by rw [hE]; simpa using hh
        subst hEt
        have HPZ := Lib.hid (HYES.out hh)
        have hpr := HH4.out
        rw [← HTL.out] at hpr
        have HPA := Lib.hid (zparse_any hpr (Nat.le_refl _) (by have := HTL.out; omega) (errT_below HE.out HP4.out.2.1))
        rw [HTL.out] at HPA
        clear hpr hE hh
        go_wp2_with fail
        refine HPA.out.mono ?_
        rintro e w5 ⟨rfl, b5⟩
        have HP5 := Lib.hid (HP4.out.same b5)
        have hA := HP5.out.1
        have HB := Lib.hid HP5.out.2.1
        have HG := Lib.hid HP5.out.2.2
        have HLN := Lib.hid (parseZ_len P)
        clear b5 HP4 HPA HH4
        go_wp2_with ((with_reducible refine storeZ (x := .tmp 4) (y := .tmp 45) (v := (parseZ P).1) (r := (parseZ P).2.1) (d := (parseZ P).2.2.1) (o := ⟨none, .store _ _ _, _, _, _, _⟩) hA z32_length HLN.out ?_ ?_); exact ⟨rfl, rfl, rfl, rfl⟩)
        refine bodyPost_ret (resZ rfl (hA.row _) HLN.out rfl) rfl ⟨?_, below_row HB.out HG.out _⟩
        rw [HPZ.out]
        rfl
      · have hEf : E = false := by rw [hE]; simpa using hh
        subst hEf
        have HPZ := Lib.hid (HTAG.out hh)
        clear hE hh
        go_wp2_with fail
        refine (fnew_any _ _ _).mono ?_
        rintro e w5 ⟨rfl, rfl⟩
        have hA := HP4.out.1
        have HB := Lib.hid HP4.out.2.1
        have HG := Lib.hid HP4.out.2.2
        go_wp2_with ((with_reducible refine storeZ (x := .tmp 4) (y := .tmp 38) (v := 0) (r := 0) (d := z32) (o := ⟨none, .store _ _ _, _, _, _, _⟩) hA z32_length z32_length ?_ ?_); exact ⟨rfl, rfl, rfl, rfl⟩)
        refine bodyPost_ret (resZ rfl (hA.row _) z32_length rfl) rfl ⟨?_, below_row HB.out HG.out _⟩
        rw [HPZ.out, zkE_bad _ _ (by decide)]
        rfl
end Go.Proofs.YtaikdbbakdicgaaDoor
/-
  The statement BaseSignsSaid: whatever number and sign are given, the law BaseSigns returns true and changes nothing; for every input, no further condition.
-/
namespace Go.Proofs.YtaikdbbakdicgaaDoor.baseSigns
open Go.ChangeShapes Go.WideShapes Go.ChangeAt Go.RowKit
open Go.ChangeMaps (open_string shut_string)
set_option linter.unusedVariables false

theorem valI_sgn (k : Nat) (h : k < 64) : valI (sgn k) = k := by
  have hh : ∀ n : Fin 64, valI (sgn n.val) = n.val := by decide +kernel
  exact hh ⟨k, h⟩

set_option maxRecDepth 100000 in
theorem alpha_any (w : World) : Calls Tryd.prog 59 #[] w fun e w' => e = .returned (.string alpha) ∧ w = w' := by
  go_enter Tryd.func59, Tryd.ntmps59
  go_wp2
  go_ret
  exact ⟨rfl, rfl⟩

set_option maxRecDepth 100000 in
set_option maxHeartbeats 400000 in
theorem rvalue_any (c : UInt8) (w : World) : Calls Tryd.prog 57 #[.int .u8 c.toNat] w fun e w' => e = .returned (.int .i64 (valI c)) ∧ w = w' := by
  obtain ⟨x, hx⟩ : ∃ x, x = valI c := ⟨_, rfl⟩
  rw [← hx]
  have HX := Lib.hid hx
  clear hx
  have hz : alpha.size ≤ 64 := Nat.le_refl 64
  go_enter Tryd.func57, Tryd.ntmps57
  go_wp2_with fail
  refine (alpha_any _).mono ?_
  rintro e w1 ⟨rfl, rfl⟩
  go_wp2_with fail
  go_loop [4] (fun iv => ∃ k : Nat, k ≤ alpha.size ∧ iv = .int .i64 k ∧ Hid (∀ j, j < k → sgn j ≠ c)) (fun iv => alpha.size - (intOf iv).toNat)
  case atStart => exact ⟨0, Nat.zero_le _, rfl, fun j hj => absurd hj (by omega)⟩
  case round =>
    obtain ⟨k, hk, rfl, HP⟩ := hrel
    by_cases hlt : k < alpha.size
    · have hi1 : (k : Int) < alpha.size := by omega
      have hi0 : (0 : Int) ≤ k := by omega
      by_cases he : sgn k = c
      · have t1 : (((alpha[k]'hlt).toNat : Int) == (c.toNat : Int)) = true := by rw [sgn_at hlt, he]; simp
        have hv : x = k := by rw [HX.out, ← he]; exact valI_sgn k (by omega)
        have HV := Lib.hid hv
        clear hv he
        go_wp2
        go_ret
        exact ⟨by rw [HV.out]; rfl, rfl⟩
      · have t1 : (((alpha[k]'hlt).toNat : Int) == (c.toNat : Int)) = false := by
          rw [sgn_at hlt, beq_eq_false_iff_ne]
          intro e
          exact he (UInt8.toNat_inj.1 (by omega))
        have HE := Lib.hid he
        clear he
        go_wp2
        go_round
        case rel =>
          refine ⟨k + 1, by omega, by go_num, fun j hj => ?_⟩
          by_cases e : j = k
          · subst e; exact HE.out
          · exact HP.out j (by omega)
        case measure => simp [intOf]; omega
    · have hv : x = -1 := by
        have hb := valI_bd c
        rw [HX.out]
        by_cases h0 : 0 ≤ valI c
        · have h1 := sgn_valI c h0
          exact absurd h1 (HP.out (valI c).toNat (by have : alpha.size = 64 := rfl; omega))
        · omega
      have HV := Lib.hid hv
      clear hv
      go_wp2
      go_ret
      exact ⟨by rw [HV.out]; rfl, rfl⟩

theorem own : ownKnob Tryd.prog.godebug = none := by kernel_rfl
theorem laidOut : laidOutB Tryd.prog = true := by kernel_rfl

end Go.Proofs.YtaikdbbakdicgaaDoor.baseSigns
/-
  vestryref04.Encode returns the same text as base.Encode.
-/
namespace Go.Proofs.YtaikdbbakdicgaaDoor
open Go.ChangeShapes Go.WideShapes Go.ChangeAt Go.RowKit
set_option linter.unusedVariables false

theorem bits8 (v : Nat) : bitsN 8 v = [v / 128 % 2, v / 64 % 2, v / 32 % 2, v / 16 % 2, v / 8 % 2, v / 4 % 2, v / 2 % 2, v % 2] := by
  simp only [bitsN, Nat.div_div_eq_div_mul, List.nil_append, List.cons_append]
theorem bits6 (v : Nat) : bitsN 6 v = [v / 32 % 2, v / 16 % 2, v / 8 % 2, v / 4 % 2, v / 2 % 2, v % 2] := by
  simp only [bitsN, Nat.div_div_eq_div_mul, List.nil_append, List.cons_append]
theorem own_norm {base n : Nat} {w : World} {v : Value} {l : List UInt8} (h : w.ownsRow base 5 1 v n (bvs l)) : w.ownsRow base 5 1 v l.length (bvs l) := by
  have h1 := h.1
  rw [bvs_length] at h1
  obtain rfl : n = l.length := by omega
  exact h
def lenOf : Value → Nat | .slice _ n _ => n | _ => 0

set_option maxRecDepth 100000 in
set_option maxHeartbeats 4000000 in
theorem rencode_any {B : Nat} {w : World} {vb : Value} {l : List UInt8} (hr : Rd B w vb l) (hB : B ≤ w.heap.size) (hl : l.length ≤ 1000) :
    Calls Tryd.prog 42 #[vb] w fun e w' => e = .returned (.string (str (enc l))) ∧ Below w.heap.size w w' := by
  obtain ⟨ov, cv, rfl, _, hcell⟩ := hr.form
  go_enter Tryd.func42, Tryd.ntmps42
  go_wp2_with fail
  go_loopw [3, 4] (fun v iv wr => ∃ (k n : Nat), k ≤ l.length ∧ iv = .int .i64 k ∧ wr.ownsRow w.heap.size 3 1 v n (ivs (bitsOf (l.take k))) ∧ Below w.heap.size w wr) (fun _ iv _ => l.length - (intOf iv).toNat)
  case atStart => exact ⟨0, 0, Nat.zero_le _, rfl, World.ownsRow_nil _ _ _ _, Below.refl _ _⟩
  case round =>
    obtain ⟨k, n0, hk, rfl, hown0, hb0⟩ := hrel
    by_cases hlt : k < l.length
    · obtain ⟨b, off, rfl, _, _, hbB, hc⟩ := hcell (by omega)
      obtain ⟨x, HX, HX0⟩ : ∃ x : UInt8, Hid (l.take (k + 1) = l.take k ++ [x]) ∧ Hid (w.cell? ⟨b, off + k, none⟩ = some (.int .u8 x.toNat)) := by
        refine ⟨l.getD k 0, ?_, hc k hlt⟩
        show l.take (k + 1) = l.take k ++ [l.getD k 0]
        rw [List.take_succ_eq_append_getElem hlt]
        simp [List.getD_eq_getElem?_getD, List.getElem?_eq_getElem hlt]
      have hi1 : (k : Int) < l.length := by omega
      have hi0 : (0 : Int) ≤ k := by omega
      have hxn := x.toNat_lt
      have hxa : (0 : Int) ≤ x.toNat := by omega
      have hxb : (x.toNat : Int) < 256 := by omega
      obtain ⟨L, HL⟩ : ∃ L, Hid (L = bitsOf (l.take k)) := ⟨_, rfl⟩
      have hLl : L.length ≤ 8000 := by rw [HL.out, bitsOf_len, List.length_take]; omega
      rw [← HL.out] at hown0
      have hx0 : wr.cell? ⟨b, off + k, none⟩ = some (.int .u8 x.toNat) := (hb0.cell (by show b < w.heap.size; omega)).trans HX0.out
      clear hcell hc
      go_wp2_with fail
      refine wp_loop_rounds 9 ?_
      rw [rounds_succ]
      go_wp2_with (at_builtin; refine app_int (b := x.toNat / 128 % 2) rfl (.tmp 20) (.tmp 30) rfl rfl (hown0.alloc _) rfl (cell_lit _ _ _) ?c1 ?c2 ?_)
      case c1 => simp <;> omega
      case c2 => have := hb0.size; simp <;> omega
      intro v1 w1 hown1 hg1
      have hb1 := below_append hb0 hb0.size (Nat.le_refl _) hown0 hg1
      have hx1 : w1.cell? ⟨b, off + k, none⟩ = some (.int .u8 x.toNat) := (hb1.cell (by show b < w.heap.size; omega)).trans HX0.out
      clear hown0 hb0 hg1 hx0
      go_wp2_with fail
      rw [rounds_succ]
      go_wp2_with (at_builtin; refine app_int (b := x.toNat / 64 % 2) rfl (.tmp 20) (.tmp 30) rfl rfl (hown1.alloc _) rfl (cell_lit _ _ _) ?c1 ?c2 ?_)
      case c1 => simp <;> omega
      case c2 => have := hb1.size; simp <;> omega
      intro v2 w2 hown2 hg2
      have hb2 := below_append hb1 hb1.size (Nat.le_refl _) hown1 hg2
      have hx2 : w2.cell? ⟨b, off + k, none⟩ = some (.int .u8 x.toNat) := (hb2.cell (by show b < w.heap.size; omega)).trans HX0.out
      clear hown1 hb1 hg2 hx1
      go_wp2_with fail
      rw [rounds_succ]
      go_wp2_with (at_builtin; refine app_int (b := x.toNat / 32 % 2) rfl (.tmp 20) (.tmp 30) rfl rfl (hown2.alloc _) rfl (cell_lit _ _ _) ?c1 ?c2 ?_)
      case c1 => simp <;> omega
      case c2 => have := hb2.size; simp <;> omega
      intro v3 w3 hown3 hg3
      have hb3 := below_append hb2 hb2.size (Nat.le_refl _) hown2 hg3
      have hx3 : w3.cell? ⟨b, off + k, none⟩ = some (.int .u8 x.toNat) := (hb3.cell (by show b < w.heap.size; omega)).trans HX0.out
      clear hown2 hb2 hg3 hx2
      go_wp2_with fail
      rw [rounds_succ]
      go_wp2_with (at_builtin; refine app_int (b := x.toNat / 16 % 2) rfl (.tmp 20) (.tmp 30) rfl rfl (hown3.alloc _) rfl (cell_lit _ _ _) ?c1 ?c2 ?_)
      case c1 => simp <;> omega
      case c2 => have := hb3.size; simp <;> omega
      intro v4 w4 hown4 hg4
      have hb4 := below_append hb3 hb3.size (Nat.le_refl _) hown3 hg4
      have hx4 : w4.cell? ⟨b, off + k, none⟩ = some (.int .u8 x.toNat) := (hb4.cell (by show b < w.heap.size; omega)).trans HX0.out
      clear hown3 hb3 hg4 hx3
      go_wp2_with fail
      rw [rounds_succ]
      go_wp2_with (at_builtin; refine app_int (b := x.toNat / 8 % 2) rfl (.tmp 20) (.tmp 30) rfl rfl (hown4.alloc _) rfl (cell_lit _ _ _) ?c1 ?c2 ?_)
      case c1 => simp <;> omega
      case c2 => have := hb4.size; simp <;> omega
      intro v5 w5 hown5 hg5
      have hb5 := below_append hb4 hb4.size (Nat.le_refl _) hown4 hg5
      have hx5 : w5.cell? ⟨b, off + k, none⟩ = some (.int .u8 x.toNat) := (hb5.cell (by show b < w.heap.size; omega)).trans HX0.out
      clear hown4 hb4 hg5 hx4
      go_wp2_with fail
      rw [rounds_succ]
      go_wp2_with (at_builtin; refine app_int (b := x.toNat / 4 % 2) rfl (.tmp 20) (.tmp 30) rfl rfl (hown5.alloc _) rfl (cell_lit _ _ _) ?c1 ?c2 ?_)
      case c1 => simp <;> omega
      case c2 => have := hb5.size; simp <;> omega
      intro v6 w6 hown6 hg6
      have hb6 := below_append hb5 hb5.size (Nat.le_refl _) hown5 hg6
      have hx6 : w6.cell? ⟨b, off + k, none⟩ = some (.int .u8 x.toNat) := (hb6.cell (by show b < w.heap.size; omega)).trans HX0.out
      clear hown5 hb5 hg6 hx5
      go_wp2_with fail
      rw [rounds_succ]
      go_wp2_with (at_builtin; refine app_int (b := x.toNat / 2 % 2) rfl (.tmp 20) (.tmp 30) rfl rfl (hown6.alloc _) rfl (cell_lit _ _ _) ?c1 ?c2 ?_)
      case c1 => simp <;> omega
      case c2 => have := hb6.size; simp <;> omega
      intro v7 w7 hown7 hg7
      have hb7 := below_append hb6 hb6.size (Nat.le_refl _) hown6 hg7
      have hx7 : w7.cell? ⟨b, off + k, none⟩ = some (.int .u8 x.toNat) := (hb7.cell (by show b < w.heap.size; omega)).trans HX0.out
      clear hown6 hb6 hg7 hx6
      go_wp2_with fail
      rw [rounds_succ]
      go_wp2_with (at_builtin; refine app_int (b := x.toNat % 2) rfl (.tmp 20) (.tmp 30) rfl rfl (hown7.alloc _) rfl (cell_lit _ _ _) ?c1 ?c2 ?_)
      case c1 => simp <;> omega
      case c2 => have := hb7.size; simp <;> omega
      intro v8 w8 hown8 hg8
      have hb8 := below_append hb7 hb7.size (Nat.le_refl _) hown7 hg8
      have hx8 : w8.cell? ⟨b, off + k, none⟩ = some (.int .u8 x.toNat) := (hb8.cell (by show b < w.heap.size; omega)).trans HX0.out
      clear hown7 hb7 hg8 hx7
      go_wp2_with fail
      have hfin : ∃ n, w8.ownsRow w.heap.size 3 1 v8 n (ivs (bitsOf (l.take (k + 1)))) := by
        rw [HX.out, bitsOf_snoc, ← HL.out, bits8]
        exact ⟨_, hown8⟩
      obtain ⟨n8, hfin⟩ := hfin
      have HF := Lib.hid hfin
      clear hfin hown8
      rw [rounds_succ]
      go_wp2_with fail
      go_roundw
      case rel => exact ⟨k + 1, n8, by omega, by go_num, HF.out, hb8⟩
      case measure => simp [intOf]; omega
    · obtain rfl : k = l.length := by omega
      rw [List.take_length] at hown0
      have hown0' : ∃ n, wr.ownsRow w.heap.size 3 1 u3 n (ivs (bitsOf l ++ List.replicate 0 0)) := ⟨n0, by simpa using hown0⟩
      clear hcell hown0
      go_wp2_with fail
      go_loopw [3] (fun v wr => ∃ (j n : Nat), j ≤ padN (8 * l.length) ∧ Hid (wr.ownsRow w.heap.size 3 1 v n (ivs (bitsOf l ++ List.replicate j 0))) ∧ Below w.heap.size w wr) (fun v _ => 8 * l.length + 6 - lenOf v)
      case atStart => exact ⟨0, _, Nat.zero_le _, hown0'.choose_spec, hb0⟩
      case round =>
        obtain ⟨j, n1, hj, hown1, hb1⟩ := hrel
        rename World => wr_1
        clear hown0' hb0
        obtain ⟨m, HM⟩ : ∃ m, Hid (m = 8 * l.length + j) := ⟨_, rfl⟩
        have hBl : (bitsOf l ++ List.replicate j 0).length = m := by rw [List.length_append, bitsOf_len, List.length_replicate, HM.out]
        obtain ⟨hn1, o1, c1, rfl, _, hrd⟩ := own_int hown1.out
        rw [hn1] at hown1
        rw [hBl] at hrd hown1 ⊢
        have hm8 : m ≤ 8006 := by rw [HM.out]; unfold padN at hj; omega
        have HBL := Lib.hid hBl
        have HRD := Lib.hid hrd
        have hm0 : (0 : Int) ≤ m := by omega
        clear hBl hrd hn1
        by_cases hpad : j < padN (8 * l.length)
        · have t1 : (((m : Int) % 6) != 0) = true := by rw [bne_iff_ne]; rw [HM.out]; unfold padN at hpad; omega
          have ho := hown1.out
          clear HRD
          go_wp2_with (at_builtin; refine app_int (b := 0) rfl (.tmp 36) (.tmp 37) rfl rfl (ho.alloc _) rfl (cell_lit _ _ _) ?c1 ?c2 ?_)
          case c1 => have := HBL.out; omega
          case c2 => have := hb1.size; simp <;> omega
          intro v2 w2 hown2 hg2
          have hb2 := below_append hb1 hb1.size (Nat.le_refl _) ho hg2
          have hlv : lenOf v2 = m + 1 := by
            obtain ⟨_, o2, c2, rfl, _, _⟩ := own_int hown2
            show (bitsOf l ++ (List.replicate j 0 ++ [0])).length = m + 1
            rw [← List.append_assoc, List.length_append, HBL.out]; rfl
          have hfin : ∃ n, w2.ownsRow w.heap.size 3 1 v2 n (ivs (bitsOf l ++ List.replicate (j + 1) 0)) := by rw [List.replicate_succ']; exact ⟨_, hown2⟩
          obtain ⟨n3, hfin⟩ := hfin
          have HF := Lib.hid hfin
          have HLV := Lib.hid hlv
          clear hown2 hg2 ho hfin hown1 hb1 hlv
          go_wp2_with fail
          go_roundw
          case rel => exact ⟨j + 1, n3, by omega, HF.out, hb2⟩
          case measure => rw [HLV.out]; show 8 * l.length + 6 - (m + 1) < 8 * l.length + 6 - m; have := HM.out; unfold padN at hpad; omega
        · have t1 : (((m : Int) % 6) != 0) = false := by rw [bne_eq_false_iff_eq]; rw [HM.out]; unfold padN at hpad hj; omega
          obtain ⟨gs, hgs, he, hP⟩ := enc_groups l
          have hjj : j = padN (8 * l.length) := by omega
          have hm6 : m = 6 * gs.length := by
            have := congrArg List.length hP
            rw [List.length_append, bitsOf_len, List.length_replicate, six_len] at this
            rw [HM.out, hjj]; exact this
          have HP : Hid (bitsOf l ++ List.replicate j 0 = six gs) := by rw [hjj]; exact hP
          have HE := Lib.hid he
          have HM6 := Lib.hid hm6
          have HGS := Lib.hid hgs
          clear hP he hjj hm6 hgs hpad hj
          go_wp2_with fail
          obtain ⟨hs1, hs2⟩ : (0 < gs.length → ∃ g, o1 = some ⟨g, 0, none⟩ ∧ g < wr_1.heap.size ∧ ∀ i, i < m → wr_1.cell? ⟨g, i, none⟩ = some (iv ((six gs).getD i 0))) ∧ True := by
            refine ⟨fun hp => ?_, trivial⟩
            obtain ⟨g, h1, h2, h3, h4⟩ := HRD.out (by rw [HM6.out]; omega)
            rw [HP.out] at h4
            refine ⟨g, h1, ?_, h4⟩
            exact World.block_lt_of_cell? _ ⟨g, 0, none⟩ (h4 0 (by rw [HM6.out]; omega))
          have HS := Lib.hid hs1
          have HB1 := Lib.hid hb1
          clear hs1 hs2 HRD hown1 hb1 HBL
          go_loopw [6, 7] (fun v iv wr => ∃ (i p n : Nat), i ≤ gs.length ∧ iv = .int .i64 p ∧ Hid (p = 6 * i) ∧ p ≤ m ∧ Hid (wr.ownsRow wr_1.heap.size 5 1 v n (bvs ((gs.take i).map sgn))) ∧ Below wr_1.heap.size wr_1 wr) (fun _ iv _ => m - (intOf iv).toNat)
          case atStart => exact ⟨0, 0, 0, Nat.zero_le _, rfl, rfl, Nat.zero_le _, World.ownsRow_nil _ _ _ _, Below.refl _ _⟩
          case round =>
            obtain ⟨i, p, n2, hi, rfl, HPI, hpm, HO, hb2⟩ := hrel
            rename World => wr_2
            by_cases hlt : i < gs.length
            · obtain ⟨g, rfl, hgs, hcg⟩ := HS.out (by omega)
              have hp6 : p + 6 ≤ m := by rw [HPI.out, HM6.out]; omega
              obtain ⟨q, HQ, hq⟩ : ∃ q, Hid (gs.take (i + 1) = gs.take i ++ [q]) ∧ q < 64 := by
                refine ⟨gs[i], ?_, HGS.out _ (List.getElem_mem hlt)⟩
                exact List.take_succ_eq_append_getElem hlt
              have hsix : ∀ k, k < 6 → (six gs).getD (p + k) 0 = (bitsN 6 q).getD k 0 := by
                intro k hk
                have e1 : gs = gs.take i ++ q :: gs.drop (i + 1) := by
                  have h1 := List.take_append_drop (i + 1) gs
                  rw [HQ.out, List.append_assoc] at h1
                  exact h1.symm
                have e2 : six gs = six (gs.take i) ++ (bitsN 6 q ++ six (gs.drop (i + 1))) := by
                  conv => lhs; rw [e1]
                  simp [six, List.flatMap_append, List.flatMap_cons]
                have e3 : (six (gs.take i)).length = p := by rw [six_len, List.length_take, HPI.out]; omega
                rw [e2, List.getD_eq_getElem?_getD, List.getElem?_append_right (by omega), e3, List.getElem?_append_left (by rw [bitsN_len]; omega), ← List.getD_eq_getElem?_getD]
                congr 1; omega
              have hcb : ∀ k, k < 6 → wr_2.cell? ⟨g, p + k, none⟩ = some (iv ((bitsN 6 q).getD k 0)) := by
                intro k hk
                rw [← hsix k hk]
                exact (hb2.cell (p := ⟨g, p + k, none⟩) hgs).trans (hcg (p + k) (by omega))
              rw [bits6] at hcb
              have c0 : wr_2.cell? ⟨g, p, none⟩ = some (.int .i64 (q / 32 % 2 : Nat)) := hcb 0 (by omega)
              have c1' : wr_2.cell? ⟨g, p + 1, none⟩ = some (.int .i64 (q / 16 % 2 : Nat)) := hcb 1 (by omega)
              have c2 : wr_2.cell? ⟨g, p + 2, none⟩ = some (.int .i64 (q / 8 % 2 : Nat)) := hcb 2 (by omega)
              have c3 : wr_2.cell? ⟨g, p + 3, none⟩ = some (.int .i64 (q / 4 % 2 : Nat)) := hcb 3 (by omega)
              have c4 : wr_2.cell? ⟨g, p + 4, none⟩ = some (.int .i64 (q / 2 % 2 : Nat)) := hcb 4 (by omega)
              have c5 : wr_2.cell? ⟨g, p + 5, none⟩ = some (.int .i64 (q % 2 : Nat)) := hcb 5 (by omega)
              obtain ⟨z0, hz0⟩ : ∃ z, z = q / 32 % 2 := ⟨_, rfl⟩
              obtain ⟨z1, hz1⟩ : ∃ z, z = q / 16 % 2 := ⟨_, rfl⟩
              obtain ⟨z2, hz2⟩ : ∃ z, z = q / 8 % 2 := ⟨_, rfl⟩
              obtain ⟨z3, hz3⟩ : ∃ z, z = q / 4 % 2 := ⟨_, rfl⟩
              obtain ⟨z4, hz4⟩ : ∃ z, z = q / 2 % 2 := ⟨_, rfl⟩
              obtain ⟨z5, hz5⟩ : ∃ z, z = q % 2 := ⟨_, rfl⟩
              rw [← hz0] at c0
              rw [← hz1] at c1'
              rw [← hz2] at c2
              rw [← hz3] at c3
              rw [← hz4] at c4
              rw [← hz5] at c5
              have hzq : q = 32 * z0 + 16 * z1 + 8 * z2 + 4 * z3 + 2 * z4 + z5 := by omega
              have HZQ := Lib.hid hzq
              have l0 : (z0 : Int) ≤ 1 := by omega
              have l1 : (z1 : Int) ≤ 1 := by omega
              have l2 : (z2 : Int) ≤ 1 := by omega
              have l3 : (z3 : Int) ≤ 1 := by omega
              have l4 : (z4 : Int) ≤ 1 := by omega
              have l5 : (z5 : Int) ≤ 1 := by omega
              have k0 : (0 : Int) ≤ p := by omega
              have k6 : (p : Int) + 6 ≤ m := by omega
              have k8 : (m : Int) ≤ 8006 := by omega
              clear hz0 hz1 hz2 hz3 hz4 hz5 hzq hcb hsix hcg
              go_wp2_with fail
              refine wp_loop_rounds 7 ?_
              rw [rounds_succ]
              go_wp2_with fail
              rw [rounds_succ]
              go_wp2_with fail
              rw [rounds_succ]
              go_wp2_with fail
              rw [rounds_succ]
              go_wp2_with fail
              rw [rounds_succ]
              go_wp2_with fail
              rw [rounds_succ]
              go_wp2_with fail
              rw [rounds_succ]
              go_wp2_with fail
              refine (baseSigns.alpha_any _).mono ?_
              rintro e w9 ⟨rfl, rfl⟩
              have hE : 2 * (2 * (2 * (2 * (2 * z0 + z1) + z2) + z3) + z4) + z5 = q := by have := HZQ.out; omega
              have hz : alpha.size = 64 := rfl
              have hidx : 2 * (2 * (2 * (2 * (2 * (z0 : Int) + z1) + z2) + z3) + z4) + z5 < (alpha.size : Int) := by rw [hz]; omega
              have HEE := Lib.hid hE
              have hown2 := HO.out
              have hrl : ∀ x : Value, x = bv (sgn q) → Rd (wr_2.heap.size + 1) (wr_2.alloc (.cells #[x] 5)) (.slice (some ⟨wr_2.heap.size, 0, none⟩) 1 1) [sgn q] := by
                intro x hx
                exact rd_lit wr_2 [sgn q] #[x] (by rw [hx]; rfl) 1 rfl (by show 1 ≤ maxLen; decide)
              have HRL := Lib.hid hrl
              have hlen2 : ((gs.take i).map sgn).length ≤ 2000 := by rw [List.length_map, List.length_take]; have := HM6.out; omega
              have hown2' := own_norm hown2
              have HO2 := Lib.hid hown2'
              have HL2 := Lib.hid hlen2
              clear hz hE hrl hown2 hown2' hlen2 c0 c1' c2 c3 c4 c5
              go_wp2_with (at_builtin; refine app_bytes rfl (.tmp 58) (.tmp 62) rfl rfl (HO2.out.alloc _) rfl (HRL.out _ ?r) ?c1 ?c2 ?_)
              case r => unfold bv; rw [sgn_at, HEE.out]
              case c1 => have := HL2.out; simp only [List.length_singleton]; omega
              case c2 => have := hb2.size; simp <;> omega
              intro v9 w9 hown9 hg9
              have hb9 := below_append hb2 hb2.size (Nat.le_refl _) HO2.out hg9
              have hfin : ∃ n, w9.ownsRow wr_1.heap.size 5 1 v9 n (bvs ((gs.take (i + 1)).map sgn)) := by
                have he : (gs.take (i + 1)).map sgn = List.take i (List.map sgn gs) ++ [sgn q] := by
                  rw [HQ.out, List.map_append, List.map_take]; rfl
                rw [he]
                exact ⟨_, hown9⟩
              obtain ⟨n9, hfin⟩ := hfin
              have HF := Lib.hid hfin
              clear hown9 hg9 hfin HO2 HO hb2
              go_wp2_with fail
              go_roundw
              case rel => exact ⟨i + 1, p + 6, n9, by omega, by go_num, by show p + 6 = 6 * (i + 1); rw [HPI.out]; omega, by omega, HF.out, hb9⟩
              case measure => simp [intOf]; omega
            · obtain rfl : i = gs.length := by omega
              have hpm' : p = m := by rw [HPI.out, HM6.out]
              subst hpm'
              have hown2 := HO.out
              rw [List.take_length, ← HE.out] at hown2
              have hr2 := Rd.of_own hown2
              obtain ⟨o2, c2, rfl, _, _⟩ := hr2.form
              have hcv := conv_bytes hr2
              have HB2 := Lib.hid (HB1.out.trans (hb2.mono HB1.out.size))
              obtain ⟨S, hS⟩ : ∃ S, S = str (enc l) := ⟨_, rfl⟩
              rw [← hS] at hcv
              have HSS := Lib.hid hS
              clear hown2 hr2 hS HO hb2
              go_wp2_with fail
              go_ret
              exact ⟨by rw [HSS.out]; rfl, HB2.out⟩
end Go.Proofs.YtaikdbbakdicgaaDoor
/-
  The reference's Block.
-/
namespace Go.Proofs.YtaikdbbakdicgaaDoor
open Go.ChangeShapes Go.WideShapes Go.ChangeAt Go.RowKit
set_option linter.unusedVariables false

theorem rot_still (x : UInt32) (k : Int) (hk : k ∈ turns) (w : World) :
    Calls Tryd.prog 79 #[.int .u32 x.toNat, .int .u64 k] w fun e w' => e = .returned (.int .u32 (rotr x k.toNat).toNat) ∧ w' = w :=
  (rot_any x k hk w).mono fun e w' ⟨h1, h2⟩ => ⟨h1, h2.symm⟩
theorem mulmod (c : UInt32) (x : UInt8) : ((c.toNat : Int) * 256 + (x.toNat : Int)) % 4294967296 = ((c * 256 + x.toUInt32).toNat : Int) := by
  have hx : x.toNat < 256 := x.toNat_lt
  rw [UInt32.toNat_add, UInt32.toNat_mul, UInt8.toNat_toUInt32]
  simp
/-- What the reference's Block keeps: the words under way in g4, the bytes in g1, the table in g2, the state in g0, a place for the result in g3. -/
structure Rb (w wr : World) (sl KK : List UInt32) (b : List UInt8) (z : List Value) (l : List UInt32) : Prop where
  s : Arr wr 104 w.heap.size (wvs sl)
  b : Arr wr 79 (w.heap.size + 1) (bvs b)
  t : Arr wr 114 (w.heap.size + 2) (wvs KK)
  z : Arr wr 104 (w.heap.size + 3) z
  m : Arr wr 114 (w.heap.size + 4) (wvs l)
  below : Below w.heap.size w wr
theorem Rb.later {w wr w' : World} {sl KK : List UInt32} {b : List UInt8} {z : List Value} {l : List UInt32} (h : Rb w wr sl KK b z l) (hb : Below wr.heap.size wr w') : Rb w w' sl KK b z l :=
  ⟨h.s.later hb, h.b.later hb, h.t.later hb, h.z.later hb, h.m.later hb, h.below.trans (hb.mono h.below.size)⟩
theorem Rb.set {w wr : World} {sl KK : List UInt32} {b : List UInt8} {z : List Value} {l m : List UInt32} (h : Rb w wr sl KK b z l) (i : Nat) (x : UInt32) (hm : l.set i x = m) : Rb w (wr.setCell ⟨w.heap.size + 4, i, none⟩ (.int .u32 x.toNat)) sl KK b z m := by
  subst hm
  refine ⟨h.s.setCell (by show w.heap.size ≠ w.heap.size + 4; omega) _, h.b.setCell (by show w.heap.size + 1 ≠ w.heap.size + 4; omega) _, h.t.setCell (by show w.heap.size + 2 ≠ w.heap.size + 4; omega) _, h.z.setCell (by show w.heap.size + 3 ≠ w.heap.size + 4; omega) _, ?_, h.below.setCell (by show w.heap.size ≤ w.heap.size + 4; omega) _⟩
  rw [← wvs_set]; exact h.m.set i _
theorem Rb.other {w wr : World} {sl KK : List UInt32} {b : List UInt8} {z : List Value} {l : List UInt32} (h : Rb w wr sl KK b z l) {G : Nat} (hG : w.heap.size + 4 < G) (i : Nat) (v : Value) : Rb w (wr.setCell ⟨G, i, none⟩ v) sl KK b z l :=
  ⟨h.s.setCell (by show w.heap.size ≠ G; omega) _, h.b.setCell (by show w.heap.size + 1 ≠ G; omega) _, h.t.setCell (by show w.heap.size + 2 ≠ G; omega) _, h.z.setCell (by show w.heap.size + 3 ≠ G; omega) _, h.m.setCell (by show w.heap.size + 4 ≠ G; omega) _, h.below.setCell (by show w.heap.size ≤ G; omega) _⟩
theorem add_comm8 (s t : S8) : s.add t = t.add s := by
  unfold S8.add
  simp only [UInt32.add_comm]
theorem Rb.drewN {w wr : World} {sl KK : List UInt32} {b : List UInt8} {z : List Value} {l : List UInt32} (h : Rb w wr sl KK b z l) (n : Nat) : Rb w (wr.drewN n) sl KK b z l :=
  h.later (Joins.below_draws _ _ _)

set_option maxRecDepth 100000 in
set_option maxHeartbeats 4000000 in
theorem rblock_any (s : S8) (b : List UInt8) (hb : b.length = 64) (w : World) :
    Calls Tryd.prog 72 #[.agg (wvs s.list).toArray, .agg (bvs b).toArray, .agg (wvs kk).toArray] w fun e w' => e = .returned (.agg (wvs (blk s b).list).toArray) ∧ Below w.heap.size w w' := by
  have HB := Lib.hid hb
  clear hb
  obtain ⟨sl, hsl⟩ : ∃ sl, sl = s.list := ⟨_, rfl⟩
  rw [← hsl]
  have HSL := Lib.hid hsl
  have HSN : Hid (sl.length = 8) := by rw [hsl]; rfl
  clear hsl
  obtain ⟨KK, hKK⟩ : ∃ KK, KK = kk := ⟨_, rfl⟩
  rw [← hKK]
  have HKN : Hid (KK.length = 64) := by rw [hKK]; rfl
  have HKK := Lib.hid hKK
  clear hKK
  have HST : Hid (∀ z y : Array Value, y.toList = wvs (List.replicate 64 0) → Rb w (((((w.alloc (.cells (wvs sl).toArray 104)).alloc (.cells (bvs b).toArray 79)).alloc (.cells (wvs KK).toArray 114)).alloc (.cells z 104)).alloc (.cells y 114)) sl KK b z.toList (List.replicate 64 0)) := by
    intro z y hy
    have e3 := Arr.new' (((w.alloc (.cells (wvs sl).toArray 104)).alloc (.cells (bvs b).toArray 79)).alloc (.cells (wvs KK).toArray 114)) 104 z z.toList rfl
    have e4 := Arr.new' ((((w.alloc (.cells (wvs sl).toArray 104)).alloc (.cells (bvs b).toArray 79)).alloc (.cells (wvs KK).toArray 114)).alloc (.cells z 104)) 114 y _ hy
    rw [show (((w.alloc (.cells (wvs sl).toArray 104)).alloc (.cells (bvs b).toArray 79)).alloc (.cells (wvs KK).toArray 114)).heap.size = w.heap.size + 3 by simp] at e3
    rw [show ((((w.alloc (.cells (wvs sl).toArray 104)).alloc (.cells (bvs b).toArray 79)).alloc (.cells (wvs KK).toArray 114)).alloc (.cells z 104)).heap.size = w.heap.size + 4 by simp] at e4
    exact ⟨((((Arr.new' w _ _ (wvs sl) (by simp)).alloc _).alloc _).alloc _).alloc _, (((Arr.new2 w _ _ _ (bvs b) (by simp)).alloc _).alloc _).alloc _, ((Arr.new3 w _ _ _ _ (wvs KK) (by simp)).alloc _).alloc _, e3.alloc _, e4,
      (((((Below.refl _ _).alloc (Nat.le_refl _) _).alloc (by simp) _).alloc (by simp; omega) _).alloc (by simp; omega) _).alloc (by simp; omega) _⟩
  go_enter Tryd.func72, Tryd.ntmps72
  go_wp2_with fail
  go_loopw [8] (fun iv wr => ∃ (i : Nat) (z : List Value), i ≤ 16 ∧ iv = .int .i64 i ∧ z.length = 8 ∧ Hid (Rb w wr sl KK b z (mid b (4 * i)))) (fun iv _ => 16 - (intOf iv).toNat)
  case atStart => exact ⟨0, _, by omega, rfl, rfl, by rw [Nat.mul_zero, mid_zero]; exact HST.out _ _ rfl⟩
  case round =>
    obtain ⟨i, z, hi, rfl, hz, HM⟩ := hrel
    clear HST
    have HZ := Lib.hid hz
    clear hz
    have hi0 : (0 : Int) ≤ i := by omega
    by_cases hlt : i < 16
    · have hlt1 : (i : Int) < 16 := by omega
      obtain ⟨wo, hwo⟩ : ∃ wo, wo = wr := ⟨_, rfl⟩
      subst hwo
      go_wp2_with fail
      go_loopw [9] (fun kv wr => ∃ k : Nat, k ≤ 4 ∧ kv = .int .i64 k ∧ Hid (Rb w wr sl KK b z (mid b (4 * i + k)))) (fun kv _ => 4 - (intOf kv).toNat)
      case atStart => exact ⟨0, by omega, rfl, HM.out⟩
      case round =>
        obtain ⟨k, hk, rfl, HK⟩ := hrel
        clear HM
        have hk0 : (0 : Int) ≤ k := by omega
        by_cases hlk : k < 4
        · have hlk1 : (k : Int) < 4 := by omega
          have HN := Lib.hid (mid_next b (4 * i + k) (by omega))
          rw [show (4 * i + k) / 4 = i by omega] at HN
          obtain ⟨c, hc, HC⟩ : ∃ c : UInt32, wr.cell? ⟨w.heap.size + 4, i, none⟩ = some (.int .u32 c.toNat) ∧ Hid (c = (mid b (4 * i + k)).getD i 0) := ⟨_, (HK.out.m.cell i).trans (wvs_get _ i (by rw [mid_length]; omega)), rfl⟩
          have hf := HK.out.m.free i
          obtain ⟨x, hx, HX⟩ : ∃ x : UInt8, wr.cell? ⟨w.heap.size + 1, 4 * i + k, none⟩ = some (.int .u8 x.toNat) ∧ Hid (x = b.getD (4 * i + k) 0) := ⟨_, (HK.out.b.cell (4 * i + k)).trans (bvs_getElem b _ (by rw [HB.out]; omega)), rfl⟩
          have g1 : IntKind.i64.wrap (4 * (i : Int)) = 4 * (i : Int) := IntWalk.i64_in _ (by omega)
          have g2 : IntKind.i64.wrap (4 * (i : Int) + k) = 4 * (i : Int) + k := IntWalk.i64_in _ (by omega)
          have g3 : (0 : Int) ≤ 4 * (i : Int) + k := by omega
          have g4 : 4 * (i : Int) + k < 64 := by omega
          have g5 : (4 * (i : Int) + k).toNat = 4 * i + k := by omega
          have g6 : (i : Int) < 64 := by omega
          go_wp2_with fail
          refine region_tail 13 (by kernel_rfl) (by kernel_rfl) ?_
          simp only [List.take_succ_cons, List.take_zero, List.drop_succ_cons, List.drop_zero]
          repeat still_step
          refine wpStill_nil ?_
          go_wp2_with fail
          go_roundw
          case rel =>
            refine ⟨k + 1, by omega, by go_num, ?_⟩
            have hn := HN.out
            rw [← HC.out, ← HX.out] at hn
            rw [mulmod]
            exact (HK.out.set i _ hn).drewN 1
          case measure => simp [intOf]; omega
        · rw [show (k : Int) = 4 by omega]
          have HK2 : Hid (Rb w wr sl KK b z (mid b (4 * (i + 1)))) := by
            rw [show 4 * (i + 1) = 4 * i + k by omega]; exact HK.out
          clear HK hlk hk hk0
          go_wp2_with fail
          go_roundw
          case rel => exact ⟨i + 1, z, by omega, by go_num, HZ.out, HK2.out⟩
          case measure => simp [intOf]; omega
    · rw [show (i : Int) = 16 by omega]
      have HM2 : Hid (Rb w wr sl KK b z (ext64 b 16)) := by
        rw [← mid_done, show 64 = 4 * i by omega]; exact HM.out
      clear HM hlt hi hi0
      go_wp2_with fail
      go_loopw [10] (fun iv wr => ∃ i : Nat, 16 ≤ i ∧ i ≤ 64 ∧ iv = .int .i64 i ∧ Hid (Rb w wr sl KK b z (ext64 b i))) (fun iv _ => 64 - (intOf iv).toNat)
      case atStart => exact ⟨16, by omega, by omega, rfl, HM2.out⟩
      case round =>
        obtain ⟨i, h16, hi, rfl, HM⟩ := hrel
        clear HM2
        have hi0 : (16 : Int) ≤ i := by omega
        by_cases hlt : i < 64
        · have hlt1 : (i : Int) < 64 := by omega
          have HN := Lib.hid (ext64_next b i h16 hlt)
          obtain ⟨L, hL⟩ : ∃ L, L = ext64 b i := ⟨_, rfl⟩
          rw [← hL] at HM HN
          have HL : Hid (L.length = 64) := by rw [hL]; exact ext64_length b i h16 hi
          clear hL
          obtain ⟨x15, c15, E15⟩ : ∃ c : UInt32, wr.cell? ⟨w.heap.size + 4, i - 15, none⟩ = some (.int .u32 c.toNat) ∧ Hid (c = L.getD (i - 15) 0) := ⟨_, (HM.out.m.cell _).trans (wvs_get _ _ (by rw [HL.out]; omega)), rfl⟩
          obtain ⟨x2, c2, E2⟩ : ∃ c : UInt32, wr.cell? ⟨w.heap.size + 4, i - 2, none⟩ = some (.int .u32 c.toNat) ∧ Hid (c = L.getD (i - 2) 0) := ⟨_, (HM.out.m.cell _).trans (wvs_get _ _ (by rw [HL.out]; omega)), rfl⟩
          obtain ⟨x16, c16, E16⟩ : ∃ c : UInt32, wr.cell? ⟨w.heap.size + 4, i - 16, none⟩ = some (.int .u32 c.toNat) ∧ Hid (c = L.getD (i - 16) 0) := ⟨_, (HM.out.m.cell _).trans (wvs_get _ _ (by rw [HL.out]; omega)), rfl⟩
          obtain ⟨x7, c7, E7⟩ : ∃ c : UInt32, wr.cell? ⟨w.heap.size + 4, i - 7, none⟩ = some (.int .u32 c.toNat) ∧ Hid (c = L.getD (i - 7) 0) := ⟨_, (HM.out.m.cell _).trans (wvs_get _ _ (by rw [HL.out]; omega)), rfl⟩
          have hf := HM.out.m.free i
          have hcell := (HM.out.m.cell i).trans (wvs_get _ i (by rw [HL.out]; omega))
          have t15 : ((i : Int) - 15).toNat = i - 15 := by omega
          have t2 : ((i : Int) - 2).toNat = i - 2 := by omega
          have t16 : ((i : Int) - 16).toNat = i - 16 := by omega
          have t7 : ((i : Int) - 7).toNat = i - 7 := by omega
          have hs0 : bits .xor .u32 (bits .xor .u32 ((rotr x15 7).toNat : Int) ((rotr x15 18).toNat : Int)) ((x15.toNat : Int) / 8) = ((sg0 x15).toNat : Int) := sg0_val x15
          have hs1 : bits .xor .u32 (bits .xor .u32 ((rotr x2 17).toNat : Int) ((rotr x2 19).toNat : Int)) ((x2.toNat : Int) / 1024) = ((sg1 x2).toNat : Int) := sg1_val x2
          have g16 : IntKind.i64.wrap ((i : Int) - 16) = (i : Int) - 16 := IntWalk.i64_in _ (by omega)
          have g7 : IntKind.i64.wrap ((i : Int) - 7) = (i : Int) - 7 := IntWalk.i64_in _ (by omega)
          have k7 : (7 : Int) ≤ i := by omega
          have k15 : (15 : Int) ≤ i := by omega
          have k2 : (2 : Int) ≤ i := by omega
          have z16 : (0 : Int) ≤ (i : Int) - 16 := by omega
          have z7 : (0 : Int) ≤ (i : Int) - 7 := by omega
          have y16 : (i : Int) - 16 < 64 := by omega
          have y7 : (i : Int) - 7 < 64 := by omega
          have y15 : (i : Int) - 15 < 64 := by omega
          have y2 : (i : Int) - 2 < 64 := by omega
          go_wp2_with fail
          refine region_tail 28 (by kernel_rfl) (by kernel_rfl) ?_
          simp only [List.take_succ_cons, List.take_zero, List.drop_succ_cons, List.drop_zero]
          repeat first | still_step | still_call (rot_still _ _ (by decide) _)
          refine wpStill_nil ?_
          go_wp2_with fail
          go_roundw
          case rel =>
            have hn := HN.out
            rw [← E16.out, ← E15.out, ← E7.out, ← E2.out] at hn
            refine ⟨i + 1, by omega, by omega, by go_num, ?_⟩
            rw [sum4]
            exact (HM.out.set i _ hn).drewN 1
          case measure => simp [intOf]; omega
        · rw [show (i : Int) = 64 by omega]
          have HM2 : Hid (Rb w wr sl KK b z (sched b)) := by rw [← ext64_done, show 64 = i by omega]; exact HM.out
          have HSC := Lib.hid (sched_length b)
          clear HM hlt hi hi0 h16
          have hS := HM2.out.s
          obtain ⟨G, hG⟩ : ∃ G, G = wr.heap.size := ⟨_, rfl⟩
          have HG : Hid (w.heap.size + 4 < G) := by rw [hG]; exact HM2.out.m.lt
          go_wp2_with (first
            | ((with_reducible refine load8w (x := .tmp 3) (o := ⟨some 82, _, _, _, _, _⟩) hS HSN.out ?_ ?_); exact ⟨rfl, rfl, rfl⟩)
            | ((with_reducible refine at8w wr.heap.size (x := .tmp 13) (y := .tmp 82) (l := sl) (o := ⟨none, .store _ _ _, _, _, _, _⟩) HSN.out ?_ ?_); exact ⟨rfl, rfl, rfl, rfl, rfl, rfl⟩))
          have HM5 := Lib.hid (HM2.out.later ((Below.refl wr.heap.size wr).alloc (Nat.le_refl _) (.cells (wvs sl).toArray 104)))
          have HV5 : Hid (Arr (wr.alloc (.cells (wvs sl).toArray 104)) 104 G (wvs sl)) := by rw [hG]; exact Arr.new' wr _ _ _ (by simp)
          generalize wr.alloc (.cells (wvs sl).toArray 104) = w5 at HM5 HV5 ⊢
          rw [← hG]
          clear hS HM2 hG
          obtain ⟨a0, b0, c0, d0, e0, f0, g0, h0⟩ := s
          rw [HSL.out] at HV5
          go_loopw [14] (fun iv wr => ∃ (i : Nat) (A B C D E F g' H : UInt32), i ≤ 64 ∧ iv = .int .i64 i ∧ Hid (rounds KK (sched b) i ⟨a0, b0, c0, d0, e0, f0, g0, h0⟩ = ⟨A, B, C, D, E, F, g', H⟩) ∧ Hid (Rb w wr sl KK b z (sched b)) ∧ Hid (Arr wr 104 G (wvs (S8.list ⟨A, B, C, D, E, F, g', H⟩)))) (fun iv _ => 64 - (intOf iv).toNat)
          case atStart => exact ⟨0, a0, b0, c0, d0, e0, f0, g0, h0, by omega, rfl, rfl, HM5.out, HV5.out⟩
          case round =>
            obtain ⟨i, A, B, C, D, E, F, H', H, hi, rfl, HR, HM, HV⟩ := hrel
            clear HM5 HV5
            have hi0 : (0 : Int) ≤ i := by omega
            by_cases hlt : i < 64
            · have hlt1 : (i : Int) < 64 := by omega
              obtain ⟨x, hx⟩ : ∃ x, x = (sched b).getD i 0 := ⟨_, rfl⟩
              obtain ⟨k, hk⟩ : ∃ k, k = KK.getD i 0 := ⟨_, rfl⟩
              have cx : wr.cell? ⟨w.heap.size + 4, i, none⟩ = some (.int .u32 x.toNat) := by rw [hx]; exact (HM.out.m.cell i).trans (wvs_get _ i (by rw [HSC.out]; exact hlt))
              have ck : wr.cell? ⟨w.heap.size + 2, i, none⟩ = some (.int .u32 k.toNat) := by rw [hk]; exact (HM.out.t.cell i).trans (wvs_get _ i (by rw [HKN.out]; exact hlt))
              have HX := Lib.hid hx
              have HK := Lib.hid hk
              obtain ⟨⟨q0, q1, q2, q3, q4, q5, q6, q7⟩, _⟩ := cells8 HV.out
              have r1 := Wp_wrap
              have r2 := Wp_mod
              have r3 := Wx_val
              have r4 := Wa_val
              have r5 := Wn_val
              have r6 := Wn_val'
              clear hx hk
              go_wp2_with fail
              go_quiet ((go_at_call 79; exact quiet_left (rot_any _ _ (by decide) _)))
              have eT : Wp (Wp (Wp (Wp H (Wx (Wx (rotr E 6) (rotr E 11)) (rotr E 25))) (Wx (Wa E F) (Wa (Wn E) H'))) k) x = rt ⟨A, B, C, D, E, F, H', H⟩ k x := rfl
              rw [eT]
              clear eT
              obtain ⟨T, hT⟩ : ∃ T, T = rt ⟨A, B, C, D, E, F, H', H⟩ k x := ⟨_, rfl⟩
              rw [← hT]
              have HTT := Lib.hid hT
              clear hT
              have HM6 := Lib.hid (HM.out.drewN nq)
              have HV6 := Lib.hid (HV.out.drewN nq)
              clear q0 q1 q2 q3 q4 q5 q6 q7 cx ck HM HV
              generalize wr.drewN nq = w6 at HM6 HV6 ⊢
              obtain ⟨⟨q0, q1, q2, q3, q4, q5, q6, q7⟩, _⟩ := cells8 HV6.out
              go_wp2_with fail
              go_quiet ((go_at_call 79; exact quiet_left (rot_any _ _ (by decide) _)))
              have eU : Wp (Wx (Wx (rotr A 2) (rotr A 13)) (rotr A 22)) (Wx (Wx (Wa A B) (Wa A C)) (Wa B C)) = ru ⟨A, B, C, D, E, F, H', H⟩ := rfl
              rw [eU]
              clear eU
              obtain ⟨U, hU⟩ : ∃ U, U = ru ⟨A, B, C, D, E, F, H', H⟩ := ⟨_, rfl⟩
              rw [← hU]
              have HUU := Lib.hid hU
              clear hU
              have HM7 := Lib.hid (HM6.out.drewN nq)
              have HV7 := Lib.hid (HV6.out.drewN nq)
              clear q0 q1 q2 q3 q4 q5 q6 q7 HM6 HV6
              generalize w6.drewN nq = w7 at HM7 HV7 ⊢
              obtain ⟨⟨q0, q1, q2, q3, q4, q5, q6, q7⟩, ⟨z0, z1, z2, z3, z4, z5, z6, z7⟩⟩ := cells8 HV7.out
              go_wp2_with fail
              refine wp_loop_rounds 8 ?_
              rw [rounds_succ]
              go_wp2_with fail
              rw [rounds_succ]
              go_wp2_with fail
              rw [rounds_succ]
              go_wp2_with fail
              rw [rounds_succ]
              go_wp2_with fail
              rw [rounds_succ]
              go_wp2_with fail
              rw [rounds_succ]
              go_wp2_with fail
              rw [rounds_succ]
              go_wp2_with fail
              rw [rounds_succ]
              go_wp2_with fail
              go_roundw
              case rel =>
                refine ⟨i + 1, Wp T U, A, B, C, Wp D T, E, F, H', by omega, by go_num, ?_, ?_, ?_⟩
                · show rounds KK (sched b) (i + 1) _ = _
                  rw [rounds, HR.out, ← HK.out, ← HX.out, HTT.out, HUU.out]; rfl
                · show Rb _ _ _ _ _ _ _
                  repeat (first | (with_reducible exact HM7.out) | refine Rb.other ?_ HG.out _ _)
                · have h9 := ((((((((HV7.out.set 7 (.int .u32 H'.toNat)).set 6 (.int .u32 F.toNat)).set 5 (.int .u32 E.toNat)).set 4 (.int .u32 D.toNat)).set 3 (.int .u32 C.toNat)).set 2 (.int .u32 B.toNat)).set 1 (.int .u32 A.toNat)).set 4 (.int .u32 (Wp D T).toNat)).set 0 (.int .u32 (Wp T U).toNat)
                  exact h9
              case measure => simp [intOf]; omega
            · rw [show (i : Int) = 64 by omega]
              have HR2 : Hid (rounds KK (sched b) 64 ⟨a0, b0, c0, d0, e0, f0, g0, h0⟩ = ⟨A, B, C, D, E, F, H', H⟩) := by rw [show 64 = i by omega]; exact HR.out
              clear HR hlt hi hi0
              obtain ⟨V, hV⟩ : ∃ V, V = S8.list ⟨A, B, C, D, E, F, H', H⟩ := ⟨_, rfl⟩
              rw [← hV] at HV
              have HVN : Hid (V.length = 8) := by rw [hV]; rfl
              have HVE := Lib.hid hV
              clear hV
              have HV0 : Hid (Arr wr 104 G (wvs (part8 V sl 0))) := by rw [part8_zero _ _ HVN.out]; exact HV.out
              clear HV
              go_wp2_with fail
              go_loopw [18] (fun iv wr => ∃ i : Nat, i ≤ 8 ∧ iv = .int .i64 i ∧ Hid (Rb w wr sl KK b z (sched b)) ∧ Hid (Arr wr 104 G (wvs (part8 V sl i)))) (fun iv _ => 8 - (intOf iv).toNat)
              case atStart => exact ⟨0, by omega, rfl, HM.out, HV0.out⟩
              case round =>
                obtain ⟨i, hi, rfl, HM, HV⟩ := hrel
                clear HV0
                have hi0 : (0 : Int) ≤ i := by omega
                by_cases hlt : i < 8
                · have hlt1 : (i : Int) < 8 := by omega
                  have HN := Lib.hid (part8_next V sl i hlt)
                  have HPL := Lib.hid (part8_length V sl i)
                  obtain ⟨c, hc, HC⟩ : ∃ c : UInt32, wr.cell? ⟨G, i, none⟩ = some (.int .u32 c.toNat) ∧ Hid (c = (part8 V sl i).getD i 0) := ⟨_, (HV.out.cell i).trans (wvs_get _ i (by rw [HPL.out]; exact hlt)), rfl⟩
                  obtain ⟨x, hx, HX⟩ : ∃ c : UInt32, wr.cell? ⟨w.heap.size, i, none⟩ = some (.int .u32 c.toNat) ∧ Hid (c = sl.getD i 0) := ⟨_, (HM.out.s.cell i).trans (wvs_get _ i (by rw [HSN.out]; exact hlt)), rfl⟩
                  have hf := HV.out.free i
                  have r1 := Wp_wrap
                  have r2 := Wp_mod
                  go_wp2_with fail
                  refine region_tail 8 (by kernel_rfl) (by kernel_rfl) ?_
                  simp only [List.take_succ_cons, List.take_zero, List.drop_succ_cons, List.drop_zero]
                  repeat still_step
                  refine wpStill_nil ?_
                  go_wp2_with fail
                  go_roundw
                  case rel =>
                    have hn := HN.out
                    rw [← HC.out, ← HX.out] at hn
                    refine ⟨i + 1, by omega, by go_num, (HM.out.other HG.out i _).drewN 1, ?_⟩
                    rw [← hn, ← wvs_set]
                    exact (HV.out.set i _).drewN 1
                  case measure => simp [intOf]; omega
                · rw [show (i : Int) = 8 by omega]
                  obtain ⟨R, hR⟩ : ∃ R, R = (blk ⟨a0, b0, c0, d0, e0, f0, g0, h0⟩ b).list := ⟨_, rfl⟩
                  have hM : Arr wr 104 G (wvs R) := by
                    have h := HV.out
                    rw [show i = 8 by omega, HVE.out, HSL.out, part8_done, add_comm8] at h
                    rw [hR]
                    unfold blk
                    rw [← HKK.out, HR2.out]
                    exact h
                  have HRN : Hid (R.length = 8) := by rw [hR]; rfl
                  have HRE := Lib.hid hR
                  have hZ := HM.out.z
                  have HBL := Lib.hid HM.out.below
                  clear hR HV HM hlt hi hi0
                  go_wp2_with (first
                    | ((with_reducible refine load8w (x := .tmp 13) (o := ⟨some 183, _, _, _, _, _⟩) hM HRN.out ?_ ?_); exact ⟨rfl, rfl, rfl⟩)
                    | ((with_reducible refine store8w (g := w.heap.size + 3) (x := .tmp 6) (y := .tmp 183) (l := R) (o := ⟨none, .store _ _ _, _, _, _, _⟩) hZ HZ.out HRN.out ?_ ?_); exact ⟨rfl, rfl, rfl, rfl⟩))
                  exact bodyPost_ret (res8w rfl (hZ.row _) HRN.out rfl) rfl ⟨by rw [HRE.out], below_row HBL.out (by omega) _⟩
end Go.Proofs.YtaikdbbakdicgaaDoor
/-
  The reference's Sum.
-/
namespace Go.Proofs.YtaikdbbakdicgaaDoor
open Go.ChangeShapes Go.WideShapes Go.ChangeAt Go.RowKit
set_option linter.unusedVariables false

/-- What the reference's Sum keeps: the digest's place, the state after k blocks, the table, the bytes. -/
def Rl (w : World) (G K : Nat) (T : List UInt8) (v : Value) (KK : List UInt32) (k : Nat) (wr : World) : Prop :=
  Arr wr 24 w.heap.size (bvs (List.replicate 32 0)) ∧ Arr wr 104 G (wvs (compN k st0 T).list) ∧ Arr wr 114 K (wvs KK) ∧ Held (w.heap.size + 1) wr v T ∧ Below w.heap.size w wr
theorem Rl.later {w wr w' : World} {G K : Nat} {T : List UInt8} {v : Value} {KK : List UInt32} {k : Nat} (h : Rl w G K T v KK k wr) (hb : Below wr.heap.size wr w') : Rl w G K T v KK k w' :=
  ⟨h.1.later hb, h.2.1.later hb, h.2.2.1.later hb, h.2.2.2.1.later hb, h.2.2.2.2.trans (hb.mono h.2.2.2.2.size)⟩
theorem Rl.next {w wr : World} {G K : Nat} {T : List UInt8} {v : Value} {KK : List UInt32} {k : Nat} (h : Rl w G K T v KK k wr) (hG : w.heap.size + 1 ≤ G) (hv : ∀ a n c, v = .slice (some a) n c → a.block < G) (hK : K ≠ G) :
    Rl w G K T v KK (k + 1) (wr.setRow G (wvs (blk (compN k st0 T) ((T.drop (64 * k)).take 64)).list).toArray) := by
  have hb : Below G wr (wr.setRow G (wvs (blk (compN k st0 T) ((T.drop (64 * k)).take 64)).list).toArray) := below_row (Below.refl _ _) (Nat.le_refl _) _
  refine ⟨h.1.below hb (by omega), ?_, h.2.2.1.row_other hK _, h.2.2.2.1.under hv hb, below_row h.2.2.2.2 (by omega) _⟩
  rw [comp_succ]
  exact h.2.1.row _
set_option maxRecDepth 100000 in
set_option maxHeartbeats 1000000 in
theorem rsum_any {w : World} {v : Value} {l : List UInt8} (hr : Rd w.heap.size w v l) (hl : l.length ≤ 1000000) :
    Calls Tryd.prog 58 #[v] w fun e w' => e = .returned (.agg (bvs (digest l)).toArray) ∧ Below w.heap.size w w' := by
  have HR := Lib.hid hr
  obtain ⟨q, c, rfl, hc1, hc2⟩ := hr.form
  have HL := Lib.hid hl
  have HLN : Hid (([] : List UInt8).length + l.length ≤ 140737488355328) := by show _ ≤ _; simp; omega
  have HB0 : Hid (∀ (z y : Array Value) (t t' : TypeId), Below w.heap.size w ((w.alloc (.cells z t)).alloc (.cells y t'))) := fun z y t t' => ((Below.refl _ _).alloc (Nat.le_refl _) _).alloc (by simp) _
  have HH0 : Hid (∀ (z y : Array Value) (t t' : TypeId), Held (w.heap.size + 1) ((w.alloc (.cells z t)).alloc (.cells y t')) (.slice (some ⟨w.heap.size + 1, 0, none⟩) 0 0) []) := fun z y t t' =>
    .inr ⟨w.heap.size + 1, 0, 0, rfl, by simp, by unfold maxLen; omega, by omega, by simp, fun i hi => absurd hi (by simp), fun i hi => absurd hi (by omega)⟩
  have HR0 : Hid (∀ (z y : Array Value) (t t' : TypeId), Rd w.heap.size ((w.alloc (.cells z t)).alloc (.cells y t')) (.slice q l.length c) l) := fun z y t t' => HR.out.below (HB0.out z y t t') (Nat.le_refl _)
  have HA0 : Hid (∀ (z y : Array Value) (t t' : TypeId), Arr ((w.alloc (.cells z t)).alloc (.cells y t')) t w.heap.size z.toList) := fun z y t t' => (Arr.new w t z).alloc _
  have HS0 : Hid (∀ (z y : Array Value) (t t' : TypeId), w.heap.size + 1 ≤ ((w.alloc (.cells z t)).alloc (.cells y t')).heap.size) := fun z y t t' => by simp
  clear hr hl hc1 hc2
  go_enter Tryd.func58, Tryd.ntmps58
  go_wp2_with (at_builtin; refine app_held rfl (.tmp 9) (.tmp 10) rfl rfl (HH0.out _ _ _ _) rfl (HR0.out _ _ _ _) HLN.out (HS0.out _ _ _ _) ?_; intro v1 w1 h1 b1)
  have HB1 := Lib.hid ((HB0.out _ _ _ _).trans (b1.mono (by omega)))
  have HA1 : Hid (Arr w1 24 w.heap.size (bvs (List.replicate 32 0))) := Arr.below (HA0.out _ _ _ _) b1 (by omega)
  have hsz1 : w.heap.size + 1 ≤ w1.heap.size := Nat.le_trans (HS0.out _ _ _ _) b1.size
  rw [List.nil_append] at h1
  have HH1 := Lib.hid h1
  clear b1 h1 HR0 HA0 HS0 HH0 HB0 HLN
  have HSZ1 := Lib.hid hsz1
  clear hsz1
  refine (rpad_any l.length (by have := HL.out; omega) w1).mono ?_
  rintro e w2 ⟨v2, rfl, o2, b2⟩
  have HB2 := Lib.hid (HB1.out.trans (b2.mono HB1.out.size))
  have HA2 := Lib.hid (HA1.out.later b2)
  have HSZ2 := Lib.hid (Nat.le_trans HSZ1.out b2.size)
  have HH2 := Lib.hid (HH1.out.later b2)
  have HR2 := Lib.hid (Rd.of_own o2)
  obtain ⟨P, hP⟩ : ∃ P, P = padding l.length := ⟨_, rfl⟩
  rw [← hP] at HR2
  have HPL : Hid (P.length ≤ 72) := by
    have := padding_length l.length
    have hz : zeros l.length < 64 := by unfold zeros; omega
    show _ ≤ _; rw [hP]; omega
  have HPM : Hid ((l ++ P).length % 64 = 0) := by
    have := padding_whole l.length
    show _ = _; rw [List.length_append, hP]; omega
  have HP := Lib.hid hP
  have HLN : Hid (l.length + P.length ≤ 140737488355328) := by have := HL.out; have := HPL.out; show _ ≤ _; omega
  clear o2 b2 hP HB1 HA1 HH1 HSZ1
  go_wp2_with (at_builtin; refine app_held rfl (.tmp 11) (.tmp 14) rfl rfl HH2.out rfl HR2.out HLN.out HSZ2.out ?_; intro v3 w3 h3 b3)
  have HB3 := Lib.hid (HB2.out.trans (b3.mono (by omega)))
  have HA3 := Lib.hid (HA2.out.below b3 (by omega))
  have HSZ3 := Lib.hid (Nat.le_trans HSZ2.out b3.size)
  obtain ⟨T, hT⟩ : ∃ T, T = l ++ P := ⟨_, rfl⟩
  have HTL : Hid (T.length % 64 = 0 ∧ T.length ≤ 1000100) := by
    have h1 := HPM.out; have h2 := HPL.out; have h3 := HL.out
    rw [← hT] at h1
    refine ⟨h1, ?_⟩
    rw [hT, List.length_append]; omega
  have HD : Hid (joinS (compN (T.length / 64) st0 T) = digest l) := by show _ = _; rw [hT, HP.out]; rfl
  rw [← hT] at h3
  have HH3 := Lib.hid h3
  clear h3 b3 hT HB2 HA2 HSZ2 HH2 HR2 HPL HPM HP HLN HR HL
  refine (rstart_any w3).mono ?_
  rintro e w4 ⟨rfl, b4⟩
  have HB4 := Lib.hid (HB3.out.trans (b4.mono HB3.out.size))
  have HA4 := Lib.hid (HA3.out.later b4)
  have HSZ4 := Lib.hid (Nat.le_trans HSZ3.out b4.size)
  have HH4 := Lib.hid (HH3.out.later b4)
  clear b4 HB3 HA3 HSZ3 HH3
  obtain ⟨S0, hS0⟩ : ∃ S0, S0 = st0.list := ⟨_, rfl⟩
  rw [← hS0]
  have HS0 := Lib.hid hS0
  have HS0L : Hid (S0.length = 8) := by rw [hS0]; rfl
  clear hS0
  go_wp2_with ((with_reducible refine new8w (x := .tmp 4) (y := .tmp 16) (l := S0) (o := ⟨none, .store _ _ _, _, _, _, _⟩) HS0L.out ?_ ?_); exact ⟨rfl, rfl, rfl, rfl, rfl⟩)
  have hba : Below w4.heap.size w4 (w4.alloc (.cells (wvs S0).toArray 104)) := (Below.refl _ _).alloc (Nat.le_refl _) _
  have HB5 := Lib.hid (HB4.out.trans (hba.mono HB4.out.size))
  have HA5 := Lib.hid (HA4.out.later hba)
  have HH5 := Lib.hid (HH4.out.later hba)
  have HG5 : Hid (w.heap.size + 1 ≤ w4.heap.size ∧ ∀ a n c, v3 = .slice (some a) n c → a.block < w4.heap.size) := ⟨HSZ4.out, HH4.out.lt⟩
  have HS5 : Hid (Arr (w4.alloc (.cells (wvs S0).toArray 104)) 104 w4.heap.size (wvs S0)) := Arr.new' w4 _ _ (wvs S0) (by simp)
  generalize w4.alloc (.cells (wvs S0).toArray 104) = w5 at HB5 HA5 HH5 HS5 ⊢
  clear hba HB4 HA4 HSZ4 HH4
  generalize w4.heap.size = G at HG5 HS5 ⊢
  refine (rtable_any w5).mono ?_
  rintro e w6 ⟨rfl, b6⟩
  have HB6 := Lib.hid (HB5.out.trans (b6.mono HB5.out.size))
  have HA6 := Lib.hid (HA5.out.later b6)
  have HS6 := Lib.hid (HS5.out.later b6)
  have HH6 := Lib.hid (HH5.out.later b6)
  clear b6 HB5 HA5 HS5 HH5
  obtain ⟨KK, hKK⟩ : ∃ KK, KK = kk := ⟨_, rfl⟩
  rw [← hKK]
  have HKK := Lib.hid hKK
  have HKL : Hid (KK.length = 64) := by rw [hKK]; rfl
  clear hKK
  go_wp2_with ((with_reducible refine new64w (x := .tmp 5) (y := .tmp 17) (l := KK) (o := ⟨none, .store _ _ _, _, _, _, _⟩) HKL.out ?_ ?_); exact ⟨rfl, rfl, rfl, rfl, rfl⟩)
  have hbk : Below w6.heap.size w6 (w6.alloc (.cells (wvs KK).toArray 114)) := (Below.refl _ _).alloc (Nat.le_refl _) _
  have HRL : Hid (Rl w G w6.heap.size T v3 KK 0 (w6.alloc (.cells (wvs KK).toArray 114))) := by
    refine ⟨HA6.out.later hbk, ?_, Arr.new' w6 _ _ (wvs KK) (by simp), HH6.out.later hbk, HB6.out.trans (hbk.mono HB6.out.size)⟩
    have := HS6.out.later hbk
    rw [HS0.out] at this
    exact this
  have HKG : Hid (w6.heap.size ≠ G) := Nat.ne_of_gt HS6.out.lt
  generalize w6.alloc (.cells (wvs KK).toArray 114) = w7 at HRL ⊢
  clear hbk HB6 HA6 HS6 HH6 HS0 HS0L
  generalize w6.heap.size = K at HRL HKG ⊢
  go_loopw [6] (fun iv wr => ∃ k : Nat, 64 * k ≤ T.length ∧ iv = .int .i64 (64 * k : Nat) ∧ Hid (Rl w G K T v3 KK k wr)) (fun iv _ => T.length - (intOf iv).toNat)
  case atStart => exact ⟨0, by omega, rfl, HRL.out⟩
  case round =>
    obtain ⟨k, hk, rfl, HM⟩ := hrel
    clear HRL
    obtain ⟨j, hj⟩ : ∃ j, j = 64 * k := ⟨_, rfl⟩
    obtain ⟨n, hn⟩ : ∃ n, n = T.length := ⟨_, rfl⟩
    have hn1 : n ≤ 1000100 := by rw [hn]; exact HTL.out.2
    have hnm : n % 64 = 0 := by rw [hn]; exact HTL.out.1
    rw [← hj]
    rw [← hj, ← hn] at hk
    by_cases hlt : j < n
    · have h64 : j + 64 ≤ n := by omega
      have HHe := HM.out.2.2.2.1
      rcases HHe with ⟨_, h0⟩ | ⟨g, off, c3, rfl, h1, h2, h3, h4, h5, h6⟩
      · rw [h0] at hn; simp at hn; omega
      have HRG : Hid (wr.rangeAt g (off + j) (bvs ((T.drop j).take 64))) := by
        refine range_bytes (l := T.drop j) (fun i hi => ?_) 64 (by rw [List.length_drop]; omega)
        rw [List.length_drop] at hi
        rw [Nat.add_assoc, h5 (j + i) (by omega)]
        congr 2
        simp [List.getD_eq_getElem?_getD]
      rw [← hn] at HM HG5 h1 ⊢
      have i0 : (0 : Int) ≤ j := by omega
      have i1 : (j : Int) < n := by omega
      have i2 : (j : Int) + 64 ≤ n := by omega
      have i3 : (j : Int) + 64 ≤ c3 := by omega
      have i4 : (n : Int) ≤ c3 := by omega
      have i5 : IntKind.i64.wrap ((j : Int) + 64) = (j : Int) + 64 := by rw [IntKind.wrap_i64]; omega
      have i6 : (0 : Int) ≤ (j : Int) + 64 := by omega
      have i7 : ((j : Int) + 64).toNat = j + 64 := by omega
      have i8 : ¬ c3 = j := by omega
      have i9 : j ≤ j + 64 := by omega
      have i10 : j + 64 - j = 64 := by omega
      clear h2 h3 h4 h5 h6
      have HT64 : Hid (((T.drop j).take 64).length = 64) := by show _ = _; rw [List.length_take, List.length_drop, ← hn]; omega
      have HJ := Lib.hid hj
      have HN := Lib.hid hn
      clear hj hn
      go_wp2_with fail
      refine region_tail 9 (by kernel_rfl) (by kernel_rfl) ?_
      simp only [List.take_succ_cons, List.take_zero, List.drop_succ_cons, List.drop_zero]
      have hM : Rl w G K T (.slice (some ⟨g, off, none⟩) n c3) KK k wr.drew := HM.out.later (Below.refl _ _).drew
      have hR : wr.drew.rangeAt g (off + j) (bvs (List.take 64 (List.drop j T))) := HRG.out
      clear HM HRG
      generalize wr.drew = w8 at hM hR ⊢
      have HM := Lib.hid hM
      have hS := hM.2.1
      have hK := hM.2.2.1
      clear hM
      obtain ⟨S, hS8⟩ : ∃ S, S = compN k st0 T := ⟨_, rfl⟩
      rw [← hS8] at hS
      have HS8 := Lib.hid hS8
      clear hS8
      have HL8 : Hid (S.list.length = 8) := rfl
      ((with_reducible refine still8w (x := .tmp 4) (o := ⟨some 24, _, _, _, _, _⟩) hS HL8.out ?_ ?_); exact ⟨rfl, rfl, rfl⟩)
      have har := arr_at ⟨g, off + j, none⟩ 64 (c3 - j) (by omega)
      still_step
      still_step
      still_step
      still_step
      still_step
      still_step
      ((with_reducible refine still64b (x := .tmp 30) (o := ⟨some 31, _, _, _, _, _⟩) hR HT64.out ?_ ?_); exact ⟨rfl, rfl, rfl⟩)
      ((with_reducible refine still64w (x := .tmp 5) (o := ⟨some 32, _, _, _, _, _⟩) hK HKL.out ?_ ?_); exact ⟨rfl, rfl, rfl⟩)
      refine wpStill_nil ?_
      have HK8 := Lib.hid hK
      have HSS := Lib.hid hS
      clear hK hS hR har
      go_wp2_with fail
      have hbk := rblock_any S (List.take 64 (List.drop j T)) HT64.out w8
      rw [← HKK.out] at hbk
      refine hbk.mono ?_
      clear hbk
      rintro e w9 ⟨rfl, b9⟩
      obtain ⟨R, hRR⟩ : ∃ R, R = (blk S (List.take 64 (List.drop j T))).list := ⟨_, rfl⟩
      rw [← hRR]
      have HBL : Hid (R.length = 8) := by rw [hRR]; rfl
      have HRR := Lib.hid hRR
      clear hRR
      have hA := HSS.out.later b9
      have HBN : Hid ((wvs S.list).length = 8) := rfl
      have HM9 := Lib.hid (HM.out.later b9)
      clear b9 HM HSS HK8
      go_wp2_with ((with_reducible refine store8w (x := .tmp 4) (y := .tmp 33) (l := R) (o := ⟨none, .store _ _ _, _, _, _, _⟩) hA HBN.out HBL.out ?_ ?_); exact ⟨rfl, rfl, rfl, rfl⟩)
      have hnx := HM9.out.next HG5.out.1 HG5.out.2 HKG.out
      rw [← HJ.out, ← HS8.out, ← HRR.out] at hnx
      have HNX := Lib.hid hnx
      have hj2 : j + 64 = 64 * (k + 1) := by have := HJ.out; omega
      clear hnx HM9 hA
      go_roundw
      case rel =>
        refine ⟨k + 1, ?_, ?_, HNX.out⟩
        · have := HN.out; omega
        · rw [← hj2]; go_num
      case measure => simp [intOf]; have := HN.out; omega
    · have hjn : j = n := by omega
      have hkq : k = T.length / 64 := by omega
      obtain ⟨S, hS8⟩ : ∃ S, S = compN k st0 T := ⟨_, rfl⟩
      have HDS : Hid (joinS S = digest l) := by show _ = _; rw [hS8, hkq]; exact HD.out
      have HJD := Lib.hid (jpart_done S)
      obtain ⟨L, hL⟩ : ∃ L, L = S.list := ⟨_, rfl⟩
      rw [← hL] at HJD
      have HLL : Hid (L.length = 8) := by rw [hL]; rfl
      have HM2 : Hid (Arr wr 24 w.heap.size (bvs (jpart L 0)) ∧ Arr wr 104 G (wvs L) ∧ Below w.heap.size w wr) := by
        refine ⟨?_, ?_, HM.out.2.2.2.2⟩
        · rw [jpart_zero]; exact HM.out.1
        · rw [hL, hS8]; exact HM.out.2.1
      have HHF := HM.out.2.2.2.1.form
      obtain ⟨q3, c3, rfl, _, _⟩ := HHF
      rw [← hn]
      rw [hjn]
      clear HM hk hlt hnm hS8 hL hkq hj hjn HD HTL hn
      go_wp2_with fail
      obtain ⟨wo, hwo⟩ : ∃ wo, wo = wr := ⟨_, rfl⟩
      subst hwo
      have hlo := HM2.out.2.2.size
      have HGW : Hid (wo.heap.size ≠ G ∧ w.heap.size < wo.heap.size) := ⟨Nat.ne_of_gt HM2.out.2.1.lt, HM2.out.1.lt⟩
      have HST : Hid (∀ z : Array Value, z.toList = bvs (jpart L 0) → Arr (wo.alloc (.cells z 24)) 24 wo.heap.size (bvs (jpart L 0)) ∧ Arr (wo.alloc (.cells z 24)) 104 G (wvs L) ∧ Arr (wo.alloc (.cells z 24)) 24 w.heap.size (bvs (jpart L 0)) ∧ Below w.heap.size w (wo.alloc (.cells z 24))) :=
        fun z hz => ⟨Arr.new' _ _ _ _ hz, HM2.out.2.1.alloc _, HM2.out.1.alloc _, HM2.out.2.2.alloc hlo _⟩
      clear HG5 HKG HKK HKL hlo HM2
      go_loopw [8] (fun iv wr => ∃ i : Nat, i ≤ 32 ∧ iv = .int .i64 i ∧ Hid (Arr wr 24 wo.heap.size (bvs (jpart L i)) ∧ Arr wr 104 G (wvs L) ∧ Arr wr 24 w.heap.size (bvs (jpart L 0)) ∧ Below w.heap.size w wr)) (fun iv _ => 32 - (intOf iv).toNat)
      case atStart => exact ⟨0, by omega, rfl, HST.out _ (by rw [jpart_zero]; rfl)⟩
      case round =>
        obtain ⟨i, hi, rfl, HK⟩ := hrel
        clear HST
        have hi0 : (0 : Int) ≤ i := by omega
        by_cases hlt : i < 32
        · have hlt1 : (i : Int) < 32 := by omega
          have hf := HK.out.1.free i
          have hc := (HK.out.1.cell i).trans (bvs_getElem _ _ (by rw [jpart_length]; omega))
          have hd := (HK.out.2.1.cell (i / 4)).trans (wvs_get L (i / 4) (by rw [HLL.out]; omega))
          have h0 : (0 : Int) ≤ (i : Int) / 4 := by omega
          have h1 : (i : Int) / 4 < 8 := by omega
          have h2 : (0 : Int) ≤ 24 - 8 * ((i : Int) % 4) := by omega
          unfold bv at hc
          go_wp2_with fail
          go_roundw
          case rel =>
            refine ⟨i + 1, by omega, by go_num, ?_⟩
            have hv := jbyte_val L (i / 4) (i % 4) (Nat.mod_lt _ (by omega))
            rw [show 4 * (i / 4) + i % 4 = i from Nat.div_add_mod _ _, List.getD_eq_getElem?_getD] at hv
            rw [hv, ← jpart_next L i (by omega), ← bvs_set]
            exact ⟨HK.out.1.set _ _, HK.out.2.1.setCell (Ne.symm HGW.out.1) _, HK.out.2.2.1.setCell (Nat.ne_of_lt HGW.out.2) _, HK.out.2.2.2.setCell (Nat.le_of_lt HGW.out.2) _⟩
          case measure => simp [intOf]; omega
        · rw [show (i : Int) = 32 by omega]
          have HK2 : Hid (Arr wr 24 wo.heap.size (bvs (digest l)) ∧ Arr wr 24 w.heap.size (bvs (jpart L 0)) ∧ Below w.heap.size w wr) := by
            rw [← HDS.out, ← HJD.out, show 32 = i by omega]; exact ⟨HK.out.1, HK.out.2.2⟩
          clear HK hlt hi hi0
          obtain ⟨R, hR⟩ : ∃ R, R = digest l := ⟨_, rfl⟩
          have HRL : Hid (R.length = 32) := by rw [hR, ← HDS.out]; exact joinS_length S
          rw [← hR] at HK2
          have HRE := Lib.hid hR
          clear hR
          have hM := HK2.out.1
          have hO := HK2.out.2.1
          have HO : Hid ((bvs (jpart L 0)).length = 32) := by show _ = _; rw [bvs_length, jpart_length]
          go_wp2_with (first
            | ((with_reducible refine load32b (x := .tmp 7) (o := ⟨some 51, _, _, _, _, _⟩) hM HRL.out ?_ ?_); exact ⟨rfl, rfl, rfl⟩)
            | ((with_reducible refine store32b (x := .tmp 2) (y := .tmp 51) (l := R) (o := ⟨none, .store _ _ _, _, _, _, _⟩) hO HO.out HRL.out ?_ ?_); exact ⟨rfl, rfl, rfl, rfl⟩))
          exact bodyPost_ret (res32b rfl (hO.row _) HRL.out rfl) rfl ⟨by rw [HRE.out], below_row HK2.out.2.2 (Nat.le_refl _) _⟩
end Go.Proofs.YtaikdbbakdicgaaDoor
/-
  Two slices of bytes of the call's own that are appended to in turn.
-/
namespace Go.Proofs.YtaikdbbakdicgaaDoor
open Go.ChangeShapes Go.WideShapes Go.ChangeAt Go.RowKit
set_option linter.unusedVariables false

theorem heap_setCells {g k : Nat} (hk : k ≠ g) : ∀ (vs : List Value) (o : Nat) (w : World), (w.setCells g o vs).heap[k]? = w.heap[k]?
  | [], _, _ => rfl
  | v :: r, o, w => (heap_setCells hk r (o + 1) _).trans (Below.heap_setCell w ⟨g, o, none⟩ v k hk)
theorem Held.keep {base : Nat} {w w' : World} {v : Value} {l : List UInt8} (h : Held base w v l) (hk : ∀ a n c, v = .slice (some a) n c → w'.heap[a.block]? = w.heap[a.block]?) (hs : w.heap.size ≤ w'.heap.size) : Held base w' v l := by
  rcases h with h | ⟨g, off, cap, hv, h1, h2, h3, h4, h5, h6⟩
  · exact .inl h
  · have hg : w'.heap[g]? = w.heap[g]? := hk ⟨g, off, none⟩ _ _ hv
    exact .inr ⟨g, off, cap, hv, h1, h2, h3, by omega, fun i hi => (World.cell?_of_block hg).trans (h5 i hi), fun i hi => by
      rw [World.cell?_of_block (show w'.heap[(⟨g, off + i, none⟩ : Addr).block]? = _ from hg), World.frozen?_of_block (show w'.heap[(⟨g, off + i, none⟩ : Addr).block]? = _ from hg)]; exact h6 i hi⟩
/-- append, and what it leaves alone. -/
theorem run_held3 {w : World} {base C : Nat} {v vx : Value} {l m : List UInt8} (hh : Held base w v l) (hr : Rd C w vx m) (hlen : l.length + m.length ≤ 140737488355328) (hbase : base ≤ w.heap.size) (ty : TypeId) :
    ∃ v' w', (Builtin.append_ #[22, 22] ty #[v, vx]).run Tryd.prog w = .ok v' w' ∧ Held base w' v' (l ++ m) ∧ Below base w w' ∧
      (∀ k, k < w.heap.size → (∀ a n c, v = .slice (some a) n c → a.block ≠ k) → w'.heap[k]? = w.heap[k]?) ∧
      (∀ a n c, v' = .slice (some a) n c → (∃ a0 n0 c0, v = .slice (some a0) n0 c0 ∧ a.block = a0.block) ∨ w.heap.size ≤ a.block) := by
  obtain ⟨i0, hi, hz0, hz1, hz2⟩ := info_parts Tryd.info5
  have fresh : ∀ (v' : Value) (w' : World) (n : Nat) (xs : List Value), w'.ownsRow w.heap.size 5 1 v' n xs → ∀ a k c, v' = .slice (some a) k c → w.heap.size ≤ a.block := by
    intro v' w' n xs ho a k c e
    rcases ho.2 with ⟨h, _⟩ | ⟨g, cap, cur, h, hb, _⟩
    · rw [h] at e; cases e
    · rw [h] at e; cases e; exact hb
  rcases src_of_rd hr with ⟨rfl, rfl⟩ | ⟨ad, c, rfl, hc⟩
  · rw [List.append_nil]
    rcases hh with ⟨rfl, rfl⟩ | ⟨g, off, cap, rfl, h1, h2, h3, h4, h5, h6⟩
    · exact ⟨.slice none 0 0, w, by simp [Builtin.append_, run_underlying Tryd.underlying22, sizeOf, typeInfo, hi, Builtin.lenOf, Builtin.firstCells], .inl ⟨rfl, rfl⟩, Below.refl _ _, fun _ _ _ => rfl, fun _ _ _ h => by cases h⟩
    · have hs := Src.ofNil (P := Tryd.prog) (size := i0.size) w Tryd.underlying22 0
      have h := run_append_room_src (P := Tryd.prog) w 22 22 ty 5 i0 Tryd.underlying22 hi g off l.length cap _ 0 [] hs (by omega) (fun j hj => by simp at hj) (fun j hj => by simp at hj)
      exact ⟨_, _, h, .inr ⟨g, off, cap, rfl, h1, h2, h3, h4, h5, h6⟩, Below.refl _ _, fun _ _ _ => rfl, fun a n c e => .inl ⟨_, _, _, rfl, by cases e; rfl⟩⟩
  · rcases hh with ⟨rfl, rfl⟩ | ⟨g, off, cap, rfl, h1, h2, h3, h4, h5, h6⟩
    · obtain ⟨v', w', hrun, ho, hg, _⟩ := run_append_own (P := Tryd.prog) w w.heap.size 22 ty 5 i0 (.int .u8 0) 1 1 Tryd.underlying22 hi hz0 hz1 hz2 rfl (by decide) (.slice none 0 0) 0 [] (World.ownsRow_nil _ _ _ _) ad m.length c (bvs m) (by simp [bvs]) hc (bvs_one m) (by unfold maxLen; omega) (by omega) (Nat.le_refl _)
      have hb : Below w.heap.size w w' := (Below.refl _ _).grown hg (Nat.le_refl _) (fun k hk => by cases hk)
      exact ⟨v', w', hrun, (Held.of_own (n := 0 + m.length) (by simpa using ho)).mono hbase, hb.mono hbase, fun k hk _ => hb.block k hk, fun a n c e => .inr (fresh v' w' _ _ ho a n c e)⟩
    · by_cases hroom : l.length + m.length ≤ cap
      · obtain ⟨v', w', hrun, r1, r2⟩ := run_held (.inr ⟨g, off, cap, rfl, h1, h2, h3, h4, h5, h6⟩) hr hlen hbase ty
        have h := run_append_room_cells (P := Tryd.prog) w 22 ty 5 i0 Tryd.underlying22 hi g off l.length cap ad m.length c (bvs m) (by rw [hz1]; simp [bvs]) hc (bvs_one m) hroom
          (fun j hj => by rw [hz1, Nat.mul_one, Nat.add_assoc]; exact (h6 (l.length + j) (by rw [bvs_length] at hj; omega)).1) (fun j hj => by rw [hz1, Nat.mul_one, Nat.add_assoc]; exact (h6 (l.length + j) (by rw [bvs_length] at hj; omega)).2)
        rw [hz1, Nat.mul_one] at h
        rw [h] at hrun
        obtain ⟨rfl, rfl⟩ : _ ∧ _ := by simpa using hrun
        exact ⟨_, _, h, r1, r2, fun k hk hne => heap_setCells (fun e => hne ⟨g, off, none⟩ _ _ rfl e.symm) _ _ _, fun a n c e => .inl ⟨_, _, _, rfl, by cases e; rfl⟩⟩
      · obtain ⟨v', w', hrun, ho, hg⟩ := run_append_arg_grows (P := Tryd.prog) w 22 ty 5 i0 (.int .u8 0) 1 1 Tryd.underlying22 hi hz0 hz1 hz2 rfl (by decide) ⟨g, off, none⟩ l.length cap (bvs l) (by simp [bvs])
          (fun j u hj => by
            have hjl : j < l.length := by
              have := (List.getElem?_eq_some_iff.1 hj).1; simpa [bvs] using this
            rw [bvs_getElem l j hjl] at hj
            simp only [Option.some.injEq] at hj
            subst hj
            rw [Addr.add_mid]; exact h5 j hjl) ad m.length c (bvs m) (by simp [bvs]) hc (by omega) (by unfold maxLen; omega) (by omega)
        have hb : Below w.heap.size w w' := (Below.refl _ _).grown hg (Nat.le_refl _) (fun k hk => by cases hk)
        refine ⟨v', w', hrun, (Held.of_own (n := l.length + m.length) ?_).mono hbase, hb.mono hbase, fun k hk _ => hb.block k hk, fun a n c e => .inr (fresh v' w' _ _ ho a n c e)⟩
        rw [bvs_append]; exact ho
/-- Two slices of the call's own, in blocks of their own. -/
def Two (base : Nat) (w : World) (v1 : Value) (l1 : List UInt8) (v2 : Value) (l2 : List UInt8) : Prop :=
  Held base w v1 l1 ∧ Held base w v2 l2 ∧ ∀ a n c a' n' c', v1 = .slice (some a) n c → v2 = .slice (some a') n' c' → a.block ≠ a'.block
theorem Two.swap {base : Nat} {w : World} {v1 v2 : Value} {l1 l2 : List UInt8} (h : Two base w v1 l1 v2 l2) : Two base w v2 l2 v1 l1 :=
  ⟨h.2.1, h.1, fun a n c a' n' c' e1 e2 => Ne.symm (h.2.2 a' n' c' a n c e2 e1)⟩
theorem Two.later {base : Nat} {w w' : World} {v1 v2 : Value} {l1 l2 : List UInt8} (h : Two base w v1 l1 v2 l2) (hb : Below w.heap.size w w') : Two base w' v1 l1 v2 l2 :=
  ⟨h.1.later hb, h.2.1.later hb, h.2.2⟩
theorem Two.nil (base : Nat) (w : World) : Two base w (.slice none 0 0) [] (.slice none 0 0) [] := ⟨.inl ⟨rfl, rfl⟩, .inl ⟨rfl, rfl⟩, fun _ _ _ _ _ _ h => by cases h⟩
section
variable {ops : Array Oper} {rest : List Oper} {o : Oper} {a : Act} {Q : Exit → Act → World → Prop} {w : World}
theorem app_two (hgd : o.guard = none) (s x : Operand) (ho : o.op = .call { callee := .builtin .append, args := #[s, x], argTypes := #[22, 22] })
    {base C : Nat} {v v2 vx : Value} {l l2 m : List UInt8} (hs : a.eval s = v) (hh : Two base w v l v2 l2) (hx : a.eval x = vx) (hr : Rd C w vx m) (hlen : l.length + m.length ≤ 140737488355328) (hbase : base ≤ w.heap.size)
    (h : ∀ v' w', Two base w' v' (l ++ m) v2 l2 → Below base w w' → wpList Tryd.prog ops Q rest (a.put o.dst v') w') : wpList Tryd.prog ops Q (o :: rest) a w := by
  refine wpList_plain hgd fun K hK' => ?_
  obtain ⟨v', w', hrun, r1, r2, r3, r4⟩ := run_held3 hh.1 hr hlen hbase o.type
  unfold Oper.wp
  simp [execOp, ho, resolve, invoke, builtin, hs, hx, hrun, Result.andThen]
  refine hK' _ _ (h v' w' ⟨r1, hh.2.1.keep (fun a n c e => r3 _ (hh.2.1.lt a n c e) (fun a' n' c' e' => hh.2.2 a' n' c' a n c e' e)) r2.size, fun a n c a' n' c' e1 e2 => ?_⟩ r2)
  rcases r4 a n c e1 with ⟨a0, n0, c0, e0, hb⟩ | hb
  · rw [hb]; exact hh.2.2 a0 n0 c0 a' n' c' e0 e2
  · have := hh.2.1.lt a' n' c' e2; omega
end
end Go.Proofs.YtaikdbbakdicgaaDoor
