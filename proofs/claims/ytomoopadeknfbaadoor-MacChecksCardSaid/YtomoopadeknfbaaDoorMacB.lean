/-
  mac.Sum and its closure.
-/
import Derived.Test.YtomoopadeknfbaaDoorMacA
import Derived.Test.YtomoopadeknfbaaDoorParts
namespace Go.Proofs.YtomoopadeknfbaaDoor
open Go.ChangeShapes Go.WideShapes Go.ChangeAt Go.RowKit
set_option linter.unusedVariables false

theorem at64b {ops : Array Oper} {rest : List Oper} {o : Oper} {a : Act} {Q : Exit → Act → World → Prop} {w : World} {t : TypeId} {x y : Operand} (n : Nat) {l : List UInt8} {cs : Array Value} (hl : l.length = 64)
    (hs : o.guard = none ∧ o.op = .store 40 x y ∧ a.eval x = .pointer (some ⟨n, 0, none⟩) ∧ a.eval y = .agg (bvs l).toArray ∧ cs.toList.length = 64 ∧ n = w.heap.size)
    (hk : wpList Tryd.prog ops Q rest (a.put o.dst undef) (w.alloc (.cells (bvs l).toArray t))) : wpList Tryd.prog ops Q (o :: rest) a (w.alloc (.cells cs t)) := by
  obtain ⟨h1, h2, h3, h4, h5, rfl⟩ := hs
  exact store_arr h1 _ _ _ h2 (Arr.new w t cs) h3 h4 (by rw [bvs_length, hl]; kernel_rfl) (by rw [h5, bvs_length, hl]) (bvs_oneCell l) (by rw [World.setRow_alloc_new]; exact hk)
def xorL (m : UInt8) (l : List UInt8) : List UInt8 := l.map (· ^^^ m)
/-- The block when i bytes of it are masked. -/
def xpart (m : UInt8) (l : List UInt8) (i : Nat) : List UInt8 := xorL m (l.take i) ++ l.drop i
theorem xorL_length (m : UInt8) (l : List UInt8) : (xorL m l).length = l.length := by simp [xorL]
theorem xpart_length (m : UInt8) (l : List UInt8) (i : Nat) : (xpart m l i).length = l.length := by
  simp [xpart, xorL_length]; omega
theorem xpart_get (m : UInt8) (l : List UInt8) (i : Nat) (h : i < l.length) : (xpart m l i).getD i 0 = l.getD i 0 := by
  have e : (xorL m (l.take i)).length = i := by rw [xorL_length, List.length_take]; omega
  simp only [xpart, List.getD_eq_getElem?_getD]
  rw [List.getElem?_append_right (by omega), e]
  simp
theorem xpart_next (m : UInt8) (l : List UInt8) (i : Nat) (h : i < l.length) : (xpart m l i).set i (l.getD i 0 ^^^ m) = xpart m l (i + 1) := by
  have e : (xorL m (l.take i)).length = i := by rw [xorL_length, List.length_take]; omega
  rw [xpart, List.set_append_right _ _ (by omega), e, Nat.sub_self, List.drop_eq_getElem_cons h, List.set_cons_zero, xpart, List.take_succ_eq_append_getElem h]
  simp only [xorL, List.map_append, List.append_assoc, List.map_cons, List.map_nil, List.singleton_append, List.getD_eq_getElem?_getD, List.getElem?_eq_getElem h, Option.getD_some]
theorem xpart_done (m : UInt8) (l : List UInt8) : xpart m l l.length = xorL m l := by simp [xpart]
theorem u8x (x m : UInt8) : bits .xor .u8 (x.toNat : Int) (m.toNat : Int) = ((x ^^^ m).toNat : Int) := by
  rw [u8_xor_nat _ _ x.toNat_lt m.toNat_lt, UInt8.toNat_xor]
theorem xpart_zero (m : UInt8) (l : List UInt8) : xpart m l 0 = l := by simp [xpart, xorL]
theorem RdAll.mono {B C : Nat} {w : World} {oa : Option Addr} {ls : List (List UInt8)} (h : RdAll B w oa ls) (hB : B ≤ C) : RdAll C w oa ls := by
  intro h0
  obtain ⟨b, off, e, h1, hc⟩ := h h0
  refine ⟨b, off, e, by omega, fun i hi => ?_⟩
  obtain ⟨u, hu, hr⟩ := hc i hi
  exact ⟨u, hu, hr.mono hB⟩
set_option maxRecDepth 100000 in
set_option maxHeartbeats 1000000 in
theorem masked_any {w : World} {G : Nat} {K : List UInt8} {m : UInt8} {oa : Option Addr} {cap : Nat} {ls : List (List UInt8)} (hK : Arr w 40 G (bvs K)) (hl : K.length = 64) (hr : RdAll w.heap.size w oa ls) (hn : ls.length ≤ 1000000000000) (ht : total ls ≤ 90000000000000) (he : Env w) :
    Calls Tryd.prog 20 #[.int .u8 m.toNat, .slice oa ls.length cap, .pointer (some ⟨G, 0, none⟩)] w fun e w' => e = .returned (.agg (bvs (digest (xorL m K ++ ls.flatten))).toArray) ∧ Below w.heap.size w w' := by
  obtain ⟨Z, hZ⟩ : ∃ Z : List UInt8, Z = List.replicate 32 0 := ⟨_, rfl⟩
  have hA : ∀ o, Arr (w.alloc o) 40 G (bvs K) := fun o => hK.alloc o
  have HKL := Lib.hid hl
  clear hl
  go_enter Tryd.func20, Tryd.ntmps20
  go_wp2_with (first
    | ((with_reducible refine load64b (x := .tmp 2) (o := ⟨some 8, _, _, _, _, _⟩) (hA _) HKL.out ?_ ?_); exact ⟨rfl, rfl, rfl⟩)
    | ((with_reducible refine at64b (w.heap.size + 1) (x := .tmp 6) (y := .tmp 8) (l := K) (o := ⟨none, .store _ _ _, _, _, _, _⟩) HKL.out ?_ ?_); exact ⟨rfl, rfl, rfl, rfl, rfl, by simp⟩))
  have HST : Hid (∀ z : Array Value, z.toList = bvs Z → Arr ((w.alloc (.cells z 26)).alloc (.cells (bvs K).toArray 40)) 40 (w.heap.size + 1) (bvs (xpart m K 0)) ∧ Arr ((w.alloc (.cells z 26)).alloc (.cells (bvs K).toArray 40)) 26 w.heap.size (bvs Z) ∧ Below w.heap.size w ((w.alloc (.cells z 26)).alloc (.cells (bvs K).toArray 40))) := fun z hz => by
    rw [xpart_zero]
    exact ⟨Arr.new2 _ _ _ _ _ (by simp), (Arr.new' w _ z _ hz).alloc _, ((Below.refl _ _).alloc (Nat.le_refl _) _).alloc (by simp) _⟩
  have HZ := Lib.hid hZ
  clear hA hZ
  go_loopw [7, 9] (fun _ iv wr => ∃ i : Nat, i ≤ 64 ∧ iv = .int .i64 i ∧ Hid (Arr wr 40 (w.heap.size + 1) (bvs (xpart m K i)) ∧ Arr wr 26 w.heap.size (bvs Z) ∧ Below w.heap.size w wr)) (fun _ iv _ => 64 - (intOf iv).toNat)
  case atStart => exact ⟨0, by omega, rfl, HST.out _ (by rw [HZ.out]; rfl)⟩
  case round =>
    obtain ⟨i, hi, rfl, HM⟩ := hrel
    clear HST
    have hi0 : (0 : Int) ≤ i := by omega
    by_cases hlt : i < 64
    · have hlt1 : (i : Int) < 64 := by omega
      have hiK : i < K.length := by rw [HKL.out]; exact hlt
      have hf := HM.out.1.free i
      have hc := (HM.out.1.cell i).trans (bvs_getElem _ _ (by rw [xpart_length]; exact hiK))
      rw [xpart_get m K i hiK] at hc
      obtain ⟨x, hx⟩ : ∃ x, x = K.getD i 0 := ⟨_, rfl⟩
      rw [← hx] at hc
      have HX := Lib.hid hx
      clear hx
      unfold bv at hc
      go_wp2_with fail
      go_roundw
      case rel =>
        refine ⟨i + 1, by omega, by go_num, ?_⟩
        rw [u8x, HX.out, ← xpart_next m K i hiK, ← bvs_set]
        exact ⟨HM.out.1.set _ _, HM.out.2.1.setCell (by show w.heap.size ≠ w.heap.size + 1; omega) _, HM.out.2.2.setCell (by show w.heap.size ≤ w.heap.size + 1; omega) _⟩
      case measure => simp [intOf]; omega
    · rw [show (i : Int) = 64 by omega]
      obtain ⟨X, hX⟩ : ∃ X, X = xorL m K := ⟨_, rfl⟩
      have hXi : xpart m K i = X := by rw [hX, show i = K.length by rw [HKL.out]; omega, xpart_done]
      rw [hXi] at HM
      have HXL : Hid (X.length = 64) := by rw [hX, xorL_length]; exact HKL.out
      have HX := Lib.hid hX
      clear hX hXi hlt hi hi0
      obtain ⟨n, hn'⟩ : ∃ n, n = ls.length := ⟨_, rfl⟩
      have HN := Lib.hid hn'
      have HSZ : Hid (w.heap.size + 1 < wr.heap.size) := HM.out.1.lt
      have HX64 : Hid (Rd wr.heap.size wr (.slice (some ⟨w.heap.size + 1, 0, none⟩) 64 64) X) := by
        have := arr_rd HM.out.1 (by rw [HXL.out]; unfold maxLen; omega)
        rw [HXL.out] at this; exact this
      have hbn : Below wr.heap.size wr (wr.alloc (.cells #[.slice (some ⟨w.heap.size + 1, 0, none⟩) 64 64] 22)) := (Below.refl _ _).alloc (Nat.le_refl _) _
      have HRN := Lib.hid (RowAll.new HX64.out (Nat.le_refl _))
      have HRD : Hid (RdAll wr.heap.size (wr.alloc (.cells #[.slice (some ⟨w.heap.size + 1, 0, none⟩) 64 64] 22)) oa ls) := (((hr.below HM.out.2.2 (Nat.le_refl _))).mono HM.out.2.2.size).below hbn (Nat.le_refl _)
      have HLN : Hid (([X] : List (List UInt8)).length * 24 + ls.length * 24 ≤ 140737488355328) := by show _ ≤ _; simp only [List.length_singleton]; omega
      have HBS : Hid (wr.heap.size ≤ (wr.alloc (.cells #[.slice (some ⟨w.heap.size + 1, 0, none⟩) 64 64] 22)).heap.size) := by show _ ≤ _; simp
      have HM5 := Lib.hid (And.intro (HM.out.2.1.alloc (.cells #[.slice (some ⟨w.heap.size + 1, 0, none⟩) 64 64] 22)) (HM.out.2.2.trans (hbn.mono HM.out.2.2.size)))
      have HT := Lib.hid ht
      have HE := Lib.hid he
      have HNB := Lib.hid hn
      clear hbn hr ht he hn
      rw [← hn']
      rw [hn']
      go_wp2_with (at_builtin; refine app_parts rfl (.tmp 20) (.tmp 21) rfl rfl HRN.out rfl HRD.out (by rw [Nat.add_mul]; exact HLN.out) (Nat.le_refl _) HBS.out ?_; intro v5 w5 h5 b5)
      have hs5 : wr.heap.size ≤ w5.heap.size := Nat.le_trans HBS.out b5.size
      have HM6 := Lib.hid (And.intro (HM5.out.1.below b5 (show w.heap.size < wr.heap.size by have := HSZ.out; omega)) (HM5.out.2.trans (b5.mono (show w.heap.size ≤ wr.heap.size by have := HSZ.out; omega))))
      obtain ⟨oa5, cap5, rfl, hra5⟩ := h5.rdall hs5
      refine (sum_any hra5 (Nat.le_refl _) (by rw [List.length_append, List.length_singleton]; have := HNB.out; omega) (by have := HT.out; have := HXL.out; unfold total at *; rw [List.flatten_append, List.length_append, List.flatten_cons, List.flatten_nil, List.append_nil]; omega) (HE.out.below HM6.out.2)).mono ?_
      rintro e w6 ⟨rfl, b6⟩
      have HM7 := Lib.hid (And.intro (HM6.out.1.later b6) (HM6.out.2.trans (b6.mono HM6.out.2.size)))
      rw [show ([X] ++ ls).flatten = X ++ ls.flatten by simp]
      obtain ⟨D, hD⟩ : ∃ D, D = digest (X ++ ls.flatten) := ⟨_, rfl⟩
      rw [← hD]
      have HDL : Hid (D.length = 32) := by rw [hD]; exact digest_length _
      have HDE : Hid (D = digest (xorL m K ++ ls.flatten)) := by rw [hD, HX.out]; exact rfl
      have HZL : Hid ((bvs Z).length = 32) := by show _ = _; rw [bvs_length, HZ.out]; rfl
      have hM := HM7.out.1
      clear hra5 hD b6 b5 hs5 HM HRN HRD HM5 HM6
      go_wp2_with ((with_reducible refine store32b (x := .tmp 5) (y := .tmp 23) (l := D) (o := ⟨none, .store _ _ _, _, _, _, _⟩) hM HZL.out HDL.out ?_ ?_); exact ⟨rfl, rfl, rfl, rfl⟩)
      exact bodyPost_ret (res32b rfl (hM.row _) HDL.out rfl) rfl ⟨by rw [HDE.out], below_row HM7.out.2 (Nat.le_refl _) _⟩
/-- The code of a key and of bytes. -/
def hmac (k l : List UInt8) : List UInt8 := digest (xorL 92 (padK k) ++ digest (xorL 54 (padK k) ++ l))
theorem hmac_length (k l : List UInt8) : (hmac k l).length = 32 := digest_length _
set_option maxRecDepth 100000 in
set_option maxHeartbeats 1000000 in
theorem msum_any {w : World} {v : Value} {l : List UInt8} {oa : Option Addr} {cap : Nat} {ls : List (List UInt8)} (hv : Rd w.heap.size w v l) (hl : l.length ≤ 90000000000000) (hr : RdAll w.heap.size w oa ls) (hn : ls.length ≤ 1000000000000) (ht : total ls ≤ 90000000000000) (he : Env w) :
    Calls Tryd.prog 10 #[v, .slice oa ls.length cap] w fun e w' => e = .returned (.agg (bvs (hmac l ls.flatten)).toArray) ∧ Below w.heap.size w w' := by
  obtain ⟨Z, hZ⟩ : ∃ Z : List UInt8, Z = List.replicate 32 0 := ⟨_, rfl⟩
  obtain ⟨q, c, rfl, hc1, hc2⟩ := hv.form
  have HST : Hid (∀ z : Array Value, z.toList = bvs Z → Arr (w.alloc (.cells z 26)) 26 w.heap.size (bvs Z) ∧ Below w.heap.size w (w.alloc (.cells z 26)) ∧ Rd (w.alloc (.cells z 26)).heap.size (w.alloc (.cells z 26)) (.slice q l.length c) l ∧ RdAll (w.alloc (.cells z 26)).heap.size (w.alloc (.cells z 26)) oa ls ∧ Env (w.alloc (.cells z 26))) := fun z hz => by
    have hb : Below w.heap.size w (w.alloc (.cells z 26)) := (Below.refl _ _).alloc (Nat.le_refl _) _
    exact ⟨Arr.new' w _ z _ hz, hb, (hv.below hb (Nat.le_refl _)).mono hb.size, (hr.below hb (Nat.le_refl _)).mono hb.size, he.below hb⟩
  have HZ := Lib.hid hZ
  have HZ2 : Hid (∀ cs : Array Value, cs.toList = bvs (List.replicate 32 0) → cs.toList = bvs Z) := fun cs h => by rw [hZ]; exact h
  have HL := Lib.hid hl
  have HN := Lib.hid hn
  have HT := Lib.hid ht
  clear hZ hv hr he hl hn ht hc1 hc2
  go_enter Tryd.func10, Tryd.ntmps10
  go_wp2_with fail
  have H0 := Lib.hid (HST.out _ (HZ2.out _ rfl))
  refine (mpad_any H0.out.2.2.1 (Nat.le_trans HL.out (by omega)) H0.out.2.2.2.2).mono ?_
  rintro e w1 ⟨rfl, b1⟩
  have HB1 := Lib.hid (H0.out.2.1.trans (b1.mono H0.out.2.1.size))
  have HZ1 := Lib.hid (H0.out.1.later b1)
  have HR1 := Lib.hid ((H0.out.2.2.2.1.below b1 (Nat.le_refl _)).mono b1.size)
  have HE1 := Lib.hid (H0.out.2.2.2.2.below (b1.mono (Nat.le_refl _)))
  obtain ⟨K, hK⟩ : ∃ K, K = padK l := ⟨_, rfl⟩
  rw [← hK]
  have HKL : Hid (K.length = 64) := by rw [hK]; exact padK_length _
  have HKE := Lib.hid hK
  clear b1 H0 HST HZ2 hK
  have hb2 : Below w1.heap.size w1 (w1.alloc (.cells (bvs K).toArray 40)) := (Below.refl _ _).alloc (Nat.le_refl _) _
  have HB2 := Lib.hid (HB1.out.trans (hb2.mono HB1.out.size))
  have HZ2 := Lib.hid (HZ1.out.later hb2)
  have HR2 := Lib.hid ((HR1.out.below hb2 (Nat.le_refl _)).mono hb2.size)
  have HE2 := Lib.hid (HE1.out.below (hb2.mono (Nat.le_refl _)))
  have HK2 := Lib.hid (Arr.new' w1 40 (bvs K).toArray (bvs K) (by simp))
  clear hb2 HB1 HZ1 HR1 HE1
  go_wp2_with ((with_reducible refine at64b (w1.heap.size) (x := .tmp 5) (y := .tmp 9) (l := K) (o := ⟨none, .store _ _ _, _, _, _, _⟩) HKL.out ?_ ?_); exact ⟨rfl, rfl, rfl, rfl, rfl, rfl⟩)
  have h54 := masked_any (m := 54) (cap := cap) HK2.out HKL.out HR2.out HN.out HT.out HE2.out
  rw [show (((54 : UInt8).toNat : Nat) : Int) = 54 from rfl] at h54
  refine h54.mono ?_
  clear h54
  rintro e w3 ⟨rfl, b3⟩
  have HB3 := Lib.hid (HB2.out.trans (b3.mono HB2.out.size))
  have HZ3 := Lib.hid (HZ2.out.later b3)
  have HE3 := Lib.hid (HE2.out.below (b3.mono (Nat.le_refl _)))
  have HK3 := Lib.hid (HK2.out.later b3)
  obtain ⟨I, hI⟩ : ∃ I, I = digest (xorL 54 K ++ ls.flatten) := ⟨_, rfl⟩
  rw [← hI]
  have HIL : Hid (I.length = 32) := by rw [hI]; exact digest_length _
  have HIE := Lib.hid hI
  clear b3 HB2 HZ2 HR2 HE2 HK2 hI
  have hb4 : Below w3.heap.size w3 (w3.alloc (.cells (bvs I).toArray 26)) := (Below.refl _ _).alloc (Nat.le_refl _) _
  have HI4 : Hid (Rd (w3.alloc (.cells (bvs I).toArray 26)).heap.size (w3.alloc (.cells (bvs I).toArray 26)) (.slice (some ⟨w3.heap.size, 0, none⟩) 32 32) I) := by
    have := arr_rd (Arr.new' w3 26 (bvs I).toArray (bvs I) (by simp)) (by rw [HIL.out]; unfold maxLen; omega)
    rw [HIL.out] at this
    exact this
  have hb5 : Below (w3.alloc (.cells (bvs I).toArray 26)).heap.size (w3.alloc (.cells (bvs I).toArray 26)) ((w3.alloc (.cells (bvs I).toArray 26)).alloc (.cells #[.slice (some ⟨w3.heap.size, 0, none⟩) 32 32] 22)) := (Below.refl _ _).alloc (Nat.le_refl _) _
  have hb6 := hb4.trans (hb5.mono hb4.size)
  have HB6 := Lib.hid (HB3.out.trans (hb6.mono HB3.out.size))
  have HZ6 := Lib.hid (HZ3.out.later hb6)
  have HE6 := Lib.hid (HE3.out.below (hb6.mono (Nat.le_refl _)))
  have HK6 := Lib.hid (HK3.out.later hb6)
  have hs4 : (w3.alloc (.cells (bvs I).toArray 26)).heap.size = w3.heap.size + 1 := by simp
  have hr6 := (rd_one (t := 22) HI4.out (Nat.le_refl _))
  have hs6 : ((w3.alloc (.cells (bvs I).toArray 26)).alloc (.cells #[.slice (some ⟨w3.heap.size, 0, none⟩) 32 32] 22)).heap.size = (w3.alloc (.cells (bvs I).toArray 26)).heap.size + 1 := by simp
  rw [← hs6, hs4] at hr6
  have HR6 := Lib.hid hr6
  clear hb4 hb5 hb6 hs4 hs6 hr6 HI4 HB3 HZ3 HE3 HK3
  go_wp2_with ((with_reducible refine at32b w3.heap.size (x := .tmp 7) (y := .tmp 13) (l := I) (o := ⟨none, .store _ _ _, _, _, _, _⟩) HIL.out ?_ ?_); exact ⟨rfl, rfl, rfl, rfl, rfl, rfl⟩)
  have h92 := masked_any (m := 92) (cap := 1) (ls := [I]) HK6.out HKL.out HR6.out (by simp) (by have := HIL.out; simp only [total, List.flatten_cons, List.flatten_nil, List.append_nil]; omega) HE6.out
  rw [show (((92 : UInt8).toNat : Nat) : Int) = 92 from rfl] at h92
  refine h92.mono ?_
  clear h92
  rintro e w7 ⟨rfl, b7⟩
  have HB7 := Lib.hid (HB6.out.trans (b7.mono HB6.out.size))
  have hM := HZ6.out.later b7
  obtain ⟨D, hD⟩ : ∃ D, D = digest (xorL 92 K ++ [I].flatten) := ⟨_, rfl⟩
  rw [← hD]
  have HDL : Hid (D.length = 32) := by rw [hD]; exact digest_length _
  have HDE : Hid (D = hmac l ls.flatten) := by
    show _ = _
    rw [hD, HIE.out, HKE.out, List.flatten_cons, List.flatten_nil, List.append_nil]; rfl
  have HZL : Hid ((bvs Z).length = 32) := by show _ = _; rw [bvs_length, HZ.out]; rfl
  clear b7 hD HB6 HZ6 HE6 HK6 HR6
  go_wp2_with ((with_reducible refine store32b (x := .tmp 4) (y := .tmp 17) (l := D) (o := ⟨none, .store _ _ _, _, _, _, _⟩) hM HZL.out HDL.out ?_ ?_); exact ⟨rfl, rfl, rfl, rfl⟩)
  exact bodyPost_ret (res32b rfl (hM.row _) HDL.out rfl) rfl ⟨by rw [HDE.out], below_row HB7.out (Nat.le_refl _) _⟩
end Go.Proofs.YtomoopadeknfbaaDoor
