/-
  vestrylaw23.one, vestrylaw23.awake.
-/
import Derived.Test.YtebbbiikphfjcaaMgO
namespace Go.Proofs.Ytebbbiikphfjcaa
open Go.ChangeShapes Go.WideShapes Go.ChangeAt Go.RowKit
set_option linter.unusedVariables false

def oneT (s : ByteArray) : Tu := ⟨⟨#[100]⟩, s, ⟨#[114]⟩, ⟨#[117]⟩, ⟨#[120]⟩, ⟨#[]⟩⟩
theorem one_any (s : ByteArray) (w : World) : Calls Try.prog 26 #[.string s] w fun e w' => e = .returned (.agg #[.string ⟨#[100]⟩, .string s, .string ⟨#[114]⟩, .string ⟨#[117]⟩, .string ⟨#[120]⟩, .string ⟨#[]⟩]) ∧ Below w.heap.size w w' := by
  have hb : Below w.heap.size w (w.alloc (.cells (tc (oneT s)).toArray 34)) := (Below.refl _ _).alloc (Nat.le_refl _) _
  have HB := Lib.hid hb
  have HA : Hid (Arr (w.alloc (.cells (tc (oneT s)).toArray 34)) 34 w.heap.size (tc (oneT s))) := tu_new w (oneT s)
  clear hb
  go_enter Try.func26, Try.ntmps26
  go_wp2_with fail
  exact bodyPost_ret (resT (p := 2) (g := w.heap.size) (t := oneT s) rfl HA.out rfl) rfl ⟨rfl, HB.out⟩
def lA : List Tu := [oneT ⟨#[97]⟩, oneT ⟨#[98]⟩]
def lB : List Tu := [oneT ⟨#[98]⟩, oneT ⟨#[99]⟩]
def lR : List Tu := [oneT ⟨#[98]⟩, oneT ⟨#[97]⟩]
def lU : List Tu := [oneT ⟨#[97]⟩, oneT ⟨#[98]⟩, oneT ⟨#[99]⟩]
theorem risA : Ris lA := by unfold lA Ris; simp; decide +kernel
theorem risB' : Ris lB := by unfold lB Ris; simp; decide +kernel
theorem risAB : ∀ l ∈ [lA, lB], Ris l := by
  intro l hl
  simp only [List.mem_cons, List.not_mem_nil, or_false] at hl
  rcases hl with rfl | rfl
  · exact risA
  · exact risB'
theorem uAB : sortedT [lA, lB].flatten = lU := by kernel_rfl
theorem mAB : minG lA lB = [oneT ⟨#[97]⟩] := by kernel_rfl
theorem mBA : minG lB lA = [oneT ⟨#[99]⟩] := by kernel_rfl
theorem sortA : risB lA = true := by decide +kernel
theorem sortR : risB lR = false := by decide +kernel
theorem hasAb : hasT lA (oneT ⟨#[98]⟩) = true := by decide +kernel
theorem hasAc : hasT lA (oneT ⟨#[99]⟩) = false := by decide +kernel
theorem foldA : foldC lA ([(0, true, oneT ⟨#[97]⟩)].map Prod.snd) = [oneT ⟨#[98]⟩] := by kernel_rfl
theorem rangeA : rangeT lA (⟨#[100]⟩, ⟨#[97]⟩) = [oneT ⟨#[97]⟩] := by kernel_rfl
theorem szAw : ∀ x ∈ [((0, true, oneT ⟨#[97]⟩) : Ce)], sizesT x.2.2 maxLen := by
  intro x hx
  rw [List.mem_singleton] at hx
  subst hx
  unfold sizesT maxLen
  decide
theorem sl_new (w : World) (l : List Tu) (cs : Array Value) (h : cs = (l.flatMap tc).toArray) : TuSl (w.alloc (.cells cs 34)) (.slice (some ⟨w.heap.size, 0, none⟩) l.length l.length) l :=
  .inr ⟨w.heap.size, 0, l.length, rfl, Nat.le_refl _, by simp, Arr.range (Arr.new' w 34 _ _ (by rw [h]))⟩
theorem lls_two {w : World} {u1 u2 : Value} {l1 l2 : List Tu} (h1 : TuSl w u1 l1) (h2 : TuSl w u2 l2) : LLs (w.alloc (.cells #[u1, u2] 24)) (.slice (some ⟨w.heap.size, 0, none⟩) 2 2) [l1, l2] := by
  have ba : Below w.heap.size w (w.alloc (.cells #[u1, u2] 24)) := (Below.refl _ _).alloc (Nat.le_refl _) _
  have HA8 : Arr (w.alloc (.cells #[u1, u2] 24)) 24 w.heap.size [u1, u2] := Arr.new' w _ _ _ rfl
  exact ⟨_, _, rfl, fun i hi => by
    match i, hi with
    | 0, _ => exact ⟨_, 0, _, rfl, by simp, Arr.cell HA8 0, h1.below ba⟩
    | 1, _ => exact ⟨_, 0, _, rfl, by simp, Arr.cell HA8 1, h2.below ba⟩⟩
theorem ce_sl (w : World) (n : Nat) (d : Bool) (u : Tu) : RdS cc (w.alloc (.cells #[.int .u64 n, .bool d, .string u.ot, .string u.oi, .string u.re, .string u.st, .string u.si, .string u.us] 45)) (.slice (some ⟨w.heap.size, 0, none⟩) 1 1) [(n, d, u)] :=
  .inr ⟨⟨w.heap.size, 0, none⟩, 1, rfl, Nat.le_refl _, fun _ => ⟨_, 0, rfl, by simp, by
    have h := Arr.range (ce_new w n d u)
    rw [show [((n, d, u) : Ce)].flatMap cc = cc (n, d, u) by simp]
    exact h⟩⟩
theorem LLs.below {w w' : World} {v : Value} {L : List (List Tu)} (h : LLs w v L) (hb : Below w.heap.size w w') : LLs w' v L := by
  obtain ⟨p, c, h1, h2⟩ := h
  refine ⟨p, c, h1, fun i hi => ?_⟩
  obtain ⟨b, off, u, h3, h4, h5, h6⟩ := h2 i hi
  exact ⟨b, off, u, h3, Nat.lt_of_lt_of_le h4 hb.size, (hb.cell (p := ⟨b, off + i, none⟩) h4).trans h5, h6.below hb⟩
set_option maxRecDepth 100000 in
set_option maxHeartbeats 4000000 in
theorem mawake_any (w : World) : Calls Try.prog 8 #[] w fun e w' => e = .returned (.bool true) ∧ Below w.heap.size w w' := by
  have HB0 := Lib.hid (Below.refl w.heap.size w)
  go_enter Try.func8, Try.ntmps8
  go_wp2_with fail
  refine (one_any ⟨#[97]⟩ _).mono ?_
  rintro e w1 ⟨rfl, b1⟩
  have HB1 := Lib.hid (HB0.out.trans ((b1).mono HB0.out.size))
  clear b1 HB0
  go_wp2_with fail
  refine (one_any ⟨#[98]⟩ _).mono ?_
  rintro e w2 ⟨rfl, b2⟩
  have HB2 := Lib.hid (HB1.out.trans ((b2).mono HB1.out.size))
  clear b2 HB1
  have b3 : Below w2.heap.size w2 (w2.alloc (.cells #[.string ⟨#[100]⟩, .string ⟨#[97]⟩, .string ⟨#[114]⟩, .string ⟨#[117]⟩, .string ⟨#[120]⟩, .string ⟨#[]⟩, .string ⟨#[100]⟩, .string ⟨#[98]⟩, .string ⟨#[114]⟩, .string ⟨#[117]⟩, .string ⟨#[120]⟩, .string ⟨#[]⟩] 34)) := (Below.refl _ _).alloc (Nat.le_refl _) _
  have HA_3 : Hid (TuSl (w2.alloc (.cells #[.string ⟨#[100]⟩, .string ⟨#[97]⟩, .string ⟨#[114]⟩, .string ⟨#[117]⟩, .string ⟨#[120]⟩, .string ⟨#[]⟩, .string ⟨#[100]⟩, .string ⟨#[98]⟩, .string ⟨#[114]⟩, .string ⟨#[117]⟩, .string ⟨#[120]⟩, .string ⟨#[]⟩] 34)) (.slice (some ⟨w2.heap.size, 0, none⟩) 2 2) lA) := sl_new w2 lA _ rfl
  have HB3 := Lib.hid (HB2.out.trans ((b3).mono HB2.out.size))
  clear b3 HB2
  go_wp2_with fail
  generalize (w2.alloc (.cells #[.string ⟨#[100]⟩, .string ⟨#[97]⟩, .string ⟨#[114]⟩, .string ⟨#[117]⟩, .string ⟨#[120]⟩, .string ⟨#[]⟩, .string ⟨#[100]⟩, .string ⟨#[98]⟩, .string ⟨#[114]⟩, .string ⟨#[117]⟩, .string ⟨#[120]⟩, .string ⟨#[]⟩] 34)) = w3 at HB3 HA_3 ⊢
  refine (one_any ⟨#[98]⟩ _).mono ?_
  rintro e w4 ⟨rfl, b4⟩
  have HB4 := Lib.hid (HB3.out.trans ((b4).mono HB3.out.size))
  have HA_4 := Lib.hid (HA_3.out.below (b4))
  clear b4 HB3 HA_3
  go_wp2_with fail
  refine (one_any ⟨#[99]⟩ _).mono ?_
  rintro e w5 ⟨rfl, b5⟩
  have HB5 := Lib.hid (HB4.out.trans ((b5).mono HB4.out.size))
  have HA_5 := Lib.hid (HA_4.out.below (b5))
  clear b5 HB4 HA_4
  have b6 : Below w5.heap.size w5 (w5.alloc (.cells #[.string ⟨#[100]⟩, .string ⟨#[98]⟩, .string ⟨#[114]⟩, .string ⟨#[117]⟩, .string ⟨#[120]⟩, .string ⟨#[]⟩, .string ⟨#[100]⟩, .string ⟨#[99]⟩, .string ⟨#[114]⟩, .string ⟨#[117]⟩, .string ⟨#[120]⟩, .string ⟨#[]⟩] 34)) := (Below.refl _ _).alloc (Nat.le_refl _) _
  have HQ_6 : Hid (TuSl (w5.alloc (.cells #[.string ⟨#[100]⟩, .string ⟨#[98]⟩, .string ⟨#[114]⟩, .string ⟨#[117]⟩, .string ⟨#[120]⟩, .string ⟨#[]⟩, .string ⟨#[100]⟩, .string ⟨#[99]⟩, .string ⟨#[114]⟩, .string ⟨#[117]⟩, .string ⟨#[120]⟩, .string ⟨#[]⟩] 34)) (.slice (some ⟨w5.heap.size, 0, none⟩) 2 2) lB) := sl_new w5 lB _ rfl
  have HB6 := Lib.hid (HB5.out.trans ((b6).mono HB5.out.size))
  have HA_6 := Lib.hid (HA_5.out.below (b6))
  clear b6 HB5 HA_5
  go_upto_region 3 with (fail)
  generalize (w5.alloc (.cells #[.string ⟨#[100]⟩, .string ⟨#[98]⟩, .string ⟨#[114]⟩, .string ⟨#[117]⟩, .string ⟨#[120]⟩, .string ⟨#[]⟩, .string ⟨#[100]⟩, .string ⟨#[99]⟩, .string ⟨#[114]⟩, .string ⟨#[117]⟩, .string ⟨#[120]⟩, .string ⟨#[]⟩] 34)) = w6 at HB6 HA_6 HQ_6 ⊢
  have b7 : Below w6.heap.size w6 (w6.alloc (.cells #[.slice (some ⟨w2.heap.size, 0, none⟩) 2 2, .slice (some ⟨w5.heap.size, 0, none⟩) 2 2] 24)) := (Below.refl _ _).alloc (Nat.le_refl _) _
  have HL_7 : Hid (LLs (w6.alloc (.cells #[.slice (some ⟨w2.heap.size, 0, none⟩) 2 2, .slice (some ⟨w5.heap.size, 0, none⟩) 2 2] 24)) (.slice (some ⟨w6.heap.size, 0, none⟩) 2 2) [lA, lB]) := lls_two HA_6.out HQ_6.out
  have HB7 := Lib.hid (HB6.out.trans ((b7).mono HB6.out.size))
  have HA_7 := Lib.hid (HA_6.out.below (b7))
  have HQ_7 := Lib.hid (HQ_6.out.below (b7))
  clear b7 HB6 HA_6 HQ_6
  go_wp2_with fail
  generalize (w6.alloc (.cells #[.slice (some ⟨w2.heap.size, 0, none⟩) 2 2, .slice (some ⟨w5.heap.size, 0, none⟩) 2 2] 24)) = w7 at HB7 HA_7 HQ_7 HL_7 ⊢
  have HC8 := Lib.hid (union_any HL_7.out risAB (by decide) (by decide))
  refine HC8.out.mono ?_
  rintro e w8 ⟨v8, rfl, b8, t8⟩
  clear HC8
  have HU_8 : Hid (TuSl w8 v8 lU) := by rw [← uAB]; exact t8
  have HB8 := Lib.hid (HB7.out.trans ((b8).mono HB7.out.size))
  have HA_8 := Lib.hid (HA_7.out.below (b8))
  have HQ_8 := Lib.hid (HQ_7.out.below (b8))
  have HL_8 := Lib.hid (HL_7.out.below (b8))
  clear b8 HB7 HA_7 HQ_7 HL_7
  clear t8
  clear HL_8
  have HC9 := Lib.hid (diff_any HA_8.out HQ_8.out (by decide) (by decide))
  go_wp2_with fail
  refine HC9.out.mono ?_
  rintro e w9 ⟨v9, u9, rfl, b9, s9, t9⟩
  clear HC9
  have HX_9 : Hid (TuSl w9 v9 [oneT ⟨#[99]⟩]) := by rw [← mBA]; exact s9
  have HY_9 : Hid (TuSl w9 u9 [oneT ⟨#[97]⟩]) := by rw [← mAB]; exact t9
  have HB9 := Lib.hid (HB8.out.trans ((b9).mono HB8.out.size))
  have HA_9 := Lib.hid (HA_8.out.below (b9))
  have HQ_9 := Lib.hid (HQ_8.out.below (b9))
  have HU_9 := Lib.hid (HU_8.out.below (b9))
  clear b9 HB8 HA_8 HQ_8 HU_8
  clear s9 t9
  obtain ⟨bx, ox, cx, rfl⟩ := HX_9.out.one
  obtain ⟨bj, oj, cj, rfl⟩ := HY_9.out.one
  clear HX_9
  clear HY_9
  go_wp2_with fail
  refine (one_any ⟨#[97]⟩ _).mono ?_
  rintro e w10 ⟨rfl, b10⟩
  have HB10 := Lib.hid (HB9.out.trans ((b10).mono HB9.out.size))
  have HA_10 := Lib.hid (HA_9.out.below (b10))
  have HQ_10 := Lib.hid (HQ_9.out.below (b10))
  have HU_10 := Lib.hid (HU_9.out.below (b10))
  clear b10 HB9 HA_9 HQ_9 HU_9
  go_wp2_with fail
  refine (one_any ⟨#[98]⟩ _).mono ?_
  rintro e w11 ⟨rfl, b11⟩
  have HB11 := Lib.hid (HB10.out.trans ((b11).mono HB10.out.size))
  have HA_11 := Lib.hid (HA_10.out.below (b11))
  have HQ_11 := Lib.hid (HQ_10.out.below (b11))
  have HU_11 := Lib.hid (HU_10.out.below (b11))
  clear b11 HB10 HA_10 HQ_10 HU_10
  go_wp2_with fail
  refine (one_any ⟨#[99]⟩ _).mono ?_
  rintro e w12 ⟨rfl, b12⟩
  have HB12 := Lib.hid (HB11.out.trans ((b12).mono HB11.out.size))
  have HA_12 := Lib.hid (HA_11.out.below (b12))
  have HQ_12 := Lib.hid (HQ_11.out.below (b12))
  have HU_12 := Lib.hid (HU_11.out.below (b12))
  clear b12 HB11 HA_11 HQ_11 HU_11
  have b13 : Below w12.heap.size w12 (w12.alloc (.cells #[.string ⟨#[100]⟩, .string ⟨#[97]⟩, .string ⟨#[114]⟩, .string ⟨#[117]⟩, .string ⟨#[120]⟩, .string ⟨#[]⟩, .string ⟨#[100]⟩, .string ⟨#[98]⟩, .string ⟨#[114]⟩, .string ⟨#[117]⟩, .string ⟨#[120]⟩, .string ⟨#[]⟩, .string ⟨#[100]⟩, .string ⟨#[99]⟩, .string ⟨#[114]⟩, .string ⟨#[117]⟩, .string ⟨#[120]⟩, .string ⟨#[]⟩] 34)) := (Below.refl _ _).alloc (Nat.le_refl _) _
  have HS_13 : Hid (TuSl (w12.alloc (.cells #[.string ⟨#[100]⟩, .string ⟨#[97]⟩, .string ⟨#[114]⟩, .string ⟨#[117]⟩, .string ⟨#[120]⟩, .string ⟨#[]⟩, .string ⟨#[100]⟩, .string ⟨#[98]⟩, .string ⟨#[114]⟩, .string ⟨#[117]⟩, .string ⟨#[120]⟩, .string ⟨#[]⟩, .string ⟨#[100]⟩, .string ⟨#[99]⟩, .string ⟨#[114]⟩, .string ⟨#[117]⟩, .string ⟨#[120]⟩, .string ⟨#[]⟩] 34)) (.slice (some ⟨w12.heap.size, 0, none⟩) 3 3) lU) := sl_new w12 lU _ rfl
  have HB13 := Lib.hid (HB12.out.trans ((b13).mono HB12.out.size))
  have HA_13 := Lib.hid (HA_12.out.below (b13))
  have HQ_13 := Lib.hid (HQ_12.out.below (b13))
  have HU_13 := Lib.hid (HU_12.out.below (b13))
  clear b13 HB12 HA_12 HQ_12 HU_12
  go_wp2_with fail
  generalize (w12.alloc (.cells #[.string ⟨#[100]⟩, .string ⟨#[97]⟩, .string ⟨#[114]⟩, .string ⟨#[117]⟩, .string ⟨#[120]⟩, .string ⟨#[]⟩, .string ⟨#[100]⟩, .string ⟨#[98]⟩, .string ⟨#[114]⟩, .string ⟨#[117]⟩, .string ⟨#[120]⟩, .string ⟨#[]⟩, .string ⟨#[100]⟩, .string ⟨#[99]⟩, .string ⟨#[114]⟩, .string ⟨#[117]⟩, .string ⟨#[120]⟩, .string ⟨#[]⟩] 34)) = w13 at HB13 HA_13 HQ_13 HU_13 HS_13 ⊢
  have HC14 := Lib.hid (samel_any HU_13.out.rd HS_13.out.rd (by decide) (by decide))
  refine HC14.out.mono ?_
  rintro e w14 ⟨rfl, b14⟩
  clear HC14
  have HB14 := Lib.hid (HB13.out.trans ((b14).mono HB13.out.size))
  have HA_14 := Lib.hid (HA_13.out.below (b14))
  have HQ_14 := Lib.hid (HQ_13.out.below (b14))
  have HU_14 := Lib.hid (HU_13.out.below (b14))
  have HS_14 := Lib.hid (HS_13.out.below (b14))
  clear b14 HB13 HA_13 HQ_13 HU_13 HS_13
  rw [same_self]
  clear HU_14
  clear HS_14
  have HC15 := Lib.hid (msorted_any HA_14.out.rd (by decide))
  go_wp2_with fail
  refine HC15.out.mono ?_
  rintro e w15 ⟨rfl, b15⟩
  clear HC15
  have HB15 := Lib.hid (HB14.out.trans ((b15).mono HB14.out.size))
  have HA_15 := Lib.hid (HA_14.out.below (b15))
  have HQ_15 := Lib.hid (HQ_14.out.below (b15))
  clear b15 HB14 HA_14 HQ_14
  rw [sortA]
  go_wp2_with fail
  refine (one_any ⟨#[98]⟩ _).mono ?_
  rintro e w16 ⟨rfl, b16⟩
  have HB16 := Lib.hid (HB15.out.trans ((b16).mono HB15.out.size))
  have HA_16 := Lib.hid (HA_15.out.below (b16))
  have HQ_16 := Lib.hid (HQ_15.out.below (b16))
  clear b16 HB15 HA_15 HQ_15
  go_wp2_with fail
  refine (one_any ⟨#[97]⟩ _).mono ?_
  rintro e w17 ⟨rfl, b17⟩
  have HB17 := Lib.hid (HB16.out.trans ((b17).mono HB16.out.size))
  have HA_17 := Lib.hid (HA_16.out.below (b17))
  have HQ_17 := Lib.hid (HQ_16.out.below (b17))
  clear b17 HB16 HA_16 HQ_16
  have b18 : Below w17.heap.size w17 (w17.alloc (.cells #[.string ⟨#[100]⟩, .string ⟨#[98]⟩, .string ⟨#[114]⟩, .string ⟨#[117]⟩, .string ⟨#[120]⟩, .string ⟨#[]⟩, .string ⟨#[100]⟩, .string ⟨#[97]⟩, .string ⟨#[114]⟩, .string ⟨#[117]⟩, .string ⟨#[120]⟩, .string ⟨#[]⟩] 34)) := (Below.refl _ _).alloc (Nat.le_refl _) _
  have HR_18 : Hid (TuSl (w17.alloc (.cells #[.string ⟨#[100]⟩, .string ⟨#[98]⟩, .string ⟨#[114]⟩, .string ⟨#[117]⟩, .string ⟨#[120]⟩, .string ⟨#[]⟩, .string ⟨#[100]⟩, .string ⟨#[97]⟩, .string ⟨#[114]⟩, .string ⟨#[117]⟩, .string ⟨#[120]⟩, .string ⟨#[]⟩] 34)) (.slice (some ⟨w17.heap.size, 0, none⟩) 2 2) lR) := sl_new w17 lR _ rfl
  have HB18 := Lib.hid (HB17.out.trans ((b18).mono HB17.out.size))
  have HA_18 := Lib.hid (HA_17.out.below (b18))
  have HQ_18 := Lib.hid (HQ_17.out.below (b18))
  clear b18 HB17 HA_17 HQ_17
  go_wp2_with fail
  generalize (w17.alloc (.cells #[.string ⟨#[100]⟩, .string ⟨#[98]⟩, .string ⟨#[114]⟩, .string ⟨#[117]⟩, .string ⟨#[120]⟩, .string ⟨#[]⟩, .string ⟨#[100]⟩, .string ⟨#[97]⟩, .string ⟨#[114]⟩, .string ⟨#[117]⟩, .string ⟨#[120]⟩, .string ⟨#[]⟩] 34)) = w18 at HB18 HA_18 HQ_18 HR_18 ⊢
  have HC19 := Lib.hid (msorted_any HR_18.out.rd (by decide))
  refine HC19.out.mono ?_
  rintro e w19 ⟨rfl, b19⟩
  clear HC19
  have HB19 := Lib.hid (HB18.out.trans ((b19).mono HB18.out.size))
  have HA_19 := Lib.hid (HA_18.out.below (b19))
  have HQ_19 := Lib.hid (HQ_18.out.below (b19))
  have HR_19 := Lib.hid (HR_18.out.below (b19))
  clear b19 HB18 HA_18 HQ_18 HR_18
  rw [sortR]
  clear HR_19
  have HC20 := Lib.hid (minus_any HA_19.out HQ_19.out (by decide) (by decide))
  go_wp2_with fail
  refine HC20.out.mono ?_
  rintro e w20 ⟨v20, rfl, b20, t20⟩
  clear HC20
  have HM_20 : Hid (TuSl w20 v20 [oneT ⟨#[97]⟩]) := by rw [← mAB]; exact t20
  have HB20 := Lib.hid (HB19.out.trans ((b20).mono HB19.out.size))
  have HA_20 := Lib.hid (HA_19.out.below (b20))
  have HQ_20 := Lib.hid (HQ_19.out.below (b20))
  clear b20 HB19 HA_19 HQ_19
  clear t20
  clear HQ_20
  obtain ⟨bm, om, cm, rfl⟩ := HM_20.out.one
  clear HM_20
  go_wp2_with fail
  refine (one_any ⟨#[98]⟩ _).mono ?_
  rintro e w21 ⟨rfl, b21⟩
  have HB21 := Lib.hid (HB20.out.trans ((b21).mono HB20.out.size))
  have HA_21 := Lib.hid (HA_20.out.below (b21))
  clear b21 HB20 HA_20
  have HC22 := Lib.hid (mhas_any (oneT ⟨#[98]⟩) HA_21.out risA (by decide))
  go_wp2_with fail
  refine HC22.out.mono ?_
  rintro e w22 ⟨rfl, b22⟩
  clear HC22
  have HB22 := Lib.hid (HB21.out.trans ((b22).mono HB21.out.size))
  have HA_22 := Lib.hid (HA_21.out.below (b22))
  clear b22 HB21 HA_21
  rw [hasAb]
  go_wp2_with fail
  refine (one_any ⟨#[99]⟩ _).mono ?_
  rintro e w23 ⟨rfl, b23⟩
  have HB23 := Lib.hid (HB22.out.trans ((b23).mono HB22.out.size))
  have HA_23 := Lib.hid (HA_22.out.below (b23))
  clear b23 HB22 HA_22
  have HC24 := Lib.hid (mhas_any (oneT ⟨#[99]⟩) HA_23.out risA (by decide))
  go_wp2_with fail
  refine HC24.out.mono ?_
  rintro e w24 ⟨rfl, b24⟩
  clear HC24
  have HB24 := Lib.hid (HB23.out.trans ((b24).mono HB23.out.size))
  have HA_24 := Lib.hid (HA_23.out.below (b24))
  clear b24 HB23 HA_23
  rw [hasAc]
  go_wp2_with fail
  refine (one_any ⟨#[97]⟩ _).mono ?_
  rintro e w25 ⟨rfl, b25⟩
  have HB25 := Lib.hid (HB24.out.trans ((b25).mono HB24.out.size))
  have HA_25 := Lib.hid (HA_24.out.below (b25))
  clear b25 HB24 HA_24
  have b26 : Below w25.heap.size w25 (w25.alloc (.cells #[.int .u64 0, .bool true, .string ⟨#[100]⟩, .string ⟨#[97]⟩, .string ⟨#[114]⟩, .string ⟨#[117]⟩, .string ⟨#[120]⟩, .string ⟨#[]⟩] 45)) := (Below.refl _ _).alloc (Nat.le_refl _) _
  have HG_26 : Hid (RdS cc (w25.alloc (.cells #[.int .u64 0, .bool true, .string ⟨#[100]⟩, .string ⟨#[97]⟩, .string ⟨#[114]⟩, .string ⟨#[117]⟩, .string ⟨#[120]⟩, .string ⟨#[]⟩] 45)) (.slice (some ⟨w25.heap.size, 0, none⟩) 1 1) [(0, true, oneT ⟨#[97]⟩)]) := ce_sl w25 _ _ _
  have HB26 := Lib.hid (HB25.out.trans ((b26).mono HB25.out.size))
  have HA_26 := Lib.hid (HA_25.out.below (b26))
  clear b26 HB25 HA_25
  go_wp2_with fail
  generalize (w25.alloc (.cells #[.int .u64 0, .bool true, .string ⟨#[100]⟩, .string ⟨#[97]⟩, .string ⟨#[114]⟩, .string ⟨#[117]⟩, .string ⟨#[120]⟩, .string ⟨#[]⟩] 45)) = w26 at HB26 HA_26 HG_26 ⊢
  have HC27 := Lib.hid (fold_any HA_26.out risA HG_26.out (by decide) szAw)
  refine HC27.out.mono ?_
  rintro e w27 ⟨v27, rfl, b27, t27⟩
  clear HC27
  have HF_27 : Hid (TuSl w27 v27 [oneT ⟨#[98]⟩]) := by rw [← foldA]; exact t27
  have HB27 := Lib.hid (HB26.out.trans ((b27).mono HB26.out.size))
  have HA_27 := Lib.hid (HA_26.out.below (b27))
  have HG_27 := Lib.hid (HG_26.out.below (b27))
  clear b27 HB26 HA_26 HG_26
  clear t27
  clear HG_27
  obtain ⟨bf, of, cf, rfl⟩ := HF_27.out.one
  clear HF_27
  go_wp2_with fail
  refine (one_any ⟨#[97]⟩ _).mono ?_
  rintro e w28 ⟨rfl, b28⟩
  have HB28 := Lib.hid (HB27.out.trans ((b28).mono HB27.out.size))
  have HA_28 := Lib.hid (HA_27.out.below (b28))
  clear b28 HB27 HA_27
  have hfl : ∀ W : World, (Instr.field 34 (.agg #[.string ⟨#[100]⟩, .string ⟨#[97]⟩, .string ⟨#[114]⟩, .string ⟨#[117]⟩, .string ⟨#[120]⟩, .string ⟨#[]⟩]) 0).run Try.prog W = .ok (.agg #[.string ⟨#[100]⟩, .string ⟨#[97]⟩]) W := fun W => fT0 (oneT ⟨#[97]⟩) W
  have HC29 := Lib.hid (mrange_any ⟨#[100]⟩ ⟨#[97]⟩ HA_28.out risA (by decide))
  go_wp2_with fail
  refine HC29.out.mono ?_
  rintro e w29 ⟨v29, rfl, b29, t29⟩
  clear HC29
  have HN_29 : Hid (TuSl w29 v29 [oneT ⟨#[97]⟩]) := by rw [← rangeA]; exact t29
  have HB29 := Lib.hid (HB28.out.trans ((b29).mono HB28.out.size))
  have HA_29 := Lib.hid (HA_28.out.below (b29))
  clear b29 HB28 HA_28
  clear t29
  clear HA_29
  obtain ⟨bn, on, cn, rfl⟩ := HN_29.out.one
  clear HN_29
  go_wp2_with fail
  go_ret
  exact ⟨rfl, HB29.out⟩
end Go.Proofs.Ytebbbiikphfjcaa
