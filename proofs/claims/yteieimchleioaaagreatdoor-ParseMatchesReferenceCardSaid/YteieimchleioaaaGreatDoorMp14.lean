/-
  The reference's Schema.
-/
import Derived.Test.YteieimchleioaaaGreatDoorMp13
import Derived.Test.YteieimchleioaaaGreatDoorMp12
import Derived.Test.YteieimchleioaaaGreatDoorMp6
import Derived.Test.YteieimchleioaaaGreatDoorMp8
import Derived.Test.YteieimchleioaaaGreatDoorMp7
namespace Go.Proofs.YteieimchleioaaaGreatDoor
open Go.ChangeShapes Go.WideShapes Go.ChangeAt Go.RowKit
set_option linter.unusedVariables false

/-- A value in cells, with an upper bound of its blocks. -/
def VX {α : Type} (K : Kd α) (B G : Nat) (x : α) (w : World) (cs : List Value) : Prop := G ≤ w.heap.size ∧ K.rd (Bt B G) w x cs
theorem VX.kp {α : Type} {K : Kd α} {B G g : Nat} {x : α} {w w' : World} {cs : List Value} (h : VX K B G x w cs) (hk : Kp g w w') (hg : ¬ (B ≤ g ∧ g < G)) : VX K B G x w' cs :=
 ⟨Nat.le_trans h.1 hk.2.2.2.1, K.keep (fun b hb n => World.cell?_of_block (hk.2.2.2.2 b (Nat.lt_of_lt_of_le hb.2 h.1) (fun e => hg (e ▸ hb)))) h.2⟩
theorem VX.later {α : Type} {K : Kd α} {B G : Nat} {x : α} {w w' : World} {cs : List Value} (h : VX K B G x w cs) (hb : Below w.heap.size w w') : VX K B G x w' cs :=
 ⟨Nat.le_trans h.1 hb.size, K.keep (fun b hb' n => hb.cell (p := ⟨b, n, none⟩) (Nat.lt_of_lt_of_le hb'.2 h.1)) h.2⟩
/-- Definitions in a slice, all their blocks from B on. -/
def VKD (B : Nat) (l : List DefB) (w : World) (v : Value) : Prop := RdK kdDef (Bt B w.heap.size) w l v
theorem VKD.kp {B g : Nat} {l : List DefB} {w w' : World} {v : Value} (h : VKD B l w v) (hk : Kp g w w') (hg : g < B) : VKD B l w' v := RdK.kp h hk hg
theorem VKD.low {B B' : Nat} {l : List DefB} {w : World} {v : Value} (h : VKD B l w v) (hb : B' ≤ B) : VKD B' l w v := RdK.imp (fun b hb' => ⟨Nat.le_trans hb hb'.1, hb'.2⟩) h
theorem VKD.later {B : Nat} {l : List DefB} {w w' : World} {v : Value} (h : VKD B l w v) (hb : Below w.heap.size w w') : VKD B l w' v :=
 RdK.imp (fun b hb' => ⟨hb'.1, Nat.lt_of_lt_of_le hb'.2 hb.size⟩) (RdK.keep (fun b hb' n => hb.cell (p := ⟨b, n, none⟩) hb'.2) h)
/-- Where the loop over definitions stands. -/
def DS (ts : List Tok) (r : PR (List DefB)) (acc : List DefB) (i o k l : Nat) : Prop := r = st k i (defsF ts (65 - acc.length) acc ⟨i, o, l⟩)
theorem ds_more {ts : List Tok} {r : PR (List DefB)} {acc : List DefB} {i o k l k8 i8 l8 : Nat} {d : DefB} (h : DS ts r acc i o k l) (hk : k = 0) (ht : txt ts i = wDefB) (ha : acc.length < 64) (hm : Go1 ts k8 i8 o l8 d (defF ts ⟨i, o, l⟩)) : DS ts r (acc ++ [d]) i8 o k8 l8 := by
 unfold DS at h ⊢
 rw [h, st_0 hk, show 65 - acc.length = (64 - acc.length) + 1 by omega, defsF, if_pos ht, if_pos ha, hm.then, show 65 - (acc ++ [d]).length = 64 - acc.length by rw [List.length_append, List.length_singleton]; omega]
theorem ds_end {ts : List Tok} {r : PR (List DefB)} {acc : List DefB} {i o k l : Nat} (h : DS ts r acc i o k l) (ha : acc.length ≤ 64) (hi : i < ts.length) (hl : Lk k l) (hn : k = 0 → ¬ txt ts i = wDefB) : Go1 ts k i o l acc r := by
 unfold DS at h
 refine ⟨hi, hl, ?_⟩
 rw [h]
 by_cases hk : k = 0
 ·refine .inl ⟨hk, ?_⟩
  rw [st_0 hk, show 65 - acc.length = (64 - acc.length) + 1 by omega, defsF_end (s := ⟨i, o, l⟩) (hn hk)]
 ·exact .inr ⟨hk, st_n hk⟩
theorem ds_bad15 {ts : List Tok} {r : PR (List DefB)} {acc : List DefB} {i o k l k' : Nat} (h : DS ts r acc i o k l) (ha : acc.length = 64) (hk : k = 0) (hi : i < ts.length) (hl : Lk k l) (ht : txt ts i = wDefB) (hk' : k' = if k = 0 then 15 else k) : Go1 ts k' i o l acc r := by
 rw [if_pos hk] at hk'
 subst hk'
 unfold DS at h
 rw [h, st_0 hk, ha, defsF_many (s := ⟨i, o, l⟩) ht (by omega)]
 exact ⟨hi, ⟨hl.1, fun h => by cases h⟩, .inr ⟨by decide, rfl⟩⟩
set_option maxRecDepth 100000 in
set_option maxHeartbeats 8000000 in
theorem refS_any (s : ByteArray) (hs : s.size ≤ 65536) (w : World) : Calls Tryz.prog 6 #[.string s] w (RefPost VS (.agg #[.slice none 0 0]) w (readF schemaR s.data.toList)) := by
 have HLX := Lib.hid (rlex_any s hs (w.alloc (.cells #[.slice none 0 0] 25)))
 obtain ⟨l, hl⟩ : ∃ l, l = s.data.toList := ⟨_, rfl⟩
 have HLS : Hid (l.length ≤ 65536) := by show _ ≤ _; rw [hl, Array.length_toList]; exact hs
 rw [← hl] at HLX ⊢
 have hb0 : Below w.heap.size w (w.alloc (.cells #[.slice none 0 0] 25)) := (Below.refl _ _).alloc (Nat.le_refl _) _
 have HB0 := Lib.hid hb0
 have HR : Hid (Arr (w.alloc (.cells #[.slice none 0 0] 25)) 25 w.heap.size [.slice none 0 0]) := Arr.new' _ _ _ _ rfl
 clear hl hs hb0
 go_enter Tryz.func6, Tryz.ntmps6
 go_upto_region 1 with (fail)
 have HSW : Hid (w.heap.size < (w.alloc (.cells #[.slice none 0 0] 25)).heap.size) := HR.out.lt
 generalize w.alloc (.cells #[.slice none 0 0] 25) = w0 at HLX HB0 HR HSW ⊢
 go_wp2_with fail
 refine HLX.out.mono ?_
 rintro r w1 ⟨v, rfl, r1, b1⟩
 have HR := Lib.hid (HR.out.later b1)
 have HB := Lib.hid (HB0.out.trans (b1.mono HB0.out.size))
 clear HB0
 by_cases h0 : (tokS l).2.1 = 0
 ·have HE0 := Lib.hid h0
  have HE1 : Hid ((tokS l).2.2 = 0) := tokF_code _ _ _ h0
  have HOB := Lib.hid (tokS_okB h0 HLS.out)
  obtain ⟨tb, c, rfl, hrt⟩ := rt_of HOB.out.1 (Nat.le_trans (tokS_len l) (by have := HLS.out; omega)) r1
  rw [show ((tokS l).2.1 : Int) = 0 from by rw [h0]; rfl, show ((tokS l).2.2 : Int) = 0 from by rw [HE1.out]; rfl]
  have hb2 : Below w1.heap.size w1 (w1.alloc (.cells #[.slice (some ⟨tb, 0, none⟩) (tokS l).1.length c, .int .i64 0, .int .i64 0] 51)) := (Below.refl _ _).alloc (Nat.le_refl _) _
  have HX : Hid (Arr (w1.alloc (.cells #[.slice (some ⟨tb, 0, none⟩) (tokS l).1.length c, .int .i64 0, .int .i64 0] 51)) 51 w1.heap.size [.slice (some ⟨tb, 0, none⟩) (tokS l).1.length c, .int .i64 0, .int .i64 0]) := Arr.new' _ _ _ _ rfl
  have HT := Lib.hid (hrt.later hb2)
  have HTZ : Hid (tb < w1.heap.size) := hrt.1
  have HR := Lib.hid (HR.out.later hb2)
  have HB := Lib.hid (HB.out.trans (hb2.mono HB.out.size))
  have hsz : w.heap.size < w1.heap.size := Nat.lt_of_lt_of_le HSW.out b1.size
  clear h0 r1 b1 hb2 hrt HLX
  go_upto_region 2 with (fail)
  obtain ⟨g, hg⟩ : ∃ g, g = w1.heap.size := ⟨_, rfl⟩
  have hg2 : g < (w1.alloc (.cells #[.slice (some ⟨tb, 0, none⟩) (tokS l).1.length c, .int .i64 0, .int .i64 0] 51)).heap.size := by rw [hg]; exact HX.out.lt
  rw [← hg] at HX hsz HTZ ⊢
  generalize w1.alloc (.cells #[.slice (some ⟨tb, 0, none⟩) (tokS l).1.length c, .int .i64 0, .int .i64 0] 51) = w2 at HX HT HB HR hg2 ⊢
  clear hg
  obtain ⟨x0, y0, x1, y1, x2, y2⟩ := HX.out.all3
  go_upto_region 5 with (fail)
  clear x0 y0 x1 y1 x2 y2
  have hb3 : Below w2.heap.size w2 (w2.alloc (.cells #[.slice (some ⟨tb, 0, none⟩) (tokS l).1.length c, .int .i64 0, .int .i64 0, .int .i64 0, .int .i64 0] 54)) := (Below.refl _ _).alloc (Nat.le_refl _) _
  have HP : Hid (Arr (w2.alloc (.cells #[.slice (some ⟨tb, 0, none⟩) (tokS l).1.length c, .int .i64 0, .int .i64 0, .int .i64 0, .int .i64 0] 54)) 54 w2.heap.size [.slice (some ⟨tb, 0, none⟩) (tokS l).1.length c, .int .i64 0, .int .i64 0, .int .i64 0, .int .i64 0]) := Arr.new' _ _ _ _ rfl
  have HT := Lib.hid (HT.out.later hb3)
  have HR := Lib.hid (HR.out.later hb3)
  have HB := Lib.hid (HB.out.trans (hb3.mono HB.out.size))
  obtain ⟨gp, hgp⟩ : ∃ g, g = w2.heap.size := ⟨_, rfl⟩
  have hg3 : gp < (w2.alloc (.cells #[.slice (some ⟨tb, 0, none⟩) (tokS l).1.length c, .int .i64 0, .int .i64 0, .int .i64 0, .int .i64 0] 54)).heap.size := by rw [hgp]; exact HP.out.lt
  rw [← hgp] at HP hg2 ⊢
  generalize w2.alloc (.cells #[.slice (some ⟨tb, 0, none⟩) (tokS l).1.length c, .int .i64 0, .int .i64 0, .int .i64 0, .int .i64 0] 54) = w3 at HP HT HB HR hg3 ⊢
  clear hgp hb3 HX
  go_upto_region 6 with (fail)
  have hb4 : Below w3.heap.size w3 (w3.alloc (.cells #[.slice none 0 0] 25)) := (Below.refl _ _).alloc (Nat.le_refl _) _
  have HF : Hid (Arr (w3.alloc (.cells #[.slice none 0 0] 25)) 25 w3.heap.size [.slice none 0 0]) := Arr.new' _ _ _ _ rfl
  have HT := Lib.hid (HT.out.later hb4)
  have HR := Lib.hid (HR.out.later hb4)
  have HP := Lib.hid (HP.out.later hb4)
  have HB := Lib.hid (HB.out.trans (hb4.mono HB.out.size))
  obtain ⟨gs, hgs⟩ : ∃ g, g = w3.heap.size := ⟨_, rfl⟩
  rw [← hgs] at HF hg3 ⊢
  generalize w3.alloc (.cells #[.slice none 0 0] 25) = w4 at HP HT HB HR HF ⊢
  clear hgs hb4
  obtain ⟨bs, hbs⟩ : ∃ b, b = gs + 1 := ⟨_, rfl⟩
  have HGS : Hid (bs ≤ gs + 1) := by rw [hbs]; exact Nat.le_refl _
  have hg4 : gs < bs := by omega
  have HZ : Hid (tb < bs) := by have := HTZ.out; show _ < _; omega
  clear hbs
  go_loopw [8] (fun _ wr => ∃ (acc : List DefB) (i4 k4 o4 l4 : Nat) (q : Option Addr) (cc : Nat), Hid (PRow kdDef bs (fun _ => False) wr (.slice q acc.length cc) acc) ∧ Hid (Arr wr 25 gs [.slice q acc.length cc]) ∧ Hid (Arr wr 54 gp [.slice (some ⟨tb, 0, none⟩) (tokS l).1.length c, .int .i64 (i4 : Nat), .int .i64 (k4 : Nat), .int .i64 (o4 : Nat), .int .i64 (l4 : Nat)]) ∧ Hid (Arr wr 25 w.heap.size [.slice none 0 0]) ∧ Hid (RT wr tb (tokS l).1) ∧ Hid (Below w.heap.size w wr) ∧ Hid (i4 < (tokS l).1.length) ∧ Hid (Lk k4 l4) ∧ Hid (o4 = 0) ∧ Hid (acc.length ≤ 64) ∧ Hid (DS (tokS l).1 (schemaR (tokS l).1 ps0) acc i4 o4 k4 l4)) (fun _ wr => 65 - mlen gs 0 wr)
  case atStart => exact ⟨[], 0, 0, 0, 0, none, 0, PRow.nil _ _ _ _, HF.out, HP.out, HR.out, HT.out, HB.out, okTs_pos HOB.out.1, ⟨by decide, fun _ => by decide⟩, rfl, Nat.zero_le _, rfl⟩
  case round =>
   obtain ⟨acc, i4, k4, o4, l4, q, cc, HRW, HF, HP, HR, HT, HB, HH4, HL4, HO4, HA64, HDS⟩ := hrel
   have HM0 : Hid (mlen gs 0 wr = acc.length) := mlen_arr HF.out 0 rfl
   have HIS := Lib.hid (ris_any (s := ⟨i4, o4, l4⟩) (c := c) (k := k4) HOB.out.1 HT.out HH4.out ⟨#[100, 101, 102, 105, 110, 105, 116, 105, 111, 110]⟩ wDefB rfl (by decide))
   obtain ⟨d1, hd1⟩ : ∃ d, d = (decide (k4 = 0) && decide (txt (tokS l).1 i4 = wDefB)) := ⟨_, rfl⟩
   have HD := Lib.hid hd1
   rw [show (decide (k4 = 0) && decide (txt (tokS l).1 (⟨i4, o4, l4⟩ : PS).i = wDefB)) = d1 from hd1.symm] at HIS
   clear hd1
   obtain ⟨p0, z0, p1, z1, p2, z2, p3, z3, p4, z4⟩ := HP.out.all5
   go_wp2_with fail
   refine HIS.out.mono ?_
   rintro r w6 ⟨rfl, b1⟩
   clear p0 z0 p1 z1 p2 z2 p3 z3 p4 z4
   have HP := Lib.hid (HP.out.later b1)
   have HR := Lib.hid (HR.out.later b1)
   have HF := Lib.hid (HF.out.later b1)
   have HT := Lib.hid (HT.out.later b1)
   have HRW := Lib.hid (HRW.out.later b1)
   have HB := Lib.hid (HB.out.trans (b1.mono HB.out.size))
   clear b1 HIS
   cases d1 with
   | false =>
    have HGF : Hid (Go1 (tokS l).1 k4 i4 o4 l4 acc (schemaR (tokS l).1 ps0)) := by
     have hd := HD.out
     simp only [Bool.false_eq, Bool.and_eq_false_iff, decide_eq_false_iff_not] at hd
     exact ds_end HDS.out HA64.out HH4.out HL4.out (fun hk h => hd.elim (fun h1 => h1 hk) (fun h1 => h1 h))
    have HV := Lib.hid (show VKD bs acc w6 (.slice q acc.length cc) from HRW.out.rdK)
    have HFN := Lib.hid (rfin_any (c := c) (k := k4) (s := ⟨i4, o4, l4⟩) HT.out HGF.out.1)
    have HRF := Lib.hid (fin_read HE0.out HGF.out)
    have HFO : Hid (finO (tokS l).1 k4 i4 = if finK (tokS l).1 k4 i4 = 0 then 0 else ((offT (tokS l).1 i4 : Nat) : Int)) := by
     show _ = _
     unfold finO
     rw [offs_nat]
    obtain ⟨kf, hkf⟩ : ∃ x, x = finK (tokS l).1 k4 i4 := ⟨_, rfl⟩
    obtain ⟨ko, hko⟩ : ∃ x, x = finO (tokS l).1 k4 i4 := ⟨_, rfl⟩
    have HFN : Hid (Calls Tryz.prog 19 #[.agg #[.slice (some ⟨tb, 0, none⟩) (tokS l).1.length c, .int .i64 (i4 : Nat), .int .i64 (k4 : Nat), .int .i64 (o4 : Nat), .int .i64 (l4 : Nat)]] w6 fun e w' => e = .returned (.tuple #[.int .i64 (kf : Nat), .int .i64 ko]) ∧ Below w6.heap.size w6 w') := by rw [hkf, hko]; exact HFN.out
    rw [← hkf] at HRF HFO
    rw [← hko] at HFO
    clear hkf hko
    obtain ⟨p0, z0, p1, z1, p2, z2, p3, z3, p4, z4⟩ := HP.out.all5
    go_wp2_with fail
    refine HFN.out.mono ?_
    rintro r w25 ⟨rfl, b5⟩
    clear p0 z0 p1 z1 p2 z2 p3 z3 p4 z4
    have HB := Lib.hid (HB.out.trans (b5.mono HB.out.size))
    have HV := Lib.hid (HV.out.later b5)
    have HR := Lib.hid (HR.out.later b5)
    have HF := Lib.hid (HF.out.later b5)
    clear b5 HFN
    by_cases hK : kf = 0
    ·have hk7 : ((kf : Int) != 0) = false := by rw [hK]; rfl
     have HRE : Hid (readF schemaR l = .ok acc) := by
      have h := HRF.out
      rw [if_pos hK] at h
      exact h
     clear hK HRF HFO
     obtain ⟨ea0, eb0⟩ := HF.out.all1
     obtain ⟨u0, v0⟩ := HR.out.all1
     go_wp2_with fail
     clear ea0 eb0
     clear u0 v0
     have hkp := kp_setS w25 (w.heap.size) (.slice q acc.length cc)
     have HR : Hid (Arr (w25.setCell ⟨w.heap.size, 0, none⟩ (.slice q acc.length cc)) 25 w.heap.size [.slice q acc.length cc]) := HR.out.setS (.slice q acc.length cc)
     have HV := Lib.hid (HV.out.kp hkp (by omega))
     have HB := Lib.hid (HB.out.trans (hkp.below (B := w.heap.size) (Nat.le_refl _) HB.out.size))
     clear hkp
     generalize (w25.setCell ⟨w.heap.size, 0, none⟩ (.slice q acc.length cc)) = w26 at HR HB HV ⊢
     have d0 := HR.out.cell 0
     simp only [List.getElem?_cons_zero] at d0
     refine bodyPost_ret (v := .tuple #[.agg #[.slice q acc.length cc], .int .i64 0, .int .i64 0]) ?_ rfl ⟨HB.out, .inl ⟨_, _, HRE.out, rfl, ⟨_, rfl, HV.out.low (by omega)⟩⟩⟩
     simp [results, Tryz.results6, go_sem, d0]
    ·have hk7 : ((kf : Int) != 0) = true := bne_iff_ne.2 (by omega)
     have HRE : Hid (readF schemaR l = .bad kf (offT (tokS l).1 i4) ∧ kf ≠ 0 ∧ ko = ((offT (tokS l).1 i4 : Nat) : Int)) := by
      have h := HRF.out
      have h2 := HFO.out
      rw [if_neg hK] at h h2
      exact ⟨h, hK, h2⟩
     clear hK HRF HFO
     obtain ⟨u0, v0⟩ := HR.out.all1
     go_wp2_with fail
     clear u0 v0
     have hkp := kp_setS w25 (w.heap.size) (.slice none 0 0)
     have HR : Hid (Arr (w25.setCell ⟨w.heap.size, 0, none⟩ (.slice none 0 0)) 25 w.heap.size [.slice none 0 0]) := HR.out.setS (.slice none 0 0)
     have HB := Lib.hid (HB.out.trans (hkp.below (B := w.heap.size) (Nat.le_refl _) HB.out.size))
     clear hkp
     generalize (w25.setCell ⟨w.heap.size, 0, none⟩ (.slice none 0 0)) = w26 at HR HB  ⊢
     have d0 := HR.out.cell 0
     simp only [List.getElem?_cons_zero] at d0
     refine bodyPost_ret (v := .tuple #[.agg #[.slice none 0 0], .int .i64 (kf : Nat), .int .i64 ko]) ?_ rfl ⟨HB.out, .inr ⟨kf, offT (tokS l).1 i4, HRE.out.2.1, HRE.out.1, by rw [HRE.out.2.2]⟩⟩
     simp [results, Tryz.results6, go_sem, d0]
   | true =>
    have hd := HD.out
    simp only [Bool.true_eq, Bool.and_eq_true, decide_eq_true_eq] at hd
    have HK4 := Lib.hid hd.1
    have HT4 := Lib.hid hd.2
    clear hd
    by_cases h6 : acc.length = 64
    ·have h6' : ((acc.length : Int) == 64) = true := by simp [h6]
     have HBD := Lib.hid (rbad_any (c := c) (k := k4) (tb := tb) (ts := (tokS l).1) (s := ⟨i4, o4, l4⟩) (W := w6) 15)
     have HA6 := Lib.hid h6
     clear h6
     obtain ⟨ea0, eb0⟩ := HF.out.all1
     go_upto_region 8 with (fail)
     clear ea0 eb0
     clear h6'
     obtain ⟨p0, z0, p1, z1, p2, z2, p3, z3, p4, z4⟩ := HP.out.all5
     go_wp2_with fail
     refine HBD.out.mono ?_
     rintro r w7 ⟨k', hk', rfl, b1⟩
     clear p0 z0 p1 z1 p2 z2 p3 z3 p4 z4
     have HP := Lib.hid (HP.out.later b1)
     have HR := Lib.hid (HR.out.later b1)
     have HF := Lib.hid (HF.out.later b1)
     have HT := Lib.hid (HT.out.later b1)
     have HRW := Lib.hid (HRW.out.later b1)
     have HB := Lib.hid (HB.out.trans (b1.mono HB.out.size))
     have HGF : Hid (Go1 (tokS l).1 k' i4 o4 l4 acc (schemaR (tokS l).1 ps0)) := ds_bad15 HDS.out HA6.out HK4.out HH4.out HL4.out HT4.out hk'
     clear b1 HBD hk'
     obtain ⟨p0, z0, p1, z1, p2, z2, p3, z3, p4, z4⟩ := HP.out.all5
     go_upto_region 12 with (fail)
     clear p0 z0 p1 z1 p2 z2 p3 z3 p4 z4
     have hkp := kp_setP w7 (gp) (.slice (some ⟨tb, 0, none⟩) (tokS l).1.length c) (.int .i64 (i4 : Nat)) (.int .i64 (k' : Nat)) (.int .i64 (o4 : Nat)) (.int .i64 (l4 : Nat))
     have HP : Hid (Arr (((((w7.setCell ⟨gp, 0, none⟩ (.slice (some ⟨tb, 0, none⟩) (tokS l).1.length c)).setCell ⟨gp, 1, none⟩ (.int .i64 (i4 : Nat))).setCell ⟨gp, 2, none⟩ (.int .i64 (k' : Nat))).setCell ⟨gp, 3, none⟩ (.int .i64 (o4 : Nat))).setCell ⟨gp, 4, none⟩ (.int .i64 (l4 : Nat))) 54 (gp) [.slice (some ⟨tb, 0, none⟩) (tokS l).1.length c, .int .i64 (i4 : Nat), .int .i64 (k' : Nat), .int .i64 (o4 : Nat), .int .i64 (l4 : Nat)]) := HP.out.setP (.slice (some ⟨tb, 0, none⟩) (tokS l).1.length c) (.int .i64 (i4 : Nat)) (.int .i64 (k' : Nat)) (.int .i64 (o4 : Nat)) (.int .i64 (l4 : Nat))
     have HR := Lib.hid (hkp.arr HR.out (by first | omega | (have := HTZ.out; omega)))
     have HF := Lib.hid (hkp.arr HF.out (by first | omega | (have := HTZ.out; omega)))
     have HT := Lib.hid (HT.out.kp hkp (by first | omega | (have := HTZ.out; omega)))
     have HRW := Lib.hid (HRW.out.kp hkp (.inl (by omega)))
     have HB := Lib.hid (HB.out.trans (hkp.below (B := w.heap.size) (by omega) HB.out.size))
     clear hkp
     generalize (((((w7.setCell ⟨gp, 0, none⟩ (.slice (some ⟨tb, 0, none⟩) (tokS l).1.length c)).setCell ⟨gp, 1, none⟩ (.int .i64 (i4 : Nat))).setCell ⟨gp, 2, none⟩ (.int .i64 (k' : Nat))).setCell ⟨gp, 3, none⟩ (.int .i64 (o4 : Nat))).setCell ⟨gp, 4, none⟩ (.int .i64 (l4 : Nat))) = w8 at HP HR HF HT HRW HB ⊢
     have HV := Lib.hid (show VKD bs acc w8 (.slice q acc.length cc) from HRW.out.rdK)
     have HFN := Lib.hid (rfin_any (c := c) (k := k') (s := ⟨i4, o4, l4⟩) HT.out HGF.out.1)
     have HRF := Lib.hid (fin_read HE0.out HGF.out)
     have HFO : Hid (finO (tokS l).1 k' i4 = if finK (tokS l).1 k' i4 = 0 then 0 else ((offT (tokS l).1 i4 : Nat) : Int)) := by
      show _ = _
      unfold finO
      rw [offs_nat]
     obtain ⟨kf, hkf⟩ : ∃ x, x = finK (tokS l).1 k' i4 := ⟨_, rfl⟩
     obtain ⟨ko, hko⟩ : ∃ x, x = finO (tokS l).1 k' i4 := ⟨_, rfl⟩
     have HFN : Hid (Calls Tryz.prog 19 #[.agg #[.slice (some ⟨tb, 0, none⟩) (tokS l).1.length c, .int .i64 (i4 : Nat), .int .i64 (k' : Nat), .int .i64 (o4 : Nat), .int .i64 (l4 : Nat)]] w8 fun e w' => e = .returned (.tuple #[.int .i64 (kf : Nat), .int .i64 ko]) ∧ Below w8.heap.size w8 w') := by rw [hkf, hko]; exact HFN.out
     rw [← hkf] at HRF HFO
     rw [← hko] at HFO
     clear hkf hko
     obtain ⟨p0, z0, p1, z1, p2, z2, p3, z3, p4, z4⟩ := HP.out.all5
     go_wp2_with fail
     refine HFN.out.mono ?_
     rintro r w25 ⟨rfl, b5⟩
     clear p0 z0 p1 z1 p2 z2 p3 z3 p4 z4
     have HB := Lib.hid (HB.out.trans (b5.mono HB.out.size))
     have HV := Lib.hid (HV.out.later b5)
     have HR := Lib.hid (HR.out.later b5)
     have HF := Lib.hid (HF.out.later b5)
     clear b5 HFN
     by_cases hK : kf = 0
     ·have hk7 : ((kf : Int) != 0) = false := by rw [hK]; rfl
      have HRE : Hid (readF schemaR l = .ok acc) := by
       have h := HRF.out
       rw [if_pos hK] at h
       exact h
      clear hK HRF HFO
      obtain ⟨ea0, eb0⟩ := HF.out.all1
      obtain ⟨u0, v0⟩ := HR.out.all1
      go_wp2_with fail
      clear ea0 eb0
      clear u0 v0
      have hkp := kp_setS w25 (w.heap.size) (.slice q acc.length cc)
      have HR : Hid (Arr (w25.setCell ⟨w.heap.size, 0, none⟩ (.slice q acc.length cc)) 25 w.heap.size [.slice q acc.length cc]) := HR.out.setS (.slice q acc.length cc)
      have HV := Lib.hid (HV.out.kp hkp (by omega))
      have HB := Lib.hid (HB.out.trans (hkp.below (B := w.heap.size) (Nat.le_refl _) HB.out.size))
      clear hkp
      generalize (w25.setCell ⟨w.heap.size, 0, none⟩ (.slice q acc.length cc)) = w26 at HR HB HV ⊢
      have d0 := HR.out.cell 0
      simp only [List.getElem?_cons_zero] at d0
      refine bodyPost_ret (v := .tuple #[.agg #[.slice q acc.length cc], .int .i64 0, .int .i64 0]) ?_ rfl ⟨HB.out, .inl ⟨_, _, HRE.out, rfl, ⟨_, rfl, HV.out.low (by omega)⟩⟩⟩
      simp [results, Tryz.results6, go_sem, d0]
     ·have hk7 : ((kf : Int) != 0) = true := bne_iff_ne.2 (by omega)
      have HRE : Hid (readF schemaR l = .bad kf (offT (tokS l).1 i4) ∧ kf ≠ 0 ∧ ko = ((offT (tokS l).1 i4 : Nat) : Int)) := by
       have h := HRF.out
       have h2 := HFO.out
       rw [if_neg hK] at h h2
       exact ⟨h, hK, h2⟩
      clear hK HRF HFO
      obtain ⟨u0, v0⟩ := HR.out.all1
      go_wp2_with fail
      clear u0 v0
      have hkp := kp_setS w25 (w.heap.size) (.slice none 0 0)
      have HR : Hid (Arr (w25.setCell ⟨w.heap.size, 0, none⟩ (.slice none 0 0)) 25 w.heap.size [.slice none 0 0]) := HR.out.setS (.slice none 0 0)
      have HB := Lib.hid (HB.out.trans (hkp.below (B := w.heap.size) (Nat.le_refl _) HB.out.size))
      clear hkp
      generalize (w25.setCell ⟨w.heap.size, 0, none⟩ (.slice none 0 0)) = w26 at HR HB  ⊢
      have d0 := HR.out.cell 0
      simp only [List.getElem?_cons_zero] at d0
      refine bodyPost_ret (v := .tuple #[.agg #[.slice none 0 0], .int .i64 (kf : Nat), .int .i64 ko]) ?_ rfl ⟨HB.out, .inr ⟨kf, offT (tokS l).1 i4, HRE.out.2.1, HRE.out.1, by rw [HRE.out.2.2]⟩⟩
      simp [results, Tryz.results6, go_sem, d0]
    ·have h6' : ((acc.length : Int) == 64) = false := by simp; omega
     have HA6 : Hid (acc.length < 64) := by have := HA64.out; show _ < _; omega
     clear h6
     obtain ⟨ea0, eb0⟩ := HF.out.all1
     go_upto_region 10 with (fail)
     clear ea0 eb0
     clear h6'
     have hb10 : Below w6.heap.size w6 (w6.alloc (.cells #[.string ⟨#[]⟩, .slice none 0 0] 44)) := (Below.refl _ _).alloc (Nat.le_refl _) _
     have HBL : Hid (∀ b, (Value.slice q acc.length cc).ownBlock = some b → b < w6.heap.size) := fun b hb => by obtain ⟨_, h, _⟩ := HRW.out; exact (h.lt b hb).2
     have hgn : bs ≤ w6.heap.size := Nat.le_trans HGS.out (Nat.succ_le_of_lt HF.out.lt)
     have HRW := Lib.hid (HRW.out.wk (Y := fun b => b = w6.heap.size) (fun b _ hl h => absurd (h ▸ hl) (Nat.lt_irrefl _)))
     have HN : Hid (Arr (w6.alloc (.cells #[.string ⟨#[]⟩, .slice none 0 0] 44)) 44 w6.heap.size [.string ⟨#[]⟩, .slice none 0 0]) := Arr.new' _ _ _ _ rfl
     have HP := Lib.hid (HP.out.later hb10)
     have HR := Lib.hid (HR.out.later hb10)
     have HF := Lib.hid (HF.out.later hb10)
     have HT := Lib.hid (HT.out.later hb10)
     have HRW := Lib.hid (HRW.out.later hb10)
     have HB := Lib.hid (HB.out.trans (hb10.mono HB.out.size))
     have hnw : w6.heap.size < (w6.alloc (.cells #[.string ⟨#[]⟩, .slice none 0 0] 44)).heap.size := HN.out.lt
     obtain ⟨nb, hnb⟩ : ∃ x, x = w6.heap.size := ⟨_, rfl⟩
     rw [← hnb] at HN HRW hgn HBL hnw ⊢
     generalize w6.alloc (.cells #[.string ⟨#[]⟩, .slice none 0 0] 44) = w10 at HP HR HF HT HRW HN HB hnw ⊢
     clear hnb hb10
     have HDC : Hid (Calls Tryz.prog 18 #[.agg #[.slice (some ⟨tb, 0, none⟩) (tokS l).1.length c, .int .i64 (i4 : Nat), .int .i64 (k4 : Nat), .int .i64 (o4 : Nat), .int .i64 (l4 : Nat)]] w10 (GD tb c (tokS l).1 o4 (st k4 i4 (defF (tokS l).1 ⟨i4, o4, l4⟩)) w10)) := rdef_any (s := ⟨i4, o4, l4⟩) HOB.out HT.out HH4.out HL4.out HO4.out
     obtain ⟨p0, z0, p1, z1, p2, z2, p3, z3, p4, z4⟩ := HP.out.all5
     go_wp2_with fail
     refine HDC.out.mono ?_
     rintro r w11 ⟨i8, k8, l8, x8, v8, hg8, rfl, hv8, b1⟩
     have HG8 : Hid (Go1 (tokS l).1 k8 i8 o4 l8 x8 (defF (tokS l).1 ⟨i4, o4, l4⟩)) := by
      have h := hg8
      rw [st_0 HK4.out] at h
      exact h
     obtain ⟨dn, dm⟩ := x8
     obtain ⟨qd, cd, rfl, hv9⟩ := VD.form hv8
     have HDV : Hid (VX kdDef w10.heap.size w11.heap.size (dn, dm) w11 [.string (bstr dn), .slice qd dm.length cd]) := ⟨Nat.le_refl _, hv9⟩
     clear p0 z0 p1 z1 p2 z2 p3 z3 p4 z4
     have HP := Lib.hid (HP.out.later b1)
     have HN := Lib.hid (HN.out.later b1)
     have HR := Lib.hid (HR.out.later b1)
     have HF := Lib.hid (HF.out.later b1)
     have HT := Lib.hid (HT.out.later b1)
     have HRW := Lib.hid (HRW.out.later b1)
     have HB := Lib.hid (HB.out.trans (b1.mono HB.out.size))
     clear hg8 hv8 hv9 b1 HDC
     obtain ⟨p0, z0, p1, z1, p2, z2, p3, z3, p4, z4⟩ := HP.out.all5
     obtain ⟨na0, nz0, na1, nz1⟩ := HN.out.all2
     go_upto_region 11 with (fail)
     clear p0 z0 p1 z1 p2 z2 p3 z3 p4 z4
     clear na0 nz0 na1 nz1
     have hkp := kp_setP w11 (gp) (.slice (some ⟨tb, 0, none⟩) (tokS l).1.length c) (.int .i64 (i8 : Nat)) (.int .i64 (k8 : Nat)) (.int .i64 (o4 : Nat)) (.int .i64 (l8 : Nat))
     have HP : Hid (Arr (((((w11.setCell ⟨gp, 0, none⟩ (.slice (some ⟨tb, 0, none⟩) (tokS l).1.length c)).setCell ⟨gp, 1, none⟩ (.int .i64 (i8 : Nat))).setCell ⟨gp, 2, none⟩ (.int .i64 (k8 : Nat))).setCell ⟨gp, 3, none⟩ (.int .i64 (o4 : Nat))).setCell ⟨gp, 4, none⟩ (.int .i64 (l8 : Nat))) 54 (gp) [.slice (some ⟨tb, 0, none⟩) (tokS l).1.length c, .int .i64 (i8 : Nat), .int .i64 (k8 : Nat), .int .i64 (o4 : Nat), .int .i64 (l8 : Nat)]) := HP.out.setP (.slice (some ⟨tb, 0, none⟩) (tokS l).1.length c) (.int .i64 (i8 : Nat)) (.int .i64 (k8 : Nat)) (.int .i64 (o4 : Nat)) (.int .i64 (l8 : Nat))
     have HN := Lib.hid (hkp.arr HN.out (by first | omega | (have := HTZ.out; omega)))
     have HDV := Lib.hid (HDV.out.kp hkp (by first | omega | (have := HTZ.out; omega)))
     have HR := Lib.hid (hkp.arr HR.out (by first | omega | (have := HTZ.out; omega)))
     have HF := Lib.hid (hkp.arr HF.out (by first | omega | (have := HTZ.out; omega)))
     have HT := Lib.hid (HT.out.kp hkp (by first | omega | (have := HTZ.out; omega)))
     have HRW := Lib.hid (HRW.out.kp hkp (.inl (by omega)))
     have HB := Lib.hid (HB.out.trans (hkp.below (B := w.heap.size) (by omega) HB.out.size))
     clear hkp
     generalize (((((w11.setCell ⟨gp, 0, none⟩ (.slice (some ⟨tb, 0, none⟩) (tokS l).1.length c)).setCell ⟨gp, 1, none⟩ (.int .i64 (i8 : Nat))).setCell ⟨gp, 2, none⟩ (.int .i64 (k8 : Nat))).setCell ⟨gp, 3, none⟩ (.int .i64 (o4 : Nat))).setCell ⟨gp, 4, none⟩ (.int .i64 (l8 : Nat))) = w12 at HP HN HDV HR HF HT HRW HB ⊢
     have hkp := kp_setD w12 (nb) (.string (bstr dn)) (.slice qd dm.length cd)
     have HN : Hid (Arr ((w12.setCell ⟨nb, 0, none⟩ (.string (bstr dn))).setCell ⟨nb, 1, none⟩ (.slice qd dm.length cd)) 44 (nb) [.string (bstr dn), .slice qd dm.length cd]) := HN.out.setD (.string (bstr dn)) (.slice qd dm.length cd)
     have HP := Lib.hid (hkp.arr HP.out (by first | omega | (have := HTZ.out; omega)))
     have HR := Lib.hid (hkp.arr HR.out (by first | omega | (have := HTZ.out; omega)))
     have HF := Lib.hid (hkp.arr HF.out (by first | omega | (have := HTZ.out; omega)))
     have HT := Lib.hid (HT.out.kp hkp (by first | omega | (have := HTZ.out; omega)))
     have HRW := Lib.hid (HRW.out.kp hkp (.inr rfl))
     have HDV := Lib.hid (HDV.out.kp hkp (by first | omega | (have := HTZ.out; omega)))
     have HB := Lib.hid (HB.out.trans (hkp.below (B := w.heap.size) (by omega) HB.out.size))
     clear hkp
     generalize ((w12.setCell ⟨nb, 0, none⟩ (.string (bstr dn))).setCell ⟨nb, 1, none⟩ (.slice qd dm.length cd)) = w13 at HN HP HR HF HT HRW HDV HB ⊢
     obtain ⟨ea0, eb0⟩ := HF.out.all1
     obtain ⟨na0, nz0, na1, nz1⟩ := HN.out.all2
     have hb14 : Below w13.heap.size w13 (w13.alloc (.cells #[.string (bstr dn), .slice qd dm.length cd] 44)) := (Below.refl _ _).alloc (Nat.le_refl _) _
     have HY : Hid (Arr (w13.alloc (.cells #[.string (bstr dn), .slice qd dm.length cd] 44)) 44 w13.heap.size [.string (bstr dn), .slice qd dm.length cd]) := Arr.new' _ _ _ _ rfl
     have HP := Lib.hid (HP.out.later hb14)
     have HN := Lib.hid (HN.out.later hb14)
     have HDV := Lib.hid (HDV.out.later hb14)
     have HR := Lib.hid (HR.out.later hb14)
     have HF := Lib.hid (HF.out.later hb14)
     have HT := Lib.hid (HT.out.later hb14)
     have HRW := Lib.hid (HRW.out.later hb14)
     have HB := Lib.hid (HB.out.trans (hb14.mono HB.out.size))
     have HR9 : Hid (rdDef (SubX bs (fun b => b = nb) (w13.alloc (.cells #[.string (bstr dn), .slice qd dm.length cd] 44)) (.slice q acc.length cc)) (w13.alloc (.cells #[.string (bstr dn), .slice qd dm.length cd] 44)) (dn, dm) [.string (bstr dn), .slice qd dm.length cd]) := kdDef.imp (fun b hb => ⟨by have := hb.1; omega, Nat.lt_of_lt_of_le hb.2 HDV.out.1, fun e => by have h1 := HBL.out b e.symm; have := hb.1; omega, fun h => by have := hb.1; omega⟩) HDV.out.2
     have HAC : Hid (acc.length + 1 ≤ 200000) := by have := HA6.out; show _ ≤ _; omega
     have HBS2 : Hid (bs ≤ (w13.alloc (.cells #[.string (bstr dn), .slice qd dm.length cd] 44)).heap.size) := by have h := HN.out.lt; show _ ≤ _; omega
     have HXX : Hid (∀ b, (b = nb) → b < (w13.alloc (.cells #[.string (bstr dn), .slice qd dm.length cd] 44)).heap.size) := fun b h => by have h3 := HN.out.lt; rw [h]; exact h3
     clear hb14
     go_wp2_with (at_builtin; refine app_row (K := kdDef) (x := (dn, dm)) rfl _ _ rfl rfl HRW.out rfl HY.out HR9.out HAC.out HBS2.out HXX.out ?_)
     intro v10 w21 r10 g10 o10
     have HP : Hid (Arr w21 54 gp [.slice (some ⟨tb, 0, none⟩) (tokS l).1.length c, .int .i64 (i8 : Nat), .int .i64 (k8 : Nat), .int .i64 (o4 : Nat), .int .i64 (l8 : Nat)]) := (g10.block _ HP.out.lt (fun e => by have := (o10 _ e.symm).1; omega)).trans HP.out
     have HR : Hid (Arr w21 25 w.heap.size [.slice none 0 0]) := (g10.block _ HR.out.lt (fun e => by have := (o10 _ e.symm).1; omega)).trans HR.out
     have HF : Hid (Arr w21 25 gs [.slice q acc.length cc]) := (g10.block _ HF.out.lt (fun e => by have := (o10 _ e.symm).1; omega)).trans HF.out
     have hlo : bs ≤ (w13.alloc (.cells #[.string (bstr dn), .slice qd dm.length cd] 44)).heap.size := HBS2.out
     have hlk : ∀ k, (Value.slice q acc.length cc).ownBlock = some k → bs ≤ k := fun k hk => (o10 k hk).1
     have HT : Hid (RT w21 tb (tokS l).1) := by
      have hb := (Below.refl bs (w13.alloc (.cells #[.string (bstr dn), .slice qd dm.length cd] 44))).grown g10 hlo hlk
      exact ⟨Nat.lt_of_lt_of_le HT.out.1 hb.size, HT.out.2.1, fun i hi j hj => (hb.cell (p := ⟨tb, i * 3 + j, none⟩) HZ.out).trans (HT.out.2.2 i hi j hj)⟩
     have HB := Lib.hid (HB.out.grown g10 (Nat.le_trans (by omega) hlo) (fun k hk => Nat.le_trans (by omega) (hlk k hk)))
     have HRW : Hid (PRow kdDef bs (fun _ => False) w21 v10 (acc ++ [(dn, dm)])) := r10.wk (fun b _ _ h => h.elim)
     obtain ⟨q10, c10, hv10⟩ := r10.form
     rw [List.length_append, List.length_singleton] at hv10
     subst hv10
     clear r10 g10 o10 hlo hlk HY HR9 HDV HN HXX HBS2
     clear ea0 eb0
     clear na0 nz0 na1 nz1
     obtain ⟨ea0, eb0⟩ := HF.out.all1
     go_wp2_with fail
     have hkp := (Kp.of (pb := gs) (Below.refl w21.heap.size w21)).set 0 (.slice q10 (acc.length + 1) c10)
     have HF : Hid (Arr (w21.setCell ⟨gs, 0, none⟩ (.slice q10 (acc.length + 1) c10)) 25 gs [.slice q10 (acc.length + 1) c10]) := HF.out.set 0 _
     have HP := Lib.hid (hkp.arr HP.out (by first | omega | (have := HTZ.out; omega)))
     have HR := Lib.hid (hkp.arr HR.out (by first | omega | (have := HTZ.out; omega)))
     have HT := Lib.hid (HT.out.kp hkp (by first | omega | (have := HTZ.out; omega)))
     have HRW := Lib.hid (HRW.out.kp hkp (.inl (by omega)))
     have HB := Lib.hid (HB.out.trans (hkp.below (B := w.heap.size) (by omega) HB.out.size))
     clear hkp
     generalize (w21.setCell ⟨gs, 0, none⟩ (.slice q10 (acc.length + 1) c10)) = w22 at HP HF HR HT HRW HB ⊢
     go_roundw
     case rel =>
      have hlen : (acc ++ [((dn, dm) : DefB)]).length = acc.length + 1 := by rw [List.length_append, List.length_singleton]
      refine ⟨acc ++ [((dn, dm) : DefB)], i8, k8, o4, l8, q10, c10, ?_, ?_, HP.out, HR.out, HT.out, HB.out, HG8.out.1, HG8.out.2.1, HO4.out, ?_, ?_⟩
      ·rw [hlen]
       exact HRW.out
      ·rw [hlen]
       exact HF.out
      ·show _ ≤ _
       rw [hlen]
       exact HA6.out
      ·exact ds_more HDS.out HK4.out HT4.out HA6.out HG8.out
     case measure =>
      rw [mlen_arr HF.out 0 rfl, HM0.out]
      have := HA6.out
      omega
 ·have HRE := Lib.hid (readF_lex (rule := schemaR) h0)
  obtain ⟨q, c, rfl, _⟩ := r1.form
  have hb2 : Below w1.heap.size w1 (w1.alloc (.cells #[.slice q ((tokS l).1).length c, .int .i64 ((tokS l).2.1 : Nat), .int .i64 ((tokS l).2.2 : Nat)] 51)) := (Below.refl _ _).alloc (Nat.le_refl _) _
  have HX : Hid (Arr (w1.alloc (.cells #[.slice q ((tokS l).1).length c, .int .i64 ((tokS l).2.1 : Nat), .int .i64 ((tokS l).2.2 : Nat)] 51)) 51 w1.heap.size [.slice q ((tokS l).1).length c, .int .i64 ((tokS l).2.1 : Nat), .int .i64 ((tokS l).2.2 : Nat)]) := Arr.new' _ _ _ _ rfl
  have HB := Lib.hid (HB.out.trans (hb2.mono HB.out.size))
  have HR := Lib.hid (HR.out.later hb2)
  have hsz : w.heap.size < w1.heap.size := Nat.lt_of_lt_of_le HSW.out b1.size
  have h0' : (((tokS l).2.1 : Int) != 0) = true := bne_iff_ne.2 (by omega)
  clear r1 b1 hb2 HLX
  go_upto_region 2 with (fail)
  generalize w1.alloc (.cells #[.slice q ((tokS l).1).length c, .int .i64 ((tokS l).2.1 : Nat), .int .i64 ((tokS l).2.2 : Nat)] 51) = w2 at HX HB HR ⊢
  obtain ⟨g, hg⟩ : ∃ g, g = w1.heap.size := ⟨_, rfl⟩
  rw [← hg] at HX hsz ⊢
  clear hg
  obtain ⟨x0, y0, x1, y1, x2, y2⟩ := HX.out.all3
  go_upto_region 3 with (fail)
  clear x0 y0 x1 y1 x2 y2
  clear h0'
  have HB := Lib.hid (HB.out.trans ((Below.refl w2.heap.size w2).drew.mono HB.out.size))
  have HR := Lib.hid (HR.out.later ((Below.refl w2.heap.size w2).drew))
  refine wp_region_held_drew (S := fun W' => Arr W' 51 g [.slice q ((tokS l).1).length c, .int .i64 ((tokS l).2.1 : Nat), .int .i64 ((tokS l).2.2 : Nat)]) (by kernel_rfl) (HX.out.later (Below.refl _ _).drew) (fun hHeld => ?_)
  try simp only [Act.put]
  generalize w2.drew = w3 at hHeld HB HR ⊢
  refine wpAnyH_take (i := 0) (oi := ⟨some 16, _, _, _, _, _⟩) (v := .agg #[.slice none 0 0]) rfl (by kernel_rfl) (by kernel_rfl) (by kernel_rfl) (fun _ _ _ h => h) (.inl ⟨by rfl, fun w' hSw => ?_⟩) hHeld ?_
  focus (skip; clear hHeld; go_simp)
  try simp only [Act.put, List.setIfInBounds_toArray, List.set_cons_zero, List.set_cons_succ]
  refine wpAnyH_take (i := 1) (oi := ⟨some 17, _, _, _, _, _⟩) (v := .pointer (some ⟨g, 1, none⟩)) rfl (by kernel_rfl) (by kernel_rfl) (by kernel_rfl) (fun _ _ _ h => h) (.inl ⟨by rfl, fun w' hSw => ?_⟩) hHeld ?_
  focus (skip; clear hHeld; go_simp)
  try simp only [Act.put, List.setIfInBounds_toArray, List.set_cons_zero, List.set_cons_succ]
  refine wpAnyH_take (i := 2) (oi := ⟨some 18, _, _, _, _, _⟩) (v := .int .i64 ((tokS l).2.1 : Nat)) rfl (by kernel_rfl) (by kernel_rfl) (by kernel_rfl) (fun _ _ _ h => h) (.inl ⟨by rfl, fun w' hSw => ?_⟩) hHeld ?_
  focus (have q := hSw; have q0 := q.cell 0; have q1 := q.cell 1; have q2 := q.cell 2; simp only [List.getElem?_cons_zero, List.getElem?_cons_succ] at q0 q1 q2; clear hHeld; go_simp)
  try simp only [Act.put, List.setIfInBounds_toArray, List.set_cons_zero, List.set_cons_succ]
  refine wpAnyH_take (i := 3) (oi := ⟨some 19, _, _, _, _, _⟩) (v := .pointer (some ⟨g, 2, none⟩)) rfl (by kernel_rfl) (by kernel_rfl) (by kernel_rfl) (fun _ _ _ h => h) (.inl ⟨by rfl, fun w' hSw => ?_⟩) hHeld ?_
  focus (skip; clear hHeld; go_simp)
  try simp only [Act.put, List.setIfInBounds_toArray, List.set_cons_zero, List.set_cons_succ]
  refine wpAnyH_take (i := 4) (oi := ⟨some 20, _, _, _, _, _⟩) (v := .int .i64 ((tokS l).2.2 : Nat)) rfl (by kernel_rfl) (by kernel_rfl) (by kernel_rfl) (fun _ _ _ h => h) (.inl ⟨by rfl, fun w' hSw => ?_⟩) hHeld ?_
  focus (have q := hSw; have q0 := q.cell 0; have q1 := q.cell 1; have q2 := q.cell 2; simp only [List.getElem?_cons_zero, List.getElem?_cons_succ] at q0 q1 q2; clear hHeld; go_simp)
  try simp only [Act.put, List.setIfInBounds_toArray, List.set_cons_zero, List.set_cons_succ]
  refine wpAnyH_ready (rs := [5]) (by kernel_rfl) (by simp) ?_
  refine AllReadyH.cons (o := ⟨none, _, _, _, _, _⟩) rfl (fun K' hK' => ?_) AllReadyH.nil
  obtain ⟨u0, v0⟩ := HR.out.all1
  have hkn := (hHeld.setCell (a := ⟨w.heap.size, 0, none⟩) (by simp only [ne_eq]; omega) (.slice none 0 0))
  clear hHeld
  go_simp
  clear u0 v0
  refine hK'.out _ _ hkn (fun hHeld => ?_)
  clear hK' K' hkn
  try simp only [Act.put, List.setIfInBounds_toArray, List.set_cons_zero, List.set_cons_succ]
  have hkp := kp_setS w3 (w.heap.size) (.slice none 0 0)
  have HR : Hid (Arr (w3.setCell ⟨w.heap.size, 0, none⟩ (.slice none 0 0)) 25 w.heap.size [.slice none 0 0]) := HR.out.setS (.slice none 0 0)
  have HB := Lib.hid (HB.out.trans (hkp.below (B := w.heap.size) (Nat.le_refl _) HB.out.size))
  clear hkp
  generalize (w3.setCell ⟨w.heap.size, 0, none⟩ (.slice none 0 0)) = w4 at HR HB hHeld ⊢
  refine wpAnyH_take (i := 6) (oi := ⟨some 3, _, _, _, _, _⟩) (v := .int .i64 ((tokS l).2.1 : Nat)) rfl (by kernel_rfl) (by kernel_rfl) (by kernel_rfl) (fun _ _ _ h => h) (.inl ⟨by rfl, fun w' hSw => ?_⟩) hHeld ?_
  focus (skip; clear hHeld; go_simp)
  try simp only [Act.put, List.setIfInBounds_toArray, List.set_cons_zero, List.set_cons_succ]
  refine wpAnyH_take (i := 7) (oi := ⟨some 4, _, _, _, _, _⟩) (v := .int .i64 ((tokS l).2.2 : Nat)) rfl (by kernel_rfl) (by kernel_rfl) (by kernel_rfl) (fun _ _ _ h => h) (.inl ⟨by rfl, fun w' hSw => ?_⟩) hHeld ?_
  focus (skip; clear hHeld; go_simp)
  try simp only [Act.put, List.setIfInBounds_toArray, List.set_cons_zero, List.set_cons_succ]
  refine wpAnyH_done (by kernel_rfl) ?_ _
  go_wp2_with fail
  clear hHeld
  have d0 := HR.out.cell 0
  simp only [List.getElem?_cons_zero] at d0
  refine bodyPost_ret (v := .tuple #[.agg #[.slice none 0 0], .int .i64 ((tokS l).2.1 : Nat), .int .i64 ((tokS l).2.2 : Nat)]) ?_ rfl ⟨HB.out, .inr ⟨_, _, h0, HRE.out, rfl⟩⟩
  simp [results, Tryz.results6, go_sem, d0]
end Go.Proofs.YteieimchleioaaaGreatDoor
/-
  ParseMatchesReference: any text is read as the schema of the reference, which has its form, or has its error.
-/
namespace Go.Proofs.YteieimchleioaaaGreatDoor
open errAs (ErrT)
open Go.ChangeShapes Go.WideShapes Go.ChangeAt Go.RowKit
set_option linter.unusedVariables false

set_option maxRecDepth 100000 in
set_option maxHeartbeats 4000000 in
theorem parse_law (s : ByteArray) (w : World) (hz : s.size ≤ maxLen) (h : Env w) : Calls Tryz.prog 3 #[.string s] w fun e w' => e = .returned (.bool true) ∧ Below w.heap.size w w' := by
 have HAW := Lib.hid (awake_any w h)
 have HE := Lib.hid h
 clear h hz
 by_cases hs : s.size ≤ 6000
 ·have hs1 : ¬ (6000 : Int) < s.size := by omega
  have HSZ := Lib.hid hs
  clear hs
  go_enter Tryz.func3, Tryz.ntmps3
  go_wp2_with fail
  refine HAW.out.mono ?_
  rintro r w1 ⟨rfl, b1⟩
  have HE1 := Lib.hid (HE.out.below b1)
  have HB1 := Lib.hid b1
  have HPA := Lib.hid (parseS_any s (Nat.le_trans HSZ.out (by decide)) w1 HE1.out.1)
  clear b1 HAW
  go_wp2_with fail
  refine HPA.out.mono ?_
  rintro r w2 h2
  have hb2 := h2.1
  have HE2 := Lib.hid (HE1.out.below hb2)
  have HB2 := Lib.hid (HB1.out.trans (hb2.mono HB1.out.size))
  obtain ⟨-, ⟨d, v, e, rfl, hv⟩ | ⟨a, b, ha, e, rfl⟩⟩ := h2
  ·have HR := Lib.hid e
   obtain ⟨q1, c1, rfl, hk3⟩ := VS.form hv
   have HV := Lib.hid (show VKD _ d w2 (.slice q1 d.length c1) from hk3)
   have hb3 : Below w2.heap.size w2 (w2.alloc (.cells #[.slice q1 d.length c1] 25)) := (Below.refl _ _).alloc (Nat.le_refl _) _
   have HX : Hid (Arr (w2.alloc (.cells #[.slice q1 d.length c1] 25)) 25 w2.heap.size [.slice q1 d.length c1]) := Arr.new' _ _ _ _ rfl
   have HV := Lib.hid (HV.out.later hb3)
   have HE2 := Lib.hid (HE2.out.below hb3)
   have HB2 := Lib.hid (HB2.out.trans (hb3.mono HB2.out.size))
   have HRA := Lib.hid (refS_any s (Nat.le_trans HSZ.out (by decide)) (w2.alloc (.cells #[.slice q1 d.length c1] 25)))
   clear e hb2 hb3 HPA hv hk3
   go_upto_region 4 with (fail)
   obtain ⟨g, hg⟩ : ∃ g, g = w2.heap.size := ⟨_, rfl⟩
   rw [← hg] at HX ⊢
   generalize w2.alloc (.cells #[.slice q1 d.length c1] 25) = w3 at HX HV HE2 HB2 HRA ⊢
   clear hg
   go_wp2_with fail
   refine HRA.out.mono ?_
   rintro r w4 ⟨b4, ⟨y, u, e, rfl, hu⟩ | ⟨a, b, ha, e, rfl⟩⟩
   ·have hxy : y = d := by have h := HR.out.symm.trans e; cases h; rfl
    subst hxy
    obtain ⟨q2, c2, rfl, hk5⟩ := VS.form hu
    have HU := Lib.hid (show VKD _ y w4 (.slice q2 y.length c2) from hk5)
    have HX := Lib.hid (HX.out.later b4)
    have HV := Lib.hid (HV.out.later b4)
    have HE2 := Lib.hid (HE2.out.below b4)
    have HB2 := Lib.hid (HB2.out.trans (b4.mono HB2.out.size))
    have hb5 : Below w4.heap.size w4 (w4.alloc (.cells #[.slice q2 y.length c2] 25)) := (Below.refl _ _).alloc (Nat.le_refl _) _
    have HY : Hid (Arr (w4.alloc (.cells #[.slice q2 y.length c2] 25)) 25 w4.heap.size [.slice q2 y.length c2]) := Arr.new' _ _ _ _ rfl
    have HX := Lib.hid (HX.out.later hb5)
    have HV := Lib.hid (HV.out.later hb5)
    have HU := Lib.hid (HU.out.later hb5)
    have HE2 := Lib.hid (HE2.out.below hb5)
    have HB2 := Lib.hid (HB2.out.trans (hb5.mono HB2.out.size))
    have HG := Lib.hid (readF_good HR.out)
    clear e b4 hb5 HRA hu hk5
    go_upto_region 5 with (fail)
    obtain ⟨g2, hg2⟩ : ∃ g, g = w4.heap.size := ⟨_, rfl⟩
    rw [← hg2] at HY ⊢
    generalize w4.alloc (.cells #[.slice q2 y.length c2] 25) = w5 at HX HY HV HU HE2 HB2 ⊢
    clear hg2
    have HSM := Lib.hid (sameS_any y q1 q2 c1 c2 _ _ w5 HV.out HU.out (fun b hb => hb.2) (fun b hb => hb.2) HG.out.ok.1 HG.out.ok.2)
    have HTN := Lib.hid (fun w => told_none 0 w)
    obtain ⟨ea0, eb0⟩ := HX.out.all1
    obtain ⟨na0, nb0⟩ := HY.out.all1
    go_wp2_with fail
    refine HSM.out.mono ?_
    rintro r w6 ⟨rfl, b6⟩
    clear ea0 eb0
    clear na0 nb0
    have HX := Lib.hid (HX.out.later b6)
    have HY := Lib.hid (HY.out.later b6)
    have HV := Lib.hid (HV.out.later b6)
    have HU := Lib.hid (HU.out.later b6)
    have HE6 := Lib.hid (HE2.out.below b6)
    have HB6 := Lib.hid (HB2.out.trans (b6.mono HB2.out.size))
    clear b6
    go_wp2_with fail
    refine (HTN.out w6).mono ?_
    rintro r w7 ⟨rfl, h7⟩
    obtain rfl := h7
    have HFO := Lib.hid (form_any y q1 c1 _ w6 HV.out (fun b hb => hb.2) HG.out HE6.out.1)
    obtain ⟨ea0, eb0⟩ := HX.out.all1
    go_wp2_with fail
    refine HFO.out.mono ?_
    rintro r w8 ⟨rfl, b8⟩
    clear ea0 eb0
    have HY := Lib.hid (HY.out.later b8)
    have HU := Lib.hid (HU.out.later b8)
    have HB8 := Lib.hid (HB6.out.trans (b8.mono HB6.out.size))
    clear b8
    have HRF := Lib.hid (rForm_any y q2 c2 _ w8 HU.out (fun b hb => hb.2) HG.out)
    obtain ⟨na0, nb0⟩ := HY.out.all1
    go_wp2_with fail
    refine HRF.out.mono ?_
    rintro r w9 ⟨rfl, b9⟩
    have HB9 := Lib.hid (HB8.out.trans (b9.mono HB8.out.size))
    clear b9
    go_wp2_with fail
    go_ret
    exact ⟨rfl, HB9.out⟩
   ·exact absurd (HR.out.symm.trans e) (by intro h; cases h)
  ·have HR := Lib.hid e
   have HA := Lib.hid ha
   have hb3 : Below w2.heap.size w2 (w2.alloc (.cells #[.slice none 0 0] 25)) := (Below.refl _ _).alloc (Nat.le_refl _) _
   have HX : Hid (Arr (w2.alloc (.cells #[.slice none 0 0] 25)) 25 w2.heap.size [.slice none 0 0]) := Arr.new' _ _ _ _ rfl
   have HE2 := Lib.hid (HE2.out.below hb3)
   have HB2 := Lib.hid (HB2.out.trans (hb3.mono HB2.out.size))
   have HRA := Lib.hid (refS_any s (Nat.le_trans HSZ.out (by decide)) (w2.alloc (.cells #[.slice none 0 0] 25)))
   clear e hb2 hb3 HPA
   unfold faultN
   go_upto_region 4 with (fail)
   obtain ⟨g, hg⟩ : ∃ g, g = w2.heap.size := ⟨_, rfl⟩
   rw [← hg] at HX ⊢
   generalize w2.alloc (.cells #[.slice none 0 0] 25) = w3 at HX HE2 HB2 HRA ⊢
   clear hg
   go_wp2_with fail
   refine HRA.out.mono ?_
   rintro r w4 ⟨b4, ⟨y, u, e, rfl, hu⟩ | ⟨a2, b2, ha2, e, rfl⟩⟩
   ·exact absurd (HR.out.symm.trans e) (by intro h; cases h)
   ·have hxy : a = a2 ∧ b = b2 := by have h := HR.out.symm.trans e; cases h; exact ⟨rfl, rfl⟩
    obtain ⟨rfl, rfl⟩ := hxy
    have HX := Lib.hid (HX.out.later b4)
    have HE2 := Lib.hid (HE2.out.below b4)
    have HB2 := Lib.hid (HB2.out.trans (b4.mono HB2.out.size))
    have hb5 : Below w4.heap.size w4 (w4.alloc (.cells #[.slice none 0 0] 25)) := (Below.refl _ _).alloc (Nat.le_refl _) _
    have HY : Hid (Arr (w4.alloc (.cells #[.slice none 0 0] 25)) 25 w4.heap.size [.slice none 0 0]) := Arr.new' _ _ _ _ rfl
    have HX := Lib.hid (HX.out.later hb5)
    have HE2 := Lib.hid (HE2.out.below hb5)
    have HB2 := Lib.hid (HB2.out.trans (hb5.mono HB2.out.size))
    clear e b4 hb5 HRA ha2 ha
    go_upto_region 5 with (fail)
    obtain ⟨g2, hg2⟩ : ∃ g, g = w4.heap.size := ⟨_, rfl⟩
    rw [← hg2] at HY ⊢
    generalize w4.alloc (.cells #[.slice none 0 0] 25) = w5 at HX HY HE2 HB2 ⊢
    clear hg2
    have HSM : Hid (Calls Tryz.prog 7 #[.agg #[.slice none 0 0], .agg #[.slice none 0 0]] w5 fun e w' => e = .returned (.bool true) ∧ Below w5.heap.size w5 w') := sameS_any [] none none 0 0 (fun _ => False) (fun _ => False) w5 (RdK.nil _ _ _) (RdK.nil _ _ _) (fun b hb => hb.elim) (fun b hb => hb.elim) (by decide) (fun d hd => by cases hd)
    have HTF := Lib.hid (fun w (hw : ErrT w) => told_fault a b HA.out w hw)
    unfold faultN at HTF
    obtain ⟨ea0, eb0⟩ := HX.out.all1
    obtain ⟨na0, nb0⟩ := HY.out.all1
    go_wp2_with fail
    refine HSM.out.mono ?_
    rintro r w6 ⟨rfl, b6⟩
    clear ea0 eb0
    clear na0 nb0
    have HE6 := Lib.hid (HE2.out.below b6)
    have HB6 := Lib.hid (HB2.out.trans (b6.mono HB2.out.size))
    clear b6
    go_wp2_with fail
    refine (HTF.out w6 HE6.out.2).mono ?_
    rintro r w7 ⟨rfl, b7⟩
    have HB7 := Lib.hid (HB6.out.trans (b7.mono HB6.out.size))
    clear b7
    go_wp2_with fail
    go_ret
    exact ⟨rfl, HB7.out⟩
 ·have hs1 : (6000 : Int) < s.size := by omega
  clear hs
  have HA2 := Lib.hid (fun w (hw : Env w) => awake_any w hw)
  go_enter Tryz.func3, Tryz.ntmps3
  go_wp2_with fail
  refine HAW.out.mono ?_
  rintro r w1 ⟨rfl, b1⟩
  have HE1 := Lib.hid (HE.out.below b1)
  have HB1 := Lib.hid b1
  clear b1 HAW
  go_wp2_with fail
  refine (HA2.out w1 HE1.out).mono ?_
  rintro r w2 ⟨rfl, b2⟩
  have HB2 := Lib.hid (HB1.out.trans (b2.mono HB1.out.size))
  clear b2
  go_wp2_with fail
  go_ret
  exact ⟨rfl, HB2.out⟩
end Go.Proofs.YteieimchleioaaaGreatDoor
