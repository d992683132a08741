/-
  The reference's Schema.
-/
import Derived.Test.YtkildckeikedhaaGreatDoorMr14
import Derived.Test.YtkildckeikedhaaGreatDoorMr13
import Derived.Test.YtkildckeikedhaaGreatDoorMr7
import Derived.Test.YtkildckeikedhaaGreatDoorMr9
import Derived.Test.YtkildckeikedhaaGreatDoorMr3
namespace Go.Proofs.YtkildckeikedhaaGreatDoor
open Go.ChangeShapes Go.WideShapes Go.ChangeAt Go.RowKit
set_option linter.unusedVariables false

def VX {α : Type} (K : Kd α) (B G : Nat) (x : α) (w : World) (cs : List Value) : Prop := G ≤ w.heap.size ∧ K.rd (Bt B G) w x cs
theorem VX.kp {α : Type} {K : Kd α} {B G g : Nat} {x : α} {w w' : World} {cs : List Value} (h : VX K B G x w cs) (hk : Kp g w w') (hg : ¬ (B ≤ g ∧ g < G)) : VX K B G x w' cs :=
 ⟨Nat.le_trans h.1 hk.2.2.2.1, K.keep (fun b hb n => World.cell?_of_block (hk.2.2.2.2 b (Nat.lt_of_lt_of_le hb.2 h.1) (fun e => hg (e ▸ hb)))) h.2⟩
theorem VX.later {α : Type} {K : Kd α} {B G : Nat} {x : α} {w w' : World} {cs : List Value} (h : VX K B G x w cs) (hb : Below w.heap.size w w') : VX K B G x w' cs :=
 ⟨Nat.le_trans h.1 hb.size, K.keep (fun b hb' n => hb.cell (p := ⟨b, n, none⟩) (Nat.lt_of_lt_of_le hb'.2 h.1)) h.2⟩
def VKD (B : Nat) (l : List DefB) (w : World) (v : Value) : Prop := RdK kdDef (Bt B w.heap.size) w l v
theorem VKD.kp {B g : Nat} {l : List DefB} {w w' : World} {v : Value} (h : VKD B l w v) (hk : Kp g w w') (hg : g < B) : VKD B l w' v := RdK.kp h hk hg
theorem VKD.low {B B' : Nat} {l : List DefB} {w : World} {v : Value} (h : VKD B l w v) (hb : B' ≤ B) : VKD B' l w v := RdK.imp (fun b hb' => ⟨Nat.le_trans hb hb'.1, hb'.2⟩) h
theorem VKD.later {B : Nat} {l : List DefB} {w w' : World} {v : Value} (h : VKD B l w v) (hb : Below w.heap.size w w') : VKD B l w' v :=
 RdK.imp (fun b hb' => ⟨hb'.1, Nat.lt_of_lt_of_le hb'.2 hb.size⟩) (RdK.keep (fun b hb' n => hb.cell (p := ⟨b, n, none⟩) hb'.2) h)
def DS (ts : List Tok) (r : PR (List DefB)) (acc : List DefB) (i o k l : Nat) : Prop := r = st k i (defsF ts (65 - acc.length) acc ⟨i, o, l⟩)
theorem ds_more {ts : List Tok} {r : PR (List DefB)} {acc : List DefB} {i o k l k8 i8 l8 : Nat} {d : DefB} (h : DS ts r acc i o k l) (hk : k = 0) (ht : txt ts i = wDefB) (ha : acc.length < 64) (hm : Go1 ts k8 i8 o l8 d (defF ts ⟨i, o, l⟩)) : DS ts r (acc ++ [d]) i8 o k8 l8 := by
 unfold DS at h ⊢
 rw [h, st_0 hk, show 65 - acc.length = (64 - acc.length) + 1 by omega, defsF, if_pos ht, if_pos ha, hm.then, show 65 - (acc ++ [d]).length = 64 - acc.length by rw [List.length_append, List.length_singleton]; omega]
theorem ds_end {ts : List Tok} {r : PR (List DefB)} {acc : List DefB} {i o k l : Nat} (h : DS ts r acc i o k l) (ha : acc.length ≤ 64) (hi : i < ts.length) (hl : Lk k l) (hn : k = 0 → ¬ txt ts i = wDefB) : Go1 ts k i o l acc r := by
 unfold DS at h
 refine ⟨hi, hl, ?_⟩
 rw [h]
 by_cases hk : k = 0
 ·refine .inl ⟨hk, ?_⟩
  rw [st_0 hk, show 65 - acc.length = (64 - acc.length) + 1 by omega, defsF_end (s := ⟨i, o, l⟩) (hn hk)]
 ·exact .inr ⟨hk, st_n hk⟩
theorem ds_bad15 {ts : List Tok} {r : PR (List DefB)} {acc : List DefB} {i o k l k' : Nat} (h : DS ts r acc i o k l) (ha : acc.length = 64) (hk : k = 0) (hi : i < ts.length) (hl : Lk k l) (ht : txt ts i = wDefB) (hk' : k' = if k = 0 then 15 else k) : Go1 ts k' i o l acc r := by
 rw [if_pos hk] at hk'
 subst hk'
 unfold DS at h
 rw [h, st_0 hk, ha, defsF_many (s := ⟨i, o, l⟩) ht (by omega)]
 exact ⟨hi, ⟨hl.1, fun h => by cases h⟩, .inr ⟨by decide, rfl⟩⟩
set_option maxRecDepth 100000 in
set_option maxHeartbeats 8000000 in
theorem refS_any (s : ByteArray) (hs : s.size ≤ 65536) (w : World) : Calls Tryz.prog 6 #[.string s] w (RefPost VS (.agg #[.slice none 0 0]) w (readF schemaR s.data.toList)) := by
 have HLX := hiD (rlex_any s hs (w.alloc (.cells #[.slice none 0 0] 29)))
 obtain ⟨l, hl⟩ : ∃ l, l = s.data.toList := ⟨_, rfl⟩
 have HLS : Hid (l.length ≤ 65536) := by show _ ≤ _; rw [hl, Array.length_toList]; exact hs
 rw [← hl] at HLX ⊢
 have hb0 : Below w.heap.size w (w.alloc (.cells #[.slice none 0 0] 29)) := (Below.refl _ _).alloc (Nat.le_refl _) _
 have HB0 := hiD hb0
 have HR : Hid (Arr (w.alloc (.cells #[.slice none 0 0] 29)) 29 w.heap.size [.slice none 0 0]) := Arr.new' _ _ _ _ rfl
 clear hl hs hb0
 go_enter Tryz.func6, Tryz.ntmps6
 go_upto_region 1 with (fail)
 have HSW : Hid (w.heap.size < (w.alloc (.cells #[.slice none 0 0] 29)).heap.size) := HR.out.lt
 generalize w.alloc (.cells #[.slice none 0 0] 29) = w0 at HLX HB0 HR HSW ⊢
 go_wp2_with fail
 refine HLX.out.mono ?_
 rintro r w1 ⟨v, rfl, r1, b1⟩
 have HR := hiD (HR.out.later b1)
 have HB := hiD (HB0.out.trans (b1.mono HB0.out.size))
 clear HB0
 by_cases h0 : (tokS l).2.1 = 0
 ·have HE0 := hiD h0
  have HE1 : Hid ((tokS l).2.2 = 0) := tokF_code _ _ _ h0
  have HOB := hiD (tokS_okB h0 HLS.out)
  obtain ⟨tb, c, rfl, hrt⟩ := rt_of HOB.out.1 (Nat.le_trans (tokS_len l) (by have := HLS.out; omega)) r1
  rw [show ((tokS l).2.1 : Int) = 0 from by rw [h0]; rfl, show ((tokS l).2.2 : Int) = 0 from by rw [HE1.out]; rfl]
  have hb2 : Below w1.heap.size w1 (w1.alloc (.cells #[.slice (some ⟨tb, 0, none⟩) (tokS l).1.length c, .int .i64 0, .int .i64 0] 53)) := (Below.refl _ _).alloc (Nat.le_refl _) _
  have HX : Hid (Arr (w1.alloc (.cells #[.slice (some ⟨tb, 0, none⟩) (tokS l).1.length c, .int .i64 0, .int .i64 0] 53)) 53 w1.heap.size [.slice (some ⟨tb, 0, none⟩) (tokS l).1.length c, .int .i64 0, .int .i64 0]) := Arr.new' _ _ _ _ rfl
  have HT := hiD (hrt.later hb2)
  have HTZ : Hid (tb < w1.heap.size) := hrt.1
  have HR := hiD (HR.out.later hb2)
  have HB := hiD (HB.out.trans (hb2.mono HB.out.size))
  have hsz : w.heap.size < w1.heap.size := Nat.lt_of_lt_of_le HSW.out b1.size
  clear h0 r1 b1 hb2 hrt HLX
  go_upto_region 2 with (fail)
  obtain ⟨g, hg⟩ : ∃ g, g = w1.heap.size := ⟨_, rfl⟩
  have hg2 : g < (w1.alloc (.cells #[.slice (some ⟨tb, 0, none⟩) (tokS l).1.length c, .int .i64 0, .int .i64 0] 53)).heap.size := by rw [hg]; exact HX.out.lt
  rw [← hg] at HX hsz HTZ ⊢
  generalize w1.alloc (.cells #[.slice (some ⟨tb, 0, none⟩) (tokS l).1.length c, .int .i64 0, .int .i64 0] 53) = w2 at HX HT HB HR hg2 ⊢
  clear hg
  obtain ⟨x0, y0, x1, y1, x2, y2⟩ := HX.out.all3
  go_upto_region 5 with (fail)
  clear x0 y0 x1 y1 x2 y2
  have hb3 : Below w2.heap.size w2 (w2.alloc (.cells #[.slice (some ⟨tb, 0, none⟩) (tokS l).1.length c, .int .i64 0, .int .i64 0, .int .i64 0, .int .i64 0] 56)) := (Below.refl _ _).alloc (Nat.le_refl _) _
  have HP : Hid (Arr (w2.alloc (.cells #[.slice (some ⟨tb, 0, none⟩) (tokS l).1.length c, .int .i64 0, .int .i64 0, .int .i64 0, .int .i64 0] 56)) 56 w2.heap.size [.slice (some ⟨tb, 0, none⟩) (tokS l).1.length c, .int .i64 0, .int .i64 0, .int .i64 0, .int .i64 0]) := Arr.new' _ _ _ _ rfl
  have HT := hiD (HT.out.later hb3)
  have HR := hiD (HR.out.later hb3)
  have HB := hiD (HB.out.trans (hb3.mono HB.out.size))
  obtain ⟨gp, hgp⟩ : ∃ g, g = w2.heap.size := ⟨_, rfl⟩
  have hg3 : gp < (w2.alloc (.cells #[.slice (some ⟨tb, 0, none⟩) (tokS l).1.length c, .int .i64 0, .int .i64 0, .int .i64 0, .int .i64 0] 56)).heap.size := by rw [hgp]; exact HP.out.lt
  rw [← hgp] at HP hg2 ⊢
  generalize w2.alloc (.cells #[.slice (some ⟨tb, 0, none⟩) (tokS l).1.length c, .int .i64 0, .int .i64 0, .int .i64 0, .int .i64 0] 56) = w3 at HP HT HB HR hg3 ⊢
  clear hgp hb3 HX
  go_upto_region 6 with (fail)
  have hb4 : Below w3.heap.size w3 (w3.alloc (.cells #[.slice none 0 0] 29)) := (Below.refl _ _).alloc (Nat.le_refl _) _
  have HF : Hid (Arr (w3.alloc (.cells #[.slice none 0 0] 29)) 29 w3.heap.size [.slice none 0 0]) := Arr.new' _ _ _ _ rfl
  have HT := hiD (HT.out.later hb4)
  have HR := hiD (HR.out.later hb4)
  have HP := hiD (HP.out.later hb4)
  have HB := hiD (HB.out.trans (hb4.mono HB.out.size))
  obtain ⟨gs, hgs⟩ : ∃ g, g = w3.heap.size := ⟨_, rfl⟩
  rw [← hgs] at HF hg3 ⊢
  generalize w3.alloc (.cells #[.slice none 0 0] 29) = w4 at HP HT HB HR HF ⊢
  clear hgs hb4
  obtain ⟨bs, hbs⟩ : ∃ b, b = gs + 1 := ⟨_, rfl⟩
  have HGS : Hid (bs ≤ gs + 1) := by rw [hbs]; exact Nat.le_refl _
  have hg4 : gs < bs := by omega
  have HZ : Hid (tb < bs) := by have := HTZ.out; show _ < _; omega
  clear hbs
  go_loopw [8] (fun _ wr => ∃ (acc : List DefB) (i4 k4 o4 l4 : Nat) (q : Option Addr) (cc : Nat), Hid (PRow kdDef bs (fun _ => False) wr (.slice q acc.length cc) acc) ∧ Hid (Arr wr 29 gs [.slice q acc.length cc]) ∧ Hid (Arr wr 56 gp [.slice (some ⟨tb, 0, none⟩) (tokS l).1.length c, .int .i64 (i4 : Nat), .int .i64 (k4 : Nat), .int .i64 (o4 : Nat), .int .i64 (l4 : Nat)]) ∧ Hid (Arr wr 29 w.heap.size [.slice none 0 0]) ∧ Hid (RT wr tb (tokS l).1) ∧ Hid (Below w.heap.size w wr) ∧ Hid (i4 < (tokS l).1.length) ∧ Hid (Lk k4 l4) ∧ Hid (o4 = 0) ∧ Hid (acc.length ≤ 64) ∧ Hid (DS (tokS l).1 (schemaR (tokS l).1 ps0) acc i4 o4 k4 l4)) (fun _ wr => 65 - mlen gs 0 wr)
  case atStart => exact ⟨[], 0, 0, 0, 0, none, 0, PRow.nil _ _ _ _, HF.out, HP.out, HR.out, HT.out, HB.out, okTs_pos HOB.out.1, ⟨by decide, fun _ => by decide⟩, rfl, Nat.zero_le _, rfl⟩
  case round =>
   obtain ⟨acc, i4, k4, o4, l4, q, cc, HRW, HF, HP, HR, HT, HB, HH4, HL4, HO4, HA64, HDS⟩ := hrel
   have HM0 : Hid (mlen gs 0 wr = acc.length) := mlen_arr HF.out 0 rfl
   have HIS := hiD (ris_any (s := ⟨i4, o4, l4⟩) (c := c) (k := k4) HOB.out.1 HT.out HH4.out ⟨#[100, 101, 102, 105, 110, 105, 116, 105, 111, 110]⟩ wDefB rfl (by decide))
   obtain ⟨d1, hd1⟩ : ∃ d, d = (decide (k4 = 0) && decide (txt (tokS l).1 i4 = wDefB)) := ⟨_, rfl⟩
   have HD := hiD hd1
   rw [show (decide (k4 = 0) && decide (txt (tokS l).1 (⟨i4, o4, l4⟩ : PS).i = wDefB)) = d1 from hd1.symm] at HIS
   clear hd1
   obtain ⟨p0, z0, p1, z1, p2, z2, p3, z3, p4, z4⟩ := HP.out.all5
   go_wp2_with fail
   refine HIS.out.mono ?_
   rintro r w6 ⟨rfl, b1⟩
   clear p0 z0 p1 z1 p2 z2 p3 z3 p4 z4
   have HP := hiD (HP.out.later b1)
   have HR := hiD (HR.out.later b1)
   have HF := hiD (HF.out.later b1)
   have HT := hiD (HT.out.later b1)
   have HRW := hiD (HRW.out.later b1)
   have HB := hiD (HB.out.trans (b1.mono HB.out.size))
   clear b1 HIS
   cases d1 with
   | false =>
    have HGF : Hid (Go1 (tokS l).1 k4 i4 o4 l4 acc (schemaR (tokS l).1 ps0)) := by
     have hd := HD.out
     simp only [Bool.false_eq, Bool.and_eq_false_iff, decide_eq_false_iff_not] at hd
     exact ds_end HDS.out HA64.out HH4.out HL4.out (fun hk h => hd.elim (fun h1 => h1 hk) (fun h1 => h1 h))
    have HV := hiD (show VKD bs acc w6 (.slice q acc.length cc) from HRW.out.rdK)
    have HFN := hiD (rfin_any (c := c) (k := k4) (s := ⟨i4, o4, l4⟩) HT.out HGF.out.1)
    have HRF := hiD (fin_read HE0.out HGF.out)
    have HFO : Hid (finO (tokS l).1 k4 i4 = if finK (tokS l).1 k4 i4 = 0 then 0 else ((offT (tokS l).1 i4 : Nat) : Int)) := by
     show _ = _
     unfold finO
     rw [offs_nat]
    obtain ⟨kf, hkf⟩ : ∃ x, x = finK (tokS l).1 k4 i4 := ⟨_, rfl⟩
    obtain ⟨ko, hko⟩ : ∃ x, x = finO (tokS l).1 k4 i4 := ⟨_, rfl⟩
    have HFN : Hid (Calls Tryz.prog 17 #[.agg #[.slice (some ⟨tb, 0, none⟩) (tokS l).1.length c, .int .i64 (i4 : Nat), .int .i64 (k4 : Nat), .int .i64 (o4 : Nat), .int .i64 (l4 : Nat)]] w6 fun e w' => e = .returned (.tuple #[.int .i64 (kf : Nat), .int .i64 ko]) ∧ Below w6.heap.size w6 w') := by rw [hkf, hko]; exact HFN.out
    rw [← hkf] at HRF HFO
    rw [← hko] at HFO
    clear hkf hko
    obtain ⟨p0, z0, p1, z1, p2, z2, p3, z3, p4, z4⟩ := HP.out.all5
    go_wp2_with fail
    refine HFN.out.mono ?_
    rintro r w25 ⟨rfl, b5⟩
    clear p0 z0 p1 z1 p2 z2 p3 z3 p4 z4
    have HB := hiD (HB.out.trans (b5.mono HB.out.size))
    have HV := hiD (HV.out.later b5)
    have HR := hiD (HR.out.later b5)
    have HF := hiD (HF.out.later b5)
    clear b5 HFN
    by_cases hK : kf = 0
    ·have hk7 : ((kf : Int) != 0) = false := by rw [hK]; rfl
     have HRE : Hid (readF schemaR l = .ok acc) := by
      have h := HRF.out
      rw [if_pos hK] at h
      exact h
     clear hK HRF HFO
     obtain ⟨ea0, eb0⟩ := HF.out.all1
     obtain ⟨u0, v0⟩ := HR.out.all1
     go_wp2_with fail
     clear ea0 eb0
     clear u0 v0
     have hkp := kp_setS w25 (w.heap.size) (.slice q acc.length cc)
     have HR := hiD (HR.out.setS (.slice q acc.length cc))
     have HV := hiD (HV.out.kp hkp (by omega))
     have HB := hiD (HB.out.trans (hkp.below (B := w.heap.size) (Nat.le_refl _) HB.out.size))
     clear hkp
     generalize (w25.setCell ⟨w.heap.size, 0, none⟩ (.slice q acc.length cc)) = w26 at HR HB HV ⊢
     have d0 := HR.out.cell 0
     simp only [List.getElem?_cons_zero] at d0
     refine bodyPost_ret (v := .tuple #[.agg #[.slice q acc.length cc], .int .i64 0, .int .i64 0]) ?_ rfl ⟨HB.out, .inl ⟨_, _, HRE.out, rfl, ⟨_, rfl, HV.out.low (by omega)⟩⟩⟩
     simp [results, Tryz.results6, go_sem, d0]
    ·have hk7 : ((kf : Int) != 0) = true := bne_iff_ne.2 (by omega)
     have HRE : Hid (readF schemaR l = .bad kf (offT (tokS l).1 i4) ∧ kf ≠ 0 ∧ ko = ((offT (tokS l).1 i4 : Nat) : Int)) := by
      have h := HRF.out
      have h2 := HFO.out
      rw [if_neg hK] at h h2
      exact ⟨h, hK, h2⟩
     clear hK HRF HFO
     obtain ⟨u0, v0⟩ := HR.out.all1
     go_wp2_with fail
     clear u0 v0
     have hkp := kp_setS w25 (w.heap.size) (.slice none 0 0)
     have HR := hiD (HR.out.setS (.slice none 0 0))
     have HB := hiD (HB.out.trans (hkp.below (B := w.heap.size) (Nat.le_refl _) HB.out.size))
     clear hkp
     generalize (w25.setCell ⟨w.heap.size, 0, none⟩ (.slice none 0 0)) = w26 at HR HB  ⊢
     have d0 := HR.out.cell 0
     simp only [List.getElem?_cons_zero] at d0
     refine bodyPost_ret (v := .tuple #[.agg #[.slice none 0 0], .int .i64 (kf : Nat), .int .i64 ko]) ?_ rfl ⟨HB.out, .inr ⟨kf, offT (tokS l).1 i4, HRE.out.2.1, HRE.out.1, by rw [HRE.out.2.2]⟩⟩
     simp [results, Tryz.results6, go_sem, d0]
   | true =>
    have hd := HD.out
    simp only [Bool.true_eq, Bool.and_eq_true, decide_eq_true_eq] at hd
    have HK4 := hiD hd.1
    have HT4 := hiD hd.2
    clear hd
    by_cases h6 : acc.length = 64
    ·have h6' : ((acc.length : Int) == 64) = true := by simp [h6]
     have HBD := hiD (rbad_any (c := c) (k := k4) (tb := tb) (ts := (tokS l).1) (s := ⟨i4, o4, l4⟩) (W := w6) 15)
     have HA6 := hiD h6
     clear h6
     obtain ⟨ea0, eb0⟩ := HF.out.all1
     go_upto_region 8 with (fail)
     clear ea0 eb0
     clear h6'
     obtain ⟨p0, z0, p1, z1, p2, z2, p3, z3, p4, z4⟩ := HP.out.all5
     go_wp2_with fail
     refine HBD.out.mono ?_
     rintro r w7 ⟨k', hk', rfl, b1⟩
     clear p0 z0 p1 z1 p2 z2 p3 z3 p4 z4
     have HP := hiD (HP.out.later b1)
     have HR := hiD (HR.out.later b1)
     have HF := hiD (HF.out.later b1)
     have HT := hiD (HT.out.later b1)
     have HRW := hiD (HRW.out.later b1)
     have HB := hiD (HB.out.trans (b1.mono HB.out.size))
     have HGF : Hid (Go1 (tokS l).1 k' i4 o4 l4 acc (schemaR (tokS l).1 ps0)) := ds_bad15 HDS.out HA6.out HK4.out HH4.out HL4.out HT4.out hk'
     clear b1 HBD hk'
     obtain ⟨p0, z0, p1, z1, p2, z2, p3, z3, p4, z4⟩ := HP.out.all5
     go_upto_region 12 with (fail)
     clear p0 z0 p1 z1 p2 z2 p3 z3 p4 z4
     have hkp := kp_setP w7 (gp) (.slice (some ⟨tb, 0, none⟩) (tokS l).1.length c) (.int .i64 (i4 : Nat)) (.int .i64 (k' : Nat)) (.int .i64 (o4 : Nat)) (.int .i64 (l4 : Nat))
     have HP := hiD (HP.out.setP (.slice (some ⟨tb, 0, none⟩) (tokS l).1.length c) (.int .i64 (i4 : Nat)) (.int .i64 (k' : Nat)) (.int .i64 (o4 : Nat)) (.int .i64 (l4 : Nat)))
     have HR := hiD (hkp.arr HR.out (by first | omega | (have := HTZ.out; omega)))
     have HF := hiD (hkp.arr HF.out (by first | omega | (have := HTZ.out; omega)))
     have HT := hiD (HT.out.kp hkp (by first | omega | (have := HTZ.out; omega)))
     have HRW := hiD (HRW.out.kp hkp (.inl (by omega)))
     have HB := hiD (HB.out.trans (hkp.below (B := w.heap.size) (by omega) HB.out.size))
     clear hkp
     generalize (((((w7.setCell ⟨gp, 0, none⟩ (.slice (some ⟨tb, 0, none⟩) (tokS l).1.length c)).setCell ⟨gp, 1, none⟩ (.int .i64 (i4 : Nat))).setCell ⟨gp, 2, none⟩ (.int .i64 (k' : Nat))).setCell ⟨gp, 3, none⟩ (.int .i64 (o4 : Nat))).setCell ⟨gp, 4, none⟩ (.int .i64 (l4 : Nat))) = w8 at HP HR HF HT HRW HB ⊢
     have HV := hiD (show VKD bs acc w8 (.slice q acc.length cc) from HRW.out.rdK)
     have HFN := hiD (rfin_any (c := c) (k := k') (s := ⟨i4, o4, l4⟩) HT.out HGF.out.1)
     have HRF := hiD (fin_read HE0.out HGF.out)
     have HFO : Hid (finO (tokS l).1 k' i4 = if finK (tokS l).1 k' i4 = 0 then 0 else ((offT (tokS l).1 i4 : Nat) : Int)) := by
      show _ = _
      unfold finO
      rw [offs_nat]
     obtain ⟨kf, hkf⟩ : ∃ x, x = finK (tokS l).1 k' i4 := ⟨_, rfl⟩
     obtain ⟨ko, hko⟩ : ∃ x, x = finO (tokS l).1 k' i4 := ⟨_, rfl⟩
     have HFN : Hid (Calls Tryz.prog 17 #[.agg #[.slice (some ⟨tb, 0, none⟩) (tokS l).1.length c, .int .i64 (i4 : Nat), .int .i64 (k' : Nat), .int .i64 (o4 : Nat), .int .i64 (l4 : Nat)]] w8 fun e w' => e = .returned (.tuple #[.int .i64 (kf : Nat), .int .i64 ko]) ∧ Below w8.heap.size w8 w') := by rw [hkf, hko]; exact HFN.out
     rw [← hkf] at HRF HFO
     rw [← hko] at HFO
     clear hkf hko
     obtain ⟨p0, z0, p1, z1, p2, z2, p3, z3, p4, z4⟩ := HP.out.all5
     go_wp2_with fail
     refine HFN.out.mono ?_
     rintro r w25 ⟨rfl, b5⟩
     clear p0 z0 p1 z1 p2 z2 p3 z3 p4 z4
     have HB := hiD (HB.out.trans (b5.mono HB.out.size))
     have HV := hiD (HV.out.later b5)
     have HR := hiD (HR.out.later b5)
     have HF := hiD (HF.out.later b5)
     clear b5 HFN
     by_cases hK : kf = 0
     ·have hk7 : ((kf : Int) != 0) = false := by rw [hK]; rfl
      have HRE : Hid (readF schemaR l = .ok acc) := by
       have h := HRF.out
       rw [if_pos hK] at h
       exact h
      clear hK HRF HFO
      obtain ⟨ea0, eb0⟩ := HF.out.all1
      obtain ⟨u0, v0⟩ := HR.out.all1
      go_wp2_with fail
      clear ea0 eb0
      clear u0 v0
      have hkp := kp_setS w25 (w.heap.size) (.slice q acc.length cc)
      have HR := hiD (HR.out.setS (.slice q acc.length cc))
      have HV := hiD (HV.out.kp hkp (by omega))
      have HB := hiD (HB.out.trans (hkp.below (B := w.heap.size) (Nat.le_refl _) HB.out.size))
      clear hkp
      generalize (w25.setCell ⟨w.heap.size, 0, none⟩ (.slice q acc.length cc)) = w26 at HR HB HV ⊢
      have d0 := HR.out.cell 0
      simp only [List.getElem?_cons_zero] at d0
      refine bodyPost_ret (v := .tuple #[.agg #[.slice q acc.length cc], .int .i64 0, .int .i64 0]) ?_ rfl ⟨HB.out, .inl ⟨_, _, HRE.out, rfl, ⟨_, rfl, HV.out.low (by omega)⟩⟩⟩
      simp [results, Tryz.results6, go_sem, d0]
     ·have hk7 : ((kf : Int) != 0) = true := bne_iff_ne.2 (by omega)
      have HRE : Hid (readF schemaR l = .bad kf (offT (tokS l).1 i4) ∧ kf ≠ 0 ∧ ko = ((offT (tokS l).1 i4 : Nat) : Int)) := by
       have h := HRF.out
       have h2 := HFO.out
       rw [if_neg hK] at h h2
       exact ⟨h, hK, h2⟩
      clear hK HRF HFO
      obtain ⟨u0, v0⟩ := HR.out.all1
      go_wp2_with fail
      clear u0 v0
      have hkp := kp_setS w25 (w.heap.size) (.slice none 0 0)
      have HR := hiD (HR.out.setS (.slice none 0 0))
      have HB := hiD (HB.out.trans (hkp.below (B := w.heap.size) (Nat.le_refl _) HB.out.size))
      clear hkp
      generalize (w25.setCell ⟨w.heap.size, 0, none⟩ (.slice none 0 0)) = w26 at HR HB  ⊢
      have d0 := HR.out.cell 0
      simp only [List.getElem?_cons_zero] at d0
      refine bodyPost_ret (v := .tuple #[.agg #[.slice none 0 0], .int .i64 (kf : Nat), .int .i64 ko]) ?_ rfl ⟨HB.out, .inr ⟨kf, offT (tokS l).1 i4, HRE.out.2.1, HRE.out.1, by rw [HRE.out.2.2]⟩⟩
      simp [results, Tryz.results6, go_sem, d0]
    ·have h6' : ((acc.length : Int) == 64) = false := by simp; omega
     have HA6 : Hid (acc.length < 64) := by have := HA64.out; show _ < _; omega
     clear h6
     obtain ⟨ea0, eb0⟩ := HF.out.all1
     go_upto_region 10 with (fail)
     clear ea0 eb0
     clear h6'
     have hb10 : Below w6.heap.size w6 (w6.alloc (.cells #[.string ⟨#[]⟩, .slice none 0 0] 39)) := (Below.refl _ _).alloc (Nat.le_refl _) _
     have HBL : Hid (∀ b, (Value.slice q acc.length cc).ownBlock = some b → b < w6.heap.size) := fun b hb => by obtain ⟨_, h, _⟩ := HRW.out; exact (h.lt b hb).2
     have hgn : bs ≤ w6.heap.size := Nat.le_trans HGS.out (Nat.succ_le_of_lt HF.out.lt)
     have HRW := hiD (HRW.out.wk (Y := fun b => b = w6.heap.size) (fun b _ hl h => absurd (h ▸ hl) (Nat.lt_irrefl _)))
     have HN : Hid (Arr (w6.alloc (.cells #[.string ⟨#[]⟩, .slice none 0 0] 39)) 39 w6.heap.size [.string ⟨#[]⟩, .slice none 0 0]) := Arr.new' _ _ _ _ rfl
     have HP := hiD (HP.out.later hb10)
     have HR := hiD (HR.out.later hb10)
     have HF := hiD (HF.out.later hb10)
     have HT := hiD (HT.out.later hb10)
     have HRW := hiD (HRW.out.later hb10)
     have HB := hiD (HB.out.trans (hb10.mono HB.out.size))
     have hnw : w6.heap.size < (w6.alloc (.cells #[.string ⟨#[]⟩, .slice none 0 0] 39)).heap.size := HN.out.lt
     obtain ⟨nb, hnb⟩ : ∃ x, x = w6.heap.size := ⟨_, rfl⟩
     rw [← hnb] at HN HRW hgn HBL hnw ⊢
     generalize w6.alloc (.cells #[.string ⟨#[]⟩, .slice none 0 0] 39) = w10 at HP HR HF HT HRW HN HB hnw ⊢
     clear hnb hb10
     have HDC : Hid (Calls Tryz.prog 16 #[.agg #[.slice (some ⟨tb, 0, none⟩) (tokS l).1.length c, .int .i64 (i4 : Nat), .int .i64 (k4 : Nat), .int .i64 (o4 : Nat), .int .i64 (l4 : Nat)]] w10 (GD tb c (tokS l).1 o4 (st k4 i4 (defF (tokS l).1 ⟨i4, o4, l4⟩)) w10)) := rdef_any (s := ⟨i4, o4, l4⟩) HOB.out HT.out HH4.out HL4.out HO4.out
     obtain ⟨p0, z0, p1, z1, p2, z2, p3, z3, p4, z4⟩ := HP.out.all5
     go_wp2_with fail
     refine HDC.out.mono ?_
     rintro r w11 ⟨i8, k8, l8, x8, v8, hg8, rfl, hv8, b1⟩
     have HG8 : Hid (Go1 (tokS l).1 k8 i8 o4 l8 x8 (defF (tokS l).1 ⟨i4, o4, l4⟩)) := by
      have h := hg8
      rw [st_0 HK4.out] at h
      exact h
     obtain ⟨dn, dm⟩ := x8
     obtain ⟨qd, cd, rfl, hv9⟩ := VD.form hv8
     have HDV : Hid (VX kdDef w10.heap.size w11.heap.size (dn, dm) w11 [.string (bstr dn), .slice qd dm.length cd]) := ⟨Nat.le_refl _, hv9⟩
     clear p0 z0 p1 z1 p2 z2 p3 z3 p4 z4
     have HP := hiD (HP.out.later b1)
     have HN := hiD (HN.out.later b1)
     have HR := hiD (HR.out.later b1)
     have HF := hiD (HF.out.later b1)
     have HT := hiD (HT.out.later b1)
     have HRW := hiD (HRW.out.later b1)
     have HB := hiD (HB.out.trans (b1.mono HB.out.size))
     clear hg8 hv8 hv9 b1 HDC
     obtain ⟨p0, z0, p1, z1, p2, z2, p3, z3, p4, z4⟩ := HP.out.all5
     obtain ⟨na0, nz0, na1, nz1⟩ := HN.out.all2
     go_upto_region 11 with (fail)
     clear p0 z0 p1 z1 p2 z2 p3 z3 p4 z4
     clear na0 nz0 na1 nz1
     have hkp := kp_setP w11 (gp) (.slice (some ⟨tb, 0, none⟩) (tokS l).1.length c) (.int .i64 (i8 : Nat)) (.int .i64 (k8 : Nat)) (.int .i64 (o4 : Nat)) (.int .i64 (l8 : Nat))
     have HP := hiD (HP.out.setP (.slice (some ⟨tb, 0, none⟩) (tokS l).1.length c) (.int .i64 (i8 : Nat)) (.int .i64 (k8 : Nat)) (.int .i64 (o4 : Nat)) (.int .i64 (l8 : Nat)))
     have HN := hiD (hkp.arr HN.out (by first | omega | (have := HTZ.out; omega)))
     have HDV := hiD (HDV.out.kp hkp (by first | omega | (have := HTZ.out; omega)))
     have HR := hiD (hkp.arr HR.out (by first | omega | (have := HTZ.out; omega)))
     have HF := hiD (hkp.arr HF.out (by first | omega | (have := HTZ.out; omega)))
     have HT := hiD (HT.out.kp hkp (by first | omega | (have := HTZ.out; omega)))
     have HRW := hiD (HRW.out.kp hkp (.inl (by omega)))
     have HB := hiD (HB.out.trans (hkp.below (B := w.heap.size) (by omega) HB.out.size))
     clear hkp
     generalize (((((w11.setCell ⟨gp, 0, none⟩ (.slice (some ⟨tb, 0, none⟩) (tokS l).1.length c)).setCell ⟨gp, 1, none⟩ (.int .i64 (i8 : Nat))).setCell ⟨gp, 2, none⟩ (.int .i64 (k8 : Nat))).setCell ⟨gp, 3, none⟩ (.int .i64 (o4 : Nat))).setCell ⟨gp, 4, none⟩ (.int .i64 (l8 : Nat))) = w12 at HP HN HDV HR HF HT HRW HB ⊢
     have hkp := kp_setD w12 (nb) (.string (bstr dn)) (.slice qd dm.length cd)
     have HN := hiD (HN.out.setD (.string (bstr dn)) (.slice qd dm.length cd))
     have HP := hiD (hkp.arr HP.out (by first | omega | (have := HTZ.out; omega)))
     have HR := hiD (hkp.arr HR.out (by first | omega | (have := HTZ.out; omega)))
     have HF := hiD (hkp.arr HF.out (by first | omega | (have := HTZ.out; omega)))
     have HT := hiD (HT.out.kp hkp (by first | omega | (have := HTZ.out; omega)))
     have HRW := hiD (HRW.out.kp hkp (.inr rfl))
     have HDV := hiD (HDV.out.kp hkp (by first | omega | (have := HTZ.out; omega)))
     have HB := hiD (HB.out.trans (hkp.below (B := w.heap.size) (by omega) HB.out.size))
     clear hkp
     generalize ((w12.setCell ⟨nb, 0, none⟩ (.string (bstr dn))).setCell ⟨nb, 1, none⟩ (.slice qd dm.length cd)) = w13 at HN HP HR HF HT HRW HDV HB ⊢
     obtain ⟨ea0, eb0⟩ := HF.out.all1
     obtain ⟨na0, nz0, na1, nz1⟩ := HN.out.all2
     have hb14 : Below w13.heap.size w13 (w13.alloc (.cells #[.string (bstr dn), .slice qd dm.length cd] 39)) := (Below.refl _ _).alloc (Nat.le_refl _) _
     have HY : Hid (Arr (w13.alloc (.cells #[.string (bstr dn), .slice qd dm.length cd] 39)) 39 w13.heap.size [.string (bstr dn), .slice qd dm.length cd]) := Arr.new' _ _ _ _ rfl
     have HP := hiD (HP.out.later hb14)
     have HN := hiD (HN.out.later hb14)
     have HDV := hiD (HDV.out.later hb14)
     have HR := hiD (HR.out.later hb14)
     have HF := hiD (HF.out.later hb14)
     have HT := hiD (HT.out.later hb14)
     have HRW := hiD (HRW.out.later hb14)
     have HB := hiD (HB.out.trans (hb14.mono HB.out.size))
     have HR9 : Hid (rdDef (SubX bs (fun b => b = nb) (w13.alloc (.cells #[.string (bstr dn), .slice qd dm.length cd] 39)) (.slice q acc.length cc)) (w13.alloc (.cells #[.string (bstr dn), .slice qd dm.length cd] 39)) (dn, dm) [.string (bstr dn), .slice qd dm.length cd]) := kdDef.imp (fun b hb => ⟨by have := hb.1; omega, Nat.lt_of_lt_of_le hb.2 HDV.out.1, fun e => by have h1 := HBL.out b e.symm; have := hb.1; omega, fun h => by have := hb.1; omega⟩) HDV.out.2
     have HAC : Hid (acc.length + 1 ≤ 200000) := by have := HA6.out; show _ ≤ _; omega
     have HBS2 : Hid (bs ≤ (w13.alloc (.cells #[.string (bstr dn), .slice qd dm.length cd] 39)).heap.size) := by have h := HN.out.lt; show _ ≤ _; omega
     have HXX : Hid (∀ b, (b = nb) → b < (w13.alloc (.cells #[.string (bstr dn), .slice qd dm.length cd] 39)).heap.size) := fun b h => by have h3 := HN.out.lt; rw [h]; exact h3
     clear hb14
     go_wp2_with (at_builtin; refine app_row (K := kdDef) (x := (dn, dm)) rfl _ _ rfl rfl HRW.out rfl HY.out HR9.out HAC.out HBS2.out HXX.out ?_)
     intro v10 w21 r10 g10 o10
     have HP : Hid (Arr w21 56 gp [.slice (some ⟨tb, 0, none⟩) (tokS l).1.length c, .int .i64 (i8 : Nat), .int .i64 (k8 : Nat), .int .i64 (o4 : Nat), .int .i64 (l8 : Nat)]) := (g10.block _ HP.out.lt (fun e => by have := (o10 _ e.symm).1; omega)).trans HP.out
     have HR : Hid (Arr w21 29 w.heap.size [.slice none 0 0]) := (g10.block _ HR.out.lt (fun e => by have := (o10 _ e.symm).1; omega)).trans HR.out
     have HF : Hid (Arr w21 29 gs [.slice q acc.length cc]) := (g10.block _ HF.out.lt (fun e => by have := (o10 _ e.symm).1; omega)).trans HF.out
     have hlo : bs ≤ (w13.alloc (.cells #[.string (bstr dn), .slice qd dm.length cd] 39)).heap.size := HBS2.out
     have hlk : ∀ k, (Value.slice q acc.length cc).ownBlock = some k → bs ≤ k := fun k hk => (o10 k hk).1
     have HT : Hid (RT w21 tb (tokS l).1) := by
      have hb := (Below.refl bs (w13.alloc (.cells #[.string (bstr dn), .slice qd dm.length cd] 39))).grown g10 hlo hlk
      exact ⟨Nat.lt_of_lt_of_le HT.out.1 hb.size, HT.out.2.1, fun i hi j hj => (hb.cell (p := ⟨tb, i * 3 + j, none⟩) HZ.out).trans (HT.out.2.2 i hi j hj)⟩
     have HB := hiD (HB.out.grown g10 (Nat.le_trans (by omega) hlo) (fun k hk => Nat.le_trans (by omega) (hlk k hk)))
     have HRW : Hid (PRow kdDef bs (fun _ => False) w21 v10 (acc ++ [(dn, dm)])) := r10.wk (fun b _ _ h => h.elim)
     obtain ⟨q10, c10, hv10⟩ := r10.form
     rw [List.length_append, List.length_singleton] at hv10
     subst hv10
     clear r10 g10 o10 hlo hlk HY HR9 HDV HN HXX HBS2
     clear ea0 eb0
     clear na0 nz0 na1 nz1
     obtain ⟨ea0, eb0⟩ := HF.out.all1
     go_wp2_with fail
     have hkp := (Kp.of (pb := gs) (Below.refl w21.heap.size w21)).set 0 (.slice q10 (acc.length + 1) c10)
     have HF : Hid (Arr (w21.setCell ⟨gs, 0, none⟩ (.slice q10 (acc.length + 1) c10)) 29 gs [.slice q10 (acc.length + 1) c10]) := HF.out.set 0 _
     have HP := hiD (hkp.arr HP.out (by first | omega | (have := HTZ.out; omega)))
     have HR := hiD (hkp.arr HR.out (by first | omega | (have := HTZ.out; omega)))
     have HT := hiD (HT.out.kp hkp (by first | omega | (have := HTZ.out; omega)))
     have HRW := hiD (HRW.out.kp hkp (.inl (by omega)))
     have HB := hiD (HB.out.trans (hkp.below (B := w.heap.size) (by omega) HB.out.size))
     clear hkp
     generalize (w21.setCell ⟨gs, 0, none⟩ (.slice q10 (acc.length + 1) c10)) = w22 at HP HF HR HT HRW HB ⊢
     go_roundw
     case rel =>
      have hlen : (acc ++ [((dn, dm) : DefB)]).length = acc.length + 1 := by rw [List.length_append, List.length_singleton]
      refine ⟨acc ++ [((dn, dm) : DefB)], i8, k8, o4, l8, q10, c10, ?_, ?_, HP.out, HR.out, HT.out, HB.out, HG8.out.1, HG8.out.2.1, HO4.out, ?_, ?_⟩
      ·rw [hlen]
       exact HRW.out
      ·rw [hlen]
       exact HF.out
      ·show _ ≤ _
       rw [hlen]
       exact HA6.out
      ·exact ds_more HDS.out HK4.out HT4.out HA6.out HG8.out
     case measure =>
      rw [mlen_arr HF.out 0 rfl, HM0.out]
      have := HA6.out
      omega
 ·have HRE := hiD (readF_lex (rule := schemaR) h0)
  obtain ⟨q, c, rfl, _⟩ := r1.form
  have hb2 : Below w1.heap.size w1 (w1.alloc (.cells #[.slice q ((tokS l).1).length c, .int .i64 ((tokS l).2.1 : Nat), .int .i64 ((tokS l).2.2 : Nat)] 53)) := (Below.refl _ _).alloc (Nat.le_refl _) _
  have HX : Hid (Arr (w1.alloc (.cells #[.slice q ((tokS l).1).length c, .int .i64 ((tokS l).2.1 : Nat), .int .i64 ((tokS l).2.2 : Nat)] 53)) 53 w1.heap.size [.slice q ((tokS l).1).length c, .int .i64 ((tokS l).2.1 : Nat), .int .i64 ((tokS l).2.2 : Nat)]) := Arr.new' _ _ _ _ rfl
  have HB := hiD (HB.out.trans (hb2.mono HB.out.size))
  have HR := hiD (HR.out.later hb2)
  have hsz : w.heap.size < w1.heap.size := Nat.lt_of_lt_of_le HSW.out b1.size
  have h0' : (((tokS l).2.1 : Int) != 0) = true := bne_iff_ne.2 (by omega)
  clear r1 b1 hb2 HLX
  go_upto_region 2 with (fail)
  generalize w1.alloc (.cells #[.slice q ((tokS l).1).length c, .int .i64 ((tokS l).2.1 : Nat), .int .i64 ((tokS l).2.2 : Nat)] 53) = w2 at HX HB HR ⊢
  obtain ⟨g, hg⟩ : ∃ g, g = w1.heap.size := ⟨_, rfl⟩
  rw [← hg] at HX hsz ⊢
  clear hg
  obtain ⟨x0, y0, x1, y1, x2, y2⟩ := HX.out.all3
  go_upto_region 3 with (fail)
  clear x0 y0 x1 y1 x2 y2
  clear h0'
  have HB := hiD (HB.out.trans ((Below.refl w2.heap.size w2).drew.mono HB.out.size))
  have HR := hiD (HR.out.later ((Below.refl w2.heap.size w2).drew))
  refine wp_region_held_drew (S := fun W' => Arr W' 53 g [.slice q ((tokS l).1).length c, .int .i64 ((tokS l).2.1 : Nat), .int .i64 ((tokS l).2.2 : Nat)]) (by kernel_rfl) (HX.out.later (Below.refl _ _).drew) (fun hHeld => ?_)
  try simp only [Act.put]
  generalize w2.drew = w3 at hHeld HB HR ⊢
  refine wpAnyH_take (i := 0) (oi := ⟨some 16, _, _, _, _, _⟩) (v := .agg #[.slice none 0 0]) rfl (by kernel_rfl) (by kernel_rfl) (by kernel_rfl) (fun _ _ _ h => h) (.inl ⟨by rfl, fun w' hSw => ?_⟩) hHeld ?_
  focus (skip; clear hHeld; go_simp)
  try simp only [Act.put, pz0, pz1, pz2]
  refine wpAnyH_take (i := 1) (oi := ⟨some 17, _, _, _, _, _⟩) (v := .pointer (some ⟨g, 1, none⟩)) rfl (by kernel_rfl) (by kernel_rfl) (by kernel_rfl) (fun _ _ _ h => h) (.inl ⟨by rfl, fun w' hSw => ?_⟩) hHeld ?_
  focus (skip; clear hHeld; go_simp)
  try simp only [Act.put, pz0, pz1, pz2]
  refine wpAnyH_take (i := 2) (oi := ⟨some 18, _, _, _, _, _⟩) (v := .int .i64 ((tokS l).2.1 : Nat)) rfl (by kernel_rfl) (by kernel_rfl) (by kernel_rfl) (fun _ _ _ h => h) (.inl ⟨by rfl, fun w' hSw => ?_⟩) hHeld ?_
  focus (obtain ⟨q0, _, q1, _, q2, _⟩ := hSw.all3; clear hHeld; go_simp)
  try simp only [Act.put, pz0, pz1, pz2]
  refine wpAnyH_take (i := 3) (oi := ⟨some 19, _, _, _, _, _⟩) (v := .pointer (some ⟨g, 2, none⟩)) rfl (by kernel_rfl) (by kernel_rfl) (by kernel_rfl) (fun _ _ _ h => h) (.inl ⟨by rfl, fun w' hSw => ?_⟩) hHeld ?_
  focus (skip; clear hHeld; go_simp)
  try simp only [Act.put, pz0, pz1, pz2]
  refine wpAnyH_take (i := 4) (oi := ⟨some 20, _, _, _, _, _⟩) (v := .int .i64 ((tokS l).2.2 : Nat)) rfl (by kernel_rfl) (by kernel_rfl) (by kernel_rfl) (fun _ _ _ h => h) (.inl ⟨by rfl, fun w' hSw => ?_⟩) hHeld ?_
  focus (obtain ⟨q0, _, q1, _, q2, _⟩ := hSw.all3; clear hHeld; go_simp)
  try simp only [Act.put, pz0, pz1, pz2]
  refine wpAnyH_ready (rs := [5]) (by kernel_rfl) (by simp) ?_
  refine AllReadyH.cons (o := ⟨none, _, _, _, _, _⟩) rfl (fun K' hK' => ?_) AllReadyH.nil
  obtain ⟨u0, v0⟩ := HR.out.all1
  have hkn := (hHeld.setCell (a := ⟨w.heap.size, 0, none⟩) (by simp only [ne_eq]; omega) (.slice none 0 0))
  clear hHeld
  go_simp
  clear u0 v0
  refine hK'.out _ _ hkn (fun hHeld => ?_)
  clear hK' K' hkn
  try simp only [Act.put, pz0, pz1, pz2]
  have hkp := kp_setS w3 (w.heap.size) (.slice none 0 0)
  have HR := hiD (HR.out.setS (.slice none 0 0))
  have HB := hiD (HB.out.trans (hkp.below (B := w.heap.size) (Nat.le_refl _) HB.out.size))
  clear hkp
  generalize (w3.setCell ⟨w.heap.size, 0, none⟩ (.slice none 0 0)) = w4 at HR HB hHeld ⊢
  refine wpAnyH_take (i := 6) (oi := ⟨some 3, _, _, _, _, _⟩) (v := .int .i64 ((tokS l).2.1 : Nat)) rfl (by kernel_rfl) (by kernel_rfl) (by kernel_rfl) (fun _ _ _ h => h) (.inl ⟨by rfl, fun w' hSw => ?_⟩) hHeld ?_
  focus (skip; clear hHeld; go_simp)
  try simp only [Act.put, pz0, pz1, pz2]
  refine wpAnyH_take (i := 7) (oi := ⟨some 4, _, _, _, _, _⟩) (v := .int .i64 ((tokS l).2.2 : Nat)) rfl (by kernel_rfl) (by kernel_rfl) (by kernel_rfl) (fun _ _ _ h => h) (.inl ⟨by rfl, fun w' hSw => ?_⟩) hHeld ?_
  focus (skip; clear hHeld; go_simp)
  try simp only [Act.put, pz0, pz1, pz2]
  refine wpAnyH_done (by kernel_rfl) ?_ _
  go_wp2_with fail
  clear hHeld
  have d0 := HR.out.cell 0
  simp only [List.getElem?_cons_zero] at d0
  refine bodyPost_ret (v := .tuple #[.agg #[.slice none 0 0], .int .i64 ((tokS l).2.1 : Nat), .int .i64 ((tokS l).2.2 : Nat)]) ?_ rfl ⟨HB.out, .inr ⟨_, _, h0, HRE.out, rfl⟩⟩
  simp [results, Tryz.results6, go_sem, d0]
set_option maxRecDepth 100000 in
set_option maxHeartbeats 4000000 in
theorem fmt_any (s : ByteArray) (hs : s.size ≤ 65536) (w : World) (h : Env w) (hl : ∀ d, readF schemaR s.data.toList = .ok d → (schT d).length ≤ 100000) :
  Calls Tryz.prog 5 #[.string s] w fun e w' => Below w.heap.size w w' ∧ ((∃ d, readF schemaR s.data.toList = .ok d ∧ e = .returned (.tuple #[.string (bstr (schT d)), .nilIface])) ∨ (∃ a b : Nat, a ≠ 0 ∧ readF schemaR s.data.toList = .bad a b ∧ e = .returned (.tuple #[.string ⟨#[]⟩, faultN a b]))) := by
 have HPA := hiD (parseS_any s hs w h.1)
 have HE := hiD h
 have HL := hiD hl
 clear h hl hs
 go_enter Tryz.func5, Tryz.ntmps5
 go_wp2_with fail
 refine HPA.out.mono ?_
 rintro r w2 h2
 have hb2 := h2.1
 have HE2 := hiD (HE.out.below hb2)
 have HB2 := hiD hb2
 obtain ⟨-, ⟨d, v, e, rfl, hv⟩ | ⟨a, b, ha, e, rfl⟩⟩ := h2
 ·have HR := hiD e
  obtain ⟨q1, c1, rfl, hk3⟩ := VS.form hv
  have HV := hiD (show VKD _ d w2 (.slice q1 d.length c1) from hk3)
  have hb3 : Below w2.heap.size w2 (w2.alloc (.cells #[.slice q1 d.length c1] 29)) := (Below.refl _ _).alloc (Nat.le_refl _) _
  have HX : Hid (Arr (w2.alloc (.cells #[.slice q1 d.length c1] 29)) 29 w2.heap.size [.slice q1 d.length c1]) := Arr.new' _ _ _ _ rfl
  have HV := hiD (HV.out.later hb3)
  have HE2 := hiD (HE2.out.below hb3)
  have HB2 := hiD (HB2.out.trans (hb3.mono HB2.out.size))
  have HPS := hiD (pschT_any d q1 c1 _ (w2.alloc (.cells #[.slice q1 d.length c1] 29)) HV.out (fun b hb => hb.2) (readF_good e) HE2.out.1 (HL.out d e))
  clear e hb2 hb3 HPA hv hk3
  go_upto_region 2 with (fail)
  generalize w2.alloc (.cells #[.slice q1 d.length c1] 29) = w3 at HX HV HE2 HB2 HPS ⊢
  obtain ⟨x0, y0⟩ := HX.out.all1
  go_wp2_with fail
  refine HPS.out.mono ?_
  rintro r w4 ⟨rfl, b4⟩
  have HB4 := hiD (HB2.out.trans (b4.mono HB2.out.size))
  clear b4
  go_wp2_with fail
  go_ret2
  exact ⟨HB4.out, .inl ⟨d, HR.out, rfl⟩⟩
 ·have HR := hiD e
  have HA := hiD ha
  have hb3 : Below w2.heap.size w2 (w2.alloc (.cells #[.slice none 0 0] 29)) := (Below.refl _ _).alloc (Nat.le_refl _) _
  have HB2 := hiD (HB2.out.trans (hb3.mono HB2.out.size))
  clear e hb2 hb3 HPA ha
  unfold faultN
  go_wp2_with fail
  go_ret2
  exact ⟨HB2.out, .inr ⟨a, b, HA.out, HR.out, rfl⟩⟩
set_option maxRecDepth 100000 in
set_option maxHeartbeats 4000000 in
theorem pis_any (s : ByteArray) (hs : s.size ≤ 65536) (w : World) (h : Env w) (hl : ∀ d, readF schemaR s.data.toList = .ok d → (schT d).length ≤ 100000) :
  Calls Tryz.prog 8 #[.string s] w fun e w' => Below w.heap.size w w' ∧ ((∃ d, readF schemaR s.data.toList = .ok d ∧ e = .returned (.bool (decide (bstr (schT d) = s)))) ∨ (∃ a b : Nat, readF schemaR s.data.toList = .bad a b ∧ e = .returned (.bool false))) := by
 have HF := hiD (fmt_any s hs w h hl)
 clear h hl hs
 go_enter Tryz.func8, Tryz.ntmps8
 go_wp2_with fail
 refine HF.out.mono ?_
 rintro r w2 ⟨b2, ⟨d, e, rfl⟩ | ⟨a, b, ha, e, rfl⟩⟩
 ·have HR := hiD e
  have HB := hiD b2
  obtain ⟨t, ht⟩ : ∃ t, t = bstr (schT d) := ⟨_, rfl⟩
  rw [← ht]
  have HT := hiD ht
  clear e b2 ht HF
  by_cases hts : t = s
  ·subst hts
   go_wp2_with fail
   go_ret
   exact ⟨HB.out, .inl ⟨d, HR.out, by rw [← HT.out]; simp⟩⟩
  ·have hne : ¬ t.toList = s.toList := by
    intro e
    rw [toList_data, toList_data] at e
    exact hts (bytes_inj e)
   have hne2 : (t.toList == s.toList) = false := beq_eq_false_iff_ne.2 hne
   have HN : Hid (decide (bstr (schT d) = s) = false) := by
    show _ = _
    rw [← HT.out]
    simpa using hts
   go_wp2_with fail
   go_ret
   exact ⟨HB.out, .inl ⟨d, HR.out, by rw [HN.out]; first | rfl | simp [hts, hne]⟩⟩
 ·have HR := hiD e
  have HB := hiD b2
  clear e b2 HF ha
  unfold faultN
  go_wp2_with fail
  go_ret
  exact ⟨HB.out, .inr ⟨a, b, HR.out, rfl⟩⟩
end Go.Proofs.YtkildckeikedhaaGreatDoor
namespace Go.Proofs.YtkildckeikedhaaGreatDoor
open errAs (ErrT)
open Go.ChangeShapes Go.WideShapes Go.ChangeAt Go.RowKit
set_option linter.unusedVariables false

set_option maxRecDepth 100000 in
set_option maxHeartbeats 4000000 in
theorem formats_of (HAWK : ∀ w, Env w → Calls Tryz.prog 4 #[] w fun e w' => e = .returned (.bool true) ∧ Below w.heap.size w w') (s : ByteArray) (w : World) (hz : s.size ≤ maxLen) (h : Env w) : Calls Tryz.prog 3 #[.string s] w fun e w' => e = .returned (.bool true) ∧ Below w.heap.size w w' := by
  have HAW := hiD (HAWK w h)
  have HE := hiD h
  have HA2 := hiD HAWK
  clear h hz HAWK
  by_cases hs : s.size ≤ 5000
  · have hs1 : ¬ (5000 : Int) < s.size := by omega
    have HSZ := hiD hs
    have HSL : Hid (∀ d, readF schemaR s.data.toList = .ok d → (schT d).length ≤ 50000) := by
      show ∀ d, _
      intro d hd
      have h1 := sch_len hd
      have h2 : s.data.toList.length = s.size := by rw [Array.length_toList]; rfl
      omega
    clear hs
    go_enter Tryz.func3, Tryz.ntmps3
    go_wp2_with fail
    refine HAW.out.mono ?_
    rintro r w1 ⟨rfl, b1⟩
    have HE1 := hiD (HE.out.below b1)
    have HB1 := hiD b1
    have HF1 := hiD (fmt_any s (Nat.le_trans HSZ.out (by decide)) w1 HE1.out (fun d hd => Nat.le_trans (HSL.out d hd) (by decide)))
    clear b1 HAW HA2
    go_wp2_with fail
    refine HF1.out.mono ?_
    rintro r w2 ⟨b2, ⟨d, e, rfl⟩ | ⟨a, b, ha, e, rfl⟩⟩
    · have HR := hiD e
      have HE2 := hiD (HE1.out.below b2)
      have HB2 := hiD (HB1.out.trans (b2.mono HB1.out.size))
      have HG := hiD (readF_good e)
      have HDL := hiD (HSL.out d e)
      obtain ⟨tf, htf⟩ : ∃ t, t = bstr (schT d) := ⟨_, rfl⟩
      have HTF := hiD htf
      rw [← htf]
      have HRA := hiD (refS_any s (Nat.le_trans HSZ.out (by decide)) w2)
      clear e b2 HF1 htf
      go_wp2_with fail
      refine HRA.out.mono ?_
      rintro r w4 ⟨b4, ⟨y, u, e, rfl, hu⟩ | ⟨a, b, ha, e, rfl⟩⟩
      · have hxy : y = d := by have h := HR.out.symm.trans e; cases h; rfl
        subst hxy
        obtain ⟨q2, c2, rfl, hk5⟩ := VS.form hu
        have HU := hiD (show VKD _ y w4 (.slice q2 y.length c2) from hk5)
        have HE2 := hiD (HE2.out.below b4)
        have HB2 := hiD (HB2.out.trans (b4.mono HB2.out.size))
        have hb5 : Below w4.heap.size w4 (w4.alloc (.cells #[.slice q2 y.length c2] 29)) := (Below.refl _ _).alloc (Nat.le_refl _) _
        have HY : Hid (Arr (w4.alloc (.cells #[.slice q2 y.length c2] 29)) 29 w4.heap.size [.slice q2 y.length c2]) := Arr.new' _ _ _ _ rfl
        have HU := hiD (HU.out.later hb5)
        have HE2 := hiD (HE2.out.below hb5)
        have HB2 := hiD (HB2.out.trans (hb5.mono HB2.out.size))
        clear e b4 hb5 HRA hu hk5
        go_upto_region 5 with (fail)
        obtain ⟨g2, hg2⟩ : ∃ g, g = w4.heap.size := ⟨_, rfl⟩
        rw [← hg2] at HY ⊢
        generalize w4.alloc (.cells #[.slice q2 y.length c2] 29) = w5 at HY HU HE2 HB2 ⊢
        clear hg2
        have HTN := hiD (told_none 0 w5)
        go_wp2_with fail
        refine HTN.out.mono ?_
        rintro r w7 ⟨rfl, h7⟩
        obtain rfl := h7
        have HTL : Hid ((tf : ByteArray).data.toList = schT y) := by show _ = _; rw [HTF.out]; rfl
        have HF2 := hiD (fmt_any tf (by rw [HTF.out, bstr_size]; have := HDL.out; omega) w5 HE2.out (fun d hd => by
          rw [HTL.out, read_sch HG.out] at hd
          cases hd
          exact Nat.le_trans HDL.out (by decide)))
        clear HTN
        go_wp2_with fail
        refine HF2.out.mono ?_
        rintro r w9 ⟨b9, ⟨y2, e2, rfl⟩ | ⟨a2, b2, ha2, e2, rfl⟩⟩
        rotate_left
        · exact absurd ((read_sch HG.out).symm.trans (HTL.out ▸ e2)) (by intro h; cases h)
        have hy2 : y = y2 := by have h := (read_sch HG.out).symm.trans (HTL.out ▸ e2); cases h; rfl
        subst hy2
        rw [← HTF.out]
        have HY := hiD (HY.out.later b9)
        have HU := hiD (HU.out.later b9)
        have HE5 := hiD (HE2.out.below b9)
        have HB5 := hiD (HB2.out.trans (b9.mono HB2.out.size))
        have HRS : Hid (Calls Tryz.prog 9 #[.agg #[.slice q2 y.length c2]] w9 fun e w' => e = .returned (.string tf) ∧ Below w9.heap.size w9 w') := by
          have h := rschT_any y q2 c2 _ w9 HU.out (fun b hb => hb.2) HG.out (Nat.le_trans HDL.out (by decide))
          rw [← HTF.out] at h
          exact h
        have HISS : Hid (∀ w, Env w → Calls Tryz.prog 8 #[.string s] w fun e w' => e = .returned (.bool (decide (tf = s))) ∧ Below w.heap.size w w') := by
          show ∀ w, _
          intro w hw
          refine (pis_any s (Nat.le_trans HSZ.out (by decide)) w hw (fun d hd => Nat.le_trans (HSL.out d hd) (by decide))).mono ?_
          rintro e w' ⟨hb, ⟨d, h1, h2⟩ | ⟨a, b, h1, h2⟩⟩
          · have hd : y = d := by have h := HR.out.symm.trans h1; cases h; rfl
            subst hd
            exact ⟨by rw [h2, HTF.out], hb⟩
          · exact absurd (HR.out.symm.trans h1) (by intro h; cases h)
        clear b9 e2 HF2
        by_cases hts : tf = s
        · rw [decide_eq_true hts] at HISS
          clear HTF HTL HU HG HDL HR
          subst hts
          obtain ⟨na0, nb0⟩ := HY.out.all1
          go_wp2_with fail
          refine HRS.out.mono ?_
          rintro r w6 ⟨rfl, b6⟩
          have HE6 := hiD (HE5.out.below b6)
          have HB6 := hiD (HB5.out.trans (b6.mono HB5.out.size))
          clear b6
          clear na0 nb0
          have HIS := hiD (HISS.out w6 HE6.out)
          clear HISS
          go_wp2_with fail
          refine HIS.out.mono ?_
          rintro r w7 ⟨rfl, b7⟩
          have HB7 := hiD (HB6.out.trans (b7.mono HB6.out.size))
          clear b7
          go_wp2_with fail
          go_ret
          exact ⟨rfl, HB7.out⟩
        · rw [decide_eq_false hts] at HISS
          have hne : ¬ tf.toList = s.toList := by
            intro e
            rw [toList_data, toList_data] at e
            exact hts (bytes_inj e)
          have hne2 : (tf.toList == s.toList) = false := beq_eq_false_iff_ne.2 hne
          clear hts
          obtain ⟨na0, nb0⟩ := HY.out.all1
          go_wp2_with fail
          refine HRS.out.mono ?_
          rintro r w6 ⟨rfl, b6⟩
          have HE6 := hiD (HE5.out.below b6)
          have HB6 := hiD (HB5.out.trans (b6.mono HB5.out.size))
          clear b6
          clear na0 nb0
          have HIS := hiD (HISS.out w6 HE6.out)
          clear HISS
          go_wp2_with fail
          refine HIS.out.mono ?_
          rintro r w7 ⟨rfl, b7⟩
          have HB7 := hiD (HB6.out.trans (b7.mono HB6.out.size))
          clear b7
          go_wp2_with fail
          go_ret
          exact ⟨rfl, HB7.out⟩
      · exact absurd (HR.out.symm.trans e) (by intro h; cases h)
    · have HR := hiD e
      have HA := hiD ha
      have HE2 := hiD (HE1.out.below b2)
      have HB2 := hiD (HB1.out.trans (b2.mono HB1.out.size))
      have HRA := hiD (refS_any s (Nat.le_trans HSZ.out (by decide)) w2)
      clear e b2 HF1
      unfold faultN
      go_wp2_with fail
      refine HRA.out.mono ?_
      rintro r w4 ⟨b4, ⟨y, u, e, rfl, hu⟩ | ⟨a2, b2, ha2, e, rfl⟩⟩
      · exact absurd (HR.out.symm.trans e) (by intro h; cases h)
      · have hxy : a = a2 ∧ b = b2 := by have h := HR.out.symm.trans e; cases h; exact ⟨rfl, rfl⟩
        obtain ⟨rfl, rfl⟩ := hxy
        have HE2 := hiD (HE2.out.below b4)
        have HB2 := hiD (HB2.out.trans (b4.mono HB2.out.size))
        have hb5 : Below w4.heap.size w4 (w4.alloc (.cells #[.slice none 0 0] 29)) := (Below.refl _ _).alloc (Nat.le_refl _) _
        have HE2 := hiD (HE2.out.below hb5)
        have HB2 := hiD (HB2.out.trans (hb5.mono HB2.out.size))
        have ha7 : ((a : Int) != 0) = true := bne_iff_ne.2 (by omega)
        clear e b4 hb5 HRA ha2 ha
        go_upto_region 5 with (fail)
        generalize w4.alloc (.cells #[.slice none 0 0] 29) = w5 at HE2 HB2 ⊢
        have HTF := hiD (told_fault a b HA.out w5 HE2.out.2)
        unfold faultN at HTF
        go_wp2_with fail
        refine HTF.out.mono ?_
        rintro r w7 ⟨rfl, b7⟩
        have HE7 := hiD (HE2.out.below b7)
        have HB7 := hiD (HB2.out.trans (b7.mono HB2.out.size))
        have HIS : Hid (Calls Tryz.prog 8 #[.string s] w7 fun e w' => e = .returned (.bool false) ∧ Below w7.heap.size w7 w') := by
          refine (pis_any s (Nat.le_trans HSZ.out (by decide)) w7 HE7.out (fun d hd => Nat.le_trans (HSL.out d hd) (by decide))).mono ?_
          rintro e w' ⟨hb, ⟨d, h1, h2⟩ | ⟨a, b, h1, h2⟩⟩
          · exact absurd (HR.out.symm.trans h1) (by intro h; cases h)
          · exact ⟨h2, hb⟩
        clear b7
        go_wp2_with fail
        refine HIS.out.mono ?_
        rintro r w8 ⟨rfl, b8⟩
        have HB8 := hiD (HB7.out.trans (b8.mono HB7.out.size))
        clear b8
        go_wp2_with fail
        go_ret
        exact ⟨rfl, HB8.out⟩
  · have hs1 : (5000 : Int) < s.size := by omega
    clear hs
    go_enter Tryz.func3, Tryz.ntmps3
    go_wp2_with fail
    refine HAW.out.mono ?_
    rintro r w1 ⟨rfl, b1⟩
    have HE1 := hiD (HE.out.below b1)
    have HB1 := hiD b1
    clear b1 HAW
    go_wp2_with fail
    refine (HA2.out w1 HE1.out).mono ?_
    rintro r w2 ⟨rfl, b2⟩
    have HB2 := hiD (HB1.out.trans (b2.mono HB1.out.size))
    clear b2
    go_wp2_with fail
    go_ret
    exact ⟨rfl, HB2.out⟩
end Go.Proofs.YtkildckeikedhaaGreatDoor
namespace Go.Proofs.YtkildckeikedhaaGreatDoor
open Go.ChangeShapes Go.WideShapes Go.ChangeAt Go.RowKit
set_option linter.unusedVariables false

set_option maxRecDepth 100000 in
set_option maxHeartbeats 2000000 in
theorem idxD1 {W : World} {g p : Nat} {b : Bool} {u0 u1 : Value} (hA : Arr W 39 g [u0, u1]) (HC : ∀ W', Below W.heap.size W W' → Calls Tryz.prog 60 #[.agg #[u0, u1], .pointer (some ⟨p, 0, none⟩)] W' fun r w' => r = .returned (.bool b) ∧ Below W'.heap.size W' w') :
    Calls Tryz.prog 83 #[.slice (some ⟨g, 0, none⟩) 1 1, .func (.func 60) #[] #[.pointer (some ⟨p, 0, none⟩)]] W fun r w' => r = .returned (.int .i64 (if b = true then 0 else -1)) ∧ Below W.heap.size W w' := by
  have HH := hiD HC
  have a0 := hA.cell 0
  have a1 := hA.cell 1
  simp only [List.getElem?_cons_zero, List.getElem?_cons_succ] at a0 a1
  clear HC hA
  go_enter Tryz.func83, Tryz.ntmps83
  go_wp2_with fail
  refine wp_loop_rounds 2 ?_
  rw [rounds_succ]
  go_wp2_with fail
  refine (HH.out W (Below.refl _ _)).mono ?_
  rintro r w1 ⟨rfl, b1⟩
  have HB := hiD b1
  clear b1
  cases b with
  | true =>
    go_wp2_with fail
    go_ret
    exact ⟨rfl, HB.out⟩
  | false =>
    go_wp2_with fail
    rw [rounds_succ]
    go_wp2_with fail
    go_ret
    exact ⟨rfl, HB.out⟩
set_option maxRecDepth 100000 in
set_option maxHeartbeats 2000000 in
theorem conD1 {W : World} {g p : Nat} {b : Bool} {u0 u1 : Value} (hA : Arr W 39 g [u0, u1]) (HC : ∀ W', Below W.heap.size W W' → Calls Tryz.prog 60 #[.agg #[u0, u1], .pointer (some ⟨p, 0, none⟩)] W' fun r w' => r = .returned (.bool b) ∧ Below W'.heap.size W' w') :
    Calls Tryz.prog 59 #[.slice (some ⟨g, 0, none⟩) 1 1, .func (.func 60) #[] #[.pointer (some ⟨p, 0, none⟩)]] W fun r w' => r = .returned (.bool b) ∧ Below W.heap.size W w' := by
  have HI := hiD (idxD1 hA HC)
  clear HC hA
  go_enter Tryz.func59, Tryz.ntmps59
  go_wp2_with fail
  refine HI.out.mono ?_
  rintro r w1 ⟨rfl, b1⟩
  have HB := hiD b1
  clear b1
  cases b with
  | true =>
    go_wp2_with fail
    go_ret
    exact ⟨rfl, HB.out⟩
  | false =>
    go_wp2_with fail
    go_ret
    exact ⟨rfl, HB.out⟩
set_option maxRecDepth 100000 in
set_option maxHeartbeats 2000000 in
theorem cloD1 {W : World} {p : Nat} {b : Bool} {u0 u1 : Value} (hp : W.cell? ⟨p, 0, none⟩ = some (.func (.func 40) #[] #[])) (HS : ∀ W', Below W.heap.size W W' → Calls Tryz.prog 40 #[.agg #[u0, u1]] W' fun r w' => r = .returned (.bool b) ∧ Below W'.heap.size W' w') :
    Calls Tryz.prog 60 #[.agg #[u0, u1], .pointer (some ⟨p, 0, none⟩)] W fun r w' => r = .returned (.bool (!b)) ∧ Below W.heap.size W w' := by
  have HB0 : Hid (Below W.heap.size W (W.alloc (.cells #[u0, u1] 39))) := (Below.refl _ _).alloc (Nat.le_refl _) _
  have HH := hiD (HS _ HB0.out)
  have hp1 := (HB0.out.cell (p := ⟨p, 0, none⟩) (World.block_lt_of_cell? W _ hp)).trans hp
  clear HS hp
  go_enter Tryz.func60, Tryz.ntmps60
  go_wp2_with fail
  refine HH.out.mono ?_
  rintro r w1 ⟨rfl, b1⟩
  have HB := hiD (HB0.out.trans (b1.mono HB0.out.size))
  clear b1
  go_wp2_with fail
  go_ret
  exact ⟨rfl, HB.out⟩
set_option maxRecDepth 100000 in
set_option maxHeartbeats 2000000 in
theorem allD1 {W : World} {g : Nat} {b : Bool} {u0 u1 : Value} (hA : Arr W 39 g [u0, u1]) (HS : ∀ W', Below W.heap.size W W' → Calls Tryz.prog 40 #[.agg #[u0, u1]] W' fun r w' => r = .returned (.bool b) ∧ Below W'.heap.size W' w') :
    Calls Tryz.prog 39 #[.slice (some ⟨g, 0, none⟩) 1 1, .func (.func 40) #[] #[]] W fun r w' => r = .returned (.bool b) ∧ Below W.heap.size W w' := by
  have HB0 : Hid (Below W.heap.size W (W.alloc (.cells #[.func (.func 40) #[] #[]] 100))) := (Below.refl _ _).alloc (Nat.le_refl _) _
  have hbox : Arr (W.alloc (.cells #[.func (.func 40) #[] #[]] 100)) 100 W.heap.size [.func (.func 40) #[] #[]] := Arr.new' _ _ _ _ rfl
  have HI := hiD (conD1 (p := W.heap.size) (b := !b) (hA.alloc _) fun W' hW => cloD1 (b := b) ((hW.cell (p := ⟨W.heap.size, 0, none⟩) hbox.lt).trans (hbox.cell 0)) fun W2 h2 => HS W2 (HB0.out.trans (((hW.trans (h2.mono hW.size))).mono HB0.out.size)))
  clear HS hA hbox
  go_enter Tryz.func39, Tryz.ntmps39
  go_wp2_with fail
  refine HI.out.mono ?_
  rintro r w1 ⟨rfl, b1⟩
  have HB := hiD (HB0.out.trans (b1.mono HB0.out.size))
  clear b1
  go_wp2_with fail
  go_ret
  exact ⟨rfl, HB.out⟩
set_option maxRecDepth 100000 in
set_option maxHeartbeats 2000000 in
theorem hf_no (w : World) (hr : ResT w) : Calls Tryz.prog 40 #[.agg #[.string ⟨#[]⟩, .slice none 0 0]] w fun e w' => e = .returned (.bool false) ∧ Below w.heap.size w w' := by
  have hb0 : Below w.heap.size w (w.alloc (.cells #[.string ⟨#[]⟩, .slice none 0 0] 39)) := (Below.refl _ _).alloc (Nat.le_refl _) _
  have HB := hiD hb0
  have HN := hiD (isName_at ⟨#[]⟩ (b := false) (by decide) _ (hr.below hb0 hr.lt))
  clear hb0 hr
  go_enter Tryz.func40, Tryz.ntmps40
  go_wp2_with fail
  refine HN.out.mono ?_
  rintro e w1 ⟨rfl, b1⟩
  have HB := hiD (HB.out.trans (b1.mono HB.out.size))
  clear b1
  go_wp2_with fail
  go_ret
  exact ⟨rfl, HB.out⟩
set_option maxRecDepth 100000 in
set_option maxHeartbeats 2000000 in
theorem form_no (g : Nat) (w : World) (hA : Arr w 39 g [.string ⟨#[]⟩, .slice none 0 0]) (hr : ResT w) : Calls Tryz.prog 21 #[.agg #[.slice (some ⟨g, 0, none⟩) 1 1]] w fun e w' => e = .returned (.bool false) ∧ Below w.heap.size w w' := by
  have hb0 : Below w.heap.size w (w.alloc (.cells #[.slice (some ⟨g, 0, none⟩) 1 1] 29)) := (Below.refl _ _).alloc (Nat.le_refl _) _
  have HB := hiD hb0
  have HX : Hid (Arr (w.alloc (.cells #[.slice (some ⟨g, 0, none⟩) 1 1] 29)) 29 w.heap.size [.slice (some ⟨g, 0, none⟩) 1 1]) := Arr.new' _ _ _ _ rfl
  have hR : ResT (w.alloc (.cells #[.slice (some ⟨g, 0, none⟩) 1 1] 29)) := hr.below hb0 hr.lt
  have HAL := hiD (allD1 (b := false) (hA.later hb0) fun W' hW => hf_no W' (hR.below hW hR.lt))
  clear hb0 hr hR hA
  go_enter Tryz.func21, Tryz.ntmps21
  go_upto_region 1 with (fail)
  generalize w.alloc (.cells #[.slice (some ⟨g, 0, none⟩) 1 1] 29) = w0 at HB HX HAL ⊢
  obtain ⟨x0, y0⟩ := HX.out.all1
  go_wp2_with fail
  refine HAL.out.mono ?_
  rintro e w1 ⟨rfl, b1⟩
  have HB := hiD (HB.out.trans (b1.mono HB.out.size))
  clear b1
  go_wp2_with fail
  go_ret
  exact ⟨rfl, HB.out⟩
set_option maxRecDepth 100000 in
set_option maxHeartbeats 2000000 in
theorem psch_no (g : Nat) (w : World) (hA : Arr w 39 g [.string ⟨#[]⟩, .slice none 0 0]) (hr : ResT w) : Calls Tryz.prog 10 #[.agg #[.slice (some ⟨g, 0, none⟩) 1 1]] w fun e w' => e = .returned (.tuple #[.string ⟨#[]⟩, .bool false]) ∧ Below w.heap.size w w' := by
  have hb0 : Below w.heap.size w (w.alloc (.cells #[.slice (some ⟨g, 0, none⟩) 1 1] 29)) := (Below.refl _ _).alloc (Nat.le_refl _) _
  have HB := hiD hb0
  have HX : Hid (Arr (w.alloc (.cells #[.slice (some ⟨g, 0, none⟩) 1 1] 29)) 29 w.heap.size [.slice (some ⟨g, 0, none⟩) 1 1]) := Arr.new' _ _ _ _ rfl
  have HF := hiD (form_no g _ (hA.later hb0) (hr.below hb0 hr.lt))
  clear hb0 hr hA
  go_enter Tryz.func10, Tryz.ntmps10
  go_upto_region 1 with (fail)
  generalize w.alloc (.cells #[.slice (some ⟨g, 0, none⟩) 1 1] 29) = w0 at HB HX HF ⊢
  obtain ⟨x0, y0⟩ := HX.out.all1
  go_wp2_with fail
  refine HF.out.mono ?_
  rintro e w1 ⟨rfl, b1⟩
  have HB := hiD (HB.out.trans (b1.mono HB.out.size))
  clear b1
  go_wp2_with fail
  refine bodyPost_ret (v := .tuple #[.string ⟨#[]⟩, .bool false]) ?_ rfl ⟨rfl, HB.out⟩
  simp [results, Tryz.results10, go_sem]
theorem rdK_one {α : Type} {K : Kd α} {P : Nat → Prop} {w : World} {g : Nat} {x : α} {cs : List Value} (hA : Arr w K.ty g cs) (hg : P g) (hr : K.rd P w x cs) : RdK K P w [x] (.slice (some ⟨g, 0, none⟩) 1 1) := by
  refine ⟨_, _, rfl, Nat.le_refl _, fun _ => ⟨g, 0, rfl, hg, cs, ⟨cs, [], by simp, hr, rfl⟩, fun j u hj => ?_⟩⟩
  have h := hA.cell j
  rw [hj] at h
  rw [Nat.zero_add]
  exact h
set_option maxRecDepth 100000 in
set_option maxHeartbeats 2000000 in
theorem pmember_any (x : MemB) {y0 y4 y5 : ByteArray} {y1 y3 : Int} {qa q4 : Option Addr} {la ca l4 c4 : Nat} (P : Nat → Prop) (w : World) (h : rdMem P w x [.string y0, .int .i64 y1, .slice qa la ca, .int .i64 y3, .string y4, .string y5, .slice q4 l4 c4]) (hP : ∀ b, P b → b < w.heap.size) (hg : GoodM x) (hr : ResT w) : Calls Tryz.prog 11 #[.agg #[.string y0, .int .i64 y1, .slice qa la ca, .int .i64 y3, .string y4, .string y5, .slice q4 l4 c4]] w fun e w' => e = .returned (.tuple #[.string (bstr (memT x)), .bool true]) ∧ Below w.heap.size w w' := by
  have hb4 : Below w.heap.size w ((((w.alloc (.cells #[.string y0, .int .i64 y1, .slice qa la ca, .int .i64 y3, .string y4, .string y5, .slice q4 l4 c4] 48)).alloc (.cells #[.string y0, .int .i64 y1, .slice qa la ca, .int .i64 y3, .string y4, .string y5, .slice q4 l4 c4] 48)).alloc (.cells #[.string ⟨#[97]⟩, .slice (some ⟨w.heap.size + 1, 0, none⟩) 1 1] 39)).alloc (.cells #[.string ⟨#[97]⟩, .slice (some ⟨w.heap.size + 1, 0, none⟩) 1 1] 39)) := ((((Below.refl _ _).alloc (Nat.le_refl _) _).alloc (by simp) _).alloc (by simp; omega) _).alloc (by simp; omega) _
  have HB := hiD hb4
  have HX : Hid (Arr ((((w.alloc (.cells #[.string y0, .int .i64 y1, .slice qa la ca, .int .i64 y3, .string y4, .string y5, .slice q4 l4 c4] 48)).alloc (.cells #[.string y0, .int .i64 y1, .slice qa la ca, .int .i64 y3, .string y4, .string y5, .slice q4 l4 c4] 48)).alloc (.cells #[.string ⟨#[97]⟩, .slice (some ⟨w.heap.size + 1, 0, none⟩) 1 1] 39)).alloc (.cells #[.string ⟨#[97]⟩, .slice (some ⟨w.heap.size + 1, 0, none⟩) 1 1] 39)) 48 w.heap.size [.string y0, .int .i64 y1, .slice qa la ca, .int .i64 y3, .string y4, .string y5, .slice q4 l4 c4]) := (((Arr.new' _ _ _ _ rfl).alloc _).alloc _).alloc _
  have hY : Arr ((((w.alloc (.cells #[.string y0, .int .i64 y1, .slice qa la ca, .int .i64 y3, .string y4, .string y5, .slice q4 l4 c4] 48)).alloc (.cells #[.string y0, .int .i64 y1, .slice qa la ca, .int .i64 y3, .string y4, .string y5, .slice q4 l4 c4] 48)).alloc (.cells #[.string ⟨#[97]⟩, .slice (some ⟨w.heap.size + 1, 0, none⟩) 1 1] 39)).alloc (.cells #[.string ⟨#[97]⟩, .slice (some ⟨w.heap.size + 1, 0, none⟩) 1 1] 39)) 48 (w.heap.size + 1) [.string y0, .int .i64 y1, .slice qa la ca, .int .i64 y3, .string y4, .string y5, .slice q4 l4 c4] := ((Arr.new2 _ _ _ _ _ rfl).alloc _).alloc _
  have hZ : Arr ((((w.alloc (.cells #[.string y0, .int .i64 y1, .slice qa la ca, .int .i64 y3, .string y4, .string y5, .slice q4 l4 c4] 48)).alloc (.cells #[.string y0, .int .i64 y1, .slice qa la ca, .int .i64 y3, .string y4, .string y5, .slice q4 l4 c4] 48)).alloc (.cells #[.string ⟨#[97]⟩, .slice (some ⟨w.heap.size + 1, 0, none⟩) 1 1] 39)).alloc (.cells #[.string ⟨#[97]⟩, .slice (some ⟨w.heap.size + 1, 0, none⟩) 1 1] 39)) 39 (w.heap.size + 1 + 1 + 1) [.string ⟨#[97]⟩, .slice (some ⟨w.heap.size + 1, 0, none⟩) 1 1] := by
    have h := Arr.new' (((w.alloc (.cells #[.string y0, .int .i64 y1, .slice qa la ca, .int .i64 y3, .string y4, .string y5, .slice q4 l4 c4] 48)).alloc (.cells #[.string y0, .int .i64 y1, .slice qa la ca, .int .i64 y3, .string y4, .string y5, .slice q4 l4 c4] 48)).alloc (.cells #[.string ⟨#[97]⟩, .slice (some ⟨w.heap.size + 1, 0, none⟩) 1 1] 39)) 39 #[.string ⟨#[97]⟩, .slice (some ⟨w.heap.size + 1, 0, none⟩) 1 1] [.string ⟨#[97]⟩, .slice (some ⟨w.heap.size + 1, 0, none⟩) 1 1] rfl
    rw [show (((w.alloc (.cells #[.string y0, .int .i64 y1, .slice qa la ca, .int .i64 y3, .string y4, .string y5, .slice q4 l4 c4] 48)).alloc (.cells #[.string y0, .int .i64 y1, .slice qa la ca, .int .i64 y3, .string y4, .string y5, .slice q4 l4 c4] 48)).alloc (.cells #[.string ⟨#[97]⟩, .slice (some ⟨w.heap.size + 1, 0, none⟩) 1 1] 39)).heap.size = w.heap.size + 1 + 1 + 1 from by simp] at h
    exact h
  have hP4 : ∀ b, (P b ∨ b = w.heap.size + 1 ∨ b = w.heap.size + 1 + 1 + 1) → b < ((((w.alloc (.cells #[.string y0, .int .i64 y1, .slice qa la ca, .int .i64 y3, .string y4, .string y5, .slice q4 l4 c4] 48)).alloc (.cells #[.string y0, .int .i64 y1, .slice qa la ca, .int .i64 y3, .string y4, .string y5, .slice q4 l4 c4] 48)).alloc (.cells #[.string ⟨#[97]⟩, .slice (some ⟨w.heap.size + 1, 0, none⟩) 1 1] 39)).alloc (.cells #[.string ⟨#[97]⟩, .slice (some ⟨w.heap.size + 1, 0, none⟩) 1 1] 39)).heap.size := by
    rintro b (h | rfl | rfl)
    · exact Nat.lt_of_lt_of_le (hP b h) hb4.size
    · exact hY.lt
    · exact hZ.lt
  have hx : rdMem (fun b => P b ∨ b = w.heap.size + 1 ∨ b = w.heap.size + 1 + 1 + 1) ((((w.alloc (.cells #[.string y0, .int .i64 y1, .slice qa la ca, .int .i64 y3, .string y4, .string y5, .slice q4 l4 c4] 48)).alloc (.cells #[.string y0, .int .i64 y1, .slice qa la ca, .int .i64 y3, .string y4, .string y5, .slice q4 l4 c4] 48)).alloc (.cells #[.string ⟨#[97]⟩, .slice (some ⟨w.heap.size + 1, 0, none⟩) 1 1] 39)).alloc (.cells #[.string ⟨#[97]⟩, .slice (some ⟨w.heap.size + 1, 0, none⟩) 1 1] 39)) x [.string y0, .int .i64 y1, .slice qa la ca, .int .i64 y3, .string y4, .string y5, .slice q4 l4 c4] := (rdMem_keep h hb4 hP).imp fun b hb => .inl hb
  have HR : Hid (ResT ((((w.alloc (.cells #[.string y0, .int .i64 y1, .slice qa la ca, .int .i64 y3, .string y4, .string y5, .slice q4 l4 c4] 48)).alloc (.cells #[.string y0, .int .i64 y1, .slice qa la ca, .int .i64 y3, .string y4, .string y5, .slice q4 l4 c4] 48)).alloc (.cells #[.string ⟨#[97]⟩, .slice (some ⟨w.heap.size + 1, 0, none⟩) 1 1] 39)).alloc (.cells #[.string ⟨#[97]⟩, .slice (some ⟨w.heap.size + 1, 0, none⟩) 1 1] 39))) := hr.below hb4 hr.lt
  have HFO : Hid (Calls Tryz.prog 21 #[.agg #[.slice (some ⟨w.heap.size + 1 + 1 + 1, 0, none⟩) 1 1]] ((((w.alloc (.cells #[.string y0, .int .i64 y1, .slice qa la ca, .int .i64 y3, .string y4, .string y5, .slice q4 l4 c4] 48)).alloc (.cells #[.string y0, .int .i64 y1, .slice qa la ca, .int .i64 y3, .string y4, .string y5, .slice q4 l4 c4] 48)).alloc (.cells #[.string ⟨#[97]⟩, .slice (some ⟨w.heap.size + 1, 0, none⟩) 1 1] 39)).alloc (.cells #[.string ⟨#[97]⟩, .slice (some ⟨w.heap.size + 1, 0, none⟩) 1 1] 39)) fun e w' => e = .returned (.bool true) ∧ Below ((((w.alloc (.cells #[.string y0, .int .i64 y1, .slice qa la ca, .int .i64 y3, .string y4, .string y5, .slice q4 l4 c4] 48)).alloc (.cells #[.string y0, .int .i64 y1, .slice qa la ca, .int .i64 y3, .string y4, .string y5, .slice q4 l4 c4] 48)).alloc (.cells #[.string ⟨#[97]⟩, .slice (some ⟨w.heap.size + 1, 0, none⟩) 1 1] 39)).alloc (.cells #[.string ⟨#[97]⟩, .slice (some ⟨w.heap.size + 1, 0, none⟩) 1 1] 39)).heap.size ((((w.alloc (.cells #[.string y0, .int .i64 y1, .slice qa la ca, .int .i64 y3, .string y4, .string y5, .slice q4 l4 c4] 48)).alloc (.cells #[.string y0, .int .i64 y1, .slice qa la ca, .int .i64 y3, .string y4, .string y5, .slice q4 l4 c4] 48)).alloc (.cells #[.string ⟨#[97]⟩, .slice (some ⟨w.heap.size + 1, 0, none⟩) 1 1] 39)).alloc (.cells #[.string ⟨#[97]⟩, .slice (some ⟨w.heap.size + 1, 0, none⟩) 1 1] 39)) w') :=
    form_any [([97], [x])] _ _ _ ((((w.alloc (.cells #[.string y0, .int .i64 y1, .slice qa la ca, .int .i64 y3, .string y4, .string y5, .slice q4 l4 c4] 48)).alloc (.cells #[.string y0, .int .i64 y1, .slice qa la ca, .int .i64 y3, .string y4, .string y5, .slice q4 l4 c4] 48)).alloc (.cells #[.string ⟨#[97]⟩, .slice (some ⟨w.heap.size + 1, 0, none⟩) 1 1] 39)).alloc (.cells #[.string ⟨#[97]⟩, .slice (some ⟨w.heap.size + 1, 0, none⟩) 1 1] 39)) (rdK_one (K := kdDef) hZ (.inr (.inr rfl)) ⟨_, rfl, rdK_one (K := kdMem) hY (.inr (.inl rfl)) hx⟩) hP4 ⟨by show 1 ≤ 64; decide, fun d hd => by
      rw [List.mem_singleton] at hd
      subst hd
      exact ⟨by show isName (bstr [97]) = true; decide, by show ([x] : List MemB).length ≤ 64; simp, fun m hm => by rw [List.mem_singleton.1 hm]; exact hg⟩⟩ HR.out
  have HPM := hiD (fun w' (hw : Below ((((w.alloc (.cells #[.string y0, .int .i64 y1, .slice qa la ca, .int .i64 y3, .string y4, .string y5, .slice q4 l4 c4] 48)).alloc (.cells #[.string y0, .int .i64 y1, .slice qa la ca, .int .i64 y3, .string y4, .string y5, .slice q4 l4 c4] 48)).alloc (.cells #[.string ⟨#[97]⟩, .slice (some ⟨w.heap.size + 1, 0, none⟩) 1 1] 39)).alloc (.cells #[.string ⟨#[97]⟩, .slice (some ⟨w.heap.size + 1, 0, none⟩) 1 1] 39)).heap.size ((((w.alloc (.cells #[.string y0, .int .i64 y1, .slice qa la ca, .int .i64 y3, .string y4, .string y5, .slice q4 l4 c4] 48)).alloc (.cells #[.string y0, .int .i64 y1, .slice qa la ca, .int .i64 y3, .string y4, .string y5, .slice q4 l4 c4] 48)).alloc (.cells #[.string ⟨#[97]⟩, .slice (some ⟨w.heap.size + 1, 0, none⟩) 1 1] 39)).alloc (.cells #[.string ⟨#[97]⟩, .slice (some ⟨w.heap.size + 1, 0, none⟩) 1 1] 39)) w') => pmemT_any x [.string y0, .int .i64 y1, .slice qa la ca, .int .i64 y3, .string y4, .string y5, .slice q4 l4 c4] _ w' (rdMem_keep hx hw hP4) (lt_keep hw hP4) hg (HR.out.below hw HR.out.lt))
  clear hb4 h hP hg hr hY hZ hP4 hx HR
  go_enter Tryz.func11, Tryz.ntmps11
  go_wp2_with fail
  refine HFO.out.mono ?_
  rintro e w1 ⟨rfl, b1⟩
  have HX := hiD (HX.out.later b1)
  have HB := hiD (HB.out.trans (b1.mono HB.out.size))
  have HPM := hiD (HPM.out w1 b1)
  clear b1 HFO
  obtain ⟨x0, y0, x1, y1, x2, y2, x3, y3, x4, y4, x5, y5, x6, y6⟩ := HX.out.all7
  go_wp2_with fail
  refine HPM.out.mono ?_
  rintro e w2 ⟨rfl, b2⟩
  have HB := hiD (HB.out.trans (b2.mono HB.out.size))
  clear b2
  go_wp2_with fail
  refine bodyPost_ret (v := .tuple #[.string (bstr (memT x)), .bool true]) ?_ rfl ⟨rfl, HB.out⟩
  simp [results, Tryz.results11, go_sem]
def usrD : List DefB := [([117, 115, 101, 114], [])]
def memX : MemB := ([97], 1, [([98], []), ([99], [100])], ex0)
theorem usr_text : schT usrD = [100, 101, 102, 105, 110, 105, 116, 105, 111, 110, 32, 117, 115, 101, 114, 32, 123, 10, 125, 10] := by decide
theorem mem_text : memT memX = [114, 101, 108, 97, 116, 105, 111, 110, 32, 97, 58, 32, 98, 32, 124, 32, 99, 35, 100, 59] := by decide
theorem usr_good : GoodS usrD := ⟨by decide, fun d hd => by
  obtain rfl := List.mem_singleton.1 hd
  exact ⟨by decide, by decide, fun m hm => by cases hm⟩⟩
theorem mem_good : GoodM memX := ⟨by decide, .inl ⟨rfl, by decide, by decide, fun a ha => by
  simp only [memX, List.mem_cons, List.not_mem_nil, or_false] at ha
  rcases ha with rfl | rfl
  · exact ⟨by decide, .inl rfl⟩
  · exact ⟨by decide, .inr (by decide)⟩, rfl⟩⟩
theorem aw_fmtB : okB (fun d => schT d == schT usrD) (readF schemaR [32, 100, 101, 102, 105, 110, 105, 116, 105, 111, 110, 32, 117, 115, 101, 114, 123, 125, 32, 47, 47, 32, 120]) = true := by decide +kernel
theorem aw_isB : okB (fun d => !(schT d == schT usrD ++ [32])) (readF schemaR (schT usrD ++ [32])) = true := by decide +kernel
theorem aw_fmt (w : World) (h : Env w) : Calls Tryz.prog 5 #[.string ⟨#[32, 100, 101, 102, 105, 110, 105, 116, 105, 111, 110, 32, 117, 115, 101, 114, 123, 125, 32, 47, 47, 32, 120]⟩] w fun e w' => e = .returned (.tuple #[.string ⟨#[100, 101, 102, 105, 110, 105, 116, 105, 111, 110, 32, 117, 115, 101, 114, 32, 123, 10, 125, 10]⟩, .nilIface]) ∧ Below w.heap.size w w' := by
  obtain ⟨d, hd, hc⟩ := okB_ok aw_fmtB
  have hc : schT d = schT usrD := by simpa using hc
  refine (fmt_any ⟨#[32, 100, 101, 102, 105, 110, 105, 116, 105, 111, 110, 32, 117, 115, 101, 114, 123, 125, 32, 47, 47, 32, 120]⟩ (by decide) w h (fun d2 h2 => by
    have : d2 = d := by have h := h2.symm.trans hd; cases h; rfl
    subst this
    rw [hc, usr_text]
    decide)).mono ?_
  rintro e w' ⟨hb, ⟨d2, h2, h3⟩ | ⟨a, b, ha, h2, h3⟩⟩
  · have : d2 = d := by have h := h2.symm.trans hd; cases h; rfl
    subst this
    rw [hc, usr_text] at h3
    exact ⟨h3, hb⟩
  · exact absurd (h2.symm.trans hd) (by intro h; cases h)
theorem aw_is1 (w : World) (h : Env w) : Calls Tryz.prog 8 #[.string ⟨#[100, 101, 102, 105, 110, 105, 116, 105, 111, 110, 32, 117, 115, 101, 114, 32, 123, 10, 125, 10]⟩] w fun e w' => e = .returned (.bool true) ∧ Below w.heap.size w w' := by
  have hl : (⟨#[100, 101, 102, 105, 110, 105, 116, 105, 111, 110, 32, 117, 115, 101, 114, 32, 123, 10, 125, 10]⟩ : ByteArray) = bstr (schT usrD) := by rw [usr_text]; rfl
  have hd : readF schemaR (schT usrD) = .ok usrD := read_sch usr_good
  rw [hl]
  refine (pis_any (bstr (schT usrD)) (by rw [usr_text]; decide) w h (fun d2 h2 => by
    have : d2 = usrD := by have h := h2.symm.trans hd; cases h; rfl
    subst this
    rw [usr_text]
    decide)).mono ?_
  rintro e w' ⟨hb, ⟨d2, h2, h3⟩ | ⟨a, b, h2, h3⟩⟩
  · have : d2 = usrD := by have h := h2.symm.trans hd; cases h; rfl
    subst this
    exact ⟨by rw [h3, decide_eq_true rfl], hb⟩
  · exact absurd (h2.symm.trans hd) (by intro h; cases h)
theorem aw_is2 (w : World) (h : Env w) : Calls Tryz.prog 8 #[.string (⟨#[100, 101, 102, 105, 110, 105, 116, 105, 111, 110, 32, 117, 115, 101, 114, 32, 123, 10, 125, 10]⟩ ++ ⟨#[32]⟩)] w fun e w' => e = .returned (.bool false) ∧ Below w.heap.size w w' := by
  have hl : (⟨#[100, 101, 102, 105, 110, 105, 116, 105, 111, 110, 32, 117, 115, 101, 114, 32, 123, 10, 125, 10]⟩ ++ ⟨#[32]⟩ : ByteArray) = bstr (schT usrD ++ [32]) := by rw [← bstr_app, usr_text]; rfl
  obtain ⟨d, hd, hc⟩ := okB_ok aw_isB
  have hc : ¬ schT d = schT usrD ++ [32] := by simpa using hc
  have hln : (schT d).length ≤ 100000 := by
    have h1 := sch_len hd
    rw [usr_text] at h1
    simp at h1
    omega
  rw [hl]
  refine (pis_any (bstr (schT usrD ++ [32])) (by rw [usr_text]; decide) w h (fun d2 h2 => by
    have : d2 = d := by have h := h2.symm.trans hd; cases h; rfl
    subst this
    exact hln)).mono ?_
  rintro e w' ⟨hb, ⟨d2, h2, h3⟩ | ⟨a, b, h2, h3⟩⟩
  · have : d2 = d := by have h := h2.symm.trans hd; cases h; rfl
    subst this
    refine ⟨by rw [h3, decide_eq_false (fun e => hc (by have h := congrArg (fun x : ByteArray => x.data.toList) e; exact h))], hb⟩
  · exact absurd (h2.symm.trans hd) (by intro h; cases h)
theorem aw_rdA (w : World) (g : Nat) (hA : Arr w 42 g [.string ⟨#[98]⟩, .string ⟨#[]⟩, .string ⟨#[99]⟩, .string ⟨#[100]⟩]) : RdA (fun b => b = g) w [([98], []), ([99], [100])] (.slice (some ⟨g, 0, none⟩) 2 2) := by
  refine ⟨_, _, rfl, Nat.le_refl _, fun _ => ⟨g, 0, rfl, rfl, fun j u hj => ?_⟩⟩
  have h := hA.cell j
  rw [Nat.zero_add, h]
  exact hj
set_option maxRecDepth 100000 in
set_option maxHeartbeats 2000000 in
theorem awakeP_any (w : World) (h : Env w) : Calls Tryz.prog 4 #[] w fun e w' => e = .returned (.bool true) ∧ Below w.heap.size w w' := by
  have hb1 : Below w.heap.size w (w.alloc (.cells #[.string ⟨#[117, 115, 101, 114]⟩, .slice none 0 0] 39)) := (Below.refl _ _).alloc (Nat.le_refl _) _
  have hA1 : Arr (w.alloc (.cells #[.string ⟨#[117, 115, 101, 114]⟩, .slice none 0 0] 39)) 39 w.heap.size [.string ⟨#[117, 115, 101, 114]⟩, .slice none 0 0] := Arr.new' _ _ _ _ rfl
  have HE1 := hiD (h.below hb1)
  have HB1 := hiD hb1
  have HS1 : Hid (Calls Tryz.prog 10 #[.agg #[.slice (some ⟨w.heap.size, 0, none⟩) 1 1]] (w.alloc (.cells #[.string ⟨#[117, 115, 101, 114]⟩, .slice none 0 0] 39)) fun e w' => e = .returned (.tuple #[.string ⟨#[100, 101, 102, 105, 110, 105, 116, 105, 111, 110, 32, 117, 115, 101, 114, 32, 123, 10, 125, 10]⟩, .bool true]) ∧ Below (w.alloc (.cells #[.string ⟨#[117, 115, 101, 114]⟩, .slice none 0 0] 39)).heap.size (w.alloc (.cells #[.string ⟨#[117, 115, 101, 114]⟩, .slice none 0 0] 39)) w') := by
    have h := pschT_any usrD (some ⟨w.heap.size, 0, none⟩) 1 (fun b => b = w.heap.size) (w.alloc (.cells #[.string ⟨#[117, 115, 101, 114]⟩, .slice none 0 0] 39)) (rdK_one (K := kdDef) hA1 rfl ⟨_, rfl, RdK.nil _ _ _⟩) (fun b hb => hb ▸ hA1.lt) usr_good HE1.out.1 (by rw [usr_text]; decide)
    rw [usr_text] at h
    exact h
  clear hb1 hA1 h
  go_enter Tryz.func4, Tryz.ntmps4
  go_wp2_with fail
  refine HS1.out.mono ?_
  rintro e w2 ⟨rfl, b2⟩
  have HE2 := hiD (HE1.out.below b2)
  have HB2 := hiD (HB1.out.trans (b2.mono HB1.out.size))
  have hb3 : Below w2.heap.size w2 (w2.alloc (.cells #[.string ⟨#[]⟩, .slice none 0 0] 39)) := (Below.refl _ _).alloc (Nat.le_refl _) _
  have HE3 := hiD (HE2.out.below hb3)
  have HB3 := hiD (HB2.out.trans (hb3.mono HB2.out.size))
  have HS2 := hiD (psch_no w2.heap.size (w2.alloc (.cells #[.string ⟨#[]⟩, .slice none 0 0] 39)) (Arr.new' _ _ _ _ rfl) HE3.out.1)
  clear b2 hb3 HS1
  go_wp2_with fail
  refine HS2.out.mono ?_
  rintro e w4 ⟨rfl, b4⟩
  have HE4 := hiD (HE3.out.below b4)
  have HB4 := hiD (HB3.out.trans (b4.mono HB3.out.size))
  have HF := hiD (aw_fmt w4 HE4.out)
  clear b4 HS2
  go_wp2_with fail
  refine HF.out.mono ?_
  rintro e w5 ⟨rfl, b5⟩
  have HE5 := hiD (HE4.out.below b5)
  have HB5 := hiD (HB4.out.trans (b5.mono HB4.out.size))
  have hb6 : Below w5.heap.size w5 (w5.alloc (.cells #[.string ⟨#[98]⟩, .string ⟨#[]⟩, .string ⟨#[99]⟩, .string ⟨#[100]⟩] 42)) := (Below.refl _ _).alloc (Nat.le_refl _) _
  have hA6 : Arr (w5.alloc (.cells #[.string ⟨#[98]⟩, .string ⟨#[]⟩, .string ⟨#[99]⟩, .string ⟨#[100]⟩] 42)) 42 w5.heap.size [.string ⟨#[98]⟩, .string ⟨#[]⟩, .string ⟨#[99]⟩, .string ⟨#[100]⟩] := Arr.new' _ _ _ _ rfl
  have HE6 := hiD (HE5.out.below hb6)
  have HB6 := hiD (HB5.out.trans (hb6.mono HB5.out.size))
  have HM : Hid (Calls Tryz.prog 11 #[.agg #[.string ⟨#[97]⟩, .int .i64 1, .slice (some ⟨w5.heap.size, 0, none⟩) 2 2, .int .i64 0, .string ⟨#[]⟩, .string ⟨#[]⟩, .slice none 0 0]] (w5.alloc (.cells #[.string ⟨#[98]⟩, .string ⟨#[]⟩, .string ⟨#[99]⟩, .string ⟨#[100]⟩] 42)) fun e w' => e = .returned (.tuple #[.string ⟨#[114, 101, 108, 97, 116, 105, 111, 110, 32, 97, 58, 32, 98, 32, 124, 32, 99, 35, 100, 59]⟩, .bool true]) ∧ Below (w5.alloc (.cells #[.string ⟨#[98]⟩, .string ⟨#[]⟩, .string ⟨#[99]⟩, .string ⟨#[100]⟩] 42)).heap.size (w5.alloc (.cells #[.string ⟨#[98]⟩, .string ⟨#[]⟩, .string ⟨#[99]⟩, .string ⟨#[100]⟩] 42)) w') := by
    have h := pmember_any memX (y0 := ⟨#[97]⟩) (y4 := ⟨#[]⟩) (y5 := ⟨#[]⟩) (y1 := 1) (y3 := 0) (qa := some ⟨w5.heap.size, 0, none⟩) (q4 := none) (la := 2) (ca := 2) (l4 := 0) (c4 := 0) (fun b => b = w5.heap.size) (w5.alloc (.cells #[.string ⟨#[98]⟩, .string ⟨#[]⟩, .string ⟨#[99]⟩, .string ⟨#[100]⟩] 42)) ⟨_, _, _, _, _, rfl, aw_rdA _ _ hA6, by unfold RdE; exact ⟨none, 0, rfl, Nat.le_refl _, fun h => by simp at h⟩⟩ (fun b hb => hb ▸ hA6.lt) mem_good HE6.out.1
    rw [mem_text] at h
    exact h
  clear b5 hb6 hA6 HF
  go_wp2_with fail
  refine HM.out.mono ?_
  rintro e w7 ⟨rfl, b7⟩
  have HE7 := hiD (HE6.out.below b7)
  have HB7 := hiD (HB6.out.trans (b7.mono HB6.out.size))
  have HI1 := hiD (aw_is1 w7 HE7.out)
  clear b7 HM
  go_wp2_with fail
  refine HI1.out.mono ?_
  rintro e w8 ⟨rfl, b8⟩
  have HE8 := hiD (HE7.out.below b8)
  have HB8 := hiD (HB7.out.trans (b8.mono HB7.out.size))
  have HI2 := hiD (aw_is2 w8 HE8.out)
  clear b8 HI1
  go_wp2_with fail
  refine HI2.out.mono ?_
  rintro e w9 ⟨rfl, b9⟩
  have HB9 := hiD (HB8.out.trans (b9.mono HB8.out.size))
  clear b9
  go_wp2_with fail
  go_ret
  exact ⟨rfl, HB9.out⟩
theorem formats_law (s : ByteArray) (w : World) (hz : s.size ≤ maxLen) (h : Env w) : Calls Tryz.prog 3 #[.string s] w fun e w' => e = .returned (.bool true) ∧ Below w.heap.size w w' :=
  formats_of awakeP_any s w hz h
end Go.Proofs.YtkildckeikedhaaGreatDoor
