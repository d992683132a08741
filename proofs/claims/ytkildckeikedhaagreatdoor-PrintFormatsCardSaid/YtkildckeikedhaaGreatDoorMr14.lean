/-
  The reference's definition.
-/
import Derived.Test.YtkildckeikedhaaGreatDoorMr13
namespace Go.Proofs.YtkildckeikedhaaGreatDoor
open Go.ChangeShapes Go.WideShapes Go.ChangeAt Go.RowKit
set_option linter.unusedVariables false

section
variable {W : World} {tb c k : Nat} {ts : List Tok} {s : PS}
set_option maxRecDepth 100000 in
set_option maxHeartbeats 8000000 in
theorem rdef_any (ho : OkB ts) (h : RT W tb ts) (hi : s.i < ts.length) (hl : Lk k s.l) (hso : s.o = 0) :
  Calls Tryz.prog 16 #[.agg #[.slice (some ⟨tb, 0, none⟩) ts.length c, .int .i64 (s.i : Nat), .int .i64 (k : Nat), .int .i64 (s.o : Nat), .int .i64 (s.l : Nat)]] W (GD tb c ts s.o (st k s.i (defF ts s)) W) := by
 have HZ : Hid (tb < W.heap.size) := h.1
 have hb4 : Below W.heap.size W ((((W.alloc (.cells #[.slice (some ⟨tb, 0, none⟩) ts.length c, .int .i64 (s.i : Nat), .int .i64 (k : Nat), .int .i64 (s.o : Nat), .int .i64 (s.l : Nat)] 56)).alloc (.cells #[.slice none 0 0, .int .i64 0, .int .i64 0, .int .i64 0, .int .i64 0] 56)).alloc (.cells #[.string ⟨#[]⟩, .slice none 0 0] 39)).alloc (.cells #[.string ⟨#[]⟩, .slice none 0 0] 39)) := ((((Below.refl _ _).alloc (Nat.le_refl _) _).alloc (by simp) _).alloc (by simp; omega) _).alloc (by simp; omega) _
 have HB := hiD hb4
 have HA : Hid (Arr ((((W.alloc (.cells #[.slice (some ⟨tb, 0, none⟩) ts.length c, .int .i64 (s.i : Nat), .int .i64 (k : Nat), .int .i64 (s.o : Nat), .int .i64 (s.l : Nat)] 56)).alloc (.cells #[.slice none 0 0, .int .i64 0, .int .i64 0, .int .i64 0, .int .i64 0] 56)).alloc (.cells #[.string ⟨#[]⟩, .slice none 0 0] 39)).alloc (.cells #[.string ⟨#[]⟩, .slice none 0 0] 39)) 56 (W.heap.size) [.slice (some ⟨tb, 0, none⟩) ts.length c, .int .i64 (s.i : Nat), .int .i64 (k : Nat), .int .i64 (s.o : Nat), .int .i64 (s.l : Nat)]) := ((Arr.new' _ _ _ _ rfl).alloc _).alloc _ |>.alloc _
 have HQ : Hid (Arr ((((W.alloc (.cells #[.slice (some ⟨tb, 0, none⟩) ts.length c, .int .i64 (s.i : Nat), .int .i64 (k : Nat), .int .i64 (s.o : Nat), .int .i64 (s.l : Nat)] 56)).alloc (.cells #[.slice none 0 0, .int .i64 0, .int .i64 0, .int .i64 0, .int .i64 0] 56)).alloc (.cells #[.string ⟨#[]⟩, .slice none 0 0] 39)).alloc (.cells #[.string ⟨#[]⟩, .slice none 0 0] 39)) 56 (W.heap.size + 1) [.slice none 0 0, .int .i64 0, .int .i64 0, .int .i64 0, .int .i64 0]) := ((Arr.new2 _ _ _ _ _ rfl).alloc _).alloc _
 have HS : Hid (Arr ((((W.alloc (.cells #[.slice (some ⟨tb, 0, none⟩) ts.length c, .int .i64 (s.i : Nat), .int .i64 (k : Nat), .int .i64 (s.o : Nat), .int .i64 (s.l : Nat)] 56)).alloc (.cells #[.slice none 0 0, .int .i64 0, .int .i64 0, .int .i64 0, .int .i64 0] 56)).alloc (.cells #[.string ⟨#[]⟩, .slice none 0 0] 39)).alloc (.cells #[.string ⟨#[]⟩, .slice none 0 0] 39)) 39 (W.heap.size + 1 + 1) [.string ⟨#[]⟩, .slice none 0 0]) := (Arr.new3 _ _ _ _ _ _ rfl).alloc _
 have HF : Hid (Arr ((((W.alloc (.cells #[.slice (some ⟨tb, 0, none⟩) ts.length c, .int .i64 (s.i : Nat), .int .i64 (k : Nat), .int .i64 (s.o : Nat), .int .i64 (s.l : Nat)] 56)).alloc (.cells #[.slice none 0 0, .int .i64 0, .int .i64 0, .int .i64 0, .int .i64 0] 56)).alloc (.cells #[.string ⟨#[]⟩, .slice none 0 0] 39)).alloc (.cells #[.string ⟨#[]⟩, .slice none 0 0] 39)) 39 (W.heap.size + 1 + 1 + 1) [.string (bstr []), .slice none 0 0]) := by
  have h := Arr.new' (((W.alloc (.cells #[.slice (some ⟨tb, 0, none⟩) ts.length c, .int .i64 (s.i : Nat), .int .i64 (k : Nat), .int .i64 (s.o : Nat), .int .i64 (s.l : Nat)] 56)).alloc (.cells #[.slice none 0 0, .int .i64 0, .int .i64 0, .int .i64 0, .int .i64 0] 56)).alloc (.cells #[.string ⟨#[]⟩, .slice none 0 0] 39)) 39 #[.string ⟨#[]⟩, .slice none 0 0] [.string ⟨#[]⟩, .slice none 0 0] rfl
  rw [show (((W.alloc (.cells #[.slice (some ⟨tb, 0, none⟩) ts.length c, .int .i64 (s.i : Nat), .int .i64 (k : Nat), .int .i64 (s.o : Nat), .int .i64 (s.l : Nat)] 56)).alloc (.cells #[.slice none 0 0, .int .i64 0, .int .i64 0, .int .i64 0, .int .i64 0] 56)).alloc (.cells #[.string ⟨#[]⟩, .slice none 0 0] 39)).heap.size = W.heap.size + 1 + 1 + 1 from by simp] at h
  exact h
 have HT : Hid (RT ((((W.alloc (.cells #[.slice (some ⟨tb, 0, none⟩) ts.length c, .int .i64 (s.i : Nat), .int .i64 (k : Nat), .int .i64 (s.o : Nat), .int .i64 (s.l : Nat)] 56)).alloc (.cells #[.slice none 0 0, .int .i64 0, .int .i64 0, .int .i64 0, .int .i64 0] 56)).alloc (.cells #[.string ⟨#[]⟩, .slice none 0 0] 39)).alloc (.cells #[.string ⟨#[]⟩, .slice none 0 0] 39)) tb ts) := ⟨Nat.lt_of_lt_of_le h.1 hb4.size, h.2.1, fun i hi j hj => (hb4.cell (p := ⟨tb, i * 3 + j, none⟩) h.1).trans (h.2.2 i hi j hj)⟩
 have HO := hiD ho
 have HH := hiD hi
 have HL := hiD hl
 have HSO := hiD hso
 have HTS : Hid (ts.length ≤ 100000) := h.2.1
 clear hb4 h hi hl ho hso
 go_enter Tryz.func16, Tryz.ntmps16
 go_upto_region 2 with (fail)
 obtain ⟨gd, hgd⟩ : ∃ x, x = W.heap.size + 1 + 1 + 1 := ⟨_, rfl⟩
 have hgd1 : W.heap.size + 3 ≤ gd := by omega
 have hgd2 : gd + 1 ≤ W.heap.size + 4 := by omega
 rw [← hgd] at HF ⊢
 clear hgd
 generalize ((((W.alloc (.cells #[.slice (some ⟨tb, 0, none⟩) ts.length c, .int .i64 (s.i : Nat), .int .i64 (k : Nat), .int .i64 (s.o : Nat), .int .i64 (s.l : Nat)] 56)).alloc (.cells #[.slice none 0 0, .int .i64 0, .int .i64 0, .int .i64 0, .int .i64 0] 56)).alloc (.cells #[.string ⟨#[]⟩, .slice none 0 0] 39)).alloc (.cells #[.string ⟨#[]⟩, .slice none 0 0] 39)) = w1 at HA HQ HS HF HT HB ⊢
 have HMU := hiD (rmust_any (c := c) (k := k) (s := ⟨s.i, s.o, s.l⟩) HO.out.1 HT.out HH.out HL.out ⟨#[100, 101, 102, 105, 110, 105, 116, 105, 111, 110]⟩ wDefB rfl (by decide))
 obtain ⟨p0, z0, p1, z1, p2, z2, p3, z3, p4, z4⟩ := HA.out.all5
 go_wp2_with fail
 refine HMU.out.mono ?_
 rintro r w2 ⟨i1, k1, hg1, rfl, b1⟩
 have Hhg1 : Hid (Go1 ts k1 i1 s.o s.l () (st k s.i (wantF ts wDefB ⟨s.i, s.o, s.l⟩))) := hg1
 clear p0 z0 p1 z1 p2 z2 p3 z3 p4 z4
 have HA := hiD (HA.out.later b1)
 have HQ := hiD (HQ.out.later b1)
 have HS := hiD (HS.out.later b1)
 have HF := hiD (HF.out.later b1)
 have HT := hiD (HT.out.later b1)
 have HB := hiD (HB.out.trans (b1.mono HB.out.size))
 clear hg1 b1 HMU
 obtain ⟨p0, z0, p1, z1, p2, z2, p3, z3, p4, z4⟩ := HA.out.all5
 go_upto_region 3 with (fail)
 clear p0 z0 p1 z1 p2 z2 p3 z3 p4 z4
 have hkp := kp_setP w2 (W.heap.size) (.slice (some ⟨tb, 0, none⟩) ts.length c) (.int .i64 (i1 : Nat)) (.int .i64 (k1 : Nat)) (.int .i64 (s.o : Nat)) (.int .i64 (s.l : Nat))
 have HA := hiD (HA.out.setP (.slice (some ⟨tb, 0, none⟩) ts.length c) (.int .i64 (i1 : Nat)) (.int .i64 (k1 : Nat)) (.int .i64 (s.o : Nat)) (.int .i64 (s.l : Nat)))
 have HQ := hiD (hkp.arr HQ.out (by omega))
 have HS := hiD (hkp.arr HS.out (by omega))
 have HF := hiD (hkp.arr HF.out (by omega))
 have HT := hiD (HT.out.kp hkp (by first | omega | (have := HZ.out; omega)))
 have HB := hiD (HB.out.trans (hkp.below (B := W.heap.size) (Nat.le_refl _) HB.out.size))
 clear hkp
 generalize (((((w2.setCell ⟨W.heap.size, 0, none⟩ (.slice (some ⟨tb, 0, none⟩) ts.length c)).setCell ⟨W.heap.size, 1, none⟩ (.int .i64 (i1 : Nat))).setCell ⟨W.heap.size, 2, none⟩ (.int .i64 (k1 : Nat))).setCell ⟨W.heap.size, 3, none⟩ (.int .i64 (s.o : Nat))).setCell ⟨W.heap.size, 4, none⟩ (.int .i64 (s.l : Nat))) = w3 at HA HQ HS HF HT HB ⊢
 have HMU := hiD (rname_any (c := c) (k := k1) (s := ⟨i1, s.o, s.l⟩) HO.out HT.out Hhg1.out.1 ⟨Hhg1.out.2.1.1, fun a _ => Hhg1.out.2.1.2 a⟩)
 obtain ⟨p0, z0, p1, z1, p2, z2, p3, z3, p4, z4⟩ := HA.out.all5
 go_wp2_with fail
 refine HMU.out.mono ?_
 rintro r w4 ⟨i2, k2, nm, hg2, rfl, b1⟩
 have Hhg2 : Hid (Go1 ts k2 i2 s.o s.l nm (st k1 i1 (nameF ts ⟨i1, s.o, s.l⟩))) := hg2
 clear p0 z0 p1 z1 p2 z2 p3 z3 p4 z4
 have HA := hiD (HA.out.later b1)
 have HQ := hiD (HQ.out.later b1)
 have HS := hiD (HS.out.later b1)
 have HF := hiD (HF.out.later b1)
 have HT := hiD (HT.out.later b1)
 have HB := hiD (HB.out.trans (b1.mono HB.out.size))
 clear hg2 b1 HMU
 obtain ⟨p0, z0, p1, z1, p2, z2, p3, z3, p4, z4⟩ := HA.out.all5
 obtain ⟨ea0, eb0, ea1, eb1⟩ := HF.out.all2
 go_upto_region 4 with (fail)
 clear p0 z0 p1 z1 p2 z2 p3 z3 p4 z4
 clear ea0 eb0 ea1 eb1
 have hkp := kp_setP w4 (W.heap.size) (.slice (some ⟨tb, 0, none⟩) ts.length c) (.int .i64 (i2 : Nat)) (.int .i64 (k2 : Nat)) (.int .i64 (s.o : Nat)) (.int .i64 (s.l : Nat))
 have HA := hiD (HA.out.setP (.slice (some ⟨tb, 0, none⟩) ts.length c) (.int .i64 (i2 : Nat)) (.int .i64 (k2 : Nat)) (.int .i64 (s.o : Nat)) (.int .i64 (s.l : Nat)))
 have HQ := hiD (hkp.arr HQ.out (by omega))
 have HS := hiD (hkp.arr HS.out (by omega))
 have HF := hiD (hkp.arr HF.out (by omega))
 have HT := hiD (HT.out.kp hkp (by first | omega | (have := HZ.out; omega)))
 have HB := hiD (HB.out.trans (hkp.below (B := W.heap.size) (Nat.le_refl _) HB.out.size))
 clear hkp
 generalize (((((w4.setCell ⟨W.heap.size, 0, none⟩ (.slice (some ⟨tb, 0, none⟩) ts.length c)).setCell ⟨W.heap.size, 1, none⟩ (.int .i64 (i2 : Nat))).setCell ⟨W.heap.size, 2, none⟩ (.int .i64 (k2 : Nat))).setCell ⟨W.heap.size, 3, none⟩ (.int .i64 (s.o : Nat))).setCell ⟨W.heap.size, 4, none⟩ (.int .i64 (s.l : Nat))) = w5 at HA HQ HS HF HT HB ⊢
 have hkp := (Kp.of (pb := gd) (Below.refl w5.heap.size w5)).set 0 (.string (bstr nm))
 have HF : Hid (Arr (w5.setCell ⟨gd, 0, none⟩ (.string (bstr nm))) 39 (gd) [.string (bstr nm), .slice none 0 0]) := HF.out.set 0 (.string (bstr nm))
 have HA := hiD (hkp.arr HA.out (by omega))
 have HQ := hiD (hkp.arr HQ.out (by omega))
 have HS := hiD (hkp.arr HS.out (by omega))
 have HT := hiD (HT.out.kp hkp (by first | omega | (have := HZ.out; omega)))
 have HB := hiD (HB.out.trans (hkp.below (B := W.heap.size) (by omega) HB.out.size))
 clear hkp
 generalize (w5.setCell ⟨gd, 0, none⟩ (.string (bstr nm))) = w6 at HF HA HQ HS HT HB ⊢
 have HMU := hiD (rmust_any (c := c) (k := k2) (s := ⟨i2, s.o, s.l⟩) HO.out.1 HT.out Hhg2.out.1 Hhg2.out.2.1 ⟨#[123]⟩ [123] rfl (by decide))
 obtain ⟨p0, z0, p1, z1, p2, z2, p3, z3, p4, z4⟩ := HA.out.all5
 go_wp2_with fail
 refine HMU.out.mono ?_
 rintro r w7 ⟨i3, k3, hg3, rfl, b1⟩
 have Hhg3 : Hid (Go1 ts k3 i3 s.o s.l () (st k2 i2 (wantF ts [123] ⟨i2, s.o, s.l⟩))) := hg3
 clear p0 z0 p1 z1 p2 z2 p3 z3 p4 z4
 have HA := hiD (HA.out.later b1)
 have HQ := hiD (HQ.out.later b1)
 have HS := hiD (HS.out.later b1)
 have HF := hiD (HF.out.later b1)
 have HT := hiD (HT.out.later b1)
 have HB := hiD (HB.out.trans (b1.mono HB.out.size))
 clear hg3 b1 HMU
 obtain ⟨p0, z0, p1, z1, p2, z2, p3, z3, p4, z4⟩ := HA.out.all5
 go_upto_region 5 with (fail)
 clear p0 z0 p1 z1 p2 z2 p3 z3 p4 z4
 have hkp := kp_setP w7 (W.heap.size) (.slice (some ⟨tb, 0, none⟩) ts.length c) (.int .i64 (i3 : Nat)) (.int .i64 (k3 : Nat)) (.int .i64 (s.o : Nat)) (.int .i64 (s.l : Nat))
 have HA := hiD (HA.out.setP (.slice (some ⟨tb, 0, none⟩) ts.length c) (.int .i64 (i3 : Nat)) (.int .i64 (k3 : Nat)) (.int .i64 (s.o : Nat)) (.int .i64 (s.l : Nat)))
 have HQ := hiD (hkp.arr HQ.out (by omega))
 have HS := hiD (hkp.arr HS.out (by omega))
 have HF := hiD (hkp.arr HF.out (by omega))
 have HT := hiD (HT.out.kp hkp (by first | omega | (have := HZ.out; omega)))
 have HB := hiD (HB.out.trans (hkp.below (B := W.heap.size) (Nat.le_refl _) HB.out.size))
 clear hkp
 generalize (((((w7.setCell ⟨W.heap.size, 0, none⟩ (.slice (some ⟨tb, 0, none⟩) ts.length c)).setCell ⟨W.heap.size, 1, none⟩ (.int .i64 (i3 : Nat))).setCell ⟨W.heap.size, 2, none⟩ (.int .i64 (k3 : Nat))).setCell ⟨W.heap.size, 3, none⟩ (.int .i64 (s.o : Nat))).setCell ⟨W.heap.size, 4, none⟩ (.int .i64 (s.l : Nat))) = w8 at HA HQ HS HF HT HB ⊢
 have HDL0 : Hid (DL ts (st k s.i (defF ts s)) nm [] i3 s.o k3 s.l) := dl_start Hhg1.out Hhg2.out Hhg3.out
 go_loopw [5] (fun _ wr => ∃ (acc : List MemB) (i4 k4 l4 : Nat) (q : Option Addr) (cc : Nat), Hid (PRow kdMem (W.heap.size + 4) (fun _ => False) wr (.slice q acc.length cc) acc) ∧ Hid (Arr wr 39 gd [.string (bstr nm), .slice q acc.length cc]) ∧ Hid (Arr wr 56 W.heap.size [.slice (some ⟨tb, 0, none⟩) ts.length c, .int .i64 (i4 : Nat), .int .i64 (k4 : Nat), .int .i64 (s.o : Nat), .int .i64 (l4 : Nat)]) ∧ Hid (Arr wr 56 (W.heap.size + 1) [.slice none 0 0, .int .i64 0, .int .i64 0, .int .i64 0, .int .i64 0]) ∧ Hid (Arr wr 39 (W.heap.size + 1 + 1) [.string ⟨#[]⟩, .slice none 0 0]) ∧ Hid (RT wr tb ts) ∧ Hid (Below W.heap.size W wr) ∧ Hid (i4 < ts.length) ∧ Hid (Lk k4 l4) ∧ Hid (acc.length ≤ 64) ∧ Hid (DL ts (st k s.i (defF ts s)) nm acc i4 s.o k4 l4)) (fun _ wr => 65 - mlen gd 1 wr)
 case atStart => exact ⟨[], i3, k3, s.l, none, 0, PRow.nil _ _ _ _, HF.out, HA.out, HQ.out, HS.out, HT.out, HB.out, Hhg3.out.1, Hhg3.out.2.1, Nat.zero_le _, HDL0.out⟩
 case round =>
  obtain ⟨acc, i4, k4, l4, q, cc, HRW, HF, HA, HQ, HS, HT, HB, HH4, HL4, HA64, HDL⟩ := hrel
  have HM0 : Hid (mlen gd 1 wr = acc.length) := mlen_arr HF.out 1 rfl
  by_cases hk4 : k4 = 0
  ·have HK4 := hiD hk4
   have hk5 : ((k4 : Int) == 0) = true := by simp [hk4]
   clear hk4
   have HIS := hiD (ris_any (s := ⟨i4, s.o, l4⟩) (c := c) (k := k4) HO.out.1 HT.out HH4.out ⟨#[125]⟩ [125] rfl (by decide))
   obtain ⟨d1, hd1⟩ : ∃ d, d = (decide (k4 = 0) && decide (txt ts i4 = [125])) := ⟨_, rfl⟩
   have Hd1 := hiD hd1
   rw [show (decide (k4 = 0) && decide (txt ts (⟨i4, s.o, l4⟩ : PS).i = [125])) = d1 from hd1.symm] at HIS
   clear hd1
   obtain ⟨p0, z0, p1, z1, p2, z2, p3, z3, p4, z4⟩ := HA.out.all5
   go_wp2_with fail
   refine HIS.out.mono ?_
   rintro r w6 ⟨rfl, b1⟩
   clear p0 z0 p1 z1 p2 z2 p3 z3 p4 z4
   have HA := hiD (HA.out.later b1)
   have HQ := hiD (HQ.out.later b1)
   have HS := hiD (HS.out.later b1)
   have HF := hiD (HF.out.later b1)
   have HT := hiD (HT.out.later b1)
   have HRW := hiD (HRW.out.later b1)
   have HB := hiD (HB.out.trans (b1.mono HB.out.size))
   clear b1 HIS
   clear hk5
   cases d1 with
   | true =>
    have HDE : Hid (k4 = 0 → txt ts i4 = [125]) := by
     have hd := Hd1.out
     simp only [Bool.true_eq, Bool.and_eq_true, decide_eq_true_eq] at hd
     exact fun _ => hd.2
    go_upto_region 24 with (fail)
    have HV := hiD (show VK (W.heap.size + 4) acc w6 (.slice q acc.length cc) from HRW.out.rdK)
    have hb7 : Below w6.heap.size w6 w6.drew := (Below.refl _ _).drew
    have HA := hiD (HA.out.later hb7)
    have HQ := hiD (HQ.out.later hb7)
    have HS := hiD (HS.out.later hb7)
    have HF := hiD (HF.out.later hb7)
    have HT := hiD (HT.out.later hb7)
    have HV := hiD (HV.out.later hb7)
    have HB := hiD (HB.out.trans (hb7.mono HB.out.size))
    refine wp_region_held_drew (S := fun W' => Arr W' 56 (W.heap.size) [.slice (some ⟨tb, 0, none⟩) ts.length c, .int .i64 (i4 : Nat), .int .i64 (k4 : Nat), .int .i64 (s.o : Nat), .int .i64 (l4 : Nat)] ∧ Arr W' 39 gd [.string (bstr nm), .slice q acc.length cc]) (by kernel_rfl) ⟨HA.out, HF.out⟩ (fun hHeld => ?_)
    try simp only [Act.put]
    clear hb7
    generalize w6.drew = wa at hHeld HA HQ HS HF HT HV HB ⊢
    refine wpAnyH_take (i := 0) (oi := ⟨some 80, _, _, _, _, _⟩) (v := .agg #[.slice (some ⟨tb, 0, none⟩) ts.length c, .int .i64 (i4 : Nat), .int .i64 (k4 : Nat), .int .i64 (s.o : Nat), .int .i64 (l4 : Nat)]) rfl (by kernel_rfl) (by kernel_rfl) (by kernel_rfl) (fun _ _ _ h => h) (.inl ⟨by rfl, fun w' hSw => ?_⟩) hHeld ?_
    focus (obtain ⟨q0, _, q1, _, q2, _, q3, _, q4, _⟩ := hSw.1.all5; clear hHeld; go_simp)
    try simp only [Act.put, pz0, pz1, pz2]
    refine wpAnyH_take (i := 2) (oi := ⟨some 82, _, _, _, _, _⟩) (v := .agg #[.string (bstr nm), .slice q acc.length cc]) rfl (by kernel_rfl) (by kernel_rfl) (by kernel_rfl) (fun _ _ _ h => h) (.inl ⟨by rfl, fun w' hSw => ?_⟩) hHeld ?_
    focus (obtain ⟨q0, _, q1, _⟩ := hSw.2.all2; clear hHeld; go_simp)
    try simp only [Act.put, pz0, pz1, pz2]
    refine wpAnyH_ready (rs := [1]) (by kernel_rfl) (by simp) ?_
    refine AllReadyH.cons (o := ⟨some 81, _, _, _, _, _⟩) rfl (fun K' hK' => ?_) AllReadyH.nil
    refine stepw_call (R := fun v w' => ∃ i9 k9 : Nat, Go1 ts k9 i9 s.o l4 () (st k4 i4 (wantF ts [125] ⟨i4, s.o, l4⟩)) ∧ v = .agg #[.slice (some ⟨tb, 0, none⟩) ts.length c, .int .i64 (i9 : Nat), .int .i64 (k9 : Nat), .int .i64 (s.o : Nat), .int .i64 (l4 : Nat)] ∧ Below wa.heap.size wa w') (by rfl) ?_ ((rmust_any (c := c) (k := k4) (s := ⟨i4, s.o, l4⟩) HO.out.1 HT.out HH4.out HL4.out ⟨#[125]⟩ [125] rfl (by decide)).mono fun r w' ⟨i', k', h1, h2, h3⟩ => ⟨_, h2, i', k', h1, rfl, h3⟩) ?_
    focus go_simp
    rintro v wn ⟨i9, k9, hg9, rfl, bn⟩
    have hkn := And.intro (hHeld.1.later bn) (hHeld.2.later bn)
    clear hHeld
    have HGF : Hid (Go1 ts k9 i9 s.o l4 ((nm, acc) : DefB) (st k s.i (defF ts s))) := dl_end HDL.out HA64.out HDE.out hg9
    clear hg9
    have HQ := hiD (HQ.out.later bn)
    have HS := hiD (HS.out.later bn)
    have HV := hiD (HV.out.later bn)
    have HB := hiD (HB.out.trans (bn.mono HB.out.size))
    clear bn
    refine hK'.out _ _ hkn (fun hHeld => ?_)
    clear hK' K' hkn
    try simp only [Act.put, pz0, pz1, pz2]
    refine wpAnyH_ready (rs := [3]) (by kernel_rfl) (by simp) ?_
    refine AllReadyH.cons (o := ⟨none, _, _, _, _, _⟩) rfl (fun K' hK' => ?_) AllReadyH.nil
    obtain ⟨u0, v0, u1, v1, u2, v2, u3, v3, u4, v4⟩ := HQ.out.all5
    have hkn := And.intro (hHeld.1.off5 (b := W.heap.size + 1) (by simp only [ne_eq]; omega) (.slice (some ⟨tb, 0, none⟩) ts.length c) (.int .i64 (i9 : Nat)) (.int .i64 (k9 : Nat)) (.int .i64 (s.o : Nat)) (.int .i64 (l4 : Nat))) (hHeld.2.off5 (b := W.heap.size + 1) (by simp only [ne_eq]; omega) (.slice (some ⟨tb, 0, none⟩) ts.length c) (.int .i64 (i9 : Nat)) (.int .i64 (k9 : Nat)) (.int .i64 (s.o : Nat)) (.int .i64 (l4 : Nat)))
    clear hHeld
    go_simp
    clear u0 v0 u1 v1 u2 v2 u3 v3 u4 v4
    refine hK'.out _ _ hkn (fun hHeld => ?_)
    clear hK' K' hkn
    try simp only [Act.put, pz0, pz1, pz2]
    have hkp := kp_setP wn (W.heap.size + 1) (.slice (some ⟨tb, 0, none⟩) ts.length c) (.int .i64 (i9 : Nat)) (.int .i64 (k9 : Nat)) (.int .i64 (s.o : Nat)) (.int .i64 (l4 : Nat))
    have HQ := hiD (HQ.out.setP (.slice (some ⟨tb, 0, none⟩) ts.length c) (.int .i64 (i9 : Nat)) (.int .i64 (k9 : Nat)) (.int .i64 (s.o : Nat)) (.int .i64 (l4 : Nat)))
    have HS := hiD (hkp.arr HS.out (by omega))
    have HV := hiD (HV.out.kp hkp (by omega))
    have HB := hiD (HB.out.trans (hkp.below (B := W.heap.size) (by omega) HB.out.size))
    clear hkp
    generalize (((((wn.setCell ⟨W.heap.size + 1, 0, none⟩ (.slice (some ⟨tb, 0, none⟩) ts.length c)).setCell ⟨W.heap.size + 1, 1, none⟩ (.int .i64 (i9 : Nat))).setCell ⟨W.heap.size + 1, 2, none⟩ (.int .i64 (k9 : Nat))).setCell ⟨W.heap.size + 1, 3, none⟩ (.int .i64 (s.o : Nat))).setCell ⟨W.heap.size + 1, 4, none⟩ (.int .i64 (l4 : Nat))) = wb at hHeld HQ HS HB HV ⊢
    refine wpAnyH_ready (rs := [4]) (by kernel_rfl) (by simp) ?_
    refine AllReadyH.cons (o := ⟨none, _, _, _, _, _⟩) rfl (fun K' hK' => ?_) AllReadyH.nil
    obtain ⟨u0, v0, u1, v1⟩ := HS.out.all2
    have hkn := And.intro (hHeld.1.off2 (b := W.heap.size + 1 + 1) (by simp only [ne_eq]; omega) (.string (bstr nm)) (.slice q acc.length cc)) (hHeld.2.off2 (b := W.heap.size + 1 + 1) (by simp only [ne_eq]; omega) (.string (bstr nm)) (.slice q acc.length cc))
    clear hHeld
    go_simp
    clear u0 v0 u1 v1
    refine hK'.out _ _ hkn (fun hHeld => ?_)
    clear hK' K' hkn
    try simp only [Act.put, pz0, pz1, pz2]
    have hkp := kp_setD wb (W.heap.size + 1 + 1) (.string (bstr nm)) (.slice q acc.length cc)
    have HS := hiD (HS.out.setD (.string (bstr nm)) (.slice q acc.length cc))
    have HQ := hiD (hkp.arr HQ.out (by omega))
    have HV := hiD (HV.out.kp hkp (by omega))
    have HB := hiD (HB.out.trans (hkp.below (B := W.heap.size) (by omega) HB.out.size))
    clear hkp
    generalize ((wb.setCell ⟨W.heap.size + 1 + 1, 0, none⟩ (.string (bstr nm))).setCell ⟨W.heap.size + 1 + 1, 1, none⟩ (.slice q acc.length cc)) = wc at hHeld HQ HS HB HV ⊢
    refine wpAnyH_done (by kernel_rfl) ?_ _
    go_wp2_with fail
    clear hHeld
    have c0 := HQ.out.cell 0
    have c1 := HQ.out.cell 1
    have c2 := HQ.out.cell 2
    have c3 := HQ.out.cell 3
    have c4 := HQ.out.cell 4
    have d0 := HS.out.cell 0
    have d1 := HS.out.cell 1
    simp only [List.getElem?_cons_zero, List.getElem?_cons_succ] at c0 c1 c2 c3 c4 d0 d1
    refine bodyPost_ret (v := .tuple #[.agg #[.slice (some ⟨tb, 0, none⟩) ts.length c, .int .i64 (i9 : Nat), .int .i64 (k9 : Nat), .int .i64 (s.o : Nat), .int .i64 (l4 : Nat)], .agg #[.string (bstr nm), .slice q acc.length cc]]) ?_ rfl ⟨i9, k9, l4, (nm, acc), _, HGF.out, rfl, ⟨_, rfl, HV.out.low (by omega)⟩, HB.out⟩
    simp [results, Tryz.results16, go_sem, c0, c1, c2, c3, c4, d0, d1]
   | false =>
    have HNB : Hid (¬ txt ts i4 = [125]) := by
     have hd := Hd1.out
     simp only [Bool.false_eq, Bool.and_eq_false_iff, decide_eq_false_iff_not] at hd
     exact hd.elim (fun h => absurd HK4.out h) id
    have hb10 : Below w6.heap.size w6 (w6.alloc (.cells #[.string ⟨#[]⟩, .int .i64 0, .slice none 0 0, .int .i64 0, .string ⟨#[]⟩, .string ⟨#[]⟩, .slice none 0 0] 48)) := (Below.refl _ _).alloc (Nat.le_refl _) _
    go_upto_region 7 with (fail)
    have HBL : Hid (∀ b, (Value.slice q acc.length cc).ownBlock = some b → b < w6.heap.size) := fun b hb => by obtain ⟨_, h, _⟩ := HRW.out; exact (h.lt b hb).2
    have hgn : W.heap.size + 4 ≤ w6.heap.size := by have := HF.out.lt; omega
    have HRW := hiD (HRW.out.wk (Y := fun b => b = w6.heap.size) (fun b _ hl h => absurd (h ▸ hl) (Nat.lt_irrefl _)))
    have HM : Hid (Arr (w6.alloc (.cells #[.string ⟨#[]⟩, .int .i64 0, .slice none 0 0, .int .i64 0, .string ⟨#[]⟩, .string ⟨#[]⟩, .slice none 0 0] 48)) 48 w6.heap.size [.string ⟨#[]⟩, .int .i64 0, .slice none 0 0, .int .i64 0, .string ⟨#[]⟩, .string ⟨#[]⟩, .slice none 0 0]) := Arr.new' _ _ _ _ rfl
    have HA := hiD (HA.out.later hb10)
    have HQ := hiD (HQ.out.later hb10)
    have HS := hiD (HS.out.later hb10)
    have HF := hiD (HF.out.later hb10)
    have HT := hiD (HT.out.later hb10)
    have HRW := hiD (HRW.out.later hb10)
    have HB := hiD (HB.out.trans (hb10.mono HB.out.size))
    obtain ⟨nb, hnb⟩ : ∃ x, x = w6.heap.size := ⟨_, rfl⟩
    rw [← hnb] at HM HRW hgn HBL ⊢
    generalize w6.alloc (.cells #[.string ⟨#[]⟩, .int .i64 0, .slice none 0 0, .int .i64 0, .string ⟨#[]⟩, .string ⟨#[]⟩, .slice none 0 0] 48) = w7 at HA HQ HS HF HT HRW HM HB ⊢
    clear hnb hb10
    have HIS := hiD (ris_any (s := ⟨i4, s.o, l4⟩) (c := c) (k := k4) HO.out.1 HT.out HH4.out ⟨#[114, 101, 108, 97, 116, 105, 111, 110]⟩ wRelB rfl (by decide))
    obtain ⟨d2, hd2⟩ : ∃ d, d = (decide (k4 = 0) && decide (txt ts i4 = wRelB)) := ⟨_, rfl⟩
    have Hd2 := hiD hd2
    rw [show (decide (k4 = 0) && decide (txt ts (⟨i4, s.o, l4⟩ : PS).i = wRelB)) = d2 from hd2.symm] at HIS
    clear hd2
    obtain ⟨p0, z0, p1, z1, p2, z2, p3, z3, p4, z4⟩ := HA.out.all5
    go_wp2_with fail
    refine HIS.out.mono ?_
    rintro r w8 ⟨rfl, b1⟩
    clear p0 z0 p1 z1 p2 z2 p3 z3 p4 z4
    have HA := hiD (HA.out.later b1)
    have HQ := hiD (HQ.out.later b1)
    have HS := hiD (HS.out.later b1)
    have HF := hiD (HF.out.later b1)
    have HT := hiD (HT.out.later b1)
    have HM := hiD (HM.out.later b1)
    have HRW := hiD (HRW.out.later b1)
    have HB := hiD (HB.out.trans (b1.mono HB.out.size))
    clear b1 HIS
    cases d2 with
    | true =>
     have hd := Hd2.out
     simp only [Bool.true_eq, Bool.and_eq_true, decide_eq_true_eq] at hd
     have HT4 := hiD hd.2
     clear hd
     obtain ⟨ea0, eb0, ea1, eb1, ea2, eb2, ea3, eb3, ea4, eb4, ea5, eb5, ea6, eb6⟩ := HM.out.all7
     go_upto_region 12 with (fail)
     clear ea0 eb0 ea1 eb1 ea2 eb2 ea3 eb3 ea4 eb4 ea5 eb5 ea6 eb6
     have hkp := (Kp.of (pb := nb) (Below.refl w8.heap.size w8)).set 1 (.int .i64 1)
     have HM : Hid (Arr (w8.setCell ⟨nb, 1, none⟩ (.int .i64 1)) 48 (nb) [.string ⟨#[]⟩, .int .i64 1, .slice none 0 0, .int .i64 0, .string ⟨#[]⟩, .string ⟨#[]⟩, .slice none 0 0]) := HM.out.set 1 (.int .i64 1)
     have HA := hiD (hkp.arr HA.out (by omega))
     have HQ := hiD (hkp.arr HQ.out (by omega))
     have HS := hiD (hkp.arr HS.out (by omega))
     have HF := hiD (hkp.arr HF.out (by omega))
     have HT := hiD (HT.out.kp hkp (by first | omega | (have := HZ.out; omega)))
     have HRW := hiD (HRW.out.kp hkp (.inr rfl))
     have HB := hiD (HB.out.trans (hkp.below (B := W.heap.size) (by omega) HB.out.size))
     clear hkp
     generalize (w8.setCell ⟨nb, 1, none⟩ (.int .i64 1)) = w0 at HM HA HQ HS HF HT HRW HB ⊢
     by_cases h6 : acc.length = 64
     ·have h6' : ((acc.length : Int) == 64) = true := by simp [h6]
      have HA6 := hiD h6
      clear h6
      obtain ⟨ea0, eb0, ea1, eb1⟩ := HF.out.all2
      go_upto_region 13 with (fail)
      clear ea0 eb0 ea1 eb1
      clear h6'
      have HV := hiD (show VK (W.heap.size + 4) acc w0 (.slice q acc.length cc) from (HRW.out.wk (Y := fun _ => False) (fun b _ _ h => h.elim)).rdK)
      have hb7 : Below w0.heap.size w0 w0.drew := (Below.refl _ _).drew
      have HA := hiD (HA.out.later hb7)
      have HQ := hiD (HQ.out.later hb7)
      have HS := hiD (HS.out.later hb7)
      have HF := hiD (HF.out.later hb7)
      have HT := hiD (HT.out.later hb7)
      have HV := hiD (HV.out.later hb7)
      have HB := hiD (HB.out.trans (hb7.mono HB.out.size))
      refine wp_region_held_drew (S := fun W' => Arr W' 56 (W.heap.size) [.slice (some ⟨tb, 0, none⟩) ts.length c, .int .i64 (i4 : Nat), .int .i64 (k4 : Nat), .int .i64 (s.o : Nat), .int .i64 (l4 : Nat)] ∧ Arr W' 39 gd [.string (bstr nm), .slice q acc.length cc]) (by kernel_rfl) ⟨HA.out, HF.out⟩ (fun hHeld => ?_)
      try simp only [Act.put]
      clear hb7
      generalize w0.drew = wa at hHeld HA HQ HS HF HT HV HB ⊢
      refine wpAnyH_take (i := 0) (oi := ⟨some 39, _, _, _, _, _⟩) (v := .agg #[.slice (some ⟨tb, 0, none⟩) ts.length c, .int .i64 (i4 : Nat), .int .i64 (k4 : Nat), .int .i64 (s.o : Nat), .int .i64 (l4 : Nat)]) rfl (by kernel_rfl) (by kernel_rfl) (by kernel_rfl) (fun _ _ _ h => h) (.inl ⟨by rfl, fun w' hSw => ?_⟩) hHeld ?_
      focus (obtain ⟨q0, _, q1, _, q2, _, q3, _, q4, _⟩ := hSw.1.all5; clear hHeld; go_simp)
      try simp only [Act.put, pz0, pz1, pz2]
      refine wpAnyH_take (i := 2) (oi := ⟨some 41, _, _, _, _, _⟩) (v := .agg #[.string (bstr nm), .slice q acc.length cc]) rfl (by kernel_rfl) (by kernel_rfl) (by kernel_rfl) (fun _ _ _ h => h) (.inl ⟨by rfl, fun w' hSw => ?_⟩) hHeld ?_
      focus (obtain ⟨q0, _, q1, _⟩ := hSw.2.all2; clear hHeld; go_simp)
      try simp only [Act.put, pz0, pz1, pz2]
      refine wpAnyH_ready (rs := [1]) (by kernel_rfl) (by simp) ?_
      refine AllReadyH.cons (o := ⟨some 40, _, _, _, _, _⟩) rfl (fun K' hK' => ?_) AllReadyH.nil
      refine stepw_call (R := fun v w' => ∃ k' : Nat, k' = (if k4 = 0 then 15 else k4) ∧ v = .agg #[.slice (some ⟨tb, 0, none⟩) ts.length c, .int .i64 (i4 : Nat), .int .i64 (k' : Nat), .int .i64 (s.o : Nat), .int .i64 (l4 : Nat)] ∧ Below wa.heap.size wa w') (by rfl) ?_ ((rbad_any (c := c) (k := k4) (tb := tb) (ts := ts) (s := ⟨i4, s.o, l4⟩) (W := wa) 15).mono fun r w' ⟨k', h1, h2, h3⟩ => ⟨_, h2, k', h1, rfl, h3⟩) ?_
      focus go_simp
      rintro v wn ⟨k', hk', rfl, bn⟩
      have hkn := And.intro (hHeld.1.later bn) (hHeld.2.later bn)
      clear hHeld
      have HGF : Hid (Go1 ts k' i4 s.o l4 ((nm, acc) : DefB) (st k s.i (defF ts s))) := dl_bad15 HDL.out HA6.out HK4.out HH4.out HL4.out (.inl HT4.out) hk'
      clear hk'
      have HQ := hiD (HQ.out.later bn)
      have HS := hiD (HS.out.later bn)
      have HV := hiD (HV.out.later bn)
      have HB := hiD (HB.out.trans (bn.mono HB.out.size))
      clear bn
      refine hK'.out _ _ hkn (fun hHeld => ?_)
      clear hK' K' hkn
      try simp only [Act.put, pz0, pz1, pz2]
      refine wpAnyH_ready (rs := [3]) (by kernel_rfl) (by simp) ?_
      refine AllReadyH.cons (o := ⟨none, _, _, _, _, _⟩) rfl (fun K' hK' => ?_) AllReadyH.nil
      obtain ⟨u0, v0, u1, v1, u2, v2, u3, v3, u4, v4⟩ := HQ.out.all5
      have hkn := And.intro (hHeld.1.off5 (b := W.heap.size + 1) (by simp only [ne_eq]; omega) (.slice (some ⟨tb, 0, none⟩) ts.length c) (.int .i64 (i4 : Nat)) (.int .i64 (k' : Nat)) (.int .i64 (s.o : Nat)) (.int .i64 (l4 : Nat))) (hHeld.2.off5 (b := W.heap.size + 1) (by simp only [ne_eq]; omega) (.slice (some ⟨tb, 0, none⟩) ts.length c) (.int .i64 (i4 : Nat)) (.int .i64 (k' : Nat)) (.int .i64 (s.o : Nat)) (.int .i64 (l4 : Nat)))
      clear hHeld
      go_simp
      clear u0 v0 u1 v1 u2 v2 u3 v3 u4 v4
      refine hK'.out _ _ hkn (fun hHeld => ?_)
      clear hK' K' hkn
      try simp only [Act.put, pz0, pz1, pz2]
      have hkp := kp_setP wn (W.heap.size + 1) (.slice (some ⟨tb, 0, none⟩) ts.length c) (.int .i64 (i4 : Nat)) (.int .i64 (k' : Nat)) (.int .i64 (s.o : Nat)) (.int .i64 (l4 : Nat))
      have HQ := hiD (HQ.out.setP (.slice (some ⟨tb, 0, none⟩) ts.length c) (.int .i64 (i4 : Nat)) (.int .i64 (k' : Nat)) (.int .i64 (s.o : Nat)) (.int .i64 (l4 : Nat)))
      have HS := hiD (hkp.arr HS.out (by omega))
      have HV := hiD (HV.out.kp hkp (by omega))
      have HB := hiD (HB.out.trans (hkp.below (B := W.heap.size) (by omega) HB.out.size))
      clear hkp
      generalize (((((wn.setCell ⟨W.heap.size + 1, 0, none⟩ (.slice (some ⟨tb, 0, none⟩) ts.length c)).setCell ⟨W.heap.size + 1, 1, none⟩ (.int .i64 (i4 : Nat))).setCell ⟨W.heap.size + 1, 2, none⟩ (.int .i64 (k' : Nat))).setCell ⟨W.heap.size + 1, 3, none⟩ (.int .i64 (s.o : Nat))).setCell ⟨W.heap.size + 1, 4, none⟩ (.int .i64 (l4 : Nat))) = wb at hHeld HQ HS HB HV ⊢
      refine wpAnyH_ready (rs := [4]) (by kernel_rfl) (by simp) ?_
      refine AllReadyH.cons (o := ⟨none, _, _, _, _, _⟩) rfl (fun K' hK' => ?_) AllReadyH.nil
      obtain ⟨u0, v0, u1, v1⟩ := HS.out.all2
      have hkn := And.intro (hHeld.1.off2 (b := W.heap.size + 1 + 1) (by simp only [ne_eq]; omega) (.string (bstr nm)) (.slice q acc.length cc)) (hHeld.2.off2 (b := W.heap.size + 1 + 1) (by simp only [ne_eq]; omega) (.string (bstr nm)) (.slice q acc.length cc))
      clear hHeld
      go_simp
      clear u0 v0 u1 v1
      refine hK'.out _ _ hkn (fun hHeld => ?_)
      clear hK' K' hkn
      try simp only [Act.put, pz0, pz1, pz2]
      have hkp := kp_setD wb (W.heap.size + 1 + 1) (.string (bstr nm)) (.slice q acc.length cc)
      have HS := hiD (HS.out.setD (.string (bstr nm)) (.slice q acc.length cc))
      have HQ := hiD (hkp.arr HQ.out (by omega))
      have HV := hiD (HV.out.kp hkp (by omega))
      have HB := hiD (HB.out.trans (hkp.below (B := W.heap.size) (by omega) HB.out.size))
      clear hkp
      generalize ((wb.setCell ⟨W.heap.size + 1 + 1, 0, none⟩ (.string (bstr nm))).setCell ⟨W.heap.size + 1 + 1, 1, none⟩ (.slice q acc.length cc)) = wc at hHeld HQ HS HB HV ⊢
      refine wpAnyH_done (by kernel_rfl) ?_ _
      go_wp2_with fail
      clear hHeld
      have c0 := HQ.out.cell 0
      have c1 := HQ.out.cell 1
      have c2 := HQ.out.cell 2
      have c3 := HQ.out.cell 3
      have c4 := HQ.out.cell 4
      have d0 := HS.out.cell 0
      have d1 := HS.out.cell 1
      simp only [List.getElem?_cons_zero, List.getElem?_cons_succ] at c0 c1 c2 c3 c4 d0 d1
      refine bodyPost_ret (v := .tuple #[.agg #[.slice (some ⟨tb, 0, none⟩) ts.length c, .int .i64 (i4 : Nat), .int .i64 (k' : Nat), .int .i64 (s.o : Nat), .int .i64 (l4 : Nat)], .agg #[.string (bstr nm), .slice q acc.length cc]]) ?_ rfl ⟨i4, k', l4, (nm, acc), _, HGF.out, rfl, ⟨_, rfl, HV.out.low (by omega)⟩, HB.out⟩
      simp [results, Tryz.results16, go_sem, c0, c1, c2, c3, c4, d0, d1]
     ·have h6' : ((acc.length : Int) == 64) = false := by simp; omega
      have HA6 : Hid (acc.length < 64) := by have := HA64.out; show _ < _; omega
      obtain ⟨i5, hi5⟩ : ∃ x, x = i4 + 1 := ⟨_, rfl⟩
      have HI5 := hiD hi5
      have HH5 : Hid (i5 < ts.length) := by
       show i5 < _
       rw [hi5]
       exact HO.out.1.step (by rw [HT4.out]; decide)
      have hzi0 : (0 : Int) ≤ i4 := by omega
      have hzi1 : (i4 : Int) ≤ 100000 := by have := HH4.out; have := HTS.out; omega
      clear hi5 h6
      obtain ⟨p0, z0, p1, z1, p2, z2, p3, z3, p4, z4⟩ := HA.out.all5
      obtain ⟨ea0, eb0, ea1, eb1⟩ := HF.out.all2
      go_upto_region 15 with (fail)
      clear p0 z0 p1 z1 p2 z2 p3 z3 p4 z4
      clear ea0 eb0 ea1 eb1
      clear h6'
      have hkp := (Kp.of (pb := W.heap.size) (Below.refl w0.heap.size w0)).set 1 (.int .i64 ((i4 : Int) + 1))
      have HA : Hid (Arr (w0.setCell ⟨W.heap.size, 1, none⟩ (.int .i64 ((i4 : Int) + 1))) 56 W.heap.size [.slice (some ⟨tb, 0, none⟩) ts.length c, .int .i64 (i5 : Nat), .int .i64 (k4 : Nat), .int .i64 (s.o : Nat), .int .i64 (l4 : Nat)]) := by
       have h := HA.out.set 1 (.int .i64 ((i4 : Int) + 1))
       rw [show ((i5 : Nat) : Int) = (i4 : Int) + 1 from by rw [HI5.out]; simp]
       exact h
      have HQ := hiD (hkp.arr HQ.out (by omega))
      have HS := hiD (hkp.arr HS.out (by omega))
      have HF := hiD (hkp.arr HF.out (by omega))
      have HT := hiD (HT.out.kp hkp (by first | omega | (have := HZ.out; omega)))
      have HM := hiD (hkp.arr HM.out (by omega))
      have HRW := hiD (HRW.out.kp hkp (.inl (by omega)))
      have HB := hiD (HB.out.trans (hkp.below (B := W.heap.size) (Nat.le_refl _) HB.out.size))
      clear hkp hzi0 hzi1
      generalize (w0.setCell ⟨W.heap.size, 1, none⟩ (.int .i64 ((i4 : Int) + 1))) = w9 at HA HQ HS HF HT HM HRW HB ⊢
      have HMU := hiD (rname_any (c := c) (k := k4) (s := ⟨i5, s.o, l4⟩) HO.out HT.out HH5.out ⟨HL4.out.1, fun a _ => HL4.out.2 a⟩)
      obtain ⟨p0, z0, p1, z1, p2, z2, p3, z3, p4, z4⟩ := HA.out.all5
      go_wp2_with fail
      refine HMU.out.mono ?_
      rintro r w10 ⟨i6, k6, x6, hg6, rfl, b1⟩
      have Hhg6 : Hid (Go1 ts k6 i6 s.o l4 x6 (st k4 i5 (nameF ts ⟨i5, s.o, l4⟩))) := hg6
      clear p0 z0 p1 z1 p2 z2 p3 z3 p4 z4
      have HA := hiD (HA.out.later b1)
      have HQ := hiD (HQ.out.later b1)
      have HS := hiD (HS.out.later b1)
      have HF := hiD (HF.out.later b1)
      have HT := hiD (HT.out.later b1)
      have HM := hiD (HM.out.later b1)
      have HRW := hiD (HRW.out.later b1)
      have HB := hiD (HB.out.trans (b1.mono HB.out.size))
      clear hg6 b1 HMU
      obtain ⟨p0, z0, p1, z1, p2, z2, p3, z3, p4, z4⟩ := HA.out.all5
      obtain ⟨ea0, eb0, ea1, eb1, ea2, eb2, ea3, eb3, ea4, eb4, ea5, eb5, ea6, eb6⟩ := HM.out.all7
      go_upto_region 16 with (fail)
      clear p0 z0 p1 z1 p2 z2 p3 z3 p4 z4
      clear ea0 eb0 ea1 eb1 ea2 eb2 ea3 eb3 ea4 eb4 ea5 eb5 ea6 eb6
      have hkp := kp_setP w10 (W.heap.size) (.slice (some ⟨tb, 0, none⟩) ts.length c) (.int .i64 (i6 : Nat)) (.int .i64 (k6 : Nat)) (.int .i64 (s.o : Nat)) (.int .i64 (l4 : Nat))
      have HA := hiD (HA.out.setP (.slice (some ⟨tb, 0, none⟩) ts.length c) (.int .i64 (i6 : Nat)) (.int .i64 (k6 : Nat)) (.int .i64 (s.o : Nat)) (.int .i64 (l4 : Nat)))
      have HQ := hiD (hkp.arr HQ.out (by omega))
      have HS := hiD (hkp.arr HS.out (by omega))
      have HF := hiD (hkp.arr HF.out (by omega))
      have HT := hiD (HT.out.kp hkp (by first | omega | (have := HZ.out; omega)))
      have HM := hiD (hkp.arr HM.out (by omega))
      have HRW := hiD (HRW.out.kp hkp (.inl (by omega)))
      have HB := hiD (HB.out.trans (hkp.below (B := W.heap.size) (Nat.le_refl _) HB.out.size))
      clear hkp
      generalize (((((w10.setCell ⟨W.heap.size, 0, none⟩ (.slice (some ⟨tb, 0, none⟩) ts.length c)).setCell ⟨W.heap.size, 1, none⟩ (.int .i64 (i6 : Nat))).setCell ⟨W.heap.size, 2, none⟩ (.int .i64 (k6 : Nat))).setCell ⟨W.heap.size, 3, none⟩ (.int .i64 (s.o : Nat))).setCell ⟨W.heap.size, 4, none⟩ (.int .i64 (l4 : Nat))) = w11 at HA HQ HS HF HT HM HRW HB ⊢
      have hkp := (Kp.of (pb := nb) (Below.refl w11.heap.size w11)).set 0 (.string (bstr x6))
      have HM : Hid (Arr (w11.setCell ⟨nb, 0, none⟩ (.string (bstr x6))) 48 (nb) [.string (bstr x6), .int .i64 1, .slice none 0 0, .int .i64 0, .string ⟨#[]⟩, .string ⟨#[]⟩, .slice none 0 0]) := HM.out.set 0 (.string (bstr x6))
      have HA := hiD (hkp.arr HA.out (by omega))
      have HQ := hiD (hkp.arr HQ.out (by omega))
      have HS := hiD (hkp.arr HS.out (by omega))
      have HF := hiD (hkp.arr HF.out (by omega))
      have HT := hiD (HT.out.kp hkp (by first | omega | (have := HZ.out; omega)))
      have HRW := hiD (HRW.out.kp hkp (.inr rfl))
      have HB := hiD (HB.out.trans (hkp.below (B := W.heap.size) (by omega) HB.out.size))
      clear hkp
      generalize (w11.setCell ⟨nb, 0, none⟩ (.string (bstr x6))) = w12 at HM HA HQ HS HF HT HRW HB ⊢
      obtain ⟨ea0, eb0, ea1, eb1, ea2, eb2, ea3, eb3, ea4, eb4, ea5, eb5, ea6, eb6⟩ := HM.out.all7
      go_upto_region 17 with (fail)
      clear ea0 eb0 ea1 eb1 ea2 eb2 ea3 eb3 ea4 eb4 ea5 eb5 ea6 eb6
      have HMU := hiD (rmust_any (c := c) (k := k6) (s := ⟨i6, s.o, l4⟩) HO.out.1 HT.out Hhg6.out.1 Hhg6.out.2.1 ⟨#[58]⟩ [58] rfl (by decide))
      obtain ⟨p0, z0, p1, z1, p2, z2, p3, z3, p4, z4⟩ := HA.out.all5
      go_wp2_with fail
      refine HMU.out.mono ?_
      rintro r w13 ⟨i7, k7, hg7, rfl, b1⟩
      have Hhg7 : Hid (Go1 ts k7 i7 s.o l4 () (st k6 i6 (wantF ts [58] ⟨i6, s.o, l4⟩))) := hg7
      clear p0 z0 p1 z1 p2 z2 p3 z3 p4 z4
      have HA := hiD (HA.out.later b1)
      have HQ := hiD (HQ.out.later b1)
      have HS := hiD (HS.out.later b1)
      have HF := hiD (HF.out.later b1)
      have HT := hiD (HT.out.later b1)
      have HM := hiD (HM.out.later b1)
      have HRW := hiD (HRW.out.later b1)
      have HB := hiD (HB.out.trans (b1.mono HB.out.size))
      clear hg7 b1 HMU
      obtain ⟨p0, z0, p1, z1, p2, z2, p3, z3, p4, z4⟩ := HA.out.all5
      go_upto_region 18 with (fail)
      clear p0 z0 p1 z1 p2 z2 p3 z3 p4 z4
      have hkp := kp_setP w13 (W.heap.size) (.slice (some ⟨tb, 0, none⟩) ts.length c) (.int .i64 (i7 : Nat)) (.int .i64 (k7 : Nat)) (.int .i64 (s.o : Nat)) (.int .i64 (l4 : Nat))
      have HA := hiD (HA.out.setP (.slice (some ⟨tb, 0, none⟩) ts.length c) (.int .i64 (i7 : Nat)) (.int .i64 (k7 : Nat)) (.int .i64 (s.o : Nat)) (.int .i64 (l4 : Nat)))
      have HQ := hiD (hkp.arr HQ.out (by omega))
      have HS := hiD (hkp.arr HS.out (by omega))
      have HF := hiD (hkp.arr HF.out (by omega))
      have HT := hiD (HT.out.kp hkp (by first | omega | (have := HZ.out; omega)))
      have HM := hiD (hkp.arr HM.out (by omega))
      have HRW := hiD (HRW.out.kp hkp (.inl (by omega)))
      have HB := hiD (HB.out.trans (hkp.below (B := W.heap.size) (Nat.le_refl _) HB.out.size))
      clear hkp
      generalize (((((w13.setCell ⟨W.heap.size, 0, none⟩ (.slice (some ⟨tb, 0, none⟩) ts.length c)).setCell ⟨W.heap.size, 1, none⟩ (.int .i64 (i7 : Nat))).setCell ⟨W.heap.size, 2, none⟩ (.int .i64 (k7 : Nat))).setCell ⟨W.heap.size, 3, none⟩ (.int .i64 (s.o : Nat))).setCell ⟨W.heap.size, 4, none⟩ (.int .i64 (l4 : Nat))) = w14 at HA HQ HS HF HT HM HRW HB ⊢
      have HTY := hiD (rtypes_any (c := c) (k := k7) (s := ⟨i7, s.o, l4⟩) HO.out HT.out Hhg7.out.1 Hhg7.out.2.1)
      have HBT : Hid (nb < w14.heap.size) := HM.out.lt
      obtain ⟨p0, z0, p1, z1, p2, z2, p3, z3, p4, z4⟩ := HA.out.all5
      go_wp2_with fail
      refine HTY.out.mono ?_
      rintro r w15 ⟨i8, k8, ls, vt, hg8, rfl, hvt, b1⟩
      have Hhg8 : Hid (Go1 ts k8 i8 s.o l4 ls (st k7 i7 (typesR ts ⟨i7, s.o, l4⟩))) := hg8
      have HTV : Hid (VT w14.heap.size w15.heap.size ls w15 vt) := VT.of hvt
      obtain ⟨qt, ct, rfl, _⟩ := hvt
      have hnw : nb < w14.heap.size := HBT.out
      clear p0 z0 p1 z1 p2 z2 p3 z3 p4 z4
      have HA := hiD (HA.out.later b1)
      have HQ := hiD (HQ.out.later b1)
      have HS := hiD (HS.out.later b1)
      have HF := hiD (HF.out.later b1)
      have HT := hiD (HT.out.later b1)
      have HM := hiD (HM.out.later b1)
      have HRW := hiD (HRW.out.later b1)
      have HB := hiD (HB.out.trans (b1.mono HB.out.size))
      clear hg8 b1 HTY
      obtain ⟨p0, z0, p1, z1, p2, z2, p3, z3, p4, z4⟩ := HA.out.all5
      obtain ⟨ea0, eb0, ea1, eb1, ea2, eb2, ea3, eb3, ea4, eb4, ea5, eb5, ea6, eb6⟩ := HM.out.all7
      go_upto_region 22 with (fail)
      clear p0 z0 p1 z1 p2 z2 p3 z3 p4 z4
      clear ea0 eb0 ea1 eb1 ea2 eb2 ea3 eb3 ea4 eb4 ea5 eb5 ea6 eb6
      have hkp := kp_setP w15 (W.heap.size) (.slice (some ⟨tb, 0, none⟩) ts.length c) (.int .i64 (i8 : Nat)) (.int .i64 (k8 : Nat)) (.int .i64 (s.o : Nat)) (.int .i64 (l4 : Nat))
      have HA := hiD (HA.out.setP (.slice (some ⟨tb, 0, none⟩) ts.length c) (.int .i64 (i8 : Nat)) (.int .i64 (k8 : Nat)) (.int .i64 (s.o : Nat)) (.int .i64 (l4 : Nat)))
      have HQ := hiD (hkp.arr HQ.out (by omega))
      have HS := hiD (hkp.arr HS.out (by omega))
      have HF := hiD (hkp.arr HF.out (by omega))
      have HT := hiD (HT.out.kp hkp (by first | omega | (have := HZ.out; omega)))
      have HM := hiD (hkp.arr HM.out (by omega))
      have HRW := hiD (HRW.out.kp hkp (.inl (by omega)))
      have HTV := hiD (HTV.out.kp hkp (by first | omega | (have := HZ.out; omega)))
      have HB := hiD (HB.out.trans (hkp.below (B := W.heap.size) (Nat.le_refl _) HB.out.size))
      clear hkp
      generalize (((((w15.setCell ⟨W.heap.size, 0, none⟩ (.slice (some ⟨tb, 0, none⟩) ts.length c)).setCell ⟨W.heap.size, 1, none⟩ (.int .i64 (i8 : Nat))).setCell ⟨W.heap.size, 2, none⟩ (.int .i64 (k8 : Nat))).setCell ⟨W.heap.size, 3, none⟩ (.int .i64 (s.o : Nat))).setCell ⟨W.heap.size, 4, none⟩ (.int .i64 (l4 : Nat))) = w16 at HA HQ HS HF HT HM HRW HTV HB ⊢
      have hkp := (Kp.of (pb := nb) (Below.refl w16.heap.size w16)).set 2 (.slice qt ls.length ct)
      have HM : Hid (Arr (w16.setCell ⟨nb, 2, none⟩ (.slice qt ls.length ct)) 48 (nb) [.string (bstr x6), .int .i64 1, .slice qt ls.length ct, .int .i64 0, .string ⟨#[]⟩, .string ⟨#[]⟩, .slice none 0 0]) := HM.out.set 2 (.slice qt ls.length ct)
      have HA := hiD (hkp.arr HA.out (by omega))
      have HQ := hiD (hkp.arr HQ.out (by omega))
      have HS := hiD (hkp.arr HS.out (by omega))
      have HF := hiD (hkp.arr HF.out (by omega))
      have HT := hiD (HT.out.kp hkp (by first | omega | (have := HZ.out; omega)))
      have HRW := hiD (HRW.out.kp hkp (.inr rfl))
      have HTV := hiD (HTV.out.kp hkp (by first | omega | (have := HZ.out; omega)))
      have HB := hiD (HB.out.trans (hkp.below (B := W.heap.size) (by omega) HB.out.size))
      clear hkp
      generalize (w16.setCell ⟨nb, 2, none⟩ (.slice qt ls.length ct)) = w17 at HM HA HQ HS HF HT HRW HTV HB ⊢
      have HMU := hiD (rmust_any (c := c) (k := k8) (s := ⟨i8, s.o, l4⟩) HO.out.1 HT.out Hhg8.out.1 Hhg8.out.2.1 ⟨#[59]⟩ [59] rfl (by decide))
      obtain ⟨p0, z0, p1, z1, p2, z2, p3, z3, p4, z4⟩ := HA.out.all5
      go_wp2_with fail
      refine HMU.out.mono ?_
      rintro r w19 ⟨i9, k9, hg9, rfl, b1⟩
      have Hhg9 : Hid (Go1 ts k9 i9 s.o l4 () (st k8 i8 (wantF ts [59] ⟨i8, s.o, l4⟩))) := hg9
      clear p0 z0 p1 z1 p2 z2 p3 z3 p4 z4
      have HA := hiD (HA.out.later b1)
      have HQ := hiD (HQ.out.later b1)
      have HS := hiD (HS.out.later b1)
      have HF := hiD (HF.out.later b1)
      have HT := hiD (HT.out.later b1)
      have HM := hiD (HM.out.later b1)
      have HRW := hiD (HRW.out.later b1)
      have HTV := hiD (HTV.out.later b1)
      have HB := hiD (HB.out.trans (b1.mono HB.out.size))
      have HMB : Hid (Go1 ts k9 i9 s.o l4 ((x6, 1, ls, ex0) : MemB) (memberF ts ⟨i4, s.o, l4⟩)) := mem_rel HK4.out HI5.out HT4.out Hhg6.out Hhg7.out Hhg8.out hg9
      clear hg9 b1 HMU
      obtain ⟨p0, z0, p1, z1, p2, z2, p3, z3, p4, z4⟩ := HA.out.all5
      go_upto_region 23 with (fail)
      clear p0 z0 p1 z1 p2 z2 p3 z3 p4 z4
      have hkp := kp_setP w19 (W.heap.size) (.slice (some ⟨tb, 0, none⟩) ts.length c) (.int .i64 (i9 : Nat)) (.int .i64 (k9 : Nat)) (.int .i64 (s.o : Nat)) (.int .i64 (l4 : Nat))
      have HA := hiD (HA.out.setP (.slice (some ⟨tb, 0, none⟩) ts.length c) (.int .i64 (i9 : Nat)) (.int .i64 (k9 : Nat)) (.int .i64 (s.o : Nat)) (.int .i64 (l4 : Nat)))
      have HQ := hiD (hkp.arr HQ.out (by omega))
      have HS := hiD (hkp.arr HS.out (by omega))
      have HF := hiD (hkp.arr HF.out (by omega))
      have HT := hiD (HT.out.kp hkp (by first | omega | (have := HZ.out; omega)))
      have HM := hiD (hkp.arr HM.out (by omega))
      have HRW := hiD (HRW.out.kp hkp (.inl (by omega)))
      have HTV := hiD (HTV.out.kp hkp (by first | omega | (have := HZ.out; omega)))
      have HB := hiD (HB.out.trans (hkp.below (B := W.heap.size) (Nat.le_refl _) HB.out.size))
      clear hkp
      generalize (((((w19.setCell ⟨W.heap.size, 0, none⟩ (.slice (some ⟨tb, 0, none⟩) ts.length c)).setCell ⟨W.heap.size, 1, none⟩ (.int .i64 (i9 : Nat))).setCell ⟨W.heap.size, 2, none⟩ (.int .i64 (k9 : Nat))).setCell ⟨W.heap.size, 3, none⟩ (.int .i64 (s.o : Nat))).setCell ⟨W.heap.size, 4, none⟩ (.int .i64 (l4 : Nat))) = w20 at HA HQ HS HF HT HM HRW HTV HB ⊢
      obtain ⟨ea0, eb0, ea1, eb1⟩ := HF.out.all2
      obtain ⟨na0, nz0, na1, nz1, na2, nz2, na3, nz3, na4, nz4, na5, nz5, na6, nz6⟩ := HM.out.all7
      have hb14 : Below w20.heap.size w20 (w20.alloc (.cells #[.string (bstr x6), .int .i64 1, .slice qt ls.length ct, .int .i64 0, .string ⟨#[]⟩, .string ⟨#[]⟩, .slice none 0 0] 48)) := (Below.refl _ _).alloc (Nat.le_refl _) _
      have HY : Hid (Arr (w20.alloc (.cells #[.string (bstr x6), .int .i64 1, .slice qt ls.length ct, .int .i64 0, .string ⟨#[]⟩, .string ⟨#[]⟩, .slice none 0 0] 48)) 48 w20.heap.size [.string (bstr x6), .int .i64 1, .slice qt ls.length ct, .int .i64 0, .string ⟨#[]⟩, .string ⟨#[]⟩, .slice none 0 0]) := Arr.new' _ _ _ _ rfl
      have HBL2 : Hid (∀ b, (Value.slice q acc.length cc).ownBlock = some b → b < w14.heap.size) := fun b hb => Nat.lt_trans (HBL.out b hb) hnw
      have HA := hiD (HA.out.later hb14)
      have HQ := hiD (HQ.out.later hb14)
      have HS := hiD (HS.out.later hb14)
      have HF := hiD (HF.out.later hb14)
      have HT := hiD (HT.out.later hb14)
      have HM := hiD (HM.out.later hb14)
      have HRW := hiD (HRW.out.later hb14)
      have HTV := hiD (HTV.out.later hb14)
      have HB := hiD (HB.out.trans (hb14.mono HB.out.size))
      have hbt : ∀ b, Bt w14.heap.size (w20.alloc (.cells #[.string (bstr x6), .int .i64 1, .slice qt ls.length ct, .int .i64 0, .string ⟨#[]⟩, .string ⟨#[]⟩, .slice none 0 0] 48)).heap.size b → SubX (W.heap.size + 4) (fun b => b = nb) (w20.alloc (.cells #[.string (bstr x6), .int .i64 1, .slice qt ls.length ct, .int .i64 0, .string ⟨#[]⟩, .string ⟨#[]⟩, .slice none 0 0] 48)) (.slice q acc.length cc) b := fun b hb => ⟨by have := hb.1; omega, hb.2, fun e => by have h1 := HBL2.out b e.symm; have := hb.1; omega, fun h => by have := hb.1; omega⟩
      have HR9 : Hid (rdMem (SubX (W.heap.size + 4) (fun b => b = nb) (w20.alloc (.cells #[.string (bstr x6), .int .i64 1, .slice qt ls.length ct, .int .i64 0, .string ⟨#[]⟩, .string ⟨#[]⟩, .slice none 0 0] 48)) (.slice q acc.length cc)) (w20.alloc (.cells #[.string (bstr x6), .int .i64 1, .slice qt ls.length ct, .int .i64 0, .string ⟨#[]⟩, .string ⟨#[]⟩, .slice none 0 0] 48)) (x6, 1, ls, ex0) [.string (bstr x6), .int .i64 1, .slice qt ls.length ct, .int .i64 0, .string ⟨#[]⟩, .string ⟨#[]⟩, .slice none 0 0]) := ⟨_, _, _, _, _, rfl, RdA.imp hbt HTV.out.va, by unfold RdE; exact ⟨none, 0, rfl, Nat.le_refl _, fun h => by simp at h⟩⟩
      have HAC : Hid (acc.length + 1 ≤ 200000) := by have := HA6.out; show _ ≤ _; omega
      have HBS : Hid (W.heap.size + 4 ≤ (w20.alloc (.cells #[.string (bstr x6), .int .i64 1, .slice qt ls.length ct, .int .i64 0, .string ⟨#[]⟩, .string ⟨#[]⟩, .slice none 0 0] 48)).heap.size) := by have h := HF.out.lt; have h2 := hb14.size; show _ ≤ _; omega
      have HXX : Hid (∀ b, (b = nb) → b < (w20.alloc (.cells #[.string (bstr x6), .int .i64 1, .slice qt ls.length ct, .int .i64 0, .string ⟨#[]⟩, .string ⟨#[]⟩, .slice none 0 0] 48)).heap.size) := fun b h => by have h3 := HM.out.lt; rw [h]; exact h3
      clear hb14 hbt HBL2
      go_wp2_with (at_builtin; refine app_row (K := kdMem) (x := (x6, 1, ls, ex0)) rfl _ _ rfl rfl HRW.out rfl HY.out HR9.out HAC.out HBS.out HXX.out ?_)
      intro v10 w21 r10 g10 o10
      have HA : Hid (Arr w21 56 W.heap.size [.slice (some ⟨tb, 0, none⟩) ts.length c, .int .i64 (i9 : Nat), .int .i64 (k9 : Nat), .int .i64 (s.o : Nat), .int .i64 (l4 : Nat)]) := (g10.block _ HA.out.lt (fun e => by have := (o10 _ e.symm).1; omega)).trans HA.out
      have HQ : Hid (Arr w21 56 (W.heap.size + 1) [.slice none 0 0, .int .i64 0, .int .i64 0, .int .i64 0, .int .i64 0]) := (g10.block _ HQ.out.lt (fun e => by have := (o10 _ e.symm).1; omega)).trans HQ.out
      have HS : Hid (Arr w21 39 (W.heap.size + 1 + 1) [.string ⟨#[]⟩, .slice none 0 0]) := (g10.block _ HS.out.lt (fun e => by have := (o10 _ e.symm).1; omega)).trans HS.out
      have HF : Hid (Arr w21 39 gd [.string (bstr nm), .slice q acc.length cc]) := (g10.block _ HF.out.lt (fun e => by have := (o10 _ e.symm).1; omega)).trans HF.out
      have hlo : W.heap.size ≤ (w20.alloc (.cells #[.string (bstr x6), .int .i64 1, .slice qt ls.length ct, .int .i64 0, .string ⟨#[]⟩, .string ⟨#[]⟩, .slice none 0 0] 48)).heap.size := by have := HBS.out; omega
      have hlk : ∀ k, (Value.slice q acc.length cc).ownBlock = some k → W.heap.size ≤ k := fun k hk => by have := (o10 k hk).1; omega
      have HT : Hid (RT w21 tb ts) := by
       have hb := (Below.refl W.heap.size (w20.alloc (.cells #[.string (bstr x6), .int .i64 1, .slice qt ls.length ct, .int .i64 0, .string ⟨#[]⟩, .string ⟨#[]⟩, .slice none 0 0] 48))).grown g10 hlo hlk
       exact ⟨Nat.lt_of_lt_of_le HT.out.1 hb.size, HT.out.2.1, fun i hi j hj => (hb.cell (p := ⟨tb, i * 3 + j, none⟩) HZ.out).trans (HT.out.2.2 i hi j hj)⟩
      have HB := hiD (HB.out.grown g10 hlo hlk)
      have HRW : Hid (PRow kdMem (W.heap.size + 4) (fun _ => False) w21 v10 (acc ++ [(x6, 1, ls, ex0)])) := r10.wk (fun b _ _ h => h.elim)
      obtain ⟨q10, c10, hv10⟩ := r10.form
      rw [List.length_append, List.length_singleton] at hv10
      subst hv10
      clear r10 g10 o10 hlo hlk HY HR9 HTV HM HXX HBS
      clear ea0 eb0 ea1 eb1
      clear na0 nz0 na1 nz1 na2 nz2 na3 nz3 na4 nz4 na5 nz5 na6 nz6
      obtain ⟨ea0, eb0, ea1, eb1⟩ := HF.out.all2
      go_wp2_with fail
      have hkp := (Kp.of (pb := gd) (Below.refl w21.heap.size w21)).set 1 (.slice q10 (acc.length + 1) c10)
      have HF : Hid (Arr (w21.setCell ⟨gd, 1, none⟩ (.slice q10 (acc.length + 1) c10)) 39 gd [.string (bstr nm), .slice q10 (acc.length + 1) c10]) := HF.out.set 1 _
      have HA := hiD (hkp.arr HA.out (by omega))
      have HQ := hiD (hkp.arr HQ.out (by omega))
      have HS := hiD (hkp.arr HS.out (by omega))
      have HT := hiD (HT.out.kp hkp (by first | omega | (have := HZ.out; omega)))
      have HRW := hiD (HRW.out.kp hkp (.inl (by omega)))
      have HB := hiD (HB.out.trans (hkp.below (B := W.heap.size) (by omega) HB.out.size))
      clear hkp
      generalize (w21.setCell ⟨gd, 1, none⟩ (.slice q10 (acc.length + 1) c10)) = w22 at HA HF HQ HS HT HRW HB ⊢
      go_roundw
      case rel =>
       have hlen : (acc ++ [((x6, 1, ls, ex0) : MemB)]).length = acc.length + 1 := by rw [List.length_append, List.length_singleton]
       refine ⟨acc ++ [((x6, 1, ls, ex0) : MemB)], i9, k9, l4, q10, c10, ?_, ?_, HA.out, HQ.out, HS.out, HT.out, HB.out, HMB.out.1, HMB.out.2.1, ?_, ?_⟩
       ·rw [hlen]
        exact HRW.out
       ·rw [hlen]
        exact HF.out
       ·show _ ≤ _
        rw [hlen]
        exact HA6.out
       ·exact dl_more HDL.out HK4.out (.inl HT4.out) HA6.out HMB.out
      case measure =>
       rw [mlen_arr HF.out 1 rfl, HM0.out]
       have := HA6.out
       omega
    | false =>
     have HNR : Hid (¬ txt ts i4 = wRelB) := by
      have hd := Hd2.out
      simp only [Bool.false_eq, Bool.and_eq_false_iff, decide_eq_false_iff_not] at hd
      exact hd.elim (fun h => absurd HK4.out h) id
     have HIS := hiD (ris_any (s := ⟨i4, s.o, l4⟩) (c := c) (k := k4) HO.out.1 HT.out HH4.out ⟨#[112, 101, 114, 109, 105, 115, 115, 105, 111, 110]⟩ wPermB rfl (by decide))
     obtain ⟨d3, hd3⟩ : ∃ d, d = (decide (k4 = 0) && decide (txt ts i4 = wPermB)) := ⟨_, rfl⟩
     have Hd3 := hiD hd3
     rw [show (decide (k4 = 0) && decide (txt ts (⟨i4, s.o, l4⟩ : PS).i = wPermB)) = d3 from hd3.symm] at HIS
     clear hd3
     obtain ⟨p0, z0, p1, z1, p2, z2, p3, z3, p4, z4⟩ := HA.out.all5
     go_wp2_with fail
     refine HIS.out.mono ?_
     rintro r w8b ⟨rfl, b1⟩
     clear p0 z0 p1 z1 p2 z2 p3 z3 p4 z4
     have HA := hiD (HA.out.later b1)
     have HQ := hiD (HQ.out.later b1)
     have HS := hiD (HS.out.later b1)
     have HF := hiD (HF.out.later b1)
     have HT := hiD (HT.out.later b1)
     have HM := hiD (HM.out.later b1)
     have HRW := hiD (HRW.out.later b1)
     have HB := hiD (HB.out.trans (b1.mono HB.out.size))
     clear b1 HIS
     cases d3 with
     | true =>
      have hd := Hd3.out
      simp only [Bool.true_eq, Bool.and_eq_true, decide_eq_true_eq] at hd
      have HT4 := hiD hd.2
      clear hd
      obtain ⟨ea0, eb0, ea1, eb1, ea2, eb2, ea3, eb3, ea4, eb4, ea5, eb5, ea6, eb6⟩ := HM.out.all7
      go_upto_region 12 with (fail)
      clear ea0 eb0 ea1 eb1 ea2 eb2 ea3 eb3 ea4 eb4 ea5 eb5 ea6 eb6
      have hkp := (Kp.of (pb := nb) (Below.refl w8b.heap.size w8b)).set 1 (.int .i64 2)
      have HM : Hid (Arr (w8b.setCell ⟨nb, 1, none⟩ (.int .i64 2)) 48 (nb) [.string ⟨#[]⟩, .int .i64 2, .slice none 0 0, .int .i64 0, .string ⟨#[]⟩, .string ⟨#[]⟩, .slice none 0 0]) := HM.out.set 1 (.int .i64 2)
      have HA := hiD (hkp.arr HA.out (by omega))
      have HQ := hiD (hkp.arr HQ.out (by omega))
      have HS := hiD (hkp.arr HS.out (by omega))
      have HF := hiD (hkp.arr HF.out (by omega))
      have HT := hiD (HT.out.kp hkp (by first | omega | (have := HZ.out; omega)))
      have HRW := hiD (HRW.out.kp hkp (.inr rfl))
      have HB := hiD (HB.out.trans (hkp.below (B := W.heap.size) (by omega) HB.out.size))
      clear hkp
      generalize (w8b.setCell ⟨nb, 1, none⟩ (.int .i64 2)) = w0 at HM HA HQ HS HF HT HRW HB ⊢
      by_cases h6 : acc.length = 64
      ·have h6' : ((acc.length : Int) == 64) = true := by simp [h6]
       have HA6 := hiD h6
       clear h6
       obtain ⟨ea0, eb0, ea1, eb1⟩ := HF.out.all2
       go_upto_region 13 with (fail)
       clear ea0 eb0 ea1 eb1
       clear h6'
       have HV := hiD (show VK (W.heap.size + 4) acc w0 (.slice q acc.length cc) from (HRW.out.wk (Y := fun _ => False) (fun b _ _ h => h.elim)).rdK)
       have hb7 : Below w0.heap.size w0 w0.drew := (Below.refl _ _).drew
       have HA := hiD (HA.out.later hb7)
       have HQ := hiD (HQ.out.later hb7)
       have HS := hiD (HS.out.later hb7)
       have HF := hiD (HF.out.later hb7)
       have HT := hiD (HT.out.later hb7)
       have HV := hiD (HV.out.later hb7)
       have HB := hiD (HB.out.trans (hb7.mono HB.out.size))
       refine wp_region_held_drew (S := fun W' => Arr W' 56 (W.heap.size) [.slice (some ⟨tb, 0, none⟩) ts.length c, .int .i64 (i4 : Nat), .int .i64 (k4 : Nat), .int .i64 (s.o : Nat), .int .i64 (l4 : Nat)] ∧ Arr W' 39 gd [.string (bstr nm), .slice q acc.length cc]) (by kernel_rfl) ⟨HA.out, HF.out⟩ (fun hHeld => ?_)
       try simp only [Act.put]
       clear hb7
       generalize w0.drew = wa at hHeld HA HQ HS HF HT HV HB ⊢
       refine wpAnyH_take (i := 0) (oi := ⟨some 39, _, _, _, _, _⟩) (v := .agg #[.slice (some ⟨tb, 0, none⟩) ts.length c, .int .i64 (i4 : Nat), .int .i64 (k4 : Nat), .int .i64 (s.o : Nat), .int .i64 (l4 : Nat)]) rfl (by kernel_rfl) (by kernel_rfl) (by kernel_rfl) (fun _ _ _ h => h) (.inl ⟨by rfl, fun w' hSw => ?_⟩) hHeld ?_
       focus (obtain ⟨q0, _, q1, _, q2, _, q3, _, q4, _⟩ := hSw.1.all5; clear hHeld; go_simp)
       try simp only [Act.put, pz0, pz1, pz2]
       refine wpAnyH_take (i := 2) (oi := ⟨some 41, _, _, _, _, _⟩) (v := .agg #[.string (bstr nm), .slice q acc.length cc]) rfl (by kernel_rfl) (by kernel_rfl) (by kernel_rfl) (fun _ _ _ h => h) (.inl ⟨by rfl, fun w' hSw => ?_⟩) hHeld ?_
       focus (obtain ⟨q0, _, q1, _⟩ := hSw.2.all2; clear hHeld; go_simp)
       try simp only [Act.put, pz0, pz1, pz2]
       refine wpAnyH_ready (rs := [1]) (by kernel_rfl) (by simp) ?_
       refine AllReadyH.cons (o := ⟨some 40, _, _, _, _, _⟩) rfl (fun K' hK' => ?_) AllReadyH.nil
       refine stepw_call (R := fun v w' => ∃ k' : Nat, k' = (if k4 = 0 then 15 else k4) ∧ v = .agg #[.slice (some ⟨tb, 0, none⟩) ts.length c, .int .i64 (i4 : Nat), .int .i64 (k' : Nat), .int .i64 (s.o : Nat), .int .i64 (l4 : Nat)] ∧ Below wa.heap.size wa w') (by rfl) ?_ ((rbad_any (c := c) (k := k4) (tb := tb) (ts := ts) (s := ⟨i4, s.o, l4⟩) (W := wa) 15).mono fun r w' ⟨k', h1, h2, h3⟩ => ⟨_, h2, k', h1, rfl, h3⟩) ?_
       focus go_simp
       rintro v wn ⟨k', hk', rfl, bn⟩
       have hkn := And.intro (hHeld.1.later bn) (hHeld.2.later bn)
       clear hHeld
       have HGF : Hid (Go1 ts k' i4 s.o l4 ((nm, acc) : DefB) (st k s.i (defF ts s))) := dl_bad15 HDL.out HA6.out HK4.out HH4.out HL4.out (.inr HT4.out) hk'
       clear hk'
       have HQ := hiD (HQ.out.later bn)
       have HS := hiD (HS.out.later bn)
       have HV := hiD (HV.out.later bn)
       have HB := hiD (HB.out.trans (bn.mono HB.out.size))
       clear bn
       refine hK'.out _ _ hkn (fun hHeld => ?_)
       clear hK' K' hkn
       try simp only [Act.put, pz0, pz1, pz2]
       refine wpAnyH_ready (rs := [3]) (by kernel_rfl) (by simp) ?_
       refine AllReadyH.cons (o := ⟨none, _, _, _, _, _⟩) rfl (fun K' hK' => ?_) AllReadyH.nil
       obtain ⟨u0, v0, u1, v1, u2, v2, u3, v3, u4, v4⟩ := HQ.out.all5
       have hkn := And.intro (hHeld.1.off5 (b := W.heap.size + 1) (by simp only [ne_eq]; omega) (.slice (some ⟨tb, 0, none⟩) ts.length c) (.int .i64 (i4 : Nat)) (.int .i64 (k' : Nat)) (.int .i64 (s.o : Nat)) (.int .i64 (l4 : Nat))) (hHeld.2.off5 (b := W.heap.size + 1) (by simp only [ne_eq]; omega) (.slice (some ⟨tb, 0, none⟩) ts.length c) (.int .i64 (i4 : Nat)) (.int .i64 (k' : Nat)) (.int .i64 (s.o : Nat)) (.int .i64 (l4 : Nat)))
       clear hHeld
       go_simp
       clear u0 v0 u1 v1 u2 v2 u3 v3 u4 v4
       refine hK'.out _ _ hkn (fun hHeld => ?_)
       clear hK' K' hkn
       try simp only [Act.put, pz0, pz1, pz2]
       have hkp := kp_setP wn (W.heap.size + 1) (.slice (some ⟨tb, 0, none⟩) ts.length c) (.int .i64 (i4 : Nat)) (.int .i64 (k' : Nat)) (.int .i64 (s.o : Nat)) (.int .i64 (l4 : Nat))
       have HQ := hiD (HQ.out.setP (.slice (some ⟨tb, 0, none⟩) ts.length c) (.int .i64 (i4 : Nat)) (.int .i64 (k' : Nat)) (.int .i64 (s.o : Nat)) (.int .i64 (l4 : Nat)))
       have HS := hiD (hkp.arr HS.out (by omega))
       have HV := hiD (HV.out.kp hkp (by omega))
       have HB := hiD (HB.out.trans (hkp.below (B := W.heap.size) (by omega) HB.out.size))
       clear hkp
       generalize (((((wn.setCell ⟨W.heap.size + 1, 0, none⟩ (.slice (some ⟨tb, 0, none⟩) ts.length c)).setCell ⟨W.heap.size + 1, 1, none⟩ (.int .i64 (i4 : Nat))).setCell ⟨W.heap.size + 1, 2, none⟩ (.int .i64 (k' : Nat))).setCell ⟨W.heap.size + 1, 3, none⟩ (.int .i64 (s.o : Nat))).setCell ⟨W.heap.size + 1, 4, none⟩ (.int .i64 (l4 : Nat))) = wb at hHeld HQ HS HB HV ⊢
       refine wpAnyH_ready (rs := [4]) (by kernel_rfl) (by simp) ?_
       refine AllReadyH.cons (o := ⟨none, _, _, _, _, _⟩) rfl (fun K' hK' => ?_) AllReadyH.nil
       obtain ⟨u0, v0, u1, v1⟩ := HS.out.all2
       have hkn := And.intro (hHeld.1.off2 (b := W.heap.size + 1 + 1) (by simp only [ne_eq]; omega) (.string (bstr nm)) (.slice q acc.length cc)) (hHeld.2.off2 (b := W.heap.size + 1 + 1) (by simp only [ne_eq]; omega) (.string (bstr nm)) (.slice q acc.length cc))
       clear hHeld
       go_simp
       clear u0 v0 u1 v1
       refine hK'.out _ _ hkn (fun hHeld => ?_)
       clear hK' K' hkn
       try simp only [Act.put, pz0, pz1, pz2]
       have hkp := kp_setD wb (W.heap.size + 1 + 1) (.string (bstr nm)) (.slice q acc.length cc)
       have HS := hiD (HS.out.setD (.string (bstr nm)) (.slice q acc.length cc))
       have HQ := hiD (hkp.arr HQ.out (by omega))
       have HV := hiD (HV.out.kp hkp (by omega))
       have HB := hiD (HB.out.trans (hkp.below (B := W.heap.size) (by omega) HB.out.size))
       clear hkp
       generalize ((wb.setCell ⟨W.heap.size + 1 + 1, 0, none⟩ (.string (bstr nm))).setCell ⟨W.heap.size + 1 + 1, 1, none⟩ (.slice q acc.length cc)) = wc at hHeld HQ HS HB HV ⊢
       refine wpAnyH_done (by kernel_rfl) ?_ _
       go_wp2_with fail
       clear hHeld
       have c0 := HQ.out.cell 0
       have c1 := HQ.out.cell 1
       have c2 := HQ.out.cell 2
       have c3 := HQ.out.cell 3
       have c4 := HQ.out.cell 4
       have d0 := HS.out.cell 0
       have d1 := HS.out.cell 1
       simp only [List.getElem?_cons_zero, List.getElem?_cons_succ] at c0 c1 c2 c3 c4 d0 d1
       refine bodyPost_ret (v := .tuple #[.agg #[.slice (some ⟨tb, 0, none⟩) ts.length c, .int .i64 (i4 : Nat), .int .i64 (k' : Nat), .int .i64 (s.o : Nat), .int .i64 (l4 : Nat)], .agg #[.string (bstr nm), .slice q acc.length cc]]) ?_ rfl ⟨i4, k', l4, (nm, acc), _, HGF.out, rfl, ⟨_, rfl, HV.out.low (by omega)⟩, HB.out⟩
       simp [results, Tryz.results16, go_sem, c0, c1, c2, c3, c4, d0, d1]
      ·have h6' : ((acc.length : Int) == 64) = false := by simp; omega
       have HA6 : Hid (acc.length < 64) := by have := HA64.out; show _ < _; omega
       obtain ⟨i5, hi5⟩ : ∃ x, x = i4 + 1 := ⟨_, rfl⟩
       have HI5 := hiD hi5
       have HH5 : Hid (i5 < ts.length) := by
        show i5 < _
        rw [hi5]
        exact HO.out.1.step (by rw [HT4.out]; decide)
       have hzi0 : (0 : Int) ≤ i4 := by omega
       have hzi1 : (i4 : Int) ≤ 100000 := by have := HH4.out; have := HTS.out; omega
       clear hi5 h6
       obtain ⟨p0, z0, p1, z1, p2, z2, p3, z3, p4, z4⟩ := HA.out.all5
       obtain ⟨ea0, eb0, ea1, eb1⟩ := HF.out.all2
       go_upto_region 15 with (fail)
       clear p0 z0 p1 z1 p2 z2 p3 z3 p4 z4
       clear ea0 eb0 ea1 eb1
       clear h6'
       have hkp := (Kp.of (pb := W.heap.size) (Below.refl w0.heap.size w0)).set 1 (.int .i64 ((i4 : Int) + 1))
       have HA : Hid (Arr (w0.setCell ⟨W.heap.size, 1, none⟩ (.int .i64 ((i4 : Int) + 1))) 56 W.heap.size [.slice (some ⟨tb, 0, none⟩) ts.length c, .int .i64 (i5 : Nat), .int .i64 (k4 : Nat), .int .i64 (s.o : Nat), .int .i64 (l4 : Nat)]) := by
        have h := HA.out.set 1 (.int .i64 ((i4 : Int) + 1))
        rw [show ((i5 : Nat) : Int) = (i4 : Int) + 1 from by rw [HI5.out]; simp]
        exact h
       have HQ := hiD (hkp.arr HQ.out (by omega))
       have HS := hiD (hkp.arr HS.out (by omega))
       have HF := hiD (hkp.arr HF.out (by omega))
       have HT := hiD (HT.out.kp hkp (by first | omega | (have := HZ.out; omega)))
       have HM := hiD (hkp.arr HM.out (by omega))
       have HRW := hiD (HRW.out.kp hkp (.inl (by omega)))
       have HB := hiD (HB.out.trans (hkp.below (B := W.heap.size) (Nat.le_refl _) HB.out.size))
       clear hkp hzi0 hzi1
       generalize (w0.setCell ⟨W.heap.size, 1, none⟩ (.int .i64 ((i4 : Int) + 1))) = w9 at HA HQ HS HF HT HM HRW HB ⊢
       have HMU := hiD (rname_any (c := c) (k := k4) (s := ⟨i5, s.o, l4⟩) HO.out HT.out HH5.out ⟨HL4.out.1, fun a _ => HL4.out.2 a⟩)
       obtain ⟨p0, z0, p1, z1, p2, z2, p3, z3, p4, z4⟩ := HA.out.all5
       go_wp2_with fail
       refine HMU.out.mono ?_
       rintro r w10 ⟨i6, k6, x6, hg6, rfl, b1⟩
       have Hhg6 : Hid (Go1 ts k6 i6 s.o l4 x6 (st k4 i5 (nameF ts ⟨i5, s.o, l4⟩))) := hg6
       clear p0 z0 p1 z1 p2 z2 p3 z3 p4 z4
       have HA := hiD (HA.out.later b1)
       have HQ := hiD (HQ.out.later b1)
       have HS := hiD (HS.out.later b1)
       have HF := hiD (HF.out.later b1)
       have HT := hiD (HT.out.later b1)
       have HM := hiD (HM.out.later b1)
       have HRW := hiD (HRW.out.later b1)
       have HB := hiD (HB.out.trans (b1.mono HB.out.size))
       clear hg6 b1 HMU
       obtain ⟨p0, z0, p1, z1, p2, z2, p3, z3, p4, z4⟩ := HA.out.all5
       obtain ⟨ea0, eb0, ea1, eb1, ea2, eb2, ea3, eb3, ea4, eb4, ea5, eb5, ea6, eb6⟩ := HM.out.all7
       go_upto_region 16 with (fail)
       clear p0 z0 p1 z1 p2 z2 p3 z3 p4 z4
       clear ea0 eb0 ea1 eb1 ea2 eb2 ea3 eb3 ea4 eb4 ea5 eb5 ea6 eb6
       have hkp := kp_setP w10 (W.heap.size) (.slice (some ⟨tb, 0, none⟩) ts.length c) (.int .i64 (i6 : Nat)) (.int .i64 (k6 : Nat)) (.int .i64 (s.o : Nat)) (.int .i64 (l4 : Nat))
       have HA := hiD (HA.out.setP (.slice (some ⟨tb, 0, none⟩) ts.length c) (.int .i64 (i6 : Nat)) (.int .i64 (k6 : Nat)) (.int .i64 (s.o : Nat)) (.int .i64 (l4 : Nat)))
       have HQ := hiD (hkp.arr HQ.out (by omega))
       have HS := hiD (hkp.arr HS.out (by omega))
       have HF := hiD (hkp.arr HF.out (by omega))
       have HT := hiD (HT.out.kp hkp (by first | omega | (have := HZ.out; omega)))
       have HM := hiD (hkp.arr HM.out (by omega))
       have HRW := hiD (HRW.out.kp hkp (.inl (by omega)))
       have HB := hiD (HB.out.trans (hkp.below (B := W.heap.size) (Nat.le_refl _) HB.out.size))
       clear hkp
       generalize (((((w10.setCell ⟨W.heap.size, 0, none⟩ (.slice (some ⟨tb, 0, none⟩) ts.length c)).setCell ⟨W.heap.size, 1, none⟩ (.int .i64 (i6 : Nat))).setCell ⟨W.heap.size, 2, none⟩ (.int .i64 (k6 : Nat))).setCell ⟨W.heap.size, 3, none⟩ (.int .i64 (s.o : Nat))).setCell ⟨W.heap.size, 4, none⟩ (.int .i64 (l4 : Nat))) = w11 at HA HQ HS HF HT HM HRW HB ⊢
       have hkp := (Kp.of (pb := nb) (Below.refl w11.heap.size w11)).set 0 (.string (bstr x6))
       have HM : Hid (Arr (w11.setCell ⟨nb, 0, none⟩ (.string (bstr x6))) 48 (nb) [.string (bstr x6), .int .i64 2, .slice none 0 0, .int .i64 0, .string ⟨#[]⟩, .string ⟨#[]⟩, .slice none 0 0]) := HM.out.set 0 (.string (bstr x6))
       have HA := hiD (hkp.arr HA.out (by omega))
       have HQ := hiD (hkp.arr HQ.out (by omega))
       have HS := hiD (hkp.arr HS.out (by omega))
       have HF := hiD (hkp.arr HF.out (by omega))
       have HT := hiD (HT.out.kp hkp (by first | omega | (have := HZ.out; omega)))
       have HRW := hiD (HRW.out.kp hkp (.inr rfl))
       have HB := hiD (HB.out.trans (hkp.below (B := W.heap.size) (by omega) HB.out.size))
       clear hkp
       generalize (w11.setCell ⟨nb, 0, none⟩ (.string (bstr x6))) = w12 at HM HA HQ HS HF HT HRW HB ⊢
       obtain ⟨ea0, eb0, ea1, eb1, ea2, eb2, ea3, eb3, ea4, eb4, ea5, eb5, ea6, eb6⟩ := HM.out.all7
       go_upto_region 19 with (fail)
       clear ea0 eb0 ea1 eb1 ea2 eb2 ea3 eb3 ea4 eb4 ea5 eb5 ea6 eb6
       have HMU := hiD (rmust_any (c := c) (k := k6) (s := ⟨i6, s.o, l4⟩) HO.out.1 HT.out Hhg6.out.1 Hhg6.out.2.1 ⟨#[61]⟩ [61] rfl (by decide))
       obtain ⟨p0, z0, p1, z1, p2, z2, p3, z3, p4, z4⟩ := HA.out.all5
       go_wp2_with fail
       refine HMU.out.mono ?_
       rintro r w13 ⟨i7, k7, hg7, rfl, b1⟩
       have Hhg7 : Hid (Go1 ts k7 i7 s.o l4 () (st k6 i6 (wantF ts [61] ⟨i6, s.o, l4⟩))) := hg7
       clear p0 z0 p1 z1 p2 z2 p3 z3 p4 z4
       have HA := hiD (HA.out.later b1)
       have HQ := hiD (HQ.out.later b1)
       have HS := hiD (HS.out.later b1)
       have HF := hiD (HF.out.later b1)
       have HT := hiD (HT.out.later b1)
       have HM := hiD (HM.out.later b1)
       have HRW := hiD (HRW.out.later b1)
       have HB := hiD (HB.out.trans (b1.mono HB.out.size))
       clear hg7 b1 HMU
       obtain ⟨p0, z0, p1, z1, p2, z2, p3, z3, p4, z4⟩ := HA.out.all5
       go_upto_region 20 with (fail)
       clear p0 z0 p1 z1 p2 z2 p3 z3 p4 z4
       have hkp := kp_setP w13 (W.heap.size) (.slice (some ⟨tb, 0, none⟩) ts.length c) (.int .i64 (i7 : Nat)) (.int .i64 (k7 : Nat)) (.int .i64 (s.o : Nat)) (.int .i64 (l4 : Nat))
       have HA := hiD (HA.out.setP (.slice (some ⟨tb, 0, none⟩) ts.length c) (.int .i64 (i7 : Nat)) (.int .i64 (k7 : Nat)) (.int .i64 (s.o : Nat)) (.int .i64 (l4 : Nat)))
       have HQ := hiD (hkp.arr HQ.out (by omega))
       have HS := hiD (hkp.arr HS.out (by omega))
       have HF := hiD (hkp.arr HF.out (by omega))
       have HT := hiD (HT.out.kp hkp (by first | omega | (have := HZ.out; omega)))
       have HM := hiD (hkp.arr HM.out (by omega))
       have HRW := hiD (HRW.out.kp hkp (.inl (by omega)))
       have HB := hiD (HB.out.trans (hkp.below (B := W.heap.size) (Nat.le_refl _) HB.out.size))
       clear hkp
       generalize (((((w13.setCell ⟨W.heap.size, 0, none⟩ (.slice (some ⟨tb, 0, none⟩) ts.length c)).setCell ⟨W.heap.size, 1, none⟩ (.int .i64 (i7 : Nat))).setCell ⟨W.heap.size, 2, none⟩ (.int .i64 (k7 : Nat))).setCell ⟨W.heap.size, 3, none⟩ (.int .i64 (s.o : Nat))).setCell ⟨W.heap.size, 4, none⟩ (.int .i64 (l4 : Nat))) = w14 at HA HQ HS HF HT HM HRW HB ⊢
       obtain ⟨p0, z0, p1, z1, p2, z2, p3, z3, p4, z4⟩ := HA.out.all5
       go_upto_region 21 with (fail)
       clear p0 z0 p1 z1 p2 z2 p3 z3 p4 z4
       have hkp := (Kp.of (pb := W.heap.size) (Below.refl w14.heap.size w14)).set 4 (.int .i64 (0 : Nat))
       have HA : Hid (Arr (w14.setCell ⟨W.heap.size, 4, none⟩ (.int .i64 0)) 56 (W.heap.size) [.slice (some ⟨tb, 0, none⟩) ts.length c, .int .i64 (i7 : Nat), .int .i64 (k7 : Nat), .int .i64 (s.o : Nat), .int .i64 (0 : Nat)]) := HA.out.set 4 (.int .i64 (0 : Nat))
       have HQ := hiD (hkp.arr HQ.out (by omega))
       have HS := hiD (hkp.arr HS.out (by omega))
       have HF := hiD (hkp.arr HF.out (by omega))
       have HT := hiD (HT.out.kp hkp (by first | omega | (have := HZ.out; omega)))
       have HM := hiD (hkp.arr HM.out (by omega))
       have HRW := hiD (HRW.out.kp hkp (.inl (by omega)))
       have HB := hiD (HB.out.trans (hkp.below (B := W.heap.size) (Nat.le_refl _) HB.out.size))
       clear hkp
       generalize (w14.setCell ⟨W.heap.size, 4, none⟩ (.int .i64 0)) = w15 at HA HQ HS HF HT HM HRW HB ⊢
       have HEX : Hid (Calls Tryz.prog 34 #[.agg #[.slice (some ⟨tb, 0, none⟩) ts.length c, .int .i64 (i7 : Nat), .int .i64 (k7 : Nat), .int .i64 (s.o : Nat), .int .i64 (0 : Nat)]] w15 (GE tb c ts s.o (st k7 i7 (unitsF ts 14 ⟨i7, s.o, 0⟩)) w15)) := rexpr_all HO.out 14 w15 ⟨i7, s.o, 0⟩ k7 HT.out Hhg7.out.1 ⟨Nat.zero_le _, fun _ => Nat.zero_le _⟩ (Nat.zero_le _) (by show s.o + 14 = 14; rw [HSO.out])
       have HBT : Hid (nb < w15.heap.size) := HM.out.lt
       obtain ⟨p0, z0, p1, z1, p2, z2, p3, z3, p4, z4⟩ := HA.out.all5
       go_wp2_with fail
       refine HEX.out.mono ?_
       rintro r w16 ⟨i8, k8, l8, e8, vt, hg8, rfl, hvt, b1⟩
       have Hhg8 : Hid (Go1 ts k8 i8 s.o l8 e8 (st k7 i7 (exprF ts ⟨i7, s.o, l4⟩))) := by
        have h := hg8
        rw [exprF_at (l := l4) HSO.out] at h
        exact h
       obtain ⟨mk, mv, mn, ms⟩ := e8
       have HTV := hiD hvt
       obtain ⟨qt, ct, rfl⟩ := VE.form hvt
       have HTV := hiD HTV.out.vg
       have hnw : nb < w15.heap.size := HBT.out
       clear p0 z0 p1 z1 p2 z2 p3 z3 p4 z4
       have HA := hiD (HA.out.later b1)
       have HQ := hiD (HQ.out.later b1)
       have HS := hiD (HS.out.later b1)
       have HF := hiD (HF.out.later b1)
       have HT := hiD (HT.out.later b1)
       have HM := hiD (HM.out.later b1)
       have HRW := hiD (HRW.out.later b1)
       have HB := hiD (HB.out.trans (b1.mono HB.out.size))
       clear hg8 hvt b1 HEX
       obtain ⟨p0, z0, p1, z1, p2, z2, p3, z3, p4, z4⟩ := HA.out.all5
       obtain ⟨ea0, eb0, ea1, eb1, ea2, eb2, ea3, eb3, ea4, eb4, ea5, eb5, ea6, eb6⟩ := HM.out.all7
       go_upto_region 22 with (fail)
       clear p0 z0 p1 z1 p2 z2 p3 z3 p4 z4
       clear ea0 eb0 ea1 eb1 ea2 eb2 ea3 eb3 ea4 eb4 ea5 eb5 ea6 eb6
       have hkp := kp_setP w16 (W.heap.size) (.slice (some ⟨tb, 0, none⟩) ts.length c) (.int .i64 (i8 : Nat)) (.int .i64 (k8 : Nat)) (.int .i64 (s.o : Nat)) (.int .i64 (l8 : Nat))
       have HA := hiD (HA.out.setP (.slice (some ⟨tb, 0, none⟩) ts.length c) (.int .i64 (i8 : Nat)) (.int .i64 (k8 : Nat)) (.int .i64 (s.o : Nat)) (.int .i64 (l8 : Nat)))
       have HQ := hiD (hkp.arr HQ.out (by omega))
       have HS := hiD (hkp.arr HS.out (by omega))
       have HF := hiD (hkp.arr HF.out (by omega))
       have HT := hiD (HT.out.kp hkp (by first | omega | (have := HZ.out; omega)))
       have HM := hiD (hkp.arr HM.out (by omega))
       have HRW := hiD (HRW.out.kp hkp (.inl (by omega)))
       have HTV := hiD (HTV.out.kp hkp (by first | omega | (have := HZ.out; omega)))
       have HB := hiD (HB.out.trans (hkp.below (B := W.heap.size) (Nat.le_refl _) HB.out.size))
       clear hkp
       generalize (((((w16.setCell ⟨W.heap.size, 0, none⟩ (.slice (some ⟨tb, 0, none⟩) ts.length c)).setCell ⟨W.heap.size, 1, none⟩ (.int .i64 (i8 : Nat))).setCell ⟨W.heap.size, 2, none⟩ (.int .i64 (k8 : Nat))).setCell ⟨W.heap.size, 3, none⟩ (.int .i64 (s.o : Nat))).setCell ⟨W.heap.size, 4, none⟩ (.int .i64 (l8 : Nat))) = w18 at HA HQ HS HF HT HM HRW HTV HB ⊢
       have hkp := kp_set43 w18 nb (.int .i64 mk) (.string (bstr mv)) (.string (bstr mn)) (.slice qt ms.length ct)
       have HM : Hid (Arr ((((w18.setCell ⟨nb, 3, none⟩ (.int .i64 mk)).setCell ⟨nb, 4, none⟩ (.string (bstr mv))).setCell ⟨nb, 5, none⟩ (.string (bstr mn))).setCell ⟨nb, 6, none⟩ (.slice qt ms.length ct)) 48 nb [.string (bstr x6), .int .i64 2, .slice none 0 0, .int .i64 mk, .string (bstr mv), .string (bstr mn), .slice qt ms.length ct]) := HM.out.setM3 (.int .i64 mk) (.string (bstr mv)) (.string (bstr mn)) (.slice qt ms.length ct)
       have HA := hiD (hkp.arr HA.out (by omega))
       have HQ := hiD (hkp.arr HQ.out (by omega))
       have HS := hiD (hkp.arr HS.out (by omega))
       have HF := hiD (hkp.arr HF.out (by omega))
       have HT := hiD (HT.out.kp hkp (by first | omega | (have := HZ.out; omega)))
       have HRW := hiD (HRW.out.kp hkp (.inr rfl))
       have HTV := hiD (HTV.out.kp hkp (by first | omega | (have := HZ.out; omega)))
       have HB := hiD (HB.out.trans (hkp.below (B := W.heap.size) (by omega) HB.out.size))
       clear hkp
       generalize ((((w18.setCell ⟨nb, 3, none⟩ (.int .i64 mk)).setCell ⟨nb, 4, none⟩ (.string (bstr mv))).setCell ⟨nb, 5, none⟩ (.string (bstr mn))).setCell ⟨nb, 6, none⟩ (.slice qt ms.length ct)) = w17 at HM HA HQ HS HF HT HRW HTV HB ⊢
       have HMU := hiD (rmust_any (c := c) (k := k8) (s := ⟨i8, s.o, l8⟩) HO.out.1 HT.out Hhg8.out.1 Hhg8.out.2.1 ⟨#[59]⟩ [59] rfl (by decide))
       obtain ⟨p0, z0, p1, z1, p2, z2, p3, z3, p4, z4⟩ := HA.out.all5
       go_wp2_with fail
       refine HMU.out.mono ?_
       rintro r w19 ⟨i9, k9, hg9, rfl, b1⟩
       have Hhg9 : Hid (Go1 ts k9 i9 s.o l8 () (st k8 i8 (wantF ts [59] ⟨i8, s.o, l8⟩))) := hg9
       clear p0 z0 p1 z1 p2 z2 p3 z3 p4 z4
       have HA := hiD (HA.out.later b1)
       have HQ := hiD (HQ.out.later b1)
       have HS := hiD (HS.out.later b1)
       have HF := hiD (HF.out.later b1)
       have HT := hiD (HT.out.later b1)
       have HM := hiD (HM.out.later b1)
       have HRW := hiD (HRW.out.later b1)
       have HTV := hiD (HTV.out.later b1)
       have HB := hiD (HB.out.trans (b1.mono HB.out.size))
       have HMB : Hid (Go1 ts k9 i9 s.o l8 ((x6, 2, [], Ex.mk mk mv mn ms) : MemB) (memberF ts ⟨i4, s.o, l4⟩)) := mem_perm HK4.out HI5.out HNR.out HT4.out Hhg6.out Hhg7.out Hhg8.out hg9
       clear hg9 b1 HMU
       obtain ⟨p0, z0, p1, z1, p2, z2, p3, z3, p4, z4⟩ := HA.out.all5
       go_upto_region 23 with (fail)
       clear p0 z0 p1 z1 p2 z2 p3 z3 p4 z4
       have hkp := kp_setP w19 (W.heap.size) (.slice (some ⟨tb, 0, none⟩) ts.length c) (.int .i64 (i9 : Nat)) (.int .i64 (k9 : Nat)) (.int .i64 (s.o : Nat)) (.int .i64 (l8 : Nat))
       have HA := hiD (HA.out.setP (.slice (some ⟨tb, 0, none⟩) ts.length c) (.int .i64 (i9 : Nat)) (.int .i64 (k9 : Nat)) (.int .i64 (s.o : Nat)) (.int .i64 (l8 : Nat)))
       have HQ := hiD (hkp.arr HQ.out (by omega))
       have HS := hiD (hkp.arr HS.out (by omega))
       have HF := hiD (hkp.arr HF.out (by omega))
       have HT := hiD (HT.out.kp hkp (by first | omega | (have := HZ.out; omega)))
       have HM := hiD (hkp.arr HM.out (by omega))
       have HRW := hiD (HRW.out.kp hkp (.inl (by omega)))
       have HTV := hiD (HTV.out.kp hkp (by first | omega | (have := HZ.out; omega)))
       have HB := hiD (HB.out.trans (hkp.below (B := W.heap.size) (Nat.le_refl _) HB.out.size))
       clear hkp
       generalize (((((w19.setCell ⟨W.heap.size, 0, none⟩ (.slice (some ⟨tb, 0, none⟩) ts.length c)).setCell ⟨W.heap.size, 1, none⟩ (.int .i64 (i9 : Nat))).setCell ⟨W.heap.size, 2, none⟩ (.int .i64 (k9 : Nat))).setCell ⟨W.heap.size, 3, none⟩ (.int .i64 (s.o : Nat))).setCell ⟨W.heap.size, 4, none⟩ (.int .i64 (l8 : Nat))) = w20 at HA HQ HS HF HT HM HRW HTV HB ⊢
       obtain ⟨ea0, eb0, ea1, eb1⟩ := HF.out.all2
       obtain ⟨na0, nz0, na1, nz1, na2, nz2, na3, nz3, na4, nz4, na5, nz5, na6, nz6⟩ := HM.out.all7
       have hb14 : Below w20.heap.size w20 (w20.alloc (.cells #[.string (bstr x6), .int .i64 2, .slice none 0 0, .int .i64 mk, .string (bstr mv), .string (bstr mn), .slice qt ms.length ct] 48)) := (Below.refl _ _).alloc (Nat.le_refl _) _
       have HY : Hid (Arr (w20.alloc (.cells #[.string (bstr x6), .int .i64 2, .slice none 0 0, .int .i64 mk, .string (bstr mv), .string (bstr mn), .slice qt ms.length ct] 48)) 48 w20.heap.size [.string (bstr x6), .int .i64 2, .slice none 0 0, .int .i64 mk, .string (bstr mv), .string (bstr mn), .slice qt ms.length ct]) := Arr.new' _ _ _ _ rfl
       have HBL2 : Hid (∀ b, (Value.slice q acc.length cc).ownBlock = some b → b < w15.heap.size) := fun b hb => Nat.lt_trans (HBL.out b hb) hnw
       have HA := hiD (HA.out.later hb14)
       have HQ := hiD (HQ.out.later hb14)
       have HS := hiD (HS.out.later hb14)
       have HF := hiD (HF.out.later hb14)
       have HT := hiD (HT.out.later hb14)
       have HM := hiD (HM.out.later hb14)
       have HRW := hiD (HRW.out.later hb14)
       have HTV := hiD (HTV.out.later hb14)
       have HB := hiD (HB.out.trans (hb14.mono HB.out.size))
       have hbt : ∀ b, Bt w15.heap.size (w20.alloc (.cells #[.string (bstr x6), .int .i64 2, .slice none 0 0, .int .i64 mk, .string (bstr mv), .string (bstr mn), .slice qt ms.length ct] 48)).heap.size b → SubX (W.heap.size + 4) (fun b => b = nb) (w20.alloc (.cells #[.string (bstr x6), .int .i64 2, .slice none 0 0, .int .i64 mk, .string (bstr mv), .string (bstr mn), .slice qt ms.length ct] 48)) (.slice q acc.length cc) b := fun b hb => ⟨by have := hb.1; omega, hb.2, fun e => by have h1 := HBL2.out b e.symm; have := hb.1; omega, fun h => by have := hb.1; omega⟩
       have HR9 : Hid (rdMem (SubX (W.heap.size + 4) (fun b => b = nb) (w20.alloc (.cells #[.string (bstr x6), .int .i64 2, .slice none 0 0, .int .i64 mk, .string (bstr mv), .string (bstr mn), .slice qt ms.length ct] 48)) (.slice q acc.length cc)) (w20.alloc (.cells #[.string (bstr x6), .int .i64 2, .slice none 0 0, .int .i64 mk, .string (bstr mv), .string (bstr mn), .slice qt ms.length ct] 48)) (x6, 2, [], Ex.mk mk mv mn ms) [.string (bstr x6), .int .i64 2, .slice none 0 0, .int .i64 mk, .string (bstr mv), .string (bstr mn), .slice qt ms.length ct]) := ⟨_, _, _, _, _, rfl, RdA.nil _ _, RdE.imp hbt HTV.out.ve⟩
       have HAC : Hid (acc.length + 1 ≤ 200000) := by have := HA6.out; show _ ≤ _; omega
       have HBS : Hid (W.heap.size + 4 ≤ (w20.alloc (.cells #[.string (bstr x6), .int .i64 2, .slice none 0 0, .int .i64 mk, .string (bstr mv), .string (bstr mn), .slice qt ms.length ct] 48)).heap.size) := by have h := HF.out.lt; have h2 := hb14.size; show _ ≤ _; omega
       have HXX : Hid (∀ b, (b = nb) → b < (w20.alloc (.cells #[.string (bstr x6), .int .i64 2, .slice none 0 0, .int .i64 mk, .string (bstr mv), .string (bstr mn), .slice qt ms.length ct] 48)).heap.size) := fun b h => by have h3 := HM.out.lt; rw [h]; exact h3
       clear hb14 hbt HBL2
       go_wp2_with (at_builtin; refine app_row (K := kdMem) (x := (x6, 2, [], Ex.mk mk mv mn ms)) rfl _ _ rfl rfl HRW.out rfl HY.out HR9.out HAC.out HBS.out HXX.out ?_)
       intro v10 w21 r10 g10 o10
       have HA : Hid (Arr w21 56 W.heap.size [.slice (some ⟨tb, 0, none⟩) ts.length c, .int .i64 (i9 : Nat), .int .i64 (k9 : Nat), .int .i64 (s.o : Nat), .int .i64 (l8 : Nat)]) := (g10.block _ HA.out.lt (fun e => by have := (o10 _ e.symm).1; omega)).trans HA.out
       have HQ : Hid (Arr w21 56 (W.heap.size + 1) [.slice none 0 0, .int .i64 0, .int .i64 0, .int .i64 0, .int .i64 0]) := (g10.block _ HQ.out.lt (fun e => by have := (o10 _ e.symm).1; omega)).trans HQ.out
       have HS : Hid (Arr w21 39 (W.heap.size + 1 + 1) [.string ⟨#[]⟩, .slice none 0 0]) := (g10.block _ HS.out.lt (fun e => by have := (o10 _ e.symm).1; omega)).trans HS.out
       have HF : Hid (Arr w21 39 gd [.string (bstr nm), .slice q acc.length cc]) := (g10.block _ HF.out.lt (fun e => by have := (o10 _ e.symm).1; omega)).trans HF.out
       have hlo : W.heap.size ≤ (w20.alloc (.cells #[.string (bstr x6), .int .i64 2, .slice none 0 0, .int .i64 mk, .string (bstr mv), .string (bstr mn), .slice qt ms.length ct] 48)).heap.size := by have := HBS.out; omega
       have hlk : ∀ k, (Value.slice q acc.length cc).ownBlock = some k → W.heap.size ≤ k := fun k hk => by have := (o10 k hk).1; omega
       have HT : Hid (RT w21 tb ts) := by
        have hb := (Below.refl W.heap.size (w20.alloc (.cells #[.string (bstr x6), .int .i64 2, .slice none 0 0, .int .i64 mk, .string (bstr mv), .string (bstr mn), .slice qt ms.length ct] 48))).grown g10 hlo hlk
        exact ⟨Nat.lt_of_lt_of_le HT.out.1 hb.size, HT.out.2.1, fun i hi j hj => (hb.cell (p := ⟨tb, i * 3 + j, none⟩) HZ.out).trans (HT.out.2.2 i hi j hj)⟩
       have HB := hiD (HB.out.grown g10 hlo hlk)
       have HRW : Hid (PRow kdMem (W.heap.size + 4) (fun _ => False) w21 v10 (acc ++ [(x6, 2, [], Ex.mk mk mv mn ms)])) := r10.wk (fun b _ _ h => h.elim)
       obtain ⟨q10, c10, hv10⟩ := r10.form
       rw [List.length_append, List.length_singleton] at hv10
       subst hv10
       clear r10 g10 o10 hlo hlk HY HR9 HTV HM HXX HBS
       clear ea0 eb0 ea1 eb1
       clear na0 nz0 na1 nz1 na2 nz2 na3 nz3 na4 nz4 na5 nz5 na6 nz6
       obtain ⟨ea0, eb0, ea1, eb1⟩ := HF.out.all2
       go_wp2_with fail
       have hkp := (Kp.of (pb := gd) (Below.refl w21.heap.size w21)).set 1 (.slice q10 (acc.length + 1) c10)
       have HF : Hid (Arr (w21.setCell ⟨gd, 1, none⟩ (.slice q10 (acc.length + 1) c10)) 39 gd [.string (bstr nm), .slice q10 (acc.length + 1) c10]) := HF.out.set 1 _
       have HA := hiD (hkp.arr HA.out (by omega))
       have HQ := hiD (hkp.arr HQ.out (by omega))
       have HS := hiD (hkp.arr HS.out (by omega))
       have HT := hiD (HT.out.kp hkp (by first | omega | (have := HZ.out; omega)))
       have HRW := hiD (HRW.out.kp hkp (.inl (by omega)))
       have HB := hiD (HB.out.trans (hkp.below (B := W.heap.size) (by omega) HB.out.size))
       clear hkp
       generalize (w21.setCell ⟨gd, 1, none⟩ (.slice q10 (acc.length + 1) c10)) = w22 at HA HF HQ HS HT HRW HB ⊢
       go_roundw
       case rel =>
        have hlen : (acc ++ [((x6, 2, [], Ex.mk mk mv mn ms) : MemB)]).length = acc.length + 1 := by rw [List.length_append, List.length_singleton]
        refine ⟨acc ++ [((x6, 2, [], Ex.mk mk mv mn ms) : MemB)], i9, k9, l8, q10, c10, ?_, ?_, HA.out, HQ.out, HS.out, HT.out, HB.out, HMB.out.1, HMB.out.2.1, ?_, ?_⟩
        ·rw [hlen]
         exact HRW.out
        ·rw [hlen]
         exact HF.out
        ·show _ ≤ _
         rw [hlen]
         exact HA6.out
        ·exact dl_more HDL.out HK4.out (.inr HT4.out) HA6.out HMB.out
       case measure =>
        rw [mlen_arr HF.out 1 rfl, HM0.out]
        have := HA6.out
        omega
     | false =>
      have HNP : Hid (¬ txt ts i4 = wPermB) := by
       have hd := Hd3.out
       simp only [Bool.false_eq, Bool.and_eq_false_iff, decide_eq_false_iff_not] at hd
       exact hd.elim (fun h => absurd HK4.out h) id
      go_upto_region 11 with (fail)
      have HV := hiD (show VK (W.heap.size + 4) acc w8b (.slice q acc.length cc) from (HRW.out.wk (Y := fun _ => False) (fun b _ _ h => h.elim)).rdK)
      have hb7 : Below w8b.heap.size w8b w8b.drew := (Below.refl _ _).drew
      have HA := hiD (HA.out.later hb7)
      have HQ := hiD (HQ.out.later hb7)
      have HS := hiD (HS.out.later hb7)
      have HF := hiD (HF.out.later hb7)
      have HT := hiD (HT.out.later hb7)
      have HV := hiD (HV.out.later hb7)
      have HB := hiD (HB.out.trans (hb7.mono HB.out.size))
      refine wp_region_held_drew (S := fun W' => Arr W' 56 (W.heap.size) [.slice (some ⟨tb, 0, none⟩) ts.length c, .int .i64 (i4 : Nat), .int .i64 (k4 : Nat), .int .i64 (s.o : Nat), .int .i64 (l4 : Nat)] ∧ Arr W' 39 gd [.string (bstr nm), .slice q acc.length cc]) (by kernel_rfl) ⟨HA.out, HF.out⟩ (fun hHeld => ?_)
      try simp only [Act.put]
      clear hb7
      generalize w8b.drew = wa at hHeld HA HQ HS HF HT HV HB ⊢
      refine wpAnyH_take (i := 0) (oi := ⟨some 32, _, _, _, _, _⟩) (v := .agg #[.slice (some ⟨tb, 0, none⟩) ts.length c, .int .i64 (i4 : Nat), .int .i64 (k4 : Nat), .int .i64 (s.o : Nat), .int .i64 (l4 : Nat)]) rfl (by kernel_rfl) (by kernel_rfl) (by kernel_rfl) (fun _ _ _ h => h) (.inl ⟨by rfl, fun w' hSw => ?_⟩) hHeld ?_
      focus (obtain ⟨q0, _, q1, _, q2, _, q3, _, q4, _⟩ := hSw.1.all5; clear hHeld; go_simp)
      try simp only [Act.put, pz0, pz1, pz2]
      refine wpAnyH_take (i := 2) (oi := ⟨some 34, _, _, _, _, _⟩) (v := .agg #[.string (bstr nm), .slice q acc.length cc]) rfl (by kernel_rfl) (by kernel_rfl) (by kernel_rfl) (fun _ _ _ h => h) (.inl ⟨by rfl, fun w' hSw => ?_⟩) hHeld ?_
      focus (obtain ⟨q0, _, q1, _⟩ := hSw.2.all2; clear hHeld; go_simp)
      try simp only [Act.put, pz0, pz1, pz2]
      refine wpAnyH_ready (rs := [1]) (by kernel_rfl) (by simp) ?_
      refine AllReadyH.cons (o := ⟨some 33, _, _, _, _, _⟩) rfl (fun K' hK' => ?_) AllReadyH.nil
      refine stepw_call (R := fun v w' => ∃ k' : Nat, k' = (if k4 = 0 then 6 else k4) ∧ v = .agg #[.slice (some ⟨tb, 0, none⟩) ts.length c, .int .i64 (i4 : Nat), .int .i64 (k' : Nat), .int .i64 (s.o : Nat), .int .i64 (l4 : Nat)] ∧ Below wa.heap.size wa w') (by rfl) ?_ ((rbad_any (c := c) (k := k4) (tb := tb) (ts := ts) (s := ⟨i4, s.o, l4⟩) (W := wa) 6).mono fun r w' ⟨k', h1, h2, h3⟩ => ⟨_, h2, k', h1, rfl, h3⟩) ?_
      focus go_simp
      rintro v wn ⟨k', hk', rfl, bn⟩
      have hkn := And.intro (hHeld.1.later bn) (hHeld.2.later bn)
      clear hHeld
      have HGF : Hid (Go1 ts k' i4 s.o l4 ((nm, acc) : DefB) (st k s.i (defF ts s))) := dl_bad6 HDL.out HA64.out HK4.out HH4.out HL4.out HNR.out HNP.out HNB.out hk'
      clear hk'
      have HQ := hiD (HQ.out.later bn)
      have HS := hiD (HS.out.later bn)
      have HV := hiD (HV.out.later bn)
      have HB := hiD (HB.out.trans (bn.mono HB.out.size))
      clear bn
      refine hK'.out _ _ hkn (fun hHeld => ?_)
      clear hK' K' hkn
      try simp only [Act.put, pz0, pz1, pz2]
      refine wpAnyH_ready (rs := [3]) (by kernel_rfl) (by simp) ?_
      refine AllReadyH.cons (o := ⟨none, _, _, _, _, _⟩) rfl (fun K' hK' => ?_) AllReadyH.nil
      obtain ⟨u0, v0, u1, v1, u2, v2, u3, v3, u4, v4⟩ := HQ.out.all5
      have hkn := And.intro (hHeld.1.off5 (b := W.heap.size + 1) (by simp only [ne_eq]; omega) (.slice (some ⟨tb, 0, none⟩) ts.length c) (.int .i64 (i4 : Nat)) (.int .i64 (k' : Nat)) (.int .i64 (s.o : Nat)) (.int .i64 (l4 : Nat))) (hHeld.2.off5 (b := W.heap.size + 1) (by simp only [ne_eq]; omega) (.slice (some ⟨tb, 0, none⟩) ts.length c) (.int .i64 (i4 : Nat)) (.int .i64 (k' : Nat)) (.int .i64 (s.o : Nat)) (.int .i64 (l4 : Nat)))
      clear hHeld
      go_simp
      clear u0 v0 u1 v1 u2 v2 u3 v3 u4 v4
      refine hK'.out _ _ hkn (fun hHeld => ?_)
      clear hK' K' hkn
      try simp only [Act.put, pz0, pz1, pz2]
      have hkp := kp_setP wn (W.heap.size + 1) (.slice (some ⟨tb, 0, none⟩) ts.length c) (.int .i64 (i4 : Nat)) (.int .i64 (k' : Nat)) (.int .i64 (s.o : Nat)) (.int .i64 (l4 : Nat))
      have HQ := hiD (HQ.out.setP (.slice (some ⟨tb, 0, none⟩) ts.length c) (.int .i64 (i4 : Nat)) (.int .i64 (k' : Nat)) (.int .i64 (s.o : Nat)) (.int .i64 (l4 : Nat)))
      have HS := hiD (hkp.arr HS.out (by omega))
      have HV := hiD (HV.out.kp hkp (by omega))
      have HB := hiD (HB.out.trans (hkp.below (B := W.heap.size) (by omega) HB.out.size))
      clear hkp
      generalize (((((wn.setCell ⟨W.heap.size + 1, 0, none⟩ (.slice (some ⟨tb, 0, none⟩) ts.length c)).setCell ⟨W.heap.size + 1, 1, none⟩ (.int .i64 (i4 : Nat))).setCell ⟨W.heap.size + 1, 2, none⟩ (.int .i64 (k' : Nat))).setCell ⟨W.heap.size + 1, 3, none⟩ (.int .i64 (s.o : Nat))).setCell ⟨W.heap.size + 1, 4, none⟩ (.int .i64 (l4 : Nat))) = wb at hHeld HQ HS HB HV ⊢
      refine wpAnyH_ready (rs := [4]) (by kernel_rfl) (by simp) ?_
      refine AllReadyH.cons (o := ⟨none, _, _, _, _, _⟩) rfl (fun K' hK' => ?_) AllReadyH.nil
      obtain ⟨u0, v0, u1, v1⟩ := HS.out.all2
      have hkn := And.intro (hHeld.1.off2 (b := W.heap.size + 1 + 1) (by simp only [ne_eq]; omega) (.string (bstr nm)) (.slice q acc.length cc)) (hHeld.2.off2 (b := W.heap.size + 1 + 1) (by simp only [ne_eq]; omega) (.string (bstr nm)) (.slice q acc.length cc))
      clear hHeld
      go_simp
      clear u0 v0 u1 v1
      refine hK'.out _ _ hkn (fun hHeld => ?_)
      clear hK' K' hkn
      try simp only [Act.put, pz0, pz1, pz2]
      have hkp := kp_setD wb (W.heap.size + 1 + 1) (.string (bstr nm)) (.slice q acc.length cc)
      have HS := hiD (HS.out.setD (.string (bstr nm)) (.slice q acc.length cc))
      have HQ := hiD (hkp.arr HQ.out (by omega))
      have HV := hiD (HV.out.kp hkp (by omega))
      have HB := hiD (HB.out.trans (hkp.below (B := W.heap.size) (by omega) HB.out.size))
      clear hkp
      generalize ((wb.setCell ⟨W.heap.size + 1 + 1, 0, none⟩ (.string (bstr nm))).setCell ⟨W.heap.size + 1 + 1, 1, none⟩ (.slice q acc.length cc)) = wc at hHeld HQ HS HB HV ⊢
      refine wpAnyH_done (by kernel_rfl) ?_ _
      go_wp2_with fail
      clear hHeld
      have c0 := HQ.out.cell 0
      have c1 := HQ.out.cell 1
      have c2 := HQ.out.cell 2
      have c3 := HQ.out.cell 3
      have c4 := HQ.out.cell 4
      have d0 := HS.out.cell 0
      have d1 := HS.out.cell 1
      simp only [List.getElem?_cons_zero, List.getElem?_cons_succ] at c0 c1 c2 c3 c4 d0 d1
      refine bodyPost_ret (v := .tuple #[.agg #[.slice (some ⟨tb, 0, none⟩) ts.length c, .int .i64 (i4 : Nat), .int .i64 (k' : Nat), .int .i64 (s.o : Nat), .int .i64 (l4 : Nat)], .agg #[.string (bstr nm), .slice q acc.length cc]]) ?_ rfl ⟨i4, k', l4, (nm, acc), _, HGF.out, rfl, ⟨_, rfl, HV.out.low (by omega)⟩, HB.out⟩
      simp [results, Tryz.results16, go_sem, c0, c1, c2, c3, c4, d0, d1]
  ·have hk5 : ((k4 : Int) == 0) = false := by
    have : ¬ (k4 : Int) = 0 := by omega
    simpa using this
   have HDE : Hid (k4 = 0 → txt ts i4 = [125]) := fun h => absurd h hk4
   clear hk4
   obtain ⟨p0, z0, p1, z1, p2, z2, p3, z3, p4, z4⟩ := HA.out.all5
   go_upto_region 24 with (fail)
   clear p0 z0 p1 z1 p2 z2 p3 z3 p4 z4
   clear hk5
   have HV := hiD (show VK (W.heap.size + 4) acc wr (.slice q acc.length cc) from HRW.out.rdK)
   have hb7 : Below wr.heap.size wr wr.drew := (Below.refl _ _).drew
   have HA := hiD (HA.out.later hb7)
   have HQ := hiD (HQ.out.later hb7)
   have HS := hiD (HS.out.later hb7)
   have HF := hiD (HF.out.later hb7)
   have HT := hiD (HT.out.later hb7)
   have HV := hiD (HV.out.later hb7)
   have HB := hiD (HB.out.trans (hb7.mono HB.out.size))
   refine wp_region_held_drew (S := fun W' => Arr W' 56 (W.heap.size) [.slice (some ⟨tb, 0, none⟩) ts.length c, .int .i64 (i4 : Nat), .int .i64 (k4 : Nat), .int .i64 (s.o : Nat), .int .i64 (l4 : Nat)] ∧ Arr W' 39 gd [.string (bstr nm), .slice q acc.length cc]) (by kernel_rfl) ⟨HA.out, HF.out⟩ (fun hHeld => ?_)
   try simp only [Act.put]
   clear hb7
   generalize wr.drew = wa at hHeld HA HQ HS HF HT HV HB ⊢
   refine wpAnyH_take (i := 0) (oi := ⟨some 80, _, _, _, _, _⟩) (v := .agg #[.slice (some ⟨tb, 0, none⟩) ts.length c, .int .i64 (i4 : Nat), .int .i64 (k4 : Nat), .int .i64 (s.o : Nat), .int .i64 (l4 : Nat)]) rfl (by kernel_rfl) (by kernel_rfl) (by kernel_rfl) (fun _ _ _ h => h) (.inl ⟨by rfl, fun w' hSw => ?_⟩) hHeld ?_
   focus (obtain ⟨q0, _, q1, _, q2, _, q3, _, q4, _⟩ := hSw.1.all5; clear hHeld; go_simp)
   try simp only [Act.put, pz0, pz1, pz2]
   refine wpAnyH_take (i := 2) (oi := ⟨some 82, _, _, _, _, _⟩) (v := .agg #[.string (bstr nm), .slice q acc.length cc]) rfl (by kernel_rfl) (by kernel_rfl) (by kernel_rfl) (fun _ _ _ h => h) (.inl ⟨by rfl, fun w' hSw => ?_⟩) hHeld ?_
   focus (obtain ⟨q0, _, q1, _⟩ := hSw.2.all2; clear hHeld; go_simp)
   try simp only [Act.put, pz0, pz1, pz2]
   refine wpAnyH_ready (rs := [1]) (by kernel_rfl) (by simp) ?_
   refine AllReadyH.cons (o := ⟨some 81, _, _, _, _, _⟩) rfl (fun K' hK' => ?_) AllReadyH.nil
   refine stepw_call (R := fun v w' => ∃ i9 k9 : Nat, Go1 ts k9 i9 s.o l4 () (st k4 i4 (wantF ts [125] ⟨i4, s.o, l4⟩)) ∧ v = .agg #[.slice (some ⟨tb, 0, none⟩) ts.length c, .int .i64 (i9 : Nat), .int .i64 (k9 : Nat), .int .i64 (s.o : Nat), .int .i64 (l4 : Nat)] ∧ Below wa.heap.size wa w') (by rfl) ?_ ((rmust_any (c := c) (k := k4) (s := ⟨i4, s.o, l4⟩) HO.out.1 HT.out HH4.out HL4.out ⟨#[125]⟩ [125] rfl (by decide)).mono fun r w' ⟨i', k', h1, h2, h3⟩ => ⟨_, h2, i', k', h1, rfl, h3⟩) ?_
   focus go_simp
   rintro v wn ⟨i9, k9, hg9, rfl, bn⟩
   have hkn := And.intro (hHeld.1.later bn) (hHeld.2.later bn)
   clear hHeld
   have HGF : Hid (Go1 ts k9 i9 s.o l4 ((nm, acc) : DefB) (st k s.i (defF ts s))) := dl_end HDL.out HA64.out HDE.out hg9
   clear hg9
   have HQ := hiD (HQ.out.later bn)
   have HS := hiD (HS.out.later bn)
   have HV := hiD (HV.out.later bn)
   have HB := hiD (HB.out.trans (bn.mono HB.out.size))
   clear bn
   refine hK'.out _ _ hkn (fun hHeld => ?_)
   clear hK' K' hkn
   try simp only [Act.put, pz0, pz1, pz2]
   refine wpAnyH_ready (rs := [3]) (by kernel_rfl) (by simp) ?_
   refine AllReadyH.cons (o := ⟨none, _, _, _, _, _⟩) rfl (fun K' hK' => ?_) AllReadyH.nil
   obtain ⟨u0, v0, u1, v1, u2, v2, u3, v3, u4, v4⟩ := HQ.out.all5
   have hkn := And.intro (hHeld.1.off5 (b := W.heap.size + 1) (by simp only [ne_eq]; omega) (.slice (some ⟨tb, 0, none⟩) ts.length c) (.int .i64 (i9 : Nat)) (.int .i64 (k9 : Nat)) (.int .i64 (s.o : Nat)) (.int .i64 (l4 : Nat))) (hHeld.2.off5 (b := W.heap.size + 1) (by simp only [ne_eq]; omega) (.slice (some ⟨tb, 0, none⟩) ts.length c) (.int .i64 (i9 : Nat)) (.int .i64 (k9 : Nat)) (.int .i64 (s.o : Nat)) (.int .i64 (l4 : Nat)))
   clear hHeld
   go_simp
   clear u0 v0 u1 v1 u2 v2 u3 v3 u4 v4
   refine hK'.out _ _ hkn (fun hHeld => ?_)
   clear hK' K' hkn
   try simp only [Act.put, pz0, pz1, pz2]
   have hkp := kp_setP wn (W.heap.size + 1) (.slice (some ⟨tb, 0, none⟩) ts.length c) (.int .i64 (i9 : Nat)) (.int .i64 (k9 : Nat)) (.int .i64 (s.o : Nat)) (.int .i64 (l4 : Nat))
   have HQ := hiD (HQ.out.setP (.slice (some ⟨tb, 0, none⟩) ts.length c) (.int .i64 (i9 : Nat)) (.int .i64 (k9 : Nat)) (.int .i64 (s.o : Nat)) (.int .i64 (l4 : Nat)))
   have HS := hiD (hkp.arr HS.out (by omega))
   have HV := hiD (HV.out.kp hkp (by omega))
   have HB := hiD (HB.out.trans (hkp.below (B := W.heap.size) (by omega) HB.out.size))
   clear hkp
   generalize (((((wn.setCell ⟨W.heap.size + 1, 0, none⟩ (.slice (some ⟨tb, 0, none⟩) ts.length c)).setCell ⟨W.heap.size + 1, 1, none⟩ (.int .i64 (i9 : Nat))).setCell ⟨W.heap.size + 1, 2, none⟩ (.int .i64 (k9 : Nat))).setCell ⟨W.heap.size + 1, 3, none⟩ (.int .i64 (s.o : Nat))).setCell ⟨W.heap.size + 1, 4, none⟩ (.int .i64 (l4 : Nat))) = wb at hHeld HQ HS HB HV ⊢
   refine wpAnyH_ready (rs := [4]) (by kernel_rfl) (by simp) ?_
   refine AllReadyH.cons (o := ⟨none, _, _, _, _, _⟩) rfl (fun K' hK' => ?_) AllReadyH.nil
   obtain ⟨u0, v0, u1, v1⟩ := HS.out.all2
   have hkn := And.intro (hHeld.1.off2 (b := W.heap.size + 1 + 1) (by simp only [ne_eq]; omega) (.string (bstr nm)) (.slice q acc.length cc)) (hHeld.2.off2 (b := W.heap.size + 1 + 1) (by simp only [ne_eq]; omega) (.string (bstr nm)) (.slice q acc.length cc))
   clear hHeld
   go_simp
   clear u0 v0 u1 v1
   refine hK'.out _ _ hkn (fun hHeld => ?_)
   clear hK' K' hkn
   try simp only [Act.put, pz0, pz1, pz2]
   have hkp := kp_setD wb (W.heap.size + 1 + 1) (.string (bstr nm)) (.slice q acc.length cc)
   have HS := hiD (HS.out.setD (.string (bstr nm)) (.slice q acc.length cc))
   have HQ := hiD (hkp.arr HQ.out (by omega))
   have HV := hiD (HV.out.kp hkp (by omega))
   have HB := hiD (HB.out.trans (hkp.below (B := W.heap.size) (by omega) HB.out.size))
   clear hkp
   generalize ((wb.setCell ⟨W.heap.size + 1 + 1, 0, none⟩ (.string (bstr nm))).setCell ⟨W.heap.size + 1 + 1, 1, none⟩ (.slice q acc.length cc)) = wc at hHeld HQ HS HB HV ⊢
   refine wpAnyH_done (by kernel_rfl) ?_ _
   go_wp2_with fail
   clear hHeld
   have c0 := HQ.out.cell 0
   have c1 := HQ.out.cell 1
   have c2 := HQ.out.cell 2
   have c3 := HQ.out.cell 3
   have c4 := HQ.out.cell 4
   have d0 := HS.out.cell 0
   have d1 := HS.out.cell 1
   simp only [List.getElem?_cons_zero, List.getElem?_cons_succ] at c0 c1 c2 c3 c4 d0 d1
   refine bodyPost_ret (v := .tuple #[.agg #[.slice (some ⟨tb, 0, none⟩) ts.length c, .int .i64 (i9 : Nat), .int .i64 (k9 : Nat), .int .i64 (s.o : Nat), .int .i64 (l4 : Nat)], .agg #[.string (bstr nm), .slice q acc.length cc]]) ?_ rfl ⟨i9, k9, l4, (nm, acc), _, HGF.out, rfl, ⟨_, rfl, HV.out.low (by omega)⟩, HB.out⟩
   simp [results, Tryz.results16, go_sem, c0, c1, c2, c3, c4, d0, d1]
end
end Go.Proofs.YtkildckeikedhaaGreatDoor
