/-
  The reference's expr.
-/
import Derived.Test.YtkildckeikedhaaGreatDoorMr11
import Derived.Test.YtkildckeikedhaaGreatDoorMr5
namespace Go.Proofs.YtkildckeikedhaaGreatDoor
open Go.ChangeShapes Go.WideShapes Go.ChangeAt Go.RowKit
set_option linter.unusedVariables false

theorem units_alone {ts : List Tok} {U : PS → PR Ex} {k k1 i1 o l1 : Nat} {s : PS} {x : Ex} (h : Go1 ts k1 i1 o l1 x (st k s.i (U s))) (ho : k1 = 0 → opK (txt ts i1) = 0) : Go1 ts k1 i1 o l1 x (st k s.i (unitsW ts U s)) := by
 by_cases hk : k = 0
 ·rw [st_0 hk] at h ⊢
  obtain ⟨h1, h2, ⟨h3, h4⟩ | ⟨h3, h4⟩⟩ := h
  ·exact ⟨h1, h2, .inl ⟨h3, unitsW_one h4 (ho h3)⟩⟩
  ·refine ⟨h1, h2, .inr ⟨h3, ?_⟩⟩
   unfold unitsW
   rw [h4, PR.then_bad]
 ·rw [st_n hk] at h ⊢
  exact h
def VG (B G : Nat) (e : Ex) (w : World) (v : Value) : Prop := G ≤ w.heap.size ∧ RdE (Bt B G) w e v
theorem VE.vg {B : Nat} {e : Ex} {w : World} {v : Value} (h : VE B e w v) : VG B w.heap.size e w v := ⟨Nat.le_refl _, h⟩
theorem VG.ve {B G : Nat} {e : Ex} {w : World} {v : Value} (h : VG B G e w v) : VE B e w v := RdE.imp (fun b hb => ⟨hb.1, Nat.lt_of_lt_of_le hb.2 h.1⟩) h.2
theorem VG.kp {B G g : Nat} {e : Ex} {w w' : World} {v : Value} (h : VG B G e w v) (hk : Kp g w w') (hg : ¬ (B ≤ g ∧ g < G)) : VG B G e w' v :=
 ⟨Nat.le_trans h.1 hk.2.2.2.1, RdE.keep (fun b hb n => World.cell?_of_block (hk.2.2.2.2 b (Nat.lt_of_lt_of_le hb.2 h.1) (fun e => hg (e ▸ hb)))) h.2⟩
theorem VG.later {B G : Nat} {e : Ex} {w w' : World} {v : Value} (h : VG B G e w v) (hb : Below w.heap.size w w') : VG B G e w' v :=
 ⟨Nat.le_trans h.1 hb.size, RdE.below h.2 hb fun b hb => Nat.lt_of_lt_of_le hb.2 h.1⟩
theorem sign_ne {t : List UInt8} {v : UInt8} (h : t ≠ [v]) : ((bstr t).toList == [v]) = false ∧ ¬ (bstr t).toList = [v] := by
 rw [toList_data, bstr_data]
 exact ⟨beq_eq_false_iff_ne.2 h, h⟩
theorem sign_is {t : List UInt8} {v : UInt8} (h : t = [v]) : (bstr t).toList = [v] := by
 rw [toList_data, bstr_data]
 exact h
theorem sign_cases (t : List UInt8) : (opK t = 0 ∧ t ≠ [43] ∧ t ≠ [38] ∧ t ≠ [45]) ∨ (opK t = 3 ∧ t = [43]) ∨ (opK t = 4 ∧ t = [38]) ∨ (opK t = 5 ∧ t = [45]) := by
 unfold opK
 by_cases h3 : t = [43]
 ·exact .inr (.inl ⟨if_pos h3, h3⟩)
 ·by_cases h4 : t = [38]
  ·exact .inr (.inr (.inl ⟨by rw [if_neg h3, if_pos h4], h4⟩))
  ·by_cases h5 : t = [45]
   ·exact .inr (.inr (.inr ⟨by rw [if_neg h3, if_neg h4, if_pos h5], h5⟩))
   ·exact .inl ⟨by rw [if_neg h3, if_neg h4, if_neg h5], h3, h4, h5⟩
def SL (ts : List Tok) (U : PS → PR Ex) (r : PR Ex) (kk : Int) (sg : List UInt8) (acc : List Ex) (i o k l : Nat) : Prop :=
 (k = 0 ∧ kk = 5 ∧ acc.length = 2 ∧ r = .ok (.mk kk [] [] acc) ⟨i, o, l⟩) ∨ (k = 0 ∧ (kk = 5 → acc.length = 1) ∧ acc.length ≤ i + 1 ∧ ∃ n, ts.length ≤ i + n ∧ r = finU kk (loopW ts U sg n acc ⟨i, o, l⟩)) ∨ (¬ k = 0 ∧ r = .bad k i)
def msr (n pb : Nat) (w : World) : Nat := match w.cell? ⟨pb, 2, none⟩ with
 | some (.int _ x) => if x = 0 then 1 + n - plc pb w else 0
 | _ => 0
theorem units_many {ts : List Tok} {U : PS → PR Ex} {k k1 i1 o l1 : Nat} {s : PS} {x : Ex} (hk1 : k1 = 0) (h : Go1 ts k1 i1 o l1 x (st k s.i (U s))) (ho : ¬ opK (txt ts i1) = 0) : SL ts U (st k s.i (unitsW ts U s)) (opK (txt ts i1)) (txt ts i1) [x] i1 o k1 l1 := by
 subst hk1
 obtain ⟨h1, h2, ⟨_, h4⟩ | ⟨h3, _⟩⟩ := h
 ·by_cases hk : k = 0
  ·rw [st_0 hk] at h4 ⊢
   exact .inr (.inl ⟨rfl, fun _ => by simp, by simp, ts.length, by omega, unitsW_loop h4 ho⟩)
  ·rw [st_n hk] at h4; cases h4
 ·exact absurd rfl h3
theorem sl_end {ts : List Tok} {U : PS → PR Ex} {r : PR Ex} {kk : Int} {sg : List UInt8} {acc : List Ex} {i o k l : Nat} (h : SL ts U r kk sg acc i o k l) (hi : i < ts.length) (hl : Lk k l) (hd : ¬ (k = 0 ∧ txt ts i = sg)) : Go1 ts k i o l (.mk kk [] [] acc) r := by
 refine ⟨hi, hl, ?_⟩
 rcases h with ⟨h1, _, _, h2⟩ | ⟨h1, _, _, n, hn, h2⟩ | ⟨h1, h2⟩
 ·exact .inl ⟨h1, h2⟩
 ·obtain ⟨m, rfl⟩ : ∃ m, n = m + 1 := ⟨n - 1, by omega⟩
  refine .inl ⟨h1, ?_⟩
  rw [h2, loopW_end (fun e => hd ⟨h1, e⟩)]
  rfl
 ·exact .inr ⟨h1, h2⟩
theorem sl_two {ts : List Tok} {U : PS → PR Ex} {r : PR Ex} {kk : Int} {sg : List UInt8} {acc : List Ex} {i o k l : Nat} (h : SL ts U r kk sg acc i o k l) (hi : i < ts.length) (hl : Lk k l) (hk : k = 0) (h5 : kk = 5) (ha : ¬ acc.length < 2) : Go1 ts k i o l (.mk kk [] [] acc) r := by
 refine ⟨hi, hl, ?_⟩
 rcases h with ⟨h1, _, _, h2⟩ | ⟨h1, h3, _⟩ | ⟨h1, h2⟩
 ·exact .inl ⟨h1, h2⟩
 ·exact absurd (by rw [h3 h5]; decide) ha
 ·exact absurd hk h1
theorem sl_more {ts : List Tok} {U : PS → PR Ex} {r : PR Ex} {kk : Int} {sg : List UInt8} {acc : List Ex} {i i5 o k l i2 k2 l2 : Nat} {x : Ex} (hU : Keeps ts U) (h : SL ts U r kk sg acc i o k l) (hk0 : k = 0) (hi5 : i5 = i + 1) (hi : i5 < ts.length) (h5 : kk = 5 → acc.length < 2) (hkk : opK sg = kk) (ht : txt ts i = sg) (hg : Go1 ts k2 i2 o l2 x (U ⟨i5, o, l⟩)) : SL ts U r kk sg (acc ++ [x]) i2 o k2 l2 := by
 subst hi5
 rcases h with ⟨_, h1, h2, _⟩ | ⟨_, h1', ha, n, hn, h2⟩ | ⟨h1, _⟩
 ·have := h5 h1; omega
 ·obtain ⟨m, rfl⟩ : ∃ m, n = m + 1 := ⟨n - 1, by omega⟩
  obtain ⟨_, _, ⟨hk, hr⟩ | ⟨hk, hr⟩⟩ := hg
  ·obtain ⟨_, _, hle, _⟩ := hU _ _ _ hi hr
   have hle : i + 1 ≤ i2 := hle
   by_cases h6 : kk = 5
   ·refine .inl ⟨hk, h6, by simp [h1' h6], ?_⟩
    rw [h2, loopW_two ht hr (hkk.trans h6)]
    rfl
   ·refine .inr (.inl ⟨hk, fun h => absurd h h6, by simp; omega, m, by omega, ?_⟩)
    rw [h2, loopW_more ht hr (by rw [hkk]; exact h6)]
  ·refine .inr (.inr ⟨hk, ?_⟩)
   rw [h2, loopW_bad ht hr]
   rfl
 ·exact absurd hk0 h1
theorem sl_len {ts : List Tok} {U : PS → PR Ex} {r : PR Ex} {kk : Int} {sg : List UInt8} {acc : List Ex} {i o k l : Nat} (h : SL ts U r kk sg acc i o k l) (hk : k = 0) (hi : i < ts.length) (hn : ts.length ≤ 100000) : acc.length + 1 ≤ 200000 := by
 rcases h with ⟨_, _, h, _⟩ | ⟨_, _, h, _⟩ | ⟨h, _⟩
 ·omega
 ·omega
 ·exact absurd hk h
theorem msr_at {n pb i k : Nat} {w : World} {t : TypeId} {v0 v3 v4 : Value} (h : Arr w t pb [v0, .int .i64 (i : Nat), .int .i64 (k : Nat), v3, v4]) : msr n pb w = if k = 0 then 1 + n - i else 0 := by
 have h1 := h.cell 1
 have h2 := h.cell 2
 simp only [List.getElem?_cons_zero, List.getElem?_cons_succ] at h1 h2
 unfold msr Proofs.YtkildckeikedhaaGreatDoor.plc
 rw [h1, h2]
 simp
theorem msr_less {ts : List Tok} {U : PS → PR Ex} {k4 i4 i5 k6 i6 o l4 l6 : Nat} {x : Ex} (hU : Keeps ts U) (hk : k4 = 0) (h5 : i5 = i4 + 1) (hi : i5 < ts.length) (hg : Go1 ts k6 i6 o l6 x (U ⟨i5, o, l4⟩)) : (if k6 = 0 then 1 + ts.length - i6 else 0) < (if k4 = 0 then 1 + ts.length - i4 else 0) := by
 rw [if_pos hk]
 obtain ⟨_, _, ⟨hk6, hr⟩ | ⟨hk6, _⟩⟩ := hg
 ·obtain ⟨_, _, hle, _⟩ := hU _ _ _ hi hr
  have hle : i5 ≤ i6 := hle
  rw [if_pos hk6]; omega
 ·rw [if_neg hk6]; omega
theorem PRow.kp {α : Type} {K : Kd α} {base g : Nat} {X : Nat → Prop} {w w' : World} {v : Value} {xs : List α} (h : PRow K base X w v xs) (hk : Kp g w w') (hg : g < base ∨ X g) : PRow K base X w' v xs :=
 h.turn hk.2.2.2.1 fun b hb hl hx => hk.2.2.2.2 b hl (fun e => by subst e; rcases hg with hg | hg; omega; exact hx hg)
section
variable {W : World} {tb c k : Nat} {ts : List Tok} {s : PS}
set_option maxRecDepth 100000 in
set_option maxHeartbeats 8000000 in
theorem rexpr_any {U : PS → PR Ex} (ho : OkB ts) (hkU : Keeps ts U) (h : RT W tb ts) (hi : s.i < ts.length) (hl : Lk k s.l) (hl2 : s.l ≤ 32) (hU : ∀ (W' : World) (s' : PS) (k' : Nat), RT W' tb ts → s'.i < ts.length → Lk k' s'.l → s'.l ≤ 32 → s'.o = s.o → Calls Tryz.prog 54 #[.agg #[.slice (some ⟨tb, 0, none⟩) ts.length c, .int .i64 (s'.i : Nat), .int .i64 (k' : Nat), .int .i64 (s'.o : Nat), .int .i64 (s'.l : Nat)]] W' (GE tb c ts s'.o (st k' s'.i (U s')) W')) :
  Calls Tryz.prog 34 #[.agg #[.slice (some ⟨tb, 0, none⟩) ts.length c, .int .i64 (s.i : Nat), .int .i64 (k : Nat), .int .i64 (s.o : Nat), .int .i64 (s.l : Nat)]] W (GE tb c ts s.o (st k s.i (unitsW ts U s)) W) := by
 have HZ : Hid (tb < W.heap.size) := h.1
 have hb3 : Below W.heap.size W (((W.alloc (.cells #[.slice (some ⟨tb, 0, none⟩) ts.length c, .int .i64 (s.i : Nat), .int .i64 (k : Nat), .int .i64 (s.o : Nat), .int .i64 (s.l : Nat)] 56)).alloc (.cells #[.slice none 0 0, .int .i64 0, .int .i64 0, .int .i64 0, .int .i64 0] 56)).alloc (.cells #[.int .i64 0, .string ⟨#[]⟩, .string ⟨#[]⟩, .slice none 0 0] 46)) := (((Below.refl _ _).alloc (Nat.le_refl _) _).alloc (by simp) _).alloc (by simp; omega) _
 have HB := hiD hb3
 have HA : Hid (Arr (((W.alloc (.cells #[.slice (some ⟨tb, 0, none⟩) ts.length c, .int .i64 (s.i : Nat), .int .i64 (k : Nat), .int .i64 (s.o : Nat), .int .i64 (s.l : Nat)] 56)).alloc (.cells #[.slice none 0 0, .int .i64 0, .int .i64 0, .int .i64 0, .int .i64 0] 56)).alloc (.cells #[.int .i64 0, .string ⟨#[]⟩, .string ⟨#[]⟩, .slice none 0 0] 46)) 56 (W.heap.size) [.slice (some ⟨tb, 0, none⟩) ts.length c, .int .i64 (s.i : Nat), .int .i64 (k : Nat), .int .i64 (s.o : Nat), .int .i64 (s.l : Nat)]) := ((Arr.new' _ _ _ _ rfl).alloc _).alloc _
 have HQ : Hid (Arr (((W.alloc (.cells #[.slice (some ⟨tb, 0, none⟩) ts.length c, .int .i64 (s.i : Nat), .int .i64 (k : Nat), .int .i64 (s.o : Nat), .int .i64 (s.l : Nat)] 56)).alloc (.cells #[.slice none 0 0, .int .i64 0, .int .i64 0, .int .i64 0, .int .i64 0] 56)).alloc (.cells #[.int .i64 0, .string ⟨#[]⟩, .string ⟨#[]⟩, .slice none 0 0] 46)) 56 (W.heap.size + 1) [.slice none 0 0, .int .i64 0, .int .i64 0, .int .i64 0, .int .i64 0]) := (Arr.new2 _ _ _ _ _ rfl).alloc _
 have HR : Hid (Arr (((W.alloc (.cells #[.slice (some ⟨tb, 0, none⟩) ts.length c, .int .i64 (s.i : Nat), .int .i64 (k : Nat), .int .i64 (s.o : Nat), .int .i64 (s.l : Nat)] 56)).alloc (.cells #[.slice none 0 0, .int .i64 0, .int .i64 0, .int .i64 0, .int .i64 0] 56)).alloc (.cells #[.int .i64 0, .string ⟨#[]⟩, .string ⟨#[]⟩, .slice none 0 0] 46)) 46 (W.heap.size + 1 + 1) [.int .i64 0, .string ⟨#[]⟩, .string ⟨#[]⟩, .slice none 0 0]) := Arr.new3 _ _ _ _ _ _ rfl
 have HT : Hid (RT (((W.alloc (.cells #[.slice (some ⟨tb, 0, none⟩) ts.length c, .int .i64 (s.i : Nat), .int .i64 (k : Nat), .int .i64 (s.o : Nat), .int .i64 (s.l : Nat)] 56)).alloc (.cells #[.slice none 0 0, .int .i64 0, .int .i64 0, .int .i64 0, .int .i64 0] 56)).alloc (.cells #[.int .i64 0, .string ⟨#[]⟩, .string ⟨#[]⟩, .slice none 0 0] 46)) tb ts) := ⟨Nat.lt_of_lt_of_le h.1 hb3.size, h.2.1, fun i hi j hj => (hb3.cell (p := ⟨tb, i * 3 + j, none⟩) h.1).trans (h.2.2 i hi j hj)⟩
 have HO := hiD ho
 have HKU := hiD hkU
 have HUC := hiD (hU (((W.alloc (.cells #[.slice (some ⟨tb, 0, none⟩) ts.length c, .int .i64 (s.i : Nat), .int .i64 (k : Nat), .int .i64 (s.o : Nat), .int .i64 (s.l : Nat)] 56)).alloc (.cells #[.slice none 0 0, .int .i64 0, .int .i64 0, .int .i64 0, .int .i64 0] 56)).alloc (.cells #[.int .i64 0, .string ⟨#[]⟩, .string ⟨#[]⟩, .slice none 0 0] 46)) s k HT.out hi hl hl2 rfl)
 have HU := hiD hU
 have HH := hiD hi
 have HL := hiD hl
 have HL32 := hiD hl2
 have HTS : Hid (ts.length ≤ 100000) := h.2.1
 clear hb3 h hi hl ho hl2 hU hkU
 go_enter Tryz.func34, Tryz.ntmps34
 go_upto_region 1 with (fail)
 generalize (((W.alloc (.cells #[.slice (some ⟨tb, 0, none⟩) ts.length c, .int .i64 (s.i : Nat), .int .i64 (k : Nat), .int .i64 (s.o : Nat), .int .i64 (s.l : Nat)] 56)).alloc (.cells #[.slice none 0 0, .int .i64 0, .int .i64 0, .int .i64 0, .int .i64 0] 56)).alloc (.cells #[.int .i64 0, .string ⟨#[]⟩, .string ⟨#[]⟩, .slice none 0 0] 46)) = w1 at HA HQ HR HT HB HUC ⊢
 obtain ⟨p0, z0, p1, z1, p2, z2, p3, z3, p4, z4⟩ := HA.out.all5
 go_wp2_with fail
 refine HUC.out.mono ?_
 rintro r w2 ⟨i1, k1, l1, x1, v1, hg1, rfl, hv1, b1⟩
 have HG1 := hiD hg1
 have HLE : Hid (W.heap.size + 3 ≤ w1.heap.size) := HR.out.lt
 clear p0 z0 p1 z1 p2 z2 p3 z3 p4 z4
 have HQ := hiD (HQ.out.later b1)
 have HR := hiD (HR.out.later b1)
 have HT := hiD (HT.out.later b1)
 have HA := hiD (HA.out.later b1)
 have HB := hiD (HB.out.trans (b1.mono HB.out.size))
 obtain ⟨mk, mv, mn, ms⟩ := x1
 have HVE : Hid (VE (W.heap.size + 3) (.mk mk mv mn ms) w2 v1) := VE.low hv1 HLE.out
 obtain ⟨q4, cq, rfl⟩ := VE.form hv1
 have hgl : W.heap.size + 3 ≤ w2.heap.size := Nat.le_trans HLE.out b1.size
 have HVE := hiD HVE.out.vg
 have hb3 : Below w2.heap.size w2 (w2.alloc (.cells #[.int .i64 0, .string ⟨#[]⟩, .string ⟨#[]⟩, .slice none 0 0] 46)) := (Below.refl _ _).alloc (Nat.le_refl _) _
 have HE : Hid (Arr (w2.alloc (.cells #[.int .i64 0, .string ⟨#[]⟩, .string ⟨#[]⟩, .slice none 0 0] 46)) 46 w2.heap.size [.int .i64 0, .string ⟨#[]⟩, .string ⟨#[]⟩, .slice none 0 0]) := Arr.new' _ _ _ _ rfl
 have HQ := hiD (HQ.out.later hb3)
 have HR := hiD (HR.out.later hb3)
 have HT := hiD (HT.out.later hb3)
 have HA := hiD (HA.out.later hb3)
 have HVE := hiD (HVE.out.later hb3)
 have HB := hiD (HB.out.trans (hb3.mono HB.out.size))
 have hgn1 : ¬ w2.heap.size = W.heap.size := by omega
 have hgn2 : ¬ W.heap.size = w2.heap.size := by omega
 clear hg1 hv1 HUC hb3 b1
 obtain ⟨p0, z0, p1, z1, p2, z2, p3, z3, p4, z4⟩ := HA.out.all5
 obtain ⟨ea0, eb0, ea1, eb1, ea2, eb2, ea3, eb3⟩ := HE.out.all4
 go_upto_region 3 with (fail)
 clear p0 z0 p1 z1 p2 z2 p3 z3 p4 z4
 clear ea0 eb0 ea1 eb1 ea2 eb2 ea3 eb3
 obtain ⟨g, hg⟩ : ∃ g, g = w2.heap.size := ⟨_, rfl⟩
 rw [← hg] at HE HVE hgl hgn1 hgn2 ⊢
 clear hg
 generalize w2.alloc (.cells #[.int .i64 0, .string ⟨#[]⟩, .string ⟨#[]⟩, .slice none 0 0] 46) = w3 at HA HQ HR HT HE HVE HB ⊢
 have hkp := kp_setP w3 (W.heap.size) (.slice (some ⟨tb, 0, none⟩) ts.length c) (.int .i64 (i1 : Nat)) (.int .i64 (k1 : Nat)) (.int .i64 (s.o : Nat)) (.int .i64 (l1 : Nat))
 have HA := hiD (HA.out.setP (.slice (some ⟨tb, 0, none⟩) ts.length c) (.int .i64 (i1 : Nat)) (.int .i64 (k1 : Nat)) (.int .i64 (s.o : Nat)) (.int .i64 (l1 : Nat)))
 have HQ := hiD (hkp.arr HQ.out (by omega))
 have HR := hiD (hkp.arr HR.out (by omega))
 have HT := hiD (HT.out.kp hkp (by first | omega | (have := HZ.out; omega)))
 have HE := hiD (hkp.arr HE.out (by omega))
 have HVE := hiD (HVE.out.kp hkp (by first | omega | (have := HZ.out; omega)))
 have HB := hiD (HB.out.trans (hkp.below (B := W.heap.size) (Nat.le_refl _) HB.out.size))
 clear hkp
 generalize (((((w3.setCell ⟨W.heap.size, 0, none⟩ (.slice (some ⟨tb, 0, none⟩) ts.length c)).setCell ⟨W.heap.size, 1, none⟩ (.int .i64 (i1 : Nat))).setCell ⟨W.heap.size, 2, none⟩ (.int .i64 (k1 : Nat))).setCell ⟨W.heap.size, 3, none⟩ (.int .i64 (s.o : Nat))).setCell ⟨W.heap.size, 4, none⟩ (.int .i64 (l1 : Nat))) = w4 at HA HQ HR HT HE HVE HB ⊢
 have hkp := kp_set4 w4 (g) (.int .i64 mk) (.string (bstr mv)) (.string (bstr mn)) (.slice q4 ms.length cq)
 have HE := hiD (HE.out.set4 (.int .i64 mk) (.string (bstr mv)) (.string (bstr mn)) (.slice q4 ms.length cq))
 have HA := hiD (hkp.arr HA.out (by omega))
 have HQ := hiD (hkp.arr HQ.out (by omega))
 have HR := hiD (hkp.arr HR.out (by omega))
 have HT := hiD (HT.out.kp hkp (by first | omega | (have := HZ.out; omega)))
 have HVE := hiD (HVE.out.kp hkp (by first | omega | (have := HZ.out; omega)))
 have HB := hiD (HB.out.trans (hkp.below (B := W.heap.size) (by omega) HB.out.size))
 clear hkp
 generalize ((((w4.setCell ⟨g, 0, none⟩ (.int .i64 mk)).setCell ⟨g, 1, none⟩ (.string (bstr mv))).setCell ⟨g, 2, none⟩ (.string (bstr mn))).setCell ⟨g, 3, none⟩ (.slice q4 ms.length cq)) = w5 at HE HA HQ HR HT HVE HB ⊢
 clear hgn1 hgn2
 by_cases hk1 : k1 = 0
 ·have hk5 : ((k1 : Int) == 0) = true := by simp [hk1]
  have HK1 := hiD hk1
  have hz0 : (0 : Int) ≤ i1 := by omega
  have hz2 : (i1 : Int) < ts.length := by have := HG1.out.1; omega
  have t1 : w5.cell? ⟨tb, i1 * 3 + 1, none⟩ = some (.string (bstr (txt ts i1))) := HT.out.2.2 i1 HG1.out.1 1 (by decide)
  obtain ⟨tx, htx⟩ : ∃ x, x = bstr (txt ts i1) := ⟨_, rfl⟩
  have HTX := hiD htx
  rw [← htx] at t1
  clear htx hk1
  obtain ⟨p0, z0, p1, z1, p2, z2, p3, z3, p4, z4⟩ := HA.out.all5
  go_upto_region 5 with (fail)
  clear t1
  clear p0 z0 p1 z1 p2 z2 p3 z3 p4 z4
  clear hz0 hz2 hk5
  rcases sign_cases (txt ts i1) with ⟨h0, n3, n4, n5⟩ | ⟨h3, e3⟩ | ⟨h4, e4⟩ | ⟨h5, e5⟩
  ·obtain ⟨e43, p43⟩ : (tx.toList == [43]) = false ∧ ¬ tx.toList = [43] := by rw [HTX.out]; exact sign_ne n3
   obtain ⟨e38, p38⟩ : (tx.toList == [38]) = false ∧ ¬ tx.toList = [38] := by rw [HTX.out]; exact sign_ne n4
   obtain ⟨e45, p45⟩ : (tx.toList == [45]) = false ∧ ¬ tx.toList = [45] := by rw [HTX.out]; exact sign_ne n5
   have HN := hiD h0
   clear h0 n3 n4 n5
   have HGF : Hid (Go1 ts k1 i1 s.o l1 (.mk mk mv mn ms) (st k s.i (unitsW ts U s))) := units_alone HG1.out (fun _ => HN.out)
   clear HG1
   obtain ⟨p0, z0, p1, z1, p2, z2, p3, z3, p4, z4⟩ := HA.out.all5
   obtain ⟨ea0, eb0, ea1, eb1, ea2, eb2, ea3, eb3⟩ := HE.out.all4
   go_upto_region 6 with (fail)
   clear p0 z0 p1 z1 p2 z2 p3 z3 p4 z4
   clear ea0 eb0 ea1 eb1 ea2 eb2 ea3 eb3
   have hb7 : Below w5.heap.size w5 w5.drew := (Below.refl _ _).drew
   have HA := hiD (HA.out.later hb7)
   have HQ := hiD (HQ.out.later hb7)
   have HR := hiD (HR.out.later hb7)
   have HE := hiD (HE.out.later hb7)
   have HB := hiD (HB.out.trans (hb7.mono HB.out.size))
   have HVE := hiD (HVE.out.later hb7)
   refine wp_region_held_drew (S := fun W' => Arr W' 56 (W.heap.size) [.slice (some ⟨tb, 0, none⟩) ts.length c, .int .i64 (i1 : Nat), .int .i64 (k1 : Nat), .int .i64 (s.o : Nat), .int .i64 (l1 : Nat)] ∧ Arr W' 46 (g) [.int .i64 mk, .string (bstr mv), .string (bstr mn), .slice q4 ms.length cq]) (by kernel_rfl) ⟨HA.out, HE.out⟩ (fun hHeld => ?_)
   try simp only [Act.put]
   clear hb7
   generalize w5.drew = wa at hHeld HA HQ HR HE HB HVE ⊢
   refine wpAnyH_take (i := 0) (oi := ⟨some 33, _, _, _, _, _⟩) (v := .agg #[.slice (some ⟨tb, 0, none⟩) ts.length c, .int .i64 (i1 : Nat), .int .i64 (k1 : Nat), .int .i64 (s.o : Nat), .int .i64 (l1 : Nat)]) rfl (by kernel_rfl) (by kernel_rfl) (by kernel_rfl) (fun _ _ _ h => h) (.inl ⟨by rfl, fun w' hSw => ?_⟩) hHeld ?_
   focus (obtain ⟨q0, _, q1, _, q2, _, q3, _, q4, _⟩ := hSw.1.all5; clear hHeld; go_simp)
   try simp only [Act.put, pz0, pz1, pz2]
   refine wpAnyH_take (i := 1) (oi := ⟨some 34, _, _, _, _, _⟩) (v := .agg #[.int .i64 mk, .string (bstr mv), .string (bstr mn), .slice q4 ms.length cq]) rfl (by kernel_rfl) (by kernel_rfl) (by kernel_rfl) (fun _ _ _ h => h) (.inl ⟨by rfl, fun w' hSw => ?_⟩) hHeld ?_
   focus (obtain ⟨q0, _, q1, _, q2, _, q3, _⟩ := hSw.2.all4; clear hHeld; go_simp)
   try simp only [Act.put, pz0, pz1, pz2]
   refine wpAnyH_ready (rs := [2]) (by kernel_rfl) (by simp) ?_
   refine AllReadyH.cons (o := ⟨none, _, _, _, _, _⟩) rfl (fun K' hK' => ?_) AllReadyH.nil
   obtain ⟨u0, v0, u1, v1, u2, v2, u3, v3, u4, v4⟩ := HQ.out.all5
   have hkn := And.intro (hHeld.1.off5 (b := W.heap.size + 1) (by simp only [ne_eq]; omega) (.slice (some ⟨tb, 0, none⟩) ts.length c) (.int .i64 (i1 : Nat)) (.int .i64 (k1 : Nat)) (.int .i64 (s.o : Nat)) (.int .i64 (l1 : Nat))) (hHeld.2.off5 (b := W.heap.size + 1) (by simp only [ne_eq]; omega) (.slice (some ⟨tb, 0, none⟩) ts.length c) (.int .i64 (i1 : Nat)) (.int .i64 (k1 : Nat)) (.int .i64 (s.o : Nat)) (.int .i64 (l1 : Nat)))
   clear hHeld
   go_simp
   clear u0 v0 u1 v1 u2 v2 u3 v3 u4 v4
   refine hK'.out _ _ hkn (fun hHeld => ?_)
   clear hK' K' hkn
   try simp only [Act.put, pz0, pz1, pz2]
   have hkp := kp_setP wa (W.heap.size + 1) (.slice (some ⟨tb, 0, none⟩) ts.length c) (.int .i64 (i1 : Nat)) (.int .i64 (k1 : Nat)) (.int .i64 (s.o : Nat)) (.int .i64 (l1 : Nat))
   have HQ := hiD (HQ.out.setP (.slice (some ⟨tb, 0, none⟩) ts.length c) (.int .i64 (i1 : Nat)) (.int .i64 (k1 : Nat)) (.int .i64 (s.o : Nat)) (.int .i64 (l1 : Nat)))
   have HR := hiD (hkp.arr HR.out (by omega))
   have HVE := hiD (HVE.out.kp hkp (by omega))
   have HB := hiD (HB.out.trans (hkp.below (B := W.heap.size) (by omega) HB.out.size))
   clear hkp
   generalize (((((wa.setCell ⟨W.heap.size + 1, 0, none⟩ (.slice (some ⟨tb, 0, none⟩) ts.length c)).setCell ⟨W.heap.size + 1, 1, none⟩ (.int .i64 (i1 : Nat))).setCell ⟨W.heap.size + 1, 2, none⟩ (.int .i64 (k1 : Nat))).setCell ⟨W.heap.size + 1, 3, none⟩ (.int .i64 (s.o : Nat))).setCell ⟨W.heap.size + 1, 4, none⟩ (.int .i64 (l1 : Nat))) = wb at hHeld HQ HR HB HVE ⊢
   refine wpAnyH_ready (rs := [3]) (by kernel_rfl) (by simp) ?_
   refine AllReadyH.cons (o := ⟨none, _, _, _, _, _⟩) rfl (fun K' hK' => ?_) AllReadyH.nil
   obtain ⟨u0, v0, u1, v1, u2, v2, u3, v3⟩ := HR.out.all4
   have hkn := And.intro (hHeld.1.off4 (b := W.heap.size + 1 + 1) (by simp only [ne_eq]; omega) (.int .i64 mk) (.string (bstr mv)) (.string (bstr mn)) (.slice q4 ms.length cq)) (hHeld.2.off4 (b := W.heap.size + 1 + 1) (by simp only [ne_eq]; omega) (.int .i64 mk) (.string (bstr mv)) (.string (bstr mn)) (.slice q4 ms.length cq))
   clear hHeld
   go_simp
   clear u0 v0 u1 v1 u2 v2 u3 v3
   refine hK'.out _ _ hkn (fun hHeld => ?_)
   clear hK' K' hkn
   try simp only [Act.put, pz0, pz1, pz2]
   have hkp := kp_set4 wb (W.heap.size + 1 + 1) (.int .i64 mk) (.string (bstr mv)) (.string (bstr mn)) (.slice q4 ms.length cq)
   have HR := hiD (HR.out.set4 (.int .i64 mk) (.string (bstr mv)) (.string (bstr mn)) (.slice q4 ms.length cq))
   have HQ := hiD (hkp.arr HQ.out (by omega))
   have HVE := hiD (HVE.out.kp hkp (by omega))
   have HB := hiD (HB.out.trans (hkp.below (B := W.heap.size) (by omega) HB.out.size))
   clear hkp
   generalize ((((wb.setCell ⟨W.heap.size + 1 + 1, 0, none⟩ (.int .i64 mk)).setCell ⟨W.heap.size + 1 + 1, 1, none⟩ (.string (bstr mv))).setCell ⟨W.heap.size + 1 + 1, 2, none⟩ (.string (bstr mn))).setCell ⟨W.heap.size + 1 + 1, 3, none⟩ (.slice q4 ms.length cq)) = wc at hHeld HQ HR HB HVE ⊢
   refine wpAnyH_done (by kernel_rfl) ?_ _
   go_wp2_with fail
   clear hHeld
   have c0 := HQ.out.cell 0
   have c1 := HQ.out.cell 1
   have c2 := HQ.out.cell 2
   have c3 := HQ.out.cell 3
   have c4 := HQ.out.cell 4
   have d0 := HR.out.cell 0
   have d1 := HR.out.cell 1
   have d2 := HR.out.cell 2
   have d3 := HR.out.cell 3
   simp only [List.getElem?_cons_zero, List.getElem?_cons_succ] at c0 c1 c2 c3 c4 d0 d1 d2 d3
   refine bodyPost_ret (v := .tuple #[.agg #[.slice (some ⟨tb, 0, none⟩) ts.length c, .int .i64 (i1 : Nat), .int .i64 (k1 : Nat), .int .i64 (s.o : Nat), .int .i64 (l1 : Nat)], .agg #[.int .i64 mk, .string (bstr mv), .string (bstr mn), .slice q4 ms.length cq]]) ?_ rfl ⟨i1, k1, l1, _, _, HGF.out, rfl, HVE.out.ve.low (by omega), HB.out⟩
   simp [results, Tryz.results34, go_sem, c0, c1, c2, c3, c4, d0, d1, d2, d3]
  ·have e43 : tx.toList = [43] := by rw [HTX.out]; exact sign_is e3
   have HK := hiD h3
   have HSG := hiD e3
   clear h3 e3
   obtain ⟨p0, z0, p1, z1, p2, z2, p3, z3, p4, z4⟩ := HA.out.all5
   obtain ⟨ea0, eb0, ea1, eb1, ea2, eb2, ea3, eb3⟩ := HE.out.all4
   go_upto_region 8 with (fail)
   clear p0 z0 p1 z1 p2 z2 p3 z3 p4 z4
   clear ea0 eb0 ea1 eb1 ea2 eb2 ea3 eb3
   have hb7 : Below w5.heap.size w5 ((w5.alloc (.cells #[.int .i64 mk, .string (bstr mv), .string (bstr mn), .slice q4 ms.length cq] 46)).alloc (.cells #[.int .i64 3, .string ⟨#[]⟩, .string ⟨#[]⟩, .slice (some ⟨w5.heap.size, 0, none⟩) 1 1] 46)) := ((Below.refl _ _).alloc (Nat.le_refl _) _).alloc (by simp) _
   have hb8 : Below (w5.alloc (.cells #[.int .i64 mk, .string (bstr mv), .string (bstr mn), .slice q4 ms.length cq] 46)).heap.size (w5.alloc (.cells #[.int .i64 mk, .string (bstr mv), .string (bstr mn), .slice q4 ms.length cq] 46)) ((w5.alloc (.cells #[.int .i64 mk, .string (bstr mv), .string (bstr mn), .slice q4 ms.length cq] 46)).alloc (.cells #[.int .i64 3, .string ⟨#[]⟩, .string ⟨#[]⟩, .slice (some ⟨w5.heap.size, 0, none⟩) 1 1] 46)) := (Below.refl _ _).alloc (Nat.le_refl _) _
   have hlo : W.heap.size + 3 ≤ w5.heap.size := Nat.le_trans hgl HVE.out.1
   have h1 := PRow.lit (K := kdEx) (base := W.heap.size + 3) (X := fun _ => False) (w := w5) (x := .mk mk mv mn ms) (cs := [.int .i64 mk, .string (bstr mv), .string (bstr mn), .slice q4 ms.length cq]) hlo (fun b h => h.elim) ⟨_, _, _, _, rfl, RdE.imp (fun b hb => ⟨hb.1, hb.2, fun h => h⟩) HVE.out.ve⟩
   have HRW : Hid (PRow kdEx (W.heap.size + 3) (fun b => b = w5.heap.size + 1) ((w5.alloc (.cells #[.int .i64 mk, .string (bstr mv), .string (bstr mn), .slice q4 ms.length cq] 46)).alloc (.cells #[.int .i64 3, .string ⟨#[]⟩, .string ⟨#[]⟩, .slice (some ⟨w5.heap.size, 0, none⟩) 1 1] 46)) (.slice (some ⟨w5.heap.size, 0, none⟩) 1 1) [.mk mk mv mn ms]) := (h1.wk (Y := fun b => b = w5.heap.size + 1) (fun b _ h e => by subst e; simp at h)).later hb8
   have HF : Hid (Arr ((w5.alloc (.cells #[.int .i64 mk, .string (bstr mv), .string (bstr mn), .slice q4 ms.length cq] 46)).alloc (.cells #[.int .i64 3, .string ⟨#[]⟩, .string ⟨#[]⟩, .slice (some ⟨w5.heap.size, 0, none⟩) 1 1] 46)) 46 (w5.heap.size + 1) [.int .i64 3, .string ⟨#[]⟩, .string ⟨#[]⟩, .slice (some ⟨w5.heap.size, 0, none⟩) 1 1]) := by
    have h := Arr.new' (w5.alloc (.cells #[.int .i64 mk, .string (bstr mv), .string (bstr mn), .slice q4 ms.length cq] 46)) 46 #[.int .i64 3, .string ⟨#[]⟩, .string ⟨#[]⟩, .slice (some ⟨w5.heap.size, 0, none⟩) 1 1] [.int .i64 3, .string ⟨#[]⟩, .string ⟨#[]⟩, .slice (some ⟨w5.heap.size, 0, none⟩) 1 1] rfl
    rw [show (w5.alloc (.cells #[.int .i64 mk, .string (bstr mv), .string (bstr mn), .slice q4 ms.length cq] 46)).heap.size = w5.heap.size + 1 from by simp] at h
    exact h
   have HA := hiD (HA.out.later hb7)
   have HQ := hiD (HQ.out.later hb7)
   have HR := hiD (HR.out.later hb7)
   have HT := hiD (HT.out.later hb7)
   have HB := hiD (HB.out.trans (hb7.mono HB.out.size))
   clear hb7 hb8 h1 HE HVE
   obtain ⟨gk, hgk⟩ : ∃ x, x = w5.heap.size := ⟨_, rfl⟩
   rw [← hgk] at HRW HF hlo HA HQ HR HT HB ⊢
   obtain ⟨ge, hge⟩ : ∃ x, x = gk + 1 := ⟨_, rfl⟩
   rw [← hge] at HRW HF ⊢
   have hle : W.heap.size + 3 ≤ ge := by omega
   clear hgk hge hlo
   generalize ((w5.alloc (.cells #[.int .i64 mk, .string (bstr mv), .string (bstr mn), .slice q4 ms.length cq] 46)).alloc (.cells #[.int .i64 3, .string ⟨#[]⟩, .string ⟨#[]⟩, .slice (some ⟨gk, 0, none⟩) 1 1] 46)) = w6 at HA HQ HR HT HB HRW HF ⊢
   obtain ⟨ea0, eb0, ea1, eb1, ea2, eb2, ea3, eb3⟩ := HF.out.all4
   go_wp2_with fail
   clear ea0 eb0 ea1 eb1 ea2 eb2 ea3 eb3
   obtain ⟨w7, hw7⟩ : ∃ x, x = w6 := ⟨_, rfl⟩
   subst hw7
   obtain ⟨kk, hkk⟩ : ∃ x : Int, x = 3 := ⟨_, rfl⟩
   have HKK := hiD hkk
   rw [← hkk] at HF HK
   clear hkk
   have HSL : Hid (SL ts U (st k s.i (unitsW ts U s)) kk (txt ts i1) [.mk mk mv mn ms] i1 s.o k1 l1) := by
    have h := units_many HK1.out HG1.out (by rw [HK.out, HKK.out]; decide)
    rw [HK.out] at h
    exact h
   have HH1 := hiD HG1.out.1
   have HL1 := hiD HG1.out.2.1
   clear HG1 e43
   go_loopw [7] (fun _ wr => ∃ (acc : List Ex) (i4 k4 l4 : Nat) (q : Option Addr) (cc : Nat), Hid (PRow kdEx (W.heap.size + 3) (fun b => b = ge) wr (.slice q acc.length cc) acc) ∧ Hid (Arr wr 46 ge [.int .i64 kk, .string ⟨#[]⟩, .string ⟨#[]⟩, .slice q acc.length cc]) ∧ Hid (Arr wr 56 W.heap.size [.slice (some ⟨tb, 0, none⟩) ts.length c, .int .i64 (i4 : Nat), .int .i64 (k4 : Nat), .int .i64 (s.o : Nat), .int .i64 (l4 : Nat)]) ∧ Hid (Arr wr 56 (W.heap.size + 1) [.slice none 0 0, .int .i64 0, .int .i64 0, .int .i64 0, .int .i64 0]) ∧ Hid (Arr wr 46 (W.heap.size + 1 + 1) [.int .i64 0, .string ⟨#[]⟩, .string ⟨#[]⟩, .slice none 0 0]) ∧ Hid (RT wr tb ts) ∧ Hid (Below W.heap.size W wr) ∧ Hid (i4 < ts.length) ∧ Hid (Lk k4 l4) ∧ Hid (SL ts U (st k s.i (unitsW ts U s)) kk (txt ts i1) acc i4 s.o k4 l4)) (fun _ wr => msr ts.length W.heap.size wr)
   case atStart => exact ⟨_, i1, k1, l1, _, 1, HRW.out, HF.out, HA.out, HQ.out, HR.out, HT.out, HB.out, HH1.out, HL1.out, HSL.out⟩
   case round =>
    obtain ⟨acc, i4, k4, l4, q, cc, HRW, HF, HA, HQ, HR, HT, HB, HH4, HL4, HSL⟩ := hrel
    have HM0 : Hid (msr ts.length W.heap.size wr = if k4 = 0 then 1 + ts.length - i4 else 0) := msr_at HA.out
    have HIS := hiD (ris_any (s := ⟨i4, s.o, l4⟩) (c := c) (k := k4) HO.out.1 HT.out HH4.out tx (txt ts i1) (by rw [HTX.out, bstr_data]) (by rw [HSG.out]; simp))
    obtain ⟨d, hd⟩ : ∃ d, d = (decide (k4 = 0) && decide (txt ts i4 = txt ts i1)) := ⟨_, rfl⟩
    have HD := hiD hd
    rw [show (decide (k4 = 0) && decide (txt ts (⟨i4, s.o, l4⟩ : PS).i = txt ts i1)) = d from hd.symm] at HIS
    clear hd
    obtain ⟨p0, z0, p1, z1, p2, z2, p3, z3, p4, z4⟩ := HA.out.all5
    obtain ⟨ea0, eb0, ea1, eb1, ea2, eb2, ea3, eb3⟩ := HF.out.all4
    go_wp2_with fail
    refine HIS.out.mono ?_
    rintro r w8 ⟨rfl, b8⟩
    clear p0 z0 p1 z1 p2 z2 p3 z3 p4 z4
    clear ea0 eb0 ea1 eb1 ea2 eb2 ea3 eb3
    have HA := hiD (HA.out.later b8)
    have HQ := hiD (HQ.out.later b8)
    have HR := hiD (HR.out.later b8)
    have HT := hiD (HT.out.later b8)
    have HF := hiD (HF.out.later b8)
    have HRW := hiD (HRW.out.later b8)
    have HB := hiD (HB.out.trans (b8.mono HB.out.size))
    clear b8 HIS
    cases d with
    | false =>
     have hd := HD.out
     simp only [Bool.false_eq, Bool.and_eq_false_iff, decide_eq_false_iff_not] at hd
     have HGF : Hid (Go1 ts k4 i4 s.o l4 (.mk kk [] [] acc) (st k s.i (unitsW ts U s))) := sl_end HSL.out HH4.out HL4.out (fun h => hd.elim (fun h1 => h1 h.1) (fun h2 => h2 h.2))
     have HVE := hiD (VE.vg (HRW.out.rdE kk [] []))
     have HE : Hid (Arr w8 46 ge [.int .i64 kk, .string (bstr []), .string (bstr []), .slice q acc.length cc]) := HF.out
     clear hd HF
     obtain ⟨p0, z0, p1, z1, p2, z2, p3, z3, p4, z4⟩ := HA.out.all5
     obtain ⟨ea0, eb0, ea1, eb1, ea2, eb2, ea3, eb3⟩ := HE.out.all4
     go_upto_region 17 with (fail)
     clear p0 z0 p1 z1 p2 z2 p3 z3 p4 z4
     clear ea0 eb0 ea1 eb1 ea2 eb2 ea3 eb3
     have hb7 : Below w8.heap.size w8 w8.drew := (Below.refl _ _).drew
     have HA := hiD (HA.out.later hb7)
     have HQ := hiD (HQ.out.later hb7)
     have HR := hiD (HR.out.later hb7)
     have HE := hiD (HE.out.later hb7)
     have HB := hiD (HB.out.trans (hb7.mono HB.out.size))
     have HVE := hiD (HVE.out.later hb7)
     refine wp_region_held_drew (S := fun W' => Arr W' 56 (W.heap.size) [.slice (some ⟨tb, 0, none⟩) ts.length c, .int .i64 (i4 : Nat), .int .i64 (k4 : Nat), .int .i64 (s.o : Nat), .int .i64 (l4 : Nat)] ∧ Arr W' 46 (ge) [.int .i64 kk, .string (bstr []), .string (bstr []), .slice q acc.length cc]) (by kernel_rfl) ⟨HA.out, HE.out⟩ (fun hHeld => ?_)
     try simp only [Act.put]
     clear hb7
     generalize w8.drew = wa at hHeld HA HQ HR HE HB HVE ⊢
     refine wpAnyH_take (i := 0) (oi := ⟨some 74, _, _, _, _, _⟩) (v := .agg #[.slice (some ⟨tb, 0, none⟩) ts.length c, .int .i64 (i4 : Nat), .int .i64 (k4 : Nat), .int .i64 (s.o : Nat), .int .i64 (l4 : Nat)]) rfl (by kernel_rfl) (by kernel_rfl) (by kernel_rfl) (fun _ _ _ h => h) (.inl ⟨by rfl, fun w' hSw => ?_⟩) hHeld ?_
     focus (obtain ⟨q0, _, q1, _, q2, _, q3, _, q4, _⟩ := hSw.1.all5; clear hHeld; go_simp)
     try simp only [Act.put, pz0, pz1, pz2]
     refine wpAnyH_take (i := 1) (oi := ⟨some 75, _, _, _, _, _⟩) (v := .agg #[.int .i64 kk, .string (bstr []), .string (bstr []), .slice q acc.length cc]) rfl (by kernel_rfl) (by kernel_rfl) (by kernel_rfl) (fun _ _ _ h => h) (.inl ⟨by rfl, fun w' hSw => ?_⟩) hHeld ?_
     focus (obtain ⟨q0, _, q1, _, q2, _, q3, _⟩ := hSw.2.all4; clear hHeld; go_simp)
     try simp only [Act.put, pz0, pz1, pz2]
     refine wpAnyH_ready (rs := [2]) (by kernel_rfl) (by simp) ?_
     refine AllReadyH.cons (o := ⟨none, _, _, _, _, _⟩) rfl (fun K' hK' => ?_) AllReadyH.nil
     obtain ⟨u0, v0, u1, v1, u2, v2, u3, v3, u4, v4⟩ := HQ.out.all5
     have hkn := And.intro (hHeld.1.off5 (b := W.heap.size + 1) (by simp only [ne_eq]; omega) (.slice (some ⟨tb, 0, none⟩) ts.length c) (.int .i64 (i4 : Nat)) (.int .i64 (k4 : Nat)) (.int .i64 (s.o : Nat)) (.int .i64 (l4 : Nat))) (hHeld.2.off5 (b := W.heap.size + 1) (by simp only [ne_eq]; omega) (.slice (some ⟨tb, 0, none⟩) ts.length c) (.int .i64 (i4 : Nat)) (.int .i64 (k4 : Nat)) (.int .i64 (s.o : Nat)) (.int .i64 (l4 : Nat)))
     clear hHeld
     go_simp
     clear u0 v0 u1 v1 u2 v2 u3 v3 u4 v4
     refine hK'.out _ _ hkn (fun hHeld => ?_)
     clear hK' K' hkn
     try simp only [Act.put, pz0, pz1, pz2]
     have hkp := kp_setP wa (W.heap.size + 1) (.slice (some ⟨tb, 0, none⟩) ts.length c) (.int .i64 (i4 : Nat)) (.int .i64 (k4 : Nat)) (.int .i64 (s.o : Nat)) (.int .i64 (l4 : Nat))
     have HQ := hiD (HQ.out.setP (.slice (some ⟨tb, 0, none⟩) ts.length c) (.int .i64 (i4 : Nat)) (.int .i64 (k4 : Nat)) (.int .i64 (s.o : Nat)) (.int .i64 (l4 : Nat)))
     have HR := hiD (hkp.arr HR.out (by omega))
     have HVE := hiD (HVE.out.kp hkp (by omega))
     have HB := hiD (HB.out.trans (hkp.below (B := W.heap.size) (by omega) HB.out.size))
     clear hkp
     generalize (((((wa.setCell ⟨W.heap.size + 1, 0, none⟩ (.slice (some ⟨tb, 0, none⟩) ts.length c)).setCell ⟨W.heap.size + 1, 1, none⟩ (.int .i64 (i4 : Nat))).setCell ⟨W.heap.size + 1, 2, none⟩ (.int .i64 (k4 : Nat))).setCell ⟨W.heap.size + 1, 3, none⟩ (.int .i64 (s.o : Nat))).setCell ⟨W.heap.size + 1, 4, none⟩ (.int .i64 (l4 : Nat))) = wb at hHeld HQ HR HB HVE ⊢
     refine wpAnyH_ready (rs := [3]) (by kernel_rfl) (by simp) ?_
     refine AllReadyH.cons (o := ⟨none, _, _, _, _, _⟩) rfl (fun K' hK' => ?_) AllReadyH.nil
     obtain ⟨u0, v0, u1, v1, u2, v2, u3, v3⟩ := HR.out.all4
     have hkn := And.intro (hHeld.1.off4 (b := W.heap.size + 1 + 1) (by simp only [ne_eq]; omega) (.int .i64 kk) (.string (bstr [])) (.string (bstr [])) (.slice q acc.length cc)) (hHeld.2.off4 (b := W.heap.size + 1 + 1) (by simp only [ne_eq]; omega) (.int .i64 kk) (.string (bstr [])) (.string (bstr [])) (.slice q acc.length cc))
     clear hHeld
     go_simp
     clear u0 v0 u1 v1 u2 v2 u3 v3
     refine hK'.out _ _ hkn (fun hHeld => ?_)
     clear hK' K' hkn
     try simp only [Act.put, pz0, pz1, pz2]
     have hkp := kp_set4 wb (W.heap.size + 1 + 1) (.int .i64 kk) (.string (bstr [])) (.string (bstr [])) (.slice q acc.length cc)
     have HR := hiD (HR.out.set4 (.int .i64 kk) (.string (bstr [])) (.string (bstr [])) (.slice q acc.length cc))
     have HQ := hiD (hkp.arr HQ.out (by omega))
     have HVE := hiD (HVE.out.kp hkp (by omega))
     have HB := hiD (HB.out.trans (hkp.below (B := W.heap.size) (by omega) HB.out.size))
     clear hkp
     generalize ((((wb.setCell ⟨W.heap.size + 1 + 1, 0, none⟩ (.int .i64 kk)).setCell ⟨W.heap.size + 1 + 1, 1, none⟩ (.string (bstr []))).setCell ⟨W.heap.size + 1 + 1, 2, none⟩ (.string (bstr []))).setCell ⟨W.heap.size + 1 + 1, 3, none⟩ (.slice q acc.length cc)) = wc at hHeld HQ HR HB HVE ⊢
     refine wpAnyH_done (by kernel_rfl) ?_ _
     go_wp2_with fail
     clear hHeld
     have c0 := HQ.out.cell 0
     have c1 := HQ.out.cell 1
     have c2 := HQ.out.cell 2
     have c3 := HQ.out.cell 3
     have c4 := HQ.out.cell 4
     have d0 := HR.out.cell 0
     have d1 := HR.out.cell 1
     have d2 := HR.out.cell 2
     have d3 := HR.out.cell 3
     simp only [List.getElem?_cons_zero, List.getElem?_cons_succ] at c0 c1 c2 c3 c4 d0 d1 d2 d3
     refine bodyPost_ret (v := .tuple #[.agg #[.slice (some ⟨tb, 0, none⟩) ts.length c, .int .i64 (i4 : Nat), .int .i64 (k4 : Nat), .int .i64 (s.o : Nat), .int .i64 (l4 : Nat)], .agg #[.int .i64 kk, .string (bstr []), .string (bstr []), .slice q acc.length cc]]) ?_ rfl ⟨i4, k4, l4, _, _, HGF.out, rfl, HVE.out.ve.low (by omega), HB.out⟩
     simp [results, Tryz.results34, go_sem, c0, c1, c2, c3, c4, d0, d1, d2, d3]
    | true =>
     have hd := HD.out
     simp only [Bool.true_eq, Bool.and_eq_true, decide_eq_true_eq] at hd
     have HK4 := hiD hd.1
     have HT4 := hiD hd.2
     clear hd
     have e5 : (kk != 5) = true := by rw [HKK.out]; rfl
     have HA2 : Hid (kk = 5 → acc.length < 2) := fun h => absurd (HKK.out.symm.trans h) (by decide)
     obtain ⟨i5, hi5⟩ : ∃ x, x = i4 + 1 := ⟨_, rfl⟩
     have HI5 := hiD hi5
     have HS5 : Hid (i5 < ts.length) := by
      show i5 < _
      rw [hi5]
      exact HO.out.1.step (by rw [HT4.out, HSG.out]; simp)
     have hzi0 : (0 : Int) ≤ i4 := by omega
     have hzi1 : (i4 : Int) ≤ 100000 := by have := HH4.out; have := HTS.out; omega
     clear hi5
     obtain ⟨p0, z0, p1, z1, p2, z2, p3, z3, p4, z4⟩ := HA.out.all5
     obtain ⟨ea0, eb0, ea1, eb1, ea2, eb2, ea3, eb3⟩ := HF.out.all4
     go_upto_region 14 with (fail)
     clear p0 z0 p1 z1 p2 z2 p3 z3 p4 z4
     clear ea0 eb0 ea1 eb1 ea2 eb2 ea3 eb3
     have hkp := (Kp.of (pb := W.heap.size) (Below.refl w8.heap.size w8)).set 1 (.int .i64 ((i4 : Int) + 1))
     have HA : Hid (Arr (w8.setCell ⟨W.heap.size, 1, none⟩ (.int .i64 ((i4 : Int) + 1))) 56 W.heap.size [.slice (some ⟨tb, 0, none⟩) ts.length c, .int .i64 (i5 : Nat), .int .i64 (k4 : Nat), .int .i64 (s.o : Nat), .int .i64 (l4 : Nat)]) := by
      have h := HA.out.set 1 (.int .i64 ((i4 : Int) + 1))
      rw [show ((i5 : Nat) : Int) = (i4 : Int) + 1 from by rw [HI5.out]; simp]
      exact h
     have HF := hiD (hkp.arr HF.out (by omega))
     have HQ := hiD (hkp.arr HQ.out (by omega))
     have HR := hiD (hkp.arr HR.out (by omega))
     have HT := hiD (HT.out.kp hkp (by first | omega | (have := HZ.out; omega)))
     have HRW := hiD (HRW.out.kp hkp (.inl (by omega)))
     have HB := hiD (HB.out.trans (hkp.below (B := W.heap.size) (Nat.le_refl _) HB.out.size))
     clear hkp hzi0 hzi1
     generalize (w8.setCell ⟨W.heap.size, 1, none⟩ (.int .i64 ((i4 : Int) + 1))) = w9 at HA HF HQ HR HT HRW HB ⊢
     go_upto_region 15 with (fail)
     have hb10 : Below w9.heap.size w9 (w9.alloc (.cells #[.int .i64 0, .string ⟨#[]⟩, .string ⟨#[]⟩, .slice none 0 0] 46)) := (Below.refl _ _).alloc (Nat.le_refl _) _
     have hgn : ge < w9.heap.size := HF.out.lt
     have HBL : Hid (∀ b, (Value.slice q acc.length cc).ownBlock = some b → b < w9.heap.size) := fun b hb => by obtain ⟨_, h, _⟩ := HRW.out; exact (h.lt b hb).2
     have HRW := hiD (HRW.out.wk (Y := fun b => b = ge ∨ b = w9.heap.size) (fun b _ hl h => h.elim id (fun e => absurd (e ▸ hl) (Nat.lt_irrefl _))))
     have HN : Hid (Arr (w9.alloc (.cells #[.int .i64 0, .string ⟨#[]⟩, .string ⟨#[]⟩, .slice none 0 0] 46)) 46 w9.heap.size [.int .i64 0, .string ⟨#[]⟩, .string ⟨#[]⟩, .slice none 0 0]) := Arr.new' _ _ _ _ rfl
     have HA := hiD (HA.out.later hb10)
     have HF := hiD (HF.out.later hb10)
     have HQ := hiD (HQ.out.later hb10)
     have HR := hiD (HR.out.later hb10)
     have HT := hiD (HT.out.later hb10)
     have HRW := hiD (HRW.out.later hb10)
     have HB := hiD (HB.out.trans (hb10.mono HB.out.size))
     have hnw : w9.heap.size < (w9.alloc (.cells #[.int .i64 0, .string ⟨#[]⟩, .string ⟨#[]⟩, .slice none 0 0] 46)).heap.size := HN.out.lt
     obtain ⟨nb, hnb⟩ : ∃ x, x = w9.heap.size := ⟨_, rfl⟩
     rw [← hnb] at HN HRW hgn HBL hnw ⊢
     generalize w9.alloc (.cells #[.int .i64 0, .string ⟨#[]⟩, .string ⟨#[]⟩, .slice none 0 0] 46) = w10 at HA HF HQ HR HT HRW HN HB hnw ⊢
     clear hnb hb10
     have HUC : Hid (Calls Tryz.prog 54 #[.agg #[.slice (some ⟨tb, 0, none⟩) ts.length c, .int .i64 (i5 : Nat), .int .i64 (k4 : Nat), .int .i64 (s.o : Nat), .int .i64 (l4 : Nat)]] w10 (GE tb c ts s.o (st k4 i5 (U ⟨i5, s.o, l4⟩)) w10)) := HU.out w10 ⟨i5, s.o, l4⟩ k4 HT.out HS5.out HL4.out (HL4.out.2 HK4.out) rfl
     obtain ⟨p0, z0, p1, z1, p2, z2, p3, z3, p4, z4⟩ := HA.out.all5
     obtain ⟨na0, nz0, na1, nz1, na2, nz2, na3, nz3⟩ := HN.out.all4
     go_wp2_with fail
     refine HUC.out.mono ?_
     rintro r w11 ⟨i6, k6, l6, x6, v6, hg6, rfl, hv6, b6⟩
     have HG6 : Hid (Go1 ts k6 i6 s.o l6 x6 (U ⟨i5, s.o, l4⟩)) := by
      have h := hg6
      rw [st_0 HK4.out] at h
      exact h
     clear p0 z0 p1 z1 p2 z2 p3 z3 p4 z4
     clear na0 nz0 na1 nz1 na2 nz2 na3 nz3
     have HA := hiD (HA.out.later b6)
     have HF := hiD (HF.out.later b6)
     have HQ := hiD (HQ.out.later b6)
     have HR := hiD (HR.out.later b6)
     have HN := hiD (HN.out.later b6)
     have HT := hiD (HT.out.later b6)
     have HRW := hiD (HRW.out.later b6)
     have HB := hiD (HB.out.trans (b6.mono HB.out.size))
     obtain ⟨mk6, mv6, mn6, ms6⟩ := x6
     have HV6 := hiD hv6
     obtain ⟨q6, c6, rfl⟩ := VE.form hv6
     have HV6 := hiD HV6.out.vg
     clear hg6 hv6 b6 HUC
     obtain ⟨p0, z0, p1, z1, p2, z2, p3, z3, p4, z4⟩ := HA.out.all5
     obtain ⟨na0, nz0, na1, nz1, na2, nz2, na3, nz3⟩ := HN.out.all4
     go_upto_region 16 with (fail)
     clear p0 z0 p1 z1 p2 z2 p3 z3 p4 z4
     clear na0 nz0 na1 nz1 na2 nz2 na3 nz3
     have hkp := kp_setP w11 (W.heap.size) (.slice (some ⟨tb, 0, none⟩) ts.length c) (.int .i64 (i6 : Nat)) (.int .i64 (k6 : Nat)) (.int .i64 (s.o : Nat)) (.int .i64 (l6 : Nat))
     have HA := hiD (HA.out.setP (.slice (some ⟨tb, 0, none⟩) ts.length c) (.int .i64 (i6 : Nat)) (.int .i64 (k6 : Nat)) (.int .i64 (s.o : Nat)) (.int .i64 (l6 : Nat)))
     have HF := hiD (hkp.arr HF.out (by omega))
     have HQ := hiD (hkp.arr HQ.out (by omega))
     have HR := hiD (hkp.arr HR.out (by omega))
     have HN := hiD (hkp.arr HN.out (by omega))
     have HT := hiD (HT.out.kp hkp (by first | omega | (have := HZ.out; omega)))
     have HV6 := hiD (HV6.out.kp hkp (by first | omega | (have := HZ.out; omega)))
     have HRW := hiD (HRW.out.kp hkp (.inl (by omega)))
     have HB := hiD (HB.out.trans (hkp.below (B := W.heap.size) (Nat.le_refl _) HB.out.size))
     clear hkp
     generalize (((((w11.setCell ⟨W.heap.size, 0, none⟩ (.slice (some ⟨tb, 0, none⟩) ts.length c)).setCell ⟨W.heap.size, 1, none⟩ (.int .i64 (i6 : Nat))).setCell ⟨W.heap.size, 2, none⟩ (.int .i64 (k6 : Nat))).setCell ⟨W.heap.size, 3, none⟩ (.int .i64 (s.o : Nat))).setCell ⟨W.heap.size, 4, none⟩ (.int .i64 (l6 : Nat))) = w12 at HA HF HQ HR HN HT HV6 HRW HB ⊢
     have hkp := kp_set4 w12 (nb) (.int .i64 mk6) (.string (bstr mv6)) (.string (bstr mn6)) (.slice q6 ms6.length c6)
     have HN := hiD (HN.out.set4 (.int .i64 mk6) (.string (bstr mv6)) (.string (bstr mn6)) (.slice q6 ms6.length c6))
     have HA := hiD (hkp.arr HA.out (by omega))
     have HF := hiD (hkp.arr HF.out (by omega))
     have HQ := hiD (hkp.arr HQ.out (by omega))
     have HR := hiD (hkp.arr HR.out (by omega))
     have HT := hiD (HT.out.kp hkp (by first | omega | (have := HZ.out; omega)))
     have HV6 := hiD (HV6.out.kp hkp (by first | omega | (have := HZ.out; omega)))
     have HRW := hiD (HRW.out.kp hkp (.inr (.inr rfl)))
     have HB := hiD (HB.out.trans (hkp.below (B := W.heap.size) (by omega) HB.out.size))
     clear hkp
     generalize ((((w12.setCell ⟨nb, 0, none⟩ (.int .i64 mk6)).setCell ⟨nb, 1, none⟩ (.string (bstr mv6))).setCell ⟨nb, 2, none⟩ (.string (bstr mn6))).setCell ⟨nb, 3, none⟩ (.slice q6 ms6.length c6)) = w13 at HN HA HF HQ HR HT HV6 HRW HB ⊢
     obtain ⟨ea0, eb0, ea1, eb1, ea2, eb2, ea3, eb3⟩ := HF.out.all4
     obtain ⟨na0, nz0, na1, nz1, na2, nz2, na3, nz3⟩ := HN.out.all4
     have hb14 : Below w13.heap.size w13 (w13.alloc (.cells #[.int .i64 mk6, .string (bstr mv6), .string (bstr mn6), .slice q6 ms6.length c6] 46)) := (Below.refl _ _).alloc (Nat.le_refl _) _
     have HY : Hid (Arr (w13.alloc (.cells #[.int .i64 mk6, .string (bstr mv6), .string (bstr mn6), .slice q6 ms6.length c6] 46)) 46 w13.heap.size [.int .i64 mk6, .string (bstr mv6), .string (bstr mn6), .slice q6 ms6.length c6]) := Arr.new' _ _ _ _ rfl
     have HA := hiD (HA.out.later hb14)
     have HF := hiD (HF.out.later hb14)
     have HQ := hiD (HQ.out.later hb14)
     have HR := hiD (HR.out.later hb14)
     have HT := hiD (HT.out.later hb14)
     have HRW := hiD (HRW.out.later hb14)
     have HV6 := hiD (HV6.out.later hb14)
     have HB := hiD (HB.out.trans (hb14.mono HB.out.size))
     have HR9 : Hid (rdEx (SubX (W.heap.size + 3) (fun b => b = ge ∨ b = nb) (w13.alloc (.cells #[.int .i64 mk6, .string (bstr mv6), .string (bstr mn6), .slice q6 ms6.length c6] 46)) (.slice q acc.length cc)) (w13.alloc (.cells #[.int .i64 mk6, .string (bstr mv6), .string (bstr mn6), .slice q6 ms6.length c6] 46)) (.mk mk6 mv6 mn6 ms6) [.int .i64 mk6, .string (bstr mv6), .string (bstr mn6), .slice q6 ms6.length c6]) := ⟨_, _, _, _, rfl, RdE.imp (fun b hb => ⟨by have := hb.1; omega, hb.2, fun e => by have h1 := HBL.out b e.symm; have := hb.1; omega, fun h => by rcases h with h | h <;> (have := hb.1; omega)⟩) HV6.out.ve⟩
     have HAC : Hid (acc.length + 1 ≤ 200000) := sl_len HSL.out HK4.out HH4.out HTS.out
     have HBS : Hid (W.heap.size + 3 ≤ (w13.alloc (.cells #[.int .i64 mk6, .string (bstr mv6), .string (bstr mn6), .slice q6 ms6.length c6] 46)).heap.size) := by have h := HF.out.lt; show _ ≤ _; omega
     have HXX : Hid (∀ b, (b = ge ∨ b = nb) → b < (w13.alloc (.cells #[.int .i64 mk6, .string (bstr mv6), .string (bstr mn6), .slice q6 ms6.length c6] 46)).heap.size) := fun b h => by have h1 := HF.out.lt; have h2 := hb14.size; have h3 := HN.out.lt; rcases h with h | h <;> omega
     clear hb14
     go_wp2_with (at_builtin; refine app_row (K := kdEx) (x := .mk mk6 mv6 mn6 ms6) rfl _ _ rfl rfl HRW.out rfl HY.out HR9.out HAC.out HBS.out HXX.out ?_)
     intro v10 w15 r10 g10 o10
     have HA : Hid (Arr w15 56 W.heap.size [.slice (some ⟨tb, 0, none⟩) ts.length c, .int .i64 (i6 : Nat), .int .i64 (k6 : Nat), .int .i64 (s.o : Nat), .int .i64 (l6 : Nat)]) := (g10.block _ HA.out.lt (fun e => by have := (o10 _ e.symm).1; omega)).trans HA.out
     have HQ : Hid (Arr w15 56 (W.heap.size + 1) [.slice none 0 0, .int .i64 0, .int .i64 0, .int .i64 0, .int .i64 0]) := (g10.block _ HQ.out.lt (fun e => by have := (o10 _ e.symm).1; omega)).trans HQ.out
     have HR : Hid (Arr w15 46 (W.heap.size + 1 + 1) [.int .i64 0, .string ⟨#[]⟩, .string ⟨#[]⟩, .slice none 0 0]) := (g10.block _ HR.out.lt (fun e => by have := (o10 _ e.symm).1; omega)).trans HR.out
     have HF : Hid (Arr w15 46 ge [.int .i64 kk, .string ⟨#[]⟩, .string ⟨#[]⟩, .slice q acc.length cc]) := (g10.block _ HF.out.lt (fun e => (o10 _ e.symm).2.1 rfl)).trans HF.out
     have hlo : W.heap.size ≤ (w13.alloc (.cells #[.int .i64 mk6, .string (bstr mv6), .string (bstr mn6), .slice q6 ms6.length c6] 46)).heap.size := by have := HBS.out; omega
     have hlk : ∀ k, (Value.slice q acc.length cc).ownBlock = some k → W.heap.size ≤ k := fun k hk => by have := (o10 k hk).1; omega
     have HT : Hid (RT w15 tb ts) := by
      have hb := (Below.refl W.heap.size (w13.alloc (.cells #[.int .i64 mk6, .string (bstr mv6), .string (bstr mn6), .slice q6 ms6.length c6] 46))).grown g10 hlo hlk
      exact ⟨Nat.lt_of_lt_of_le HT.out.1 hb.size, HT.out.2.1, fun i hi j hj => (hb.cell (p := ⟨tb, i * 3 + j, none⟩) HZ.out).trans (HT.out.2.2 i hi j hj)⟩
     have HB := hiD (HB.out.grown g10 hlo hlk)
     have HRW : Hid (PRow kdEx (W.heap.size + 3) (fun b => b = ge) w15 v10 (acc ++ [.mk mk6 mv6 mn6 ms6])) := r10.wk (fun b _ _ h => .inl h)
     obtain ⟨q10, c10, hv10⟩ := r10.form
     rw [List.length_append, List.length_singleton] at hv10
     subst hv10
     clear r10 g10 o10 hlo hlk HY HR9 HV6 HN HXX HBS
     clear ea0 eb0 ea1 eb1 ea2 eb2 ea3 eb3
     clear na0 nz0 na1 nz1 na2 nz2 na3 nz3
     obtain ⟨ea0, eb0, ea1, eb1, ea2, eb2, ea3, eb3⟩ := HF.out.all4
     go_wp2_with fail
     have hkp := (Kp.of (pb := ge) (Below.refl w15.heap.size w15)).set 3 (.slice q10 (acc.length + 1) c10)
     have HF : Hid (Arr (w15.setCell ⟨ge, 3, none⟩ (.slice q10 (acc.length + 1) c10)) 46 ge [.int .i64 kk, .string ⟨#[]⟩, .string ⟨#[]⟩, .slice q10 (acc.length + 1) c10]) := HF.out.set 3 _
     have HA := hiD (hkp.arr HA.out (by omega))
     have HQ := hiD (hkp.arr HQ.out (by omega))
     have HR := hiD (hkp.arr HR.out (by omega))
     have HT := hiD (HT.out.kp hkp (by first | omega | (have := HZ.out; omega)))
     have HRW := hiD (HRW.out.kp hkp (.inr rfl))
     have HB := hiD (HB.out.trans (hkp.below (B := W.heap.size) (by omega) HB.out.size))
     clear hkp
     generalize (w15.setCell ⟨ge, 3, none⟩ (.slice q10 (acc.length + 1) c10)) = w16 at HA HF HQ HR HT HRW HB ⊢
     go_roundw
     case rel =>
      have hlen : (acc ++ [Ex.mk mk6 mv6 mn6 ms6]).length = acc.length + 1 := by rw [List.length_append, List.length_singleton]
      refine ⟨acc ++ [Ex.mk mk6 mv6 mn6 ms6], i6, k6, l6, q10, c10, ?_, ?_, HA.out, HQ.out, HR.out, HT.out, HB.out, HG6.out.1, HG6.out.2.1, ?_⟩
      ·rw [hlen]
       exact HRW.out
      ·rw [hlen]
       exact HF.out
      ·exact sl_more HKU.out HSL.out HK4.out HI5.out HS5.out HA2.out HK.out HT4.out HG6.out
     case measure =>
      rw [msr_at HA.out, HM0.out]
      exact msr_less HKU.out HK4.out HI5.out HS5.out HG6.out
  ·have e38 : tx.toList = [38] := by rw [HTX.out]; exact sign_is e4
   have HK := hiD h4
   have HSG := hiD e4
   clear h4 e4
   obtain ⟨p0, z0, p1, z1, p2, z2, p3, z3, p4, z4⟩ := HA.out.all5
   obtain ⟨ea0, eb0, ea1, eb1, ea2, eb2, ea3, eb3⟩ := HE.out.all4
   go_upto_region 8 with (fail)
   clear p0 z0 p1 z1 p2 z2 p3 z3 p4 z4
   clear ea0 eb0 ea1 eb1 ea2 eb2 ea3 eb3
   have hb7 : Below w5.heap.size w5 ((w5.alloc (.cells #[.int .i64 mk, .string (bstr mv), .string (bstr mn), .slice q4 ms.length cq] 46)).alloc (.cells #[.int .i64 3, .string ⟨#[]⟩, .string ⟨#[]⟩, .slice (some ⟨w5.heap.size, 0, none⟩) 1 1] 46)) := ((Below.refl _ _).alloc (Nat.le_refl _) _).alloc (by simp) _
   have hb8 : Below (w5.alloc (.cells #[.int .i64 mk, .string (bstr mv), .string (bstr mn), .slice q4 ms.length cq] 46)).heap.size (w5.alloc (.cells #[.int .i64 mk, .string (bstr mv), .string (bstr mn), .slice q4 ms.length cq] 46)) ((w5.alloc (.cells #[.int .i64 mk, .string (bstr mv), .string (bstr mn), .slice q4 ms.length cq] 46)).alloc (.cells #[.int .i64 3, .string ⟨#[]⟩, .string ⟨#[]⟩, .slice (some ⟨w5.heap.size, 0, none⟩) 1 1] 46)) := (Below.refl _ _).alloc (Nat.le_refl _) _
   have hlo : W.heap.size + 3 ≤ w5.heap.size := Nat.le_trans hgl HVE.out.1
   have h1 := PRow.lit (K := kdEx) (base := W.heap.size + 3) (X := fun _ => False) (w := w5) (x := .mk mk mv mn ms) (cs := [.int .i64 mk, .string (bstr mv), .string (bstr mn), .slice q4 ms.length cq]) hlo (fun b h => h.elim) ⟨_, _, _, _, rfl, RdE.imp (fun b hb => ⟨hb.1, hb.2, fun h => h⟩) HVE.out.ve⟩
   have HRW : Hid (PRow kdEx (W.heap.size + 3) (fun b => b = w5.heap.size + 1) ((w5.alloc (.cells #[.int .i64 mk, .string (bstr mv), .string (bstr mn), .slice q4 ms.length cq] 46)).alloc (.cells #[.int .i64 3, .string ⟨#[]⟩, .string ⟨#[]⟩, .slice (some ⟨w5.heap.size, 0, none⟩) 1 1] 46)) (.slice (some ⟨w5.heap.size, 0, none⟩) 1 1) [.mk mk mv mn ms]) := (h1.wk (Y := fun b => b = w5.heap.size + 1) (fun b _ h e => by subst e; simp at h)).later hb8
   have HF : Hid (Arr ((w5.alloc (.cells #[.int .i64 mk, .string (bstr mv), .string (bstr mn), .slice q4 ms.length cq] 46)).alloc (.cells #[.int .i64 3, .string ⟨#[]⟩, .string ⟨#[]⟩, .slice (some ⟨w5.heap.size, 0, none⟩) 1 1] 46)) 46 (w5.heap.size + 1) [.int .i64 3, .string ⟨#[]⟩, .string ⟨#[]⟩, .slice (some ⟨w5.heap.size, 0, none⟩) 1 1]) := by
    have h := Arr.new' (w5.alloc (.cells #[.int .i64 mk, .string (bstr mv), .string (bstr mn), .slice q4 ms.length cq] 46)) 46 #[.int .i64 3, .string ⟨#[]⟩, .string ⟨#[]⟩, .slice (some ⟨w5.heap.size, 0, none⟩) 1 1] [.int .i64 3, .string ⟨#[]⟩, .string ⟨#[]⟩, .slice (some ⟨w5.heap.size, 0, none⟩) 1 1] rfl
    rw [show (w5.alloc (.cells #[.int .i64 mk, .string (bstr mv), .string (bstr mn), .slice q4 ms.length cq] 46)).heap.size = w5.heap.size + 1 from by simp] at h
    exact h
   have HA := hiD (HA.out.later hb7)
   have HQ := hiD (HQ.out.later hb7)
   have HR := hiD (HR.out.later hb7)
   have HT := hiD (HT.out.later hb7)
   have HB := hiD (HB.out.trans (hb7.mono HB.out.size))
   clear hb7 hb8 h1 HE HVE
   obtain ⟨gk, hgk⟩ : ∃ x, x = w5.heap.size := ⟨_, rfl⟩
   rw [← hgk] at HRW HF hlo HA HQ HR HT HB ⊢
   obtain ⟨ge, hge⟩ : ∃ x, x = gk + 1 := ⟨_, rfl⟩
   rw [← hge] at HRW HF ⊢
   have hle : W.heap.size + 3 ≤ ge := by omega
   clear hgk hge hlo
   generalize ((w5.alloc (.cells #[.int .i64 mk, .string (bstr mv), .string (bstr mn), .slice q4 ms.length cq] 46)).alloc (.cells #[.int .i64 3, .string ⟨#[]⟩, .string ⟨#[]⟩, .slice (some ⟨gk, 0, none⟩) 1 1] 46)) = w6 at HA HQ HR HT HB HRW HF ⊢
   obtain ⟨ea0, eb0, ea1, eb1, ea2, eb2, ea3, eb3⟩ := HF.out.all4
   go_wp2_with fail
   clear ea0 eb0 ea1 eb1 ea2 eb2 ea3 eb3
   have hkp := (Kp.of (pb := ge) (Below.refl w6.heap.size w6)).set 0 (.int .i64 4)
   have HF : Hid (Arr (w6.setCell ⟨ge, 0, none⟩ (.int .i64 4)) 46 ge [.int .i64 4, .string ⟨#[]⟩, .string ⟨#[]⟩, .slice (some ⟨gk, 0, none⟩) 1 1]) := HF.out.set 0 (.int .i64 4)
   have HRW := hiD (HRW.out.box (.inr rfl) 0 (.int .i64 4))
   have HA := hiD (hkp.arr HA.out (by omega))
   have HQ := hiD (hkp.arr HQ.out (by omega))
   have HR := hiD (hkp.arr HR.out (by omega))
   have HT := hiD (HT.out.kp hkp (by first | omega | (have := HZ.out; omega)))
   have HB := hiD (HB.out.trans (hkp.below (B := W.heap.size) (by omega) HB.out.size))
   clear hkp
   generalize (w6.setCell ⟨ge, 0, none⟩ (.int .i64 4)) = w7 at HF HRW HA HQ HR HT HB ⊢
   obtain ⟨kk, hkk⟩ : ∃ x : Int, x = 4 := ⟨_, rfl⟩
   have HKK := hiD hkk
   rw [← hkk] at HF HK
   clear hkk
   have HSL : Hid (SL ts U (st k s.i (unitsW ts U s)) kk (txt ts i1) [.mk mk mv mn ms] i1 s.o k1 l1) := by
    have h := units_many HK1.out HG1.out (by rw [HK.out, HKK.out]; decide)
    rw [HK.out] at h
    exact h
   have HH1 := hiD HG1.out.1
   have HL1 := hiD HG1.out.2.1
   clear HG1 e38
   go_loopw [7] (fun _ wr => ∃ (acc : List Ex) (i4 k4 l4 : Nat) (q : Option Addr) (cc : Nat), Hid (PRow kdEx (W.heap.size + 3) (fun b => b = ge) wr (.slice q acc.length cc) acc) ∧ Hid (Arr wr 46 ge [.int .i64 kk, .string ⟨#[]⟩, .string ⟨#[]⟩, .slice q acc.length cc]) ∧ Hid (Arr wr 56 W.heap.size [.slice (some ⟨tb, 0, none⟩) ts.length c, .int .i64 (i4 : Nat), .int .i64 (k4 : Nat), .int .i64 (s.o : Nat), .int .i64 (l4 : Nat)]) ∧ Hid (Arr wr 56 (W.heap.size + 1) [.slice none 0 0, .int .i64 0, .int .i64 0, .int .i64 0, .int .i64 0]) ∧ Hid (Arr wr 46 (W.heap.size + 1 + 1) [.int .i64 0, .string ⟨#[]⟩, .string ⟨#[]⟩, .slice none 0 0]) ∧ Hid (RT wr tb ts) ∧ Hid (Below W.heap.size W wr) ∧ Hid (i4 < ts.length) ∧ Hid (Lk k4 l4) ∧ Hid (SL ts U (st k s.i (unitsW ts U s)) kk (txt ts i1) acc i4 s.o k4 l4)) (fun _ wr => msr ts.length W.heap.size wr)
   case atStart => exact ⟨_, i1, k1, l1, _, 1, HRW.out, HF.out, HA.out, HQ.out, HR.out, HT.out, HB.out, HH1.out, HL1.out, HSL.out⟩
   case round =>
    obtain ⟨acc, i4, k4, l4, q, cc, HRW, HF, HA, HQ, HR, HT, HB, HH4, HL4, HSL⟩ := hrel
    have HM0 : Hid (msr ts.length W.heap.size wr = if k4 = 0 then 1 + ts.length - i4 else 0) := msr_at HA.out
    have HIS := hiD (ris_any (s := ⟨i4, s.o, l4⟩) (c := c) (k := k4) HO.out.1 HT.out HH4.out tx (txt ts i1) (by rw [HTX.out, bstr_data]) (by rw [HSG.out]; simp))
    obtain ⟨d, hd⟩ : ∃ d, d = (decide (k4 = 0) && decide (txt ts i4 = txt ts i1)) := ⟨_, rfl⟩
    have HD := hiD hd
    rw [show (decide (k4 = 0) && decide (txt ts (⟨i4, s.o, l4⟩ : PS).i = txt ts i1)) = d from hd.symm] at HIS
    clear hd
    obtain ⟨p0, z0, p1, z1, p2, z2, p3, z3, p4, z4⟩ := HA.out.all5
    obtain ⟨ea0, eb0, ea1, eb1, ea2, eb2, ea3, eb3⟩ := HF.out.all4
    go_wp2_with fail
    refine HIS.out.mono ?_
    rintro r w8 ⟨rfl, b8⟩
    clear p0 z0 p1 z1 p2 z2 p3 z3 p4 z4
    clear ea0 eb0 ea1 eb1 ea2 eb2 ea3 eb3
    have HA := hiD (HA.out.later b8)
    have HQ := hiD (HQ.out.later b8)
    have HR := hiD (HR.out.later b8)
    have HT := hiD (HT.out.later b8)
    have HF := hiD (HF.out.later b8)
    have HRW := hiD (HRW.out.later b8)
    have HB := hiD (HB.out.trans (b8.mono HB.out.size))
    clear b8 HIS
    cases d with
    | false =>
     have hd := HD.out
     simp only [Bool.false_eq, Bool.and_eq_false_iff, decide_eq_false_iff_not] at hd
     have HGF : Hid (Go1 ts k4 i4 s.o l4 (.mk kk [] [] acc) (st k s.i (unitsW ts U s))) := sl_end HSL.out HH4.out HL4.out (fun h => hd.elim (fun h1 => h1 h.1) (fun h2 => h2 h.2))
     have HVE := hiD (VE.vg (HRW.out.rdE kk [] []))
     have HE : Hid (Arr w8 46 ge [.int .i64 kk, .string (bstr []), .string (bstr []), .slice q acc.length cc]) := HF.out
     clear hd HF
     obtain ⟨p0, z0, p1, z1, p2, z2, p3, z3, p4, z4⟩ := HA.out.all5
     obtain ⟨ea0, eb0, ea1, eb1, ea2, eb2, ea3, eb3⟩ := HE.out.all4
     go_upto_region 17 with (fail)
     clear p0 z0 p1 z1 p2 z2 p3 z3 p4 z4
     clear ea0 eb0 ea1 eb1 ea2 eb2 ea3 eb3
     have hb7 : Below w8.heap.size w8 w8.drew := (Below.refl _ _).drew
     have HA := hiD (HA.out.later hb7)
     have HQ := hiD (HQ.out.later hb7)
     have HR := hiD (HR.out.later hb7)
     have HE := hiD (HE.out.later hb7)
     have HB := hiD (HB.out.trans (hb7.mono HB.out.size))
     have HVE := hiD (HVE.out.later hb7)
     refine wp_region_held_drew (S := fun W' => Arr W' 56 (W.heap.size) [.slice (some ⟨tb, 0, none⟩) ts.length c, .int .i64 (i4 : Nat), .int .i64 (k4 : Nat), .int .i64 (s.o : Nat), .int .i64 (l4 : Nat)] ∧ Arr W' 46 (ge) [.int .i64 kk, .string (bstr []), .string (bstr []), .slice q acc.length cc]) (by kernel_rfl) ⟨HA.out, HE.out⟩ (fun hHeld => ?_)
     try simp only [Act.put]
     clear hb7
     generalize w8.drew = wa at hHeld HA HQ HR HE HB HVE ⊢
     refine wpAnyH_take (i := 0) (oi := ⟨some 74, _, _, _, _, _⟩) (v := .agg #[.slice (some ⟨tb, 0, none⟩) ts.length c, .int .i64 (i4 : Nat), .int .i64 (k4 : Nat), .int .i64 (s.o : Nat), .int .i64 (l4 : Nat)]) rfl (by kernel_rfl) (by kernel_rfl) (by kernel_rfl) (fun _ _ _ h => h) (.inl ⟨by rfl, fun w' hSw => ?_⟩) hHeld ?_
     focus (obtain ⟨q0, _, q1, _, q2, _, q3, _, q4, _⟩ := hSw.1.all5; clear hHeld; go_simp)
     try simp only [Act.put, pz0, pz1, pz2]
     refine wpAnyH_take (i := 1) (oi := ⟨some 75, _, _, _, _, _⟩) (v := .agg #[.int .i64 kk, .string (bstr []), .string (bstr []), .slice q acc.length cc]) rfl (by kernel_rfl) (by kernel_rfl) (by kernel_rfl) (fun _ _ _ h => h) (.inl ⟨by rfl, fun w' hSw => ?_⟩) hHeld ?_
     focus (obtain ⟨q0, _, q1, _, q2, _, q3, _⟩ := hSw.2.all4; clear hHeld; go_simp)
     try simp only [Act.put, pz0, pz1, pz2]
     refine wpAnyH_ready (rs := [2]) (by kernel_rfl) (by simp) ?_
     refine AllReadyH.cons (o := ⟨none, _, _, _, _, _⟩) rfl (fun K' hK' => ?_) AllReadyH.nil
     obtain ⟨u0, v0, u1, v1, u2, v2, u3, v3, u4, v4⟩ := HQ.out.all5
     have hkn := And.intro (hHeld.1.off5 (b := W.heap.size + 1) (by simp only [ne_eq]; omega) (.slice (some ⟨tb, 0, none⟩) ts.length c) (.int .i64 (i4 : Nat)) (.int .i64 (k4 : Nat)) (.int .i64 (s.o : Nat)) (.int .i64 (l4 : Nat))) (hHeld.2.off5 (b := W.heap.size + 1) (by simp only [ne_eq]; omega) (.slice (some ⟨tb, 0, none⟩) ts.length c) (.int .i64 (i4 : Nat)) (.int .i64 (k4 : Nat)) (.int .i64 (s.o : Nat)) (.int .i64 (l4 : Nat)))
     clear hHeld
     go_simp
     clear u0 v0 u1 v1 u2 v2 u3 v3 u4 v4
     refine hK'.out _ _ hkn (fun hHeld => ?_)
     clear hK' K' hkn
     try simp only [Act.put, pz0, pz1, pz2]
     have hkp := kp_setP wa (W.heap.size + 1) (.slice (some ⟨tb, 0, none⟩) ts.length c) (.int .i64 (i4 : Nat)) (.int .i64 (k4 : Nat)) (.int .i64 (s.o : Nat)) (.int .i64 (l4 : Nat))
     have HQ := hiD (HQ.out.setP (.slice (some ⟨tb, 0, none⟩) ts.length c) (.int .i64 (i4 : Nat)) (.int .i64 (k4 : Nat)) (.int .i64 (s.o : Nat)) (.int .i64 (l4 : Nat)))
     have HR := hiD (hkp.arr HR.out (by omega))
     have HVE := hiD (HVE.out.kp hkp (by omega))
     have HB := hiD (HB.out.trans (hkp.below (B := W.heap.size) (by omega) HB.out.size))
     clear hkp
     generalize (((((wa.setCell ⟨W.heap.size + 1, 0, none⟩ (.slice (some ⟨tb, 0, none⟩) ts.length c)).setCell ⟨W.heap.size + 1, 1, none⟩ (.int .i64 (i4 : Nat))).setCell ⟨W.heap.size + 1, 2, none⟩ (.int .i64 (k4 : Nat))).setCell ⟨W.heap.size + 1, 3, none⟩ (.int .i64 (s.o : Nat))).setCell ⟨W.heap.size + 1, 4, none⟩ (.int .i64 (l4 : Nat))) = wb at hHeld HQ HR HB HVE ⊢
     refine wpAnyH_ready (rs := [3]) (by kernel_rfl) (by simp) ?_
     refine AllReadyH.cons (o := ⟨none, _, _, _, _, _⟩) rfl (fun K' hK' => ?_) AllReadyH.nil
     obtain ⟨u0, v0, u1, v1, u2, v2, u3, v3⟩ := HR.out.all4
     have hkn := And.intro (hHeld.1.off4 (b := W.heap.size + 1 + 1) (by simp only [ne_eq]; omega) (.int .i64 kk) (.string (bstr [])) (.string (bstr [])) (.slice q acc.length cc)) (hHeld.2.off4 (b := W.heap.size + 1 + 1) (by simp only [ne_eq]; omega) (.int .i64 kk) (.string (bstr [])) (.string (bstr [])) (.slice q acc.length cc))
     clear hHeld
     go_simp
     clear u0 v0 u1 v1 u2 v2 u3 v3
     refine hK'.out _ _ hkn (fun hHeld => ?_)
     clear hK' K' hkn
     try simp only [Act.put, pz0, pz1, pz2]
     have hkp := kp_set4 wb (W.heap.size + 1 + 1) (.int .i64 kk) (.string (bstr [])) (.string (bstr [])) (.slice q acc.length cc)
     have HR := hiD (HR.out.set4 (.int .i64 kk) (.string (bstr [])) (.string (bstr [])) (.slice q acc.length cc))
     have HQ := hiD (hkp.arr HQ.out (by omega))
     have HVE := hiD (HVE.out.kp hkp (by omega))
     have HB := hiD (HB.out.trans (hkp.below (B := W.heap.size) (by omega) HB.out.size))
     clear hkp
     generalize ((((wb.setCell ⟨W.heap.size + 1 + 1, 0, none⟩ (.int .i64 kk)).setCell ⟨W.heap.size + 1 + 1, 1, none⟩ (.string (bstr []))).setCell ⟨W.heap.size + 1 + 1, 2, none⟩ (.string (bstr []))).setCell ⟨W.heap.size + 1 + 1, 3, none⟩ (.slice q acc.length cc)) = wc at hHeld HQ HR HB HVE ⊢
     refine wpAnyH_done (by kernel_rfl) ?_ _
     go_wp2_with fail
     clear hHeld
     have c0 := HQ.out.cell 0
     have c1 := HQ.out.cell 1
     have c2 := HQ.out.cell 2
     have c3 := HQ.out.cell 3
     have c4 := HQ.out.cell 4
     have d0 := HR.out.cell 0
     have d1 := HR.out.cell 1
     have d2 := HR.out.cell 2
     have d3 := HR.out.cell 3
     simp only [List.getElem?_cons_zero, List.getElem?_cons_succ] at c0 c1 c2 c3 c4 d0 d1 d2 d3
     refine bodyPost_ret (v := .tuple #[.agg #[.slice (some ⟨tb, 0, none⟩) ts.length c, .int .i64 (i4 : Nat), .int .i64 (k4 : Nat), .int .i64 (s.o : Nat), .int .i64 (l4 : Nat)], .agg #[.int .i64 kk, .string (bstr []), .string (bstr []), .slice q acc.length cc]]) ?_ rfl ⟨i4, k4, l4, _, _, HGF.out, rfl, HVE.out.ve.low (by omega), HB.out⟩
     simp [results, Tryz.results34, go_sem, c0, c1, c2, c3, c4, d0, d1, d2, d3]
    | true =>
     have hd := HD.out
     simp only [Bool.true_eq, Bool.and_eq_true, decide_eq_true_eq] at hd
     have HK4 := hiD hd.1
     have HT4 := hiD hd.2
     clear hd
     have e5 : (kk != 5) = true := by rw [HKK.out]; rfl
     have HA2 : Hid (kk = 5 → acc.length < 2) := fun h => absurd (HKK.out.symm.trans h) (by decide)
     obtain ⟨i5, hi5⟩ : ∃ x, x = i4 + 1 := ⟨_, rfl⟩
     have HI5 := hiD hi5
     have HS5 : Hid (i5 < ts.length) := by
      show i5 < _
      rw [hi5]
      exact HO.out.1.step (by rw [HT4.out, HSG.out]; simp)
     have hzi0 : (0 : Int) ≤ i4 := by omega
     have hzi1 : (i4 : Int) ≤ 100000 := by have := HH4.out; have := HTS.out; omega
     clear hi5
     obtain ⟨p0, z0, p1, z1, p2, z2, p3, z3, p4, z4⟩ := HA.out.all5
     obtain ⟨ea0, eb0, ea1, eb1, ea2, eb2, ea3, eb3⟩ := HF.out.all4
     go_upto_region 14 with (fail)
     clear p0 z0 p1 z1 p2 z2 p3 z3 p4 z4
     clear ea0 eb0 ea1 eb1 ea2 eb2 ea3 eb3
     have hkp := (Kp.of (pb := W.heap.size) (Below.refl w8.heap.size w8)).set 1 (.int .i64 ((i4 : Int) + 1))
     have HA : Hid (Arr (w8.setCell ⟨W.heap.size, 1, none⟩ (.int .i64 ((i4 : Int) + 1))) 56 W.heap.size [.slice (some ⟨tb, 0, none⟩) ts.length c, .int .i64 (i5 : Nat), .int .i64 (k4 : Nat), .int .i64 (s.o : Nat), .int .i64 (l4 : Nat)]) := by
      have h := HA.out.set 1 (.int .i64 ((i4 : Int) + 1))
      rw [show ((i5 : Nat) : Int) = (i4 : Int) + 1 from by rw [HI5.out]; simp]
      exact h
     have HF := hiD (hkp.arr HF.out (by omega))
     have HQ := hiD (hkp.arr HQ.out (by omega))
     have HR := hiD (hkp.arr HR.out (by omega))
     have HT := hiD (HT.out.kp hkp (by first | omega | (have := HZ.out; omega)))
     have HRW := hiD (HRW.out.kp hkp (.inl (by omega)))
     have HB := hiD (HB.out.trans (hkp.below (B := W.heap.size) (Nat.le_refl _) HB.out.size))
     clear hkp hzi0 hzi1
     generalize (w8.setCell ⟨W.heap.size, 1, none⟩ (.int .i64 ((i4 : Int) + 1))) = w9 at HA HF HQ HR HT HRW HB ⊢
     go_upto_region 15 with (fail)
     have hb10 : Below w9.heap.size w9 (w9.alloc (.cells #[.int .i64 0, .string ⟨#[]⟩, .string ⟨#[]⟩, .slice none 0 0] 46)) := (Below.refl _ _).alloc (Nat.le_refl _) _
     have hgn : ge < w9.heap.size := HF.out.lt
     have HBL : Hid (∀ b, (Value.slice q acc.length cc).ownBlock = some b → b < w9.heap.size) := fun b hb => by obtain ⟨_, h, _⟩ := HRW.out; exact (h.lt b hb).2
     have HRW := hiD (HRW.out.wk (Y := fun b => b = ge ∨ b = w9.heap.size) (fun b _ hl h => h.elim id (fun e => absurd (e ▸ hl) (Nat.lt_irrefl _))))
     have HN : Hid (Arr (w9.alloc (.cells #[.int .i64 0, .string ⟨#[]⟩, .string ⟨#[]⟩, .slice none 0 0] 46)) 46 w9.heap.size [.int .i64 0, .string ⟨#[]⟩, .string ⟨#[]⟩, .slice none 0 0]) := Arr.new' _ _ _ _ rfl
     have HA := hiD (HA.out.later hb10)
     have HF := hiD (HF.out.later hb10)
     have HQ := hiD (HQ.out.later hb10)
     have HR := hiD (HR.out.later hb10)
     have HT := hiD (HT.out.later hb10)
     have HRW := hiD (HRW.out.later hb10)
     have HB := hiD (HB.out.trans (hb10.mono HB.out.size))
     have hnw : w9.heap.size < (w9.alloc (.cells #[.int .i64 0, .string ⟨#[]⟩, .string ⟨#[]⟩, .slice none 0 0] 46)).heap.size := HN.out.lt
     obtain ⟨nb, hnb⟩ : ∃ x, x = w9.heap.size := ⟨_, rfl⟩
     rw [← hnb] at HN HRW hgn HBL hnw ⊢
     generalize w9.alloc (.cells #[.int .i64 0, .string ⟨#[]⟩, .string ⟨#[]⟩, .slice none 0 0] 46) = w10 at HA HF HQ HR HT HRW HN HB hnw ⊢
     clear hnb hb10
     have HUC : Hid (Calls Tryz.prog 54 #[.agg #[.slice (some ⟨tb, 0, none⟩) ts.length c, .int .i64 (i5 : Nat), .int .i64 (k4 : Nat), .int .i64 (s.o : Nat), .int .i64 (l4 : Nat)]] w10 (GE tb c ts s.o (st k4 i5 (U ⟨i5, s.o, l4⟩)) w10)) := HU.out w10 ⟨i5, s.o, l4⟩ k4 HT.out HS5.out HL4.out (HL4.out.2 HK4.out) rfl
     obtain ⟨p0, z0, p1, z1, p2, z2, p3, z3, p4, z4⟩ := HA.out.all5
     obtain ⟨na0, nz0, na1, nz1, na2, nz2, na3, nz3⟩ := HN.out.all4
     go_wp2_with fail
     refine HUC.out.mono ?_
     rintro r w11 ⟨i6, k6, l6, x6, v6, hg6, rfl, hv6, b6⟩
     have HG6 : Hid (Go1 ts k6 i6 s.o l6 x6 (U ⟨i5, s.o, l4⟩)) := by
      have h := hg6
      rw [st_0 HK4.out] at h
      exact h
     clear p0 z0 p1 z1 p2 z2 p3 z3 p4 z4
     clear na0 nz0 na1 nz1 na2 nz2 na3 nz3
     have HA := hiD (HA.out.later b6)
     have HF := hiD (HF.out.later b6)
     have HQ := hiD (HQ.out.later b6)
     have HR := hiD (HR.out.later b6)
     have HN := hiD (HN.out.later b6)
     have HT := hiD (HT.out.later b6)
     have HRW := hiD (HRW.out.later b6)
     have HB := hiD (HB.out.trans (b6.mono HB.out.size))
     obtain ⟨mk6, mv6, mn6, ms6⟩ := x6
     have HV6 := hiD hv6
     obtain ⟨q6, c6, rfl⟩ := VE.form hv6
     have HV6 := hiD HV6.out.vg
     clear hg6 hv6 b6 HUC
     obtain ⟨p0, z0, p1, z1, p2, z2, p3, z3, p4, z4⟩ := HA.out.all5
     obtain ⟨na0, nz0, na1, nz1, na2, nz2, na3, nz3⟩ := HN.out.all4
     go_upto_region 16 with (fail)
     clear p0 z0 p1 z1 p2 z2 p3 z3 p4 z4
     clear na0 nz0 na1 nz1 na2 nz2 na3 nz3
     have hkp := kp_setP w11 (W.heap.size) (.slice (some ⟨tb, 0, none⟩) ts.length c) (.int .i64 (i6 : Nat)) (.int .i64 (k6 : Nat)) (.int .i64 (s.o : Nat)) (.int .i64 (l6 : Nat))
     have HA := hiD (HA.out.setP (.slice (some ⟨tb, 0, none⟩) ts.length c) (.int .i64 (i6 : Nat)) (.int .i64 (k6 : Nat)) (.int .i64 (s.o : Nat)) (.int .i64 (l6 : Nat)))
     have HF := hiD (hkp.arr HF.out (by omega))
     have HQ := hiD (hkp.arr HQ.out (by omega))
     have HR := hiD (hkp.arr HR.out (by omega))
     have HN := hiD (hkp.arr HN.out (by omega))
     have HT := hiD (HT.out.kp hkp (by first | omega | (have := HZ.out; omega)))
     have HV6 := hiD (HV6.out.kp hkp (by first | omega | (have := HZ.out; omega)))
     have HRW := hiD (HRW.out.kp hkp (.inl (by omega)))
     have HB := hiD (HB.out.trans (hkp.below (B := W.heap.size) (Nat.le_refl _) HB.out.size))
     clear hkp
     generalize (((((w11.setCell ⟨W.heap.size, 0, none⟩ (.slice (some ⟨tb, 0, none⟩) ts.length c)).setCell ⟨W.heap.size, 1, none⟩ (.int .i64 (i6 : Nat))).setCell ⟨W.heap.size, 2, none⟩ (.int .i64 (k6 : Nat))).setCell ⟨W.heap.size, 3, none⟩ (.int .i64 (s.o : Nat))).setCell ⟨W.heap.size, 4, none⟩ (.int .i64 (l6 : Nat))) = w12 at HA HF HQ HR HN HT HV6 HRW HB ⊢
     have hkp := kp_set4 w12 (nb) (.int .i64 mk6) (.string (bstr mv6)) (.string (bstr mn6)) (.slice q6 ms6.length c6)
     have HN := hiD (HN.out.set4 (.int .i64 mk6) (.string (bstr mv6)) (.string (bstr mn6)) (.slice q6 ms6.length c6))
     have HA := hiD (hkp.arr HA.out (by omega))
     have HF := hiD (hkp.arr HF.out (by omega))
     have HQ := hiD (hkp.arr HQ.out (by omega))
     have HR := hiD (hkp.arr HR.out (by omega))
     have HT := hiD (HT.out.kp hkp (by first | omega | (have := HZ.out; omega)))
     have HV6 := hiD (HV6.out.kp hkp (by first | omega | (have := HZ.out; omega)))
     have HRW := hiD (HRW.out.kp hkp (.inr (.inr rfl)))
     have HB := hiD (HB.out.trans (hkp.below (B := W.heap.size) (by omega) HB.out.size))
     clear hkp
     generalize ((((w12.setCell ⟨nb, 0, none⟩ (.int .i64 mk6)).setCell ⟨nb, 1, none⟩ (.string (bstr mv6))).setCell ⟨nb, 2, none⟩ (.string (bstr mn6))).setCell ⟨nb, 3, none⟩ (.slice q6 ms6.length c6)) = w13 at HN HA HF HQ HR HT HV6 HRW HB ⊢
     obtain ⟨ea0, eb0, ea1, eb1, ea2, eb2, ea3, eb3⟩ := HF.out.all4
     obtain ⟨na0, nz0, na1, nz1, na2, nz2, na3, nz3⟩ := HN.out.all4
     have hb14 : Below w13.heap.size w13 (w13.alloc (.cells #[.int .i64 mk6, .string (bstr mv6), .string (bstr mn6), .slice q6 ms6.length c6] 46)) := (Below.refl _ _).alloc (Nat.le_refl _) _
     have HY : Hid (Arr (w13.alloc (.cells #[.int .i64 mk6, .string (bstr mv6), .string (bstr mn6), .slice q6 ms6.length c6] 46)) 46 w13.heap.size [.int .i64 mk6, .string (bstr mv6), .string (bstr mn6), .slice q6 ms6.length c6]) := Arr.new' _ _ _ _ rfl
     have HA := hiD (HA.out.later hb14)
     have HF := hiD (HF.out.later hb14)
     have HQ := hiD (HQ.out.later hb14)
     have HR := hiD (HR.out.later hb14)
     have HT := hiD (HT.out.later hb14)
     have HRW := hiD (HRW.out.later hb14)
     have HV6 := hiD (HV6.out.later hb14)
     have HB := hiD (HB.out.trans (hb14.mono HB.out.size))
     have HR9 : Hid (rdEx (SubX (W.heap.size + 3) (fun b => b = ge ∨ b = nb) (w13.alloc (.cells #[.int .i64 mk6, .string (bstr mv6), .string (bstr mn6), .slice q6 ms6.length c6] 46)) (.slice q acc.length cc)) (w13.alloc (.cells #[.int .i64 mk6, .string (bstr mv6), .string (bstr mn6), .slice q6 ms6.length c6] 46)) (.mk mk6 mv6 mn6 ms6) [.int .i64 mk6, .string (bstr mv6), .string (bstr mn6), .slice q6 ms6.length c6]) := ⟨_, _, _, _, rfl, RdE.imp (fun b hb => ⟨by have := hb.1; omega, hb.2, fun e => by have h1 := HBL.out b e.symm; have := hb.1; omega, fun h => by rcases h with h | h <;> (have := hb.1; omega)⟩) HV6.out.ve⟩
     have HAC : Hid (acc.length + 1 ≤ 200000) := sl_len HSL.out HK4.out HH4.out HTS.out
     have HBS : Hid (W.heap.size + 3 ≤ (w13.alloc (.cells #[.int .i64 mk6, .string (bstr mv6), .string (bstr mn6), .slice q6 ms6.length c6] 46)).heap.size) := by have h := HF.out.lt; show _ ≤ _; omega
     have HXX : Hid (∀ b, (b = ge ∨ b = nb) → b < (w13.alloc (.cells #[.int .i64 mk6, .string (bstr mv6), .string (bstr mn6), .slice q6 ms6.length c6] 46)).heap.size) := fun b h => by have h1 := HF.out.lt; have h2 := hb14.size; have h3 := HN.out.lt; rcases h with h | h <;> omega
     clear hb14
     go_wp2_with (at_builtin; refine app_row (K := kdEx) (x := .mk mk6 mv6 mn6 ms6) rfl _ _ rfl rfl HRW.out rfl HY.out HR9.out HAC.out HBS.out HXX.out ?_)
     intro v10 w15 r10 g10 o10
     have HA : Hid (Arr w15 56 W.heap.size [.slice (some ⟨tb, 0, none⟩) ts.length c, .int .i64 (i6 : Nat), .int .i64 (k6 : Nat), .int .i64 (s.o : Nat), .int .i64 (l6 : Nat)]) := (g10.block _ HA.out.lt (fun e => by have := (o10 _ e.symm).1; omega)).trans HA.out
     have HQ : Hid (Arr w15 56 (W.heap.size + 1) [.slice none 0 0, .int .i64 0, .int .i64 0, .int .i64 0, .int .i64 0]) := (g10.block _ HQ.out.lt (fun e => by have := (o10 _ e.symm).1; omega)).trans HQ.out
     have HR : Hid (Arr w15 46 (W.heap.size + 1 + 1) [.int .i64 0, .string ⟨#[]⟩, .string ⟨#[]⟩, .slice none 0 0]) := (g10.block _ HR.out.lt (fun e => by have := (o10 _ e.symm).1; omega)).trans HR.out
     have HF : Hid (Arr w15 46 ge [.int .i64 kk, .string ⟨#[]⟩, .string ⟨#[]⟩, .slice q acc.length cc]) := (g10.block _ HF.out.lt (fun e => (o10 _ e.symm).2.1 rfl)).trans HF.out
     have hlo : W.heap.size ≤ (w13.alloc (.cells #[.int .i64 mk6, .string (bstr mv6), .string (bstr mn6), .slice q6 ms6.length c6] 46)).heap.size := by have := HBS.out; omega
     have hlk : ∀ k, (Value.slice q acc.length cc).ownBlock = some k → W.heap.size ≤ k := fun k hk => by have := (o10 k hk).1; omega
     have HT : Hid (RT w15 tb ts) := by
      have hb := (Below.refl W.heap.size (w13.alloc (.cells #[.int .i64 mk6, .string (bstr mv6), .string (bstr mn6), .slice q6 ms6.length c6] 46))).grown g10 hlo hlk
      exact ⟨Nat.lt_of_lt_of_le HT.out.1 hb.size, HT.out.2.1, fun i hi j hj => (hb.cell (p := ⟨tb, i * 3 + j, none⟩) HZ.out).trans (HT.out.2.2 i hi j hj)⟩
     have HB := hiD (HB.out.grown g10 hlo hlk)
     have HRW : Hid (PRow kdEx (W.heap.size + 3) (fun b => b = ge) w15 v10 (acc ++ [.mk mk6 mv6 mn6 ms6])) := r10.wk (fun b _ _ h => .inl h)
     obtain ⟨q10, c10, hv10⟩ := r10.form
     rw [List.length_append, List.length_singleton] at hv10
     subst hv10
     clear r10 g10 o10 hlo hlk HY HR9 HV6 HN HXX HBS
     clear ea0 eb0 ea1 eb1 ea2 eb2 ea3 eb3
     clear na0 nz0 na1 nz1 na2 nz2 na3 nz3
     obtain ⟨ea0, eb0, ea1, eb1, ea2, eb2, ea3, eb3⟩ := HF.out.all4
     go_wp2_with fail
     have hkp := (Kp.of (pb := ge) (Below.refl w15.heap.size w15)).set 3 (.slice q10 (acc.length + 1) c10)
     have HF : Hid (Arr (w15.setCell ⟨ge, 3, none⟩ (.slice q10 (acc.length + 1) c10)) 46 ge [.int .i64 kk, .string ⟨#[]⟩, .string ⟨#[]⟩, .slice q10 (acc.length + 1) c10]) := HF.out.set 3 _
     have HA := hiD (hkp.arr HA.out (by omega))
     have HQ := hiD (hkp.arr HQ.out (by omega))
     have HR := hiD (hkp.arr HR.out (by omega))
     have HT := hiD (HT.out.kp hkp (by first | omega | (have := HZ.out; omega)))
     have HRW := hiD (HRW.out.kp hkp (.inr rfl))
     have HB := hiD (HB.out.trans (hkp.below (B := W.heap.size) (by omega) HB.out.size))
     clear hkp
     generalize (w15.setCell ⟨ge, 3, none⟩ (.slice q10 (acc.length + 1) c10)) = w16 at HA HF HQ HR HT HRW HB ⊢
     go_roundw
     case rel =>
      have hlen : (acc ++ [Ex.mk mk6 mv6 mn6 ms6]).length = acc.length + 1 := by rw [List.length_append, List.length_singleton]
      refine ⟨acc ++ [Ex.mk mk6 mv6 mn6 ms6], i6, k6, l6, q10, c10, ?_, ?_, HA.out, HQ.out, HR.out, HT.out, HB.out, HG6.out.1, HG6.out.2.1, ?_⟩
      ·rw [hlen]
       exact HRW.out
      ·rw [hlen]
       exact HF.out
      ·exact sl_more HKU.out HSL.out HK4.out HI5.out HS5.out HA2.out HK.out HT4.out HG6.out
     case measure =>
      rw [msr_at HA.out, HM0.out]
      exact msr_less HKU.out HK4.out HI5.out HS5.out HG6.out
  ·have e45 : tx.toList = [45] := by rw [HTX.out]; exact sign_is e5
   have HK := hiD h5
   have HSG := hiD e5
   clear h5 e5
   obtain ⟨p0, z0, p1, z1, p2, z2, p3, z3, p4, z4⟩ := HA.out.all5
   obtain ⟨ea0, eb0, ea1, eb1, ea2, eb2, ea3, eb3⟩ := HE.out.all4
   go_upto_region 8 with (fail)
   clear p0 z0 p1 z1 p2 z2 p3 z3 p4 z4
   clear ea0 eb0 ea1 eb1 ea2 eb2 ea3 eb3
   have hb7 : Below w5.heap.size w5 ((w5.alloc (.cells #[.int .i64 mk, .string (bstr mv), .string (bstr mn), .slice q4 ms.length cq] 46)).alloc (.cells #[.int .i64 3, .string ⟨#[]⟩, .string ⟨#[]⟩, .slice (some ⟨w5.heap.size, 0, none⟩) 1 1] 46)) := ((Below.refl _ _).alloc (Nat.le_refl _) _).alloc (by simp) _
   have hb8 : Below (w5.alloc (.cells #[.int .i64 mk, .string (bstr mv), .string (bstr mn), .slice q4 ms.length cq] 46)).heap.size (w5.alloc (.cells #[.int .i64 mk, .string (bstr mv), .string (bstr mn), .slice q4 ms.length cq] 46)) ((w5.alloc (.cells #[.int .i64 mk, .string (bstr mv), .string (bstr mn), .slice q4 ms.length cq] 46)).alloc (.cells #[.int .i64 3, .string ⟨#[]⟩, .string ⟨#[]⟩, .slice (some ⟨w5.heap.size, 0, none⟩) 1 1] 46)) := (Below.refl _ _).alloc (Nat.le_refl _) _
   have hlo : W.heap.size + 3 ≤ w5.heap.size := Nat.le_trans hgl HVE.out.1
   have h1 := PRow.lit (K := kdEx) (base := W.heap.size + 3) (X := fun _ => False) (w := w5) (x := .mk mk mv mn ms) (cs := [.int .i64 mk, .string (bstr mv), .string (bstr mn), .slice q4 ms.length cq]) hlo (fun b h => h.elim) ⟨_, _, _, _, rfl, RdE.imp (fun b hb => ⟨hb.1, hb.2, fun h => h⟩) HVE.out.ve⟩
   have HRW : Hid (PRow kdEx (W.heap.size + 3) (fun b => b = w5.heap.size + 1) ((w5.alloc (.cells #[.int .i64 mk, .string (bstr mv), .string (bstr mn), .slice q4 ms.length cq] 46)).alloc (.cells #[.int .i64 3, .string ⟨#[]⟩, .string ⟨#[]⟩, .slice (some ⟨w5.heap.size, 0, none⟩) 1 1] 46)) (.slice (some ⟨w5.heap.size, 0, none⟩) 1 1) [.mk mk mv mn ms]) := (h1.wk (Y := fun b => b = w5.heap.size + 1) (fun b _ h e => by subst e; simp at h)).later hb8
   have HF : Hid (Arr ((w5.alloc (.cells #[.int .i64 mk, .string (bstr mv), .string (bstr mn), .slice q4 ms.length cq] 46)).alloc (.cells #[.int .i64 3, .string ⟨#[]⟩, .string ⟨#[]⟩, .slice (some ⟨w5.heap.size, 0, none⟩) 1 1] 46)) 46 (w5.heap.size + 1) [.int .i64 3, .string ⟨#[]⟩, .string ⟨#[]⟩, .slice (some ⟨w5.heap.size, 0, none⟩) 1 1]) := by
    have h := Arr.new' (w5.alloc (.cells #[.int .i64 mk, .string (bstr mv), .string (bstr mn), .slice q4 ms.length cq] 46)) 46 #[.int .i64 3, .string ⟨#[]⟩, .string ⟨#[]⟩, .slice (some ⟨w5.heap.size, 0, none⟩) 1 1] [.int .i64 3, .string ⟨#[]⟩, .string ⟨#[]⟩, .slice (some ⟨w5.heap.size, 0, none⟩) 1 1] rfl
    rw [show (w5.alloc (.cells #[.int .i64 mk, .string (bstr mv), .string (bstr mn), .slice q4 ms.length cq] 46)).heap.size = w5.heap.size + 1 from by simp] at h
    exact h
   have HA := hiD (HA.out.later hb7)
   have HQ := hiD (HQ.out.later hb7)
   have HR := hiD (HR.out.later hb7)
   have HT := hiD (HT.out.later hb7)
   have HB := hiD (HB.out.trans (hb7.mono HB.out.size))
   clear hb7 hb8 h1 HE HVE
   obtain ⟨gk, hgk⟩ : ∃ x, x = w5.heap.size := ⟨_, rfl⟩
   rw [← hgk] at HRW HF hlo HA HQ HR HT HB ⊢
   obtain ⟨ge, hge⟩ : ∃ x, x = gk + 1 := ⟨_, rfl⟩
   rw [← hge] at HRW HF ⊢
   have hle : W.heap.size + 3 ≤ ge := by omega
   clear hgk hge hlo
   generalize ((w5.alloc (.cells #[.int .i64 mk, .string (bstr mv), .string (bstr mn), .slice q4 ms.length cq] 46)).alloc (.cells #[.int .i64 3, .string ⟨#[]⟩, .string ⟨#[]⟩, .slice (some ⟨gk, 0, none⟩) 1 1] 46)) = w6 at HA HQ HR HT HB HRW HF ⊢
   obtain ⟨ea0, eb0, ea1, eb1, ea2, eb2, ea3, eb3⟩ := HF.out.all4
   go_wp2_with fail
   clear ea0 eb0 ea1 eb1 ea2 eb2 ea3 eb3
   have hkp := (Kp.of (pb := ge) (Below.refl w6.heap.size w6)).set 0 (.int .i64 5)
   have HF : Hid (Arr (w6.setCell ⟨ge, 0, none⟩ (.int .i64 5)) 46 ge [.int .i64 5, .string ⟨#[]⟩, .string ⟨#[]⟩, .slice (some ⟨gk, 0, none⟩) 1 1]) := HF.out.set 0 (.int .i64 5)
   have HRW := hiD (HRW.out.box (.inr rfl) 0 (.int .i64 5))
   have HA := hiD (hkp.arr HA.out (by omega))
   have HQ := hiD (hkp.arr HQ.out (by omega))
   have HR := hiD (hkp.arr HR.out (by omega))
   have HT := hiD (HT.out.kp hkp (by first | omega | (have := HZ.out; omega)))
   have HB := hiD (HB.out.trans (hkp.below (B := W.heap.size) (by omega) HB.out.size))
   clear hkp
   generalize (w6.setCell ⟨ge, 0, none⟩ (.int .i64 5)) = w7 at HF HRW HA HQ HR HT HB ⊢
   obtain ⟨kk, hkk⟩ : ∃ x : Int, x = 5 := ⟨_, rfl⟩
   have HKK := hiD hkk
   rw [← hkk] at HF HK
   clear hkk
   have HSL : Hid (SL ts U (st k s.i (unitsW ts U s)) kk (txt ts i1) [.mk mk mv mn ms] i1 s.o k1 l1) := by
    have h := units_many HK1.out HG1.out (by rw [HK.out, HKK.out]; decide)
    rw [HK.out] at h
    exact h
   have HH1 := hiD HG1.out.1
   have HL1 := hiD HG1.out.2.1
   clear HG1 e45
   go_loopw [7] (fun _ wr => ∃ (acc : List Ex) (i4 k4 l4 : Nat) (q : Option Addr) (cc : Nat), Hid (PRow kdEx (W.heap.size + 3) (fun b => b = ge) wr (.slice q acc.length cc) acc) ∧ Hid (Arr wr 46 ge [.int .i64 kk, .string ⟨#[]⟩, .string ⟨#[]⟩, .slice q acc.length cc]) ∧ Hid (Arr wr 56 W.heap.size [.slice (some ⟨tb, 0, none⟩) ts.length c, .int .i64 (i4 : Nat), .int .i64 (k4 : Nat), .int .i64 (s.o : Nat), .int .i64 (l4 : Nat)]) ∧ Hid (Arr wr 56 (W.heap.size + 1) [.slice none 0 0, .int .i64 0, .int .i64 0, .int .i64 0, .int .i64 0]) ∧ Hid (Arr wr 46 (W.heap.size + 1 + 1) [.int .i64 0, .string ⟨#[]⟩, .string ⟨#[]⟩, .slice none 0 0]) ∧ Hid (RT wr tb ts) ∧ Hid (Below W.heap.size W wr) ∧ Hid (i4 < ts.length) ∧ Hid (Lk k4 l4) ∧ Hid (SL ts U (st k s.i (unitsW ts U s)) kk (txt ts i1) acc i4 s.o k4 l4)) (fun _ wr => msr ts.length W.heap.size wr)
   case atStart => exact ⟨_, i1, k1, l1, _, 1, HRW.out, HF.out, HA.out, HQ.out, HR.out, HT.out, HB.out, HH1.out, HL1.out, HSL.out⟩
   case round =>
    obtain ⟨acc, i4, k4, l4, q, cc, HRW, HF, HA, HQ, HR, HT, HB, HH4, HL4, HSL⟩ := hrel
    have HM0 : Hid (msr ts.length W.heap.size wr = if k4 = 0 then 1 + ts.length - i4 else 0) := msr_at HA.out
    have HIS := hiD (ris_any (s := ⟨i4, s.o, l4⟩) (c := c) (k := k4) HO.out.1 HT.out HH4.out tx (txt ts i1) (by rw [HTX.out, bstr_data]) (by rw [HSG.out]; simp))
    obtain ⟨d, hd⟩ : ∃ d, d = (decide (k4 = 0) && decide (txt ts i4 = txt ts i1)) := ⟨_, rfl⟩
    have HD := hiD hd
    rw [show (decide (k4 = 0) && decide (txt ts (⟨i4, s.o, l4⟩ : PS).i = txt ts i1)) = d from hd.symm] at HIS
    clear hd
    obtain ⟨p0, z0, p1, z1, p2, z2, p3, z3, p4, z4⟩ := HA.out.all5
    obtain ⟨ea0, eb0, ea1, eb1, ea2, eb2, ea3, eb3⟩ := HF.out.all4
    go_wp2_with fail
    refine HIS.out.mono ?_
    rintro r w8 ⟨rfl, b8⟩
    clear p0 z0 p1 z1 p2 z2 p3 z3 p4 z4
    clear ea0 eb0 ea1 eb1 ea2 eb2 ea3 eb3
    have HA := hiD (HA.out.later b8)
    have HQ := hiD (HQ.out.later b8)
    have HR := hiD (HR.out.later b8)
    have HT := hiD (HT.out.later b8)
    have HF := hiD (HF.out.later b8)
    have HRW := hiD (HRW.out.later b8)
    have HB := hiD (HB.out.trans (b8.mono HB.out.size))
    clear b8 HIS
    cases d with
    | false =>
     have hd := HD.out
     simp only [Bool.false_eq, Bool.and_eq_false_iff, decide_eq_false_iff_not] at hd
     have HGF : Hid (Go1 ts k4 i4 s.o l4 (.mk kk [] [] acc) (st k s.i (unitsW ts U s))) := sl_end HSL.out HH4.out HL4.out (fun h => hd.elim (fun h1 => h1 h.1) (fun h2 => h2 h.2))
     have HVE := hiD (VE.vg (HRW.out.rdE kk [] []))
     have HE : Hid (Arr w8 46 ge [.int .i64 kk, .string (bstr []), .string (bstr []), .slice q acc.length cc]) := HF.out
     clear hd HF
     obtain ⟨p0, z0, p1, z1, p2, z2, p3, z3, p4, z4⟩ := HA.out.all5
     obtain ⟨ea0, eb0, ea1, eb1, ea2, eb2, ea3, eb3⟩ := HE.out.all4
     go_upto_region 17 with (fail)
     clear p0 z0 p1 z1 p2 z2 p3 z3 p4 z4
     clear ea0 eb0 ea1 eb1 ea2 eb2 ea3 eb3
     have hb7 : Below w8.heap.size w8 w8.drew := (Below.refl _ _).drew
     have HA := hiD (HA.out.later hb7)
     have HQ := hiD (HQ.out.later hb7)
     have HR := hiD (HR.out.later hb7)
     have HE := hiD (HE.out.later hb7)
     have HB := hiD (HB.out.trans (hb7.mono HB.out.size))
     have HVE := hiD (HVE.out.later hb7)
     refine wp_region_held_drew (S := fun W' => Arr W' 56 (W.heap.size) [.slice (some ⟨tb, 0, none⟩) ts.length c, .int .i64 (i4 : Nat), .int .i64 (k4 : Nat), .int .i64 (s.o : Nat), .int .i64 (l4 : Nat)] ∧ Arr W' 46 (ge) [.int .i64 kk, .string (bstr []), .string (bstr []), .slice q acc.length cc]) (by kernel_rfl) ⟨HA.out, HE.out⟩ (fun hHeld => ?_)
     try simp only [Act.put]
     clear hb7
     generalize w8.drew = wa at hHeld HA HQ HR HE HB HVE ⊢
     refine wpAnyH_take (i := 0) (oi := ⟨some 74, _, _, _, _, _⟩) (v := .agg #[.slice (some ⟨tb, 0, none⟩) ts.length c, .int .i64 (i4 : Nat), .int .i64 (k4 : Nat), .int .i64 (s.o : Nat), .int .i64 (l4 : Nat)]) rfl (by kernel_rfl) (by kernel_rfl) (by kernel_rfl) (fun _ _ _ h => h) (.inl ⟨by rfl, fun w' hSw => ?_⟩) hHeld ?_
     focus (obtain ⟨q0, _, q1, _, q2, _, q3, _, q4, _⟩ := hSw.1.all5; clear hHeld; go_simp)
     try simp only [Act.put, pz0, pz1, pz2]
     refine wpAnyH_take (i := 1) (oi := ⟨some 75, _, _, _, _, _⟩) (v := .agg #[.int .i64 kk, .string (bstr []), .string (bstr []), .slice q acc.length cc]) rfl (by kernel_rfl) (by kernel_rfl) (by kernel_rfl) (fun _ _ _ h => h) (.inl ⟨by rfl, fun w' hSw => ?_⟩) hHeld ?_
     focus (obtain ⟨q0, _, q1, _, q2, _, q3, _⟩ := hSw.2.all4; clear hHeld; go_simp)
     try simp only [Act.put, pz0, pz1, pz2]
     refine wpAnyH_ready (rs := [2]) (by kernel_rfl) (by simp) ?_
     refine AllReadyH.cons (o := ⟨none, _, _, _, _, _⟩) rfl (fun K' hK' => ?_) AllReadyH.nil
     obtain ⟨u0, v0, u1, v1, u2, v2, u3, v3, u4, v4⟩ := HQ.out.all5
     have hkn := And.intro (hHeld.1.off5 (b := W.heap.size + 1) (by simp only [ne_eq]; omega) (.slice (some ⟨tb, 0, none⟩) ts.length c) (.int .i64 (i4 : Nat)) (.int .i64 (k4 : Nat)) (.int .i64 (s.o : Nat)) (.int .i64 (l4 : Nat))) (hHeld.2.off5 (b := W.heap.size + 1) (by simp only [ne_eq]; omega) (.slice (some ⟨tb, 0, none⟩) ts.length c) (.int .i64 (i4 : Nat)) (.int .i64 (k4 : Nat)) (.int .i64 (s.o : Nat)) (.int .i64 (l4 : Nat)))
     clear hHeld
     go_simp
     clear u0 v0 u1 v1 u2 v2 u3 v3 u4 v4
     refine hK'.out _ _ hkn (fun hHeld => ?_)
     clear hK' K' hkn
     try simp only [Act.put, pz0, pz1, pz2]
     have hkp := kp_setP wa (W.heap.size + 1) (.slice (some ⟨tb, 0, none⟩) ts.length c) (.int .i64 (i4 : Nat)) (.int .i64 (k4 : Nat)) (.int .i64 (s.o : Nat)) (.int .i64 (l4 : Nat))
     have HQ := hiD (HQ.out.setP (.slice (some ⟨tb, 0, none⟩) ts.length c) (.int .i64 (i4 : Nat)) (.int .i64 (k4 : Nat)) (.int .i64 (s.o : Nat)) (.int .i64 (l4 : Nat)))
     have HR := hiD (hkp.arr HR.out (by omega))
     have HVE := hiD (HVE.out.kp hkp (by omega))
     have HB := hiD (HB.out.trans (hkp.below (B := W.heap.size) (by omega) HB.out.size))
     clear hkp
     generalize (((((wa.setCell ⟨W.heap.size + 1, 0, none⟩ (.slice (some ⟨tb, 0, none⟩) ts.length c)).setCell ⟨W.heap.size + 1, 1, none⟩ (.int .i64 (i4 : Nat))).setCell ⟨W.heap.size + 1, 2, none⟩ (.int .i64 (k4 : Nat))).setCell ⟨W.heap.size + 1, 3, none⟩ (.int .i64 (s.o : Nat))).setCell ⟨W.heap.size + 1, 4, none⟩ (.int .i64 (l4 : Nat))) = wb at hHeld HQ HR HB HVE ⊢
     refine wpAnyH_ready (rs := [3]) (by kernel_rfl) (by simp) ?_
     refine AllReadyH.cons (o := ⟨none, _, _, _, _, _⟩) rfl (fun K' hK' => ?_) AllReadyH.nil
     obtain ⟨u0, v0, u1, v1, u2, v2, u3, v3⟩ := HR.out.all4
     have hkn := And.intro (hHeld.1.off4 (b := W.heap.size + 1 + 1) (by simp only [ne_eq]; omega) (.int .i64 kk) (.string (bstr [])) (.string (bstr [])) (.slice q acc.length cc)) (hHeld.2.off4 (b := W.heap.size + 1 + 1) (by simp only [ne_eq]; omega) (.int .i64 kk) (.string (bstr [])) (.string (bstr [])) (.slice q acc.length cc))
     clear hHeld
     go_simp
     clear u0 v0 u1 v1 u2 v2 u3 v3
     refine hK'.out _ _ hkn (fun hHeld => ?_)
     clear hK' K' hkn
     try simp only [Act.put, pz0, pz1, pz2]
     have hkp := kp_set4 wb (W.heap.size + 1 + 1) (.int .i64 kk) (.string (bstr [])) (.string (bstr [])) (.slice q acc.length cc)
     have HR := hiD (HR.out.set4 (.int .i64 kk) (.string (bstr [])) (.string (bstr [])) (.slice q acc.length cc))
     have HQ := hiD (hkp.arr HQ.out (by omega))
     have HVE := hiD (HVE.out.kp hkp (by omega))
     have HB := hiD (HB.out.trans (hkp.below (B := W.heap.size) (by omega) HB.out.size))
     clear hkp
     generalize ((((wb.setCell ⟨W.heap.size + 1 + 1, 0, none⟩ (.int .i64 kk)).setCell ⟨W.heap.size + 1 + 1, 1, none⟩ (.string (bstr []))).setCell ⟨W.heap.size + 1 + 1, 2, none⟩ (.string (bstr []))).setCell ⟨W.heap.size + 1 + 1, 3, none⟩ (.slice q acc.length cc)) = wc at hHeld HQ HR HB HVE ⊢
     refine wpAnyH_done (by kernel_rfl) ?_ _
     go_wp2_with fail
     clear hHeld
     have c0 := HQ.out.cell 0
     have c1 := HQ.out.cell 1
     have c2 := HQ.out.cell 2
     have c3 := HQ.out.cell 3
     have c4 := HQ.out.cell 4
     have d0 := HR.out.cell 0
     have d1 := HR.out.cell 1
     have d2 := HR.out.cell 2
     have d3 := HR.out.cell 3
     simp only [List.getElem?_cons_zero, List.getElem?_cons_succ] at c0 c1 c2 c3 c4 d0 d1 d2 d3
     refine bodyPost_ret (v := .tuple #[.agg #[.slice (some ⟨tb, 0, none⟩) ts.length c, .int .i64 (i4 : Nat), .int .i64 (k4 : Nat), .int .i64 (s.o : Nat), .int .i64 (l4 : Nat)], .agg #[.int .i64 kk, .string (bstr []), .string (bstr []), .slice q acc.length cc]]) ?_ rfl ⟨i4, k4, l4, _, _, HGF.out, rfl, HVE.out.ve.low (by omega), HB.out⟩
     simp [results, Tryz.results34, go_sem, c0, c1, c2, c3, c4, d0, d1, d2, d3]
    | true =>
     have hd := HD.out
     simp only [Bool.true_eq, Bool.and_eq_true, decide_eq_true_eq] at hd
     have HK4 := hiD hd.1
     have HT4 := hiD hd.2
     clear hd
     have e5 : (kk != 5) = false := by rw [HKK.out]; rfl
     by_cases ha : acc.length < 2
     ·have elt : (acc.length : Int) < 2 := by omega
      have HA2 : Hid (kk = 5 → acc.length < 2) := fun _ => ha
      clear ha
      obtain ⟨i5, hi5⟩ : ∃ x, x = i4 + 1 := ⟨_, rfl⟩
      have HI5 := hiD hi5
      have HS5 : Hid (i5 < ts.length) := by
       show i5 < _
       rw [hi5]
       exact HO.out.1.step (by rw [HT4.out, HSG.out]; simp)
      have hzi0 : (0 : Int) ≤ i4 := by omega
      have hzi1 : (i4 : Int) ≤ 100000 := by have := HH4.out; have := HTS.out; omega
      clear hi5
      obtain ⟨p0, z0, p1, z1, p2, z2, p3, z3, p4, z4⟩ := HA.out.all5
      obtain ⟨ea0, eb0, ea1, eb1, ea2, eb2, ea3, eb3⟩ := HF.out.all4
      go_upto_region 14 with (fail)
      clear p0 z0 p1 z1 p2 z2 p3 z3 p4 z4
      clear ea0 eb0 ea1 eb1 ea2 eb2 ea3 eb3
      have hkp := (Kp.of (pb := W.heap.size) (Below.refl w8.heap.size w8)).set 1 (.int .i64 ((i4 : Int) + 1))
      have HA : Hid (Arr (w8.setCell ⟨W.heap.size, 1, none⟩ (.int .i64 ((i4 : Int) + 1))) 56 W.heap.size [.slice (some ⟨tb, 0, none⟩) ts.length c, .int .i64 (i5 : Nat), .int .i64 (k4 : Nat), .int .i64 (s.o : Nat), .int .i64 (l4 : Nat)]) := by
       have h := HA.out.set 1 (.int .i64 ((i4 : Int) + 1))
       rw [show ((i5 : Nat) : Int) = (i4 : Int) + 1 from by rw [HI5.out]; simp]
       exact h
      have HF := hiD (hkp.arr HF.out (by omega))
      have HQ := hiD (hkp.arr HQ.out (by omega))
      have HR := hiD (hkp.arr HR.out (by omega))
      have HT := hiD (HT.out.kp hkp (by first | omega | (have := HZ.out; omega)))
      have HRW := hiD (HRW.out.kp hkp (.inl (by omega)))
      have HB := hiD (HB.out.trans (hkp.below (B := W.heap.size) (Nat.le_refl _) HB.out.size))
      clear hkp hzi0 hzi1
      generalize (w8.setCell ⟨W.heap.size, 1, none⟩ (.int .i64 ((i4 : Int) + 1))) = w9 at HA HF HQ HR HT HRW HB ⊢
      go_upto_region 15 with (fail)
      have hb10 : Below w9.heap.size w9 (w9.alloc (.cells #[.int .i64 0, .string ⟨#[]⟩, .string ⟨#[]⟩, .slice none 0 0] 46)) := (Below.refl _ _).alloc (Nat.le_refl _) _
      have hgn : ge < w9.heap.size := HF.out.lt
      have HBL : Hid (∀ b, (Value.slice q acc.length cc).ownBlock = some b → b < w9.heap.size) := fun b hb => by obtain ⟨_, h, _⟩ := HRW.out; exact (h.lt b hb).2
      have HRW := hiD (HRW.out.wk (Y := fun b => b = ge ∨ b = w9.heap.size) (fun b _ hl h => h.elim id (fun e => absurd (e ▸ hl) (Nat.lt_irrefl _))))
      have HN : Hid (Arr (w9.alloc (.cells #[.int .i64 0, .string ⟨#[]⟩, .string ⟨#[]⟩, .slice none 0 0] 46)) 46 w9.heap.size [.int .i64 0, .string ⟨#[]⟩, .string ⟨#[]⟩, .slice none 0 0]) := Arr.new' _ _ _ _ rfl
      have HA := hiD (HA.out.later hb10)
      have HF := hiD (HF.out.later hb10)
      have HQ := hiD (HQ.out.later hb10)
      have HR := hiD (HR.out.later hb10)
      have HT := hiD (HT.out.later hb10)
      have HRW := hiD (HRW.out.later hb10)
      have HB := hiD (HB.out.trans (hb10.mono HB.out.size))
      have hnw : w9.heap.size < (w9.alloc (.cells #[.int .i64 0, .string ⟨#[]⟩, .string ⟨#[]⟩, .slice none 0 0] 46)).heap.size := HN.out.lt
      obtain ⟨nb, hnb⟩ : ∃ x, x = w9.heap.size := ⟨_, rfl⟩
      rw [← hnb] at HN HRW hgn HBL hnw ⊢
      generalize w9.alloc (.cells #[.int .i64 0, .string ⟨#[]⟩, .string ⟨#[]⟩, .slice none 0 0] 46) = w10 at HA HF HQ HR HT HRW HN HB hnw ⊢
      clear hnb hb10
      have HUC : Hid (Calls Tryz.prog 54 #[.agg #[.slice (some ⟨tb, 0, none⟩) ts.length c, .int .i64 (i5 : Nat), .int .i64 (k4 : Nat), .int .i64 (s.o : Nat), .int .i64 (l4 : Nat)]] w10 (GE tb c ts s.o (st k4 i5 (U ⟨i5, s.o, l4⟩)) w10)) := HU.out w10 ⟨i5, s.o, l4⟩ k4 HT.out HS5.out HL4.out (HL4.out.2 HK4.out) rfl
      obtain ⟨p0, z0, p1, z1, p2, z2, p3, z3, p4, z4⟩ := HA.out.all5
      obtain ⟨na0, nz0, na1, nz1, na2, nz2, na3, nz3⟩ := HN.out.all4
      go_wp2_with fail
      refine HUC.out.mono ?_
      rintro r w11 ⟨i6, k6, l6, x6, v6, hg6, rfl, hv6, b6⟩
      have HG6 : Hid (Go1 ts k6 i6 s.o l6 x6 (U ⟨i5, s.o, l4⟩)) := by
       have h := hg6
       rw [st_0 HK4.out] at h
       exact h
      clear p0 z0 p1 z1 p2 z2 p3 z3 p4 z4
      clear na0 nz0 na1 nz1 na2 nz2 na3 nz3
      have HA := hiD (HA.out.later b6)
      have HF := hiD (HF.out.later b6)
      have HQ := hiD (HQ.out.later b6)
      have HR := hiD (HR.out.later b6)
      have HN := hiD (HN.out.later b6)
      have HT := hiD (HT.out.later b6)
      have HRW := hiD (HRW.out.later b6)
      have HB := hiD (HB.out.trans (b6.mono HB.out.size))
      obtain ⟨mk6, mv6, mn6, ms6⟩ := x6
      have HV6 := hiD hv6
      obtain ⟨q6, c6, rfl⟩ := VE.form hv6
      have HV6 := hiD HV6.out.vg
      clear hg6 hv6 b6 HUC
      obtain ⟨p0, z0, p1, z1, p2, z2, p3, z3, p4, z4⟩ := HA.out.all5
      obtain ⟨na0, nz0, na1, nz1, na2, nz2, na3, nz3⟩ := HN.out.all4
      go_upto_region 16 with (fail)
      clear p0 z0 p1 z1 p2 z2 p3 z3 p4 z4
      clear na0 nz0 na1 nz1 na2 nz2 na3 nz3
      have hkp := kp_setP w11 (W.heap.size) (.slice (some ⟨tb, 0, none⟩) ts.length c) (.int .i64 (i6 : Nat)) (.int .i64 (k6 : Nat)) (.int .i64 (s.o : Nat)) (.int .i64 (l6 : Nat))
      have HA := hiD (HA.out.setP (.slice (some ⟨tb, 0, none⟩) ts.length c) (.int .i64 (i6 : Nat)) (.int .i64 (k6 : Nat)) (.int .i64 (s.o : Nat)) (.int .i64 (l6 : Nat)))
      have HF := hiD (hkp.arr HF.out (by omega))
      have HQ := hiD (hkp.arr HQ.out (by omega))
      have HR := hiD (hkp.arr HR.out (by omega))
      have HN := hiD (hkp.arr HN.out (by omega))
      have HT := hiD (HT.out.kp hkp (by first | omega | (have := HZ.out; omega)))
      have HV6 := hiD (HV6.out.kp hkp (by first | omega | (have := HZ.out; omega)))
      have HRW := hiD (HRW.out.kp hkp (.inl (by omega)))
      have HB := hiD (HB.out.trans (hkp.below (B := W.heap.size) (Nat.le_refl _) HB.out.size))
      clear hkp
      generalize (((((w11.setCell ⟨W.heap.size, 0, none⟩ (.slice (some ⟨tb, 0, none⟩) ts.length c)).setCell ⟨W.heap.size, 1, none⟩ (.int .i64 (i6 : Nat))).setCell ⟨W.heap.size, 2, none⟩ (.int .i64 (k6 : Nat))).setCell ⟨W.heap.size, 3, none⟩ (.int .i64 (s.o : Nat))).setCell ⟨W.heap.size, 4, none⟩ (.int .i64 (l6 : Nat))) = w12 at HA HF HQ HR HN HT HV6 HRW HB ⊢
      have hkp := kp_set4 w12 (nb) (.int .i64 mk6) (.string (bstr mv6)) (.string (bstr mn6)) (.slice q6 ms6.length c6)
      have HN := hiD (HN.out.set4 (.int .i64 mk6) (.string (bstr mv6)) (.string (bstr mn6)) (.slice q6 ms6.length c6))
      have HA := hiD (hkp.arr HA.out (by omega))
      have HF := hiD (hkp.arr HF.out (by omega))
      have HQ := hiD (hkp.arr HQ.out (by omega))
      have HR := hiD (hkp.arr HR.out (by omega))
      have HT := hiD (HT.out.kp hkp (by first | omega | (have := HZ.out; omega)))
      have HV6 := hiD (HV6.out.kp hkp (by first | omega | (have := HZ.out; omega)))
      have HRW := hiD (HRW.out.kp hkp (.inr (.inr rfl)))
      have HB := hiD (HB.out.trans (hkp.below (B := W.heap.size) (by omega) HB.out.size))
      clear hkp
      generalize ((((w12.setCell ⟨nb, 0, none⟩ (.int .i64 mk6)).setCell ⟨nb, 1, none⟩ (.string (bstr mv6))).setCell ⟨nb, 2, none⟩ (.string (bstr mn6))).setCell ⟨nb, 3, none⟩ (.slice q6 ms6.length c6)) = w13 at HN HA HF HQ HR HT HV6 HRW HB ⊢
      obtain ⟨ea0, eb0, ea1, eb1, ea2, eb2, ea3, eb3⟩ := HF.out.all4
      obtain ⟨na0, nz0, na1, nz1, na2, nz2, na3, nz3⟩ := HN.out.all4
      have hb14 : Below w13.heap.size w13 (w13.alloc (.cells #[.int .i64 mk6, .string (bstr mv6), .string (bstr mn6), .slice q6 ms6.length c6] 46)) := (Below.refl _ _).alloc (Nat.le_refl _) _
      have HY : Hid (Arr (w13.alloc (.cells #[.int .i64 mk6, .string (bstr mv6), .string (bstr mn6), .slice q6 ms6.length c6] 46)) 46 w13.heap.size [.int .i64 mk6, .string (bstr mv6), .string (bstr mn6), .slice q6 ms6.length c6]) := Arr.new' _ _ _ _ rfl
      have HA := hiD (HA.out.later hb14)
      have HF := hiD (HF.out.later hb14)
      have HQ := hiD (HQ.out.later hb14)
      have HR := hiD (HR.out.later hb14)
      have HT := hiD (HT.out.later hb14)
      have HRW := hiD (HRW.out.later hb14)
      have HV6 := hiD (HV6.out.later hb14)
      have HB := hiD (HB.out.trans (hb14.mono HB.out.size))
      have HR9 : Hid (rdEx (SubX (W.heap.size + 3) (fun b => b = ge ∨ b = nb) (w13.alloc (.cells #[.int .i64 mk6, .string (bstr mv6), .string (bstr mn6), .slice q6 ms6.length c6] 46)) (.slice q acc.length cc)) (w13.alloc (.cells #[.int .i64 mk6, .string (bstr mv6), .string (bstr mn6), .slice q6 ms6.length c6] 46)) (.mk mk6 mv6 mn6 ms6) [.int .i64 mk6, .string (bstr mv6), .string (bstr mn6), .slice q6 ms6.length c6]) := ⟨_, _, _, _, rfl, RdE.imp (fun b hb => ⟨by have := hb.1; omega, hb.2, fun e => by have h1 := HBL.out b e.symm; have := hb.1; omega, fun h => by rcases h with h | h <;> (have := hb.1; omega)⟩) HV6.out.ve⟩
      have HAC : Hid (acc.length + 1 ≤ 200000) := sl_len HSL.out HK4.out HH4.out HTS.out
      have HBS : Hid (W.heap.size + 3 ≤ (w13.alloc (.cells #[.int .i64 mk6, .string (bstr mv6), .string (bstr mn6), .slice q6 ms6.length c6] 46)).heap.size) := by have h := HF.out.lt; show _ ≤ _; omega
      have HXX : Hid (∀ b, (b = ge ∨ b = nb) → b < (w13.alloc (.cells #[.int .i64 mk6, .string (bstr mv6), .string (bstr mn6), .slice q6 ms6.length c6] 46)).heap.size) := fun b h => by have h1 := HF.out.lt; have h2 := hb14.size; have h3 := HN.out.lt; rcases h with h | h <;> omega
      clear hb14
      go_wp2_with (at_builtin; refine app_row (K := kdEx) (x := .mk mk6 mv6 mn6 ms6) rfl _ _ rfl rfl HRW.out rfl HY.out HR9.out HAC.out HBS.out HXX.out ?_)
      intro v10 w15 r10 g10 o10
      have HA : Hid (Arr w15 56 W.heap.size [.slice (some ⟨tb, 0, none⟩) ts.length c, .int .i64 (i6 : Nat), .int .i64 (k6 : Nat), .int .i64 (s.o : Nat), .int .i64 (l6 : Nat)]) := (g10.block _ HA.out.lt (fun e => by have := (o10 _ e.symm).1; omega)).trans HA.out
      have HQ : Hid (Arr w15 56 (W.heap.size + 1) [.slice none 0 0, .int .i64 0, .int .i64 0, .int .i64 0, .int .i64 0]) := (g10.block _ HQ.out.lt (fun e => by have := (o10 _ e.symm).1; omega)).trans HQ.out
      have HR : Hid (Arr w15 46 (W.heap.size + 1 + 1) [.int .i64 0, .string ⟨#[]⟩, .string ⟨#[]⟩, .slice none 0 0]) := (g10.block _ HR.out.lt (fun e => by have := (o10 _ e.symm).1; omega)).trans HR.out
      have HF : Hid (Arr w15 46 ge [.int .i64 kk, .string ⟨#[]⟩, .string ⟨#[]⟩, .slice q acc.length cc]) := (g10.block _ HF.out.lt (fun e => (o10 _ e.symm).2.1 rfl)).trans HF.out
      have hlo : W.heap.size ≤ (w13.alloc (.cells #[.int .i64 mk6, .string (bstr mv6), .string (bstr mn6), .slice q6 ms6.length c6] 46)).heap.size := by have := HBS.out; omega
      have hlk : ∀ k, (Value.slice q acc.length cc).ownBlock = some k → W.heap.size ≤ k := fun k hk => by have := (o10 k hk).1; omega
      have HT : Hid (RT w15 tb ts) := by
       have hb := (Below.refl W.heap.size (w13.alloc (.cells #[.int .i64 mk6, .string (bstr mv6), .string (bstr mn6), .slice q6 ms6.length c6] 46))).grown g10 hlo hlk
       exact ⟨Nat.lt_of_lt_of_le HT.out.1 hb.size, HT.out.2.1, fun i hi j hj => (hb.cell (p := ⟨tb, i * 3 + j, none⟩) HZ.out).trans (HT.out.2.2 i hi j hj)⟩
      have HB := hiD (HB.out.grown g10 hlo hlk)
      have HRW : Hid (PRow kdEx (W.heap.size + 3) (fun b => b = ge) w15 v10 (acc ++ [.mk mk6 mv6 mn6 ms6])) := r10.wk (fun b _ _ h => .inl h)
      obtain ⟨q10, c10, hv10⟩ := r10.form
      rw [List.length_append, List.length_singleton] at hv10
      subst hv10
      clear r10 g10 o10 hlo hlk HY HR9 HV6 HN HXX HBS
      clear ea0 eb0 ea1 eb1 ea2 eb2 ea3 eb3
      clear na0 nz0 na1 nz1 na2 nz2 na3 nz3
      obtain ⟨ea0, eb0, ea1, eb1, ea2, eb2, ea3, eb3⟩ := HF.out.all4
      go_wp2_with fail
      have hkp := (Kp.of (pb := ge) (Below.refl w15.heap.size w15)).set 3 (.slice q10 (acc.length + 1) c10)
      have HF : Hid (Arr (w15.setCell ⟨ge, 3, none⟩ (.slice q10 (acc.length + 1) c10)) 46 ge [.int .i64 kk, .string ⟨#[]⟩, .string ⟨#[]⟩, .slice q10 (acc.length + 1) c10]) := HF.out.set 3 _
      have HA := hiD (hkp.arr HA.out (by omega))
      have HQ := hiD (hkp.arr HQ.out (by omega))
      have HR := hiD (hkp.arr HR.out (by omega))
      have HT := hiD (HT.out.kp hkp (by first | omega | (have := HZ.out; omega)))
      have HRW := hiD (HRW.out.kp hkp (.inr rfl))
      have HB := hiD (HB.out.trans (hkp.below (B := W.heap.size) (by omega) HB.out.size))
      clear hkp
      generalize (w15.setCell ⟨ge, 3, none⟩ (.slice q10 (acc.length + 1) c10)) = w16 at HA HF HQ HR HT HRW HB ⊢
      go_roundw
      case rel =>
       have hlen : (acc ++ [Ex.mk mk6 mv6 mn6 ms6]).length = acc.length + 1 := by rw [List.length_append, List.length_singleton]
       refine ⟨acc ++ [Ex.mk mk6 mv6 mn6 ms6], i6, k6, l6, q10, c10, ?_, ?_, HA.out, HQ.out, HR.out, HT.out, HB.out, HG6.out.1, HG6.out.2.1, ?_⟩
       ·rw [hlen]
        exact HRW.out
       ·rw [hlen]
        exact HF.out
       ·exact sl_more HKU.out HSL.out HK4.out HI5.out HS5.out HA2.out HK.out HT4.out HG6.out
      case measure =>
       rw [msr_at HA.out, HM0.out]
       exact msr_less HKU.out HK4.out HI5.out HS5.out HG6.out
     ·have elt : ¬ (acc.length : Int) < 2 := by omega
      have HGF : Hid (Go1 ts k4 i4 s.o l4 (.mk kk [] [] acc) (st k s.i (unitsW ts U s))) := sl_two HSL.out HH4.out HL4.out HK4.out HKK.out ha
      have HVE := hiD (VE.vg (HRW.out.rdE kk [] []))
      have HE : Hid (Arr w8 46 ge [.int .i64 kk, .string (bstr []), .string (bstr []), .slice q acc.length cc]) := HF.out
      clear ha HF
      obtain ⟨p0, z0, p1, z1, p2, z2, p3, z3, p4, z4⟩ := HA.out.all5
      obtain ⟨ea0, eb0, ea1, eb1, ea2, eb2, ea3, eb3⟩ := HE.out.all4
      go_upto_region 17 with (fail)
      clear p0 z0 p1 z1 p2 z2 p3 z3 p4 z4
      clear ea0 eb0 ea1 eb1 ea2 eb2 ea3 eb3
      have hb7 : Below w8.heap.size w8 w8.drew := (Below.refl _ _).drew
      have HA := hiD (HA.out.later hb7)
      have HQ := hiD (HQ.out.later hb7)
      have HR := hiD (HR.out.later hb7)
      have HE := hiD (HE.out.later hb7)
      have HB := hiD (HB.out.trans (hb7.mono HB.out.size))
      have HVE := hiD (HVE.out.later hb7)
      refine wp_region_held_drew (S := fun W' => Arr W' 56 (W.heap.size) [.slice (some ⟨tb, 0, none⟩) ts.length c, .int .i64 (i4 : Nat), .int .i64 (k4 : Nat), .int .i64 (s.o : Nat), .int .i64 (l4 : Nat)] ∧ Arr W' 46 (ge) [.int .i64 kk, .string (bstr []), .string (bstr []), .slice q acc.length cc]) (by kernel_rfl) ⟨HA.out, HE.out⟩ (fun hHeld => ?_)
      try simp only [Act.put]
      clear hb7
      generalize w8.drew = wa at hHeld HA HQ HR HE HB HVE ⊢
      refine wpAnyH_take (i := 0) (oi := ⟨some 74, _, _, _, _, _⟩) (v := .agg #[.slice (some ⟨tb, 0, none⟩) ts.length c, .int .i64 (i4 : Nat), .int .i64 (k4 : Nat), .int .i64 (s.o : Nat), .int .i64 (l4 : Nat)]) rfl (by kernel_rfl) (by kernel_rfl) (by kernel_rfl) (fun _ _ _ h => h) (.inl ⟨by rfl, fun w' hSw => ?_⟩) hHeld ?_
      focus (obtain ⟨q0, _, q1, _, q2, _, q3, _, q4, _⟩ := hSw.1.all5; clear hHeld; go_simp)
      try simp only [Act.put, pz0, pz1, pz2]
      refine wpAnyH_take (i := 1) (oi := ⟨some 75, _, _, _, _, _⟩) (v := .agg #[.int .i64 kk, .string (bstr []), .string (bstr []), .slice q acc.length cc]) rfl (by kernel_rfl) (by kernel_rfl) (by kernel_rfl) (fun _ _ _ h => h) (.inl ⟨by rfl, fun w' hSw => ?_⟩) hHeld ?_
      focus (obtain ⟨q0, _, q1, _, q2, _, q3, _⟩ := hSw.2.all4; clear hHeld; go_simp)
      try simp only [Act.put, pz0, pz1, pz2]
      refine wpAnyH_ready (rs := [2]) (by kernel_rfl) (by simp) ?_
      refine AllReadyH.cons (o := ⟨none, _, _, _, _, _⟩) rfl (fun K' hK' => ?_) AllReadyH.nil
      obtain ⟨u0, v0, u1, v1, u2, v2, u3, v3, u4, v4⟩ := HQ.out.all5
      have hkn := And.intro (hHeld.1.off5 (b := W.heap.size + 1) (by simp only [ne_eq]; omega) (.slice (some ⟨tb, 0, none⟩) ts.length c) (.int .i64 (i4 : Nat)) (.int .i64 (k4 : Nat)) (.int .i64 (s.o : Nat)) (.int .i64 (l4 : Nat))) (hHeld.2.off5 (b := W.heap.size + 1) (by simp only [ne_eq]; omega) (.slice (some ⟨tb, 0, none⟩) ts.length c) (.int .i64 (i4 : Nat)) (.int .i64 (k4 : Nat)) (.int .i64 (s.o : Nat)) (.int .i64 (l4 : Nat)))
      clear hHeld
      go_simp
      clear u0 v0 u1 v1 u2 v2 u3 v3 u4 v4
      refine hK'.out _ _ hkn (fun hHeld => ?_)
      clear hK' K' hkn
      try simp only [Act.put, pz0, pz1, pz2]
      have hkp := kp_setP wa (W.heap.size + 1) (.slice (some ⟨tb, 0, none⟩) ts.length c) (.int .i64 (i4 : Nat)) (.int .i64 (k4 : Nat)) (.int .i64 (s.o : Nat)) (.int .i64 (l4 : Nat))
      have HQ := hiD (HQ.out.setP (.slice (some ⟨tb, 0, none⟩) ts.length c) (.int .i64 (i4 : Nat)) (.int .i64 (k4 : Nat)) (.int .i64 (s.o : Nat)) (.int .i64 (l4 : Nat)))
      have HR := hiD (hkp.arr HR.out (by omega))
      have HVE := hiD (HVE.out.kp hkp (by omega))
      have HB := hiD (HB.out.trans (hkp.below (B := W.heap.size) (by omega) HB.out.size))
      clear hkp
      generalize (((((wa.setCell ⟨W.heap.size + 1, 0, none⟩ (.slice (some ⟨tb, 0, none⟩) ts.length c)).setCell ⟨W.heap.size + 1, 1, none⟩ (.int .i64 (i4 : Nat))).setCell ⟨W.heap.size + 1, 2, none⟩ (.int .i64 (k4 : Nat))).setCell ⟨W.heap.size + 1, 3, none⟩ (.int .i64 (s.o : Nat))).setCell ⟨W.heap.size + 1, 4, none⟩ (.int .i64 (l4 : Nat))) = wb at hHeld HQ HR HB HVE ⊢
      refine wpAnyH_ready (rs := [3]) (by kernel_rfl) (by simp) ?_
      refine AllReadyH.cons (o := ⟨none, _, _, _, _, _⟩) rfl (fun K' hK' => ?_) AllReadyH.nil
      obtain ⟨u0, v0, u1, v1, u2, v2, u3, v3⟩ := HR.out.all4
      have hkn := And.intro (hHeld.1.off4 (b := W.heap.size + 1 + 1) (by simp only [ne_eq]; omega) (.int .i64 kk) (.string (bstr [])) (.string (bstr [])) (.slice q acc.length cc)) (hHeld.2.off4 (b := W.heap.size + 1 + 1) (by simp only [ne_eq]; omega) (.int .i64 kk) (.string (bstr [])) (.string (bstr [])) (.slice q acc.length cc))
      clear hHeld
      go_simp
      clear u0 v0 u1 v1 u2 v2 u3 v3
      refine hK'.out _ _ hkn (fun hHeld => ?_)
      clear hK' K' hkn
      try simp only [Act.put, pz0, pz1, pz2]
      have hkp := kp_set4 wb (W.heap.size + 1 + 1) (.int .i64 kk) (.string (bstr [])) (.string (bstr [])) (.slice q acc.length cc)
      have HR := hiD (HR.out.set4 (.int .i64 kk) (.string (bstr [])) (.string (bstr [])) (.slice q acc.length cc))
      have HQ := hiD (hkp.arr HQ.out (by omega))
      have HVE := hiD (HVE.out.kp hkp (by omega))
      have HB := hiD (HB.out.trans (hkp.below (B := W.heap.size) (by omega) HB.out.size))
      clear hkp
      generalize ((((wb.setCell ⟨W.heap.size + 1 + 1, 0, none⟩ (.int .i64 kk)).setCell ⟨W.heap.size + 1 + 1, 1, none⟩ (.string (bstr []))).setCell ⟨W.heap.size + 1 + 1, 2, none⟩ (.string (bstr []))).setCell ⟨W.heap.size + 1 + 1, 3, none⟩ (.slice q acc.length cc)) = wc at hHeld HQ HR HB HVE ⊢
      refine wpAnyH_done (by kernel_rfl) ?_ _
      go_wp2_with fail
      clear hHeld
      have c0 := HQ.out.cell 0
      have c1 := HQ.out.cell 1
      have c2 := HQ.out.cell 2
      have c3 := HQ.out.cell 3
      have c4 := HQ.out.cell 4
      have d0 := HR.out.cell 0
      have d1 := HR.out.cell 1
      have d2 := HR.out.cell 2
      have d3 := HR.out.cell 3
      simp only [List.getElem?_cons_zero, List.getElem?_cons_succ] at c0 c1 c2 c3 c4 d0 d1 d2 d3
      refine bodyPost_ret (v := .tuple #[.agg #[.slice (some ⟨tb, 0, none⟩) ts.length c, .int .i64 (i4 : Nat), .int .i64 (k4 : Nat), .int .i64 (s.o : Nat), .int .i64 (l4 : Nat)], .agg #[.int .i64 kk, .string (bstr []), .string (bstr []), .slice q acc.length cc]]) ?_ rfl ⟨i4, k4, l4, _, _, HGF.out, rfl, HVE.out.ve.low (by omega), HB.out⟩
      simp [results, Tryz.results34, go_sem, c0, c1, c2, c3, c4, d0, d1, d2, d3]
 ·have hk5 : ((k1 : Int) == 0) = false := by
   have : ¬ (k1 : Int) = 0 := by omega
   simpa using this
  have HN := hiD hk1
  clear hk1
  have HGF : Hid (Go1 ts k1 i1 s.o l1 (.mk mk mv mn ms) (st k s.i (unitsW ts U s))) := units_alone HG1.out (fun h => absurd h HN.out)
  clear HG1
  obtain ⟨p0, z0, p1, z1, p2, z2, p3, z3, p4, z4⟩ := HA.out.all5
  obtain ⟨ea0, eb0, ea1, eb1, ea2, eb2, ea3, eb3⟩ := HE.out.all4
  go_upto_region 6 with (fail)
  clear p0 z0 p1 z1 p2 z2 p3 z3 p4 z4
  clear ea0 eb0 ea1 eb1 ea2 eb2 ea3 eb3
  have hb7 : Below w5.heap.size w5 w5.drew := (Below.refl _ _).drew
  have HA := hiD (HA.out.later hb7)
  have HQ := hiD (HQ.out.later hb7)
  have HR := hiD (HR.out.later hb7)
  have HE := hiD (HE.out.later hb7)
  have HB := hiD (HB.out.trans (hb7.mono HB.out.size))
  have HVE := hiD (HVE.out.later hb7)
  refine wp_region_held_drew (S := fun W' => Arr W' 56 (W.heap.size) [.slice (some ⟨tb, 0, none⟩) ts.length c, .int .i64 (i1 : Nat), .int .i64 (k1 : Nat), .int .i64 (s.o : Nat), .int .i64 (l1 : Nat)] ∧ Arr W' 46 (g) [.int .i64 mk, .string (bstr mv), .string (bstr mn), .slice q4 ms.length cq]) (by kernel_rfl) ⟨HA.out, HE.out⟩ (fun hHeld => ?_)
  try simp only [Act.put]
  clear hb7
  generalize w5.drew = wa at hHeld HA HQ HR HE HB HVE ⊢
  refine wpAnyH_take (i := 0) (oi := ⟨some 33, _, _, _, _, _⟩) (v := .agg #[.slice (some ⟨tb, 0, none⟩) ts.length c, .int .i64 (i1 : Nat), .int .i64 (k1 : Nat), .int .i64 (s.o : Nat), .int .i64 (l1 : Nat)]) rfl (by kernel_rfl) (by kernel_rfl) (by kernel_rfl) (fun _ _ _ h => h) (.inl ⟨by rfl, fun w' hSw => ?_⟩) hHeld ?_
  focus (obtain ⟨q0, _, q1, _, q2, _, q3, _, q4, _⟩ := hSw.1.all5; clear hHeld; go_simp)
  try simp only [Act.put, pz0, pz1, pz2]
  refine wpAnyH_take (i := 1) (oi := ⟨some 34, _, _, _, _, _⟩) (v := .agg #[.int .i64 mk, .string (bstr mv), .string (bstr mn), .slice q4 ms.length cq]) rfl (by kernel_rfl) (by kernel_rfl) (by kernel_rfl) (fun _ _ _ h => h) (.inl ⟨by rfl, fun w' hSw => ?_⟩) hHeld ?_
  focus (obtain ⟨q0, _, q1, _, q2, _, q3, _⟩ := hSw.2.all4; clear hHeld; go_simp)
  try simp only [Act.put, pz0, pz1, pz2]
  refine wpAnyH_ready (rs := [2]) (by kernel_rfl) (by simp) ?_
  refine AllReadyH.cons (o := ⟨none, _, _, _, _, _⟩) rfl (fun K' hK' => ?_) AllReadyH.nil
  obtain ⟨u0, v0, u1, v1, u2, v2, u3, v3, u4, v4⟩ := HQ.out.all5
  have hkn := And.intro (hHeld.1.off5 (b := W.heap.size + 1) (by simp only [ne_eq]; omega) (.slice (some ⟨tb, 0, none⟩) ts.length c) (.int .i64 (i1 : Nat)) (.int .i64 (k1 : Nat)) (.int .i64 (s.o : Nat)) (.int .i64 (l1 : Nat))) (hHeld.2.off5 (b := W.heap.size + 1) (by simp only [ne_eq]; omega) (.slice (some ⟨tb, 0, none⟩) ts.length c) (.int .i64 (i1 : Nat)) (.int .i64 (k1 : Nat)) (.int .i64 (s.o : Nat)) (.int .i64 (l1 : Nat)))
  clear hHeld
  go_simp
  clear u0 v0 u1 v1 u2 v2 u3 v3 u4 v4
  refine hK'.out _ _ hkn (fun hHeld => ?_)
  clear hK' K' hkn
  try simp only [Act.put, pz0, pz1, pz2]
  have hkp := kp_setP wa (W.heap.size + 1) (.slice (some ⟨tb, 0, none⟩) ts.length c) (.int .i64 (i1 : Nat)) (.int .i64 (k1 : Nat)) (.int .i64 (s.o : Nat)) (.int .i64 (l1 : Nat))
  have HQ := hiD (HQ.out.setP (.slice (some ⟨tb, 0, none⟩) ts.length c) (.int .i64 (i1 : Nat)) (.int .i64 (k1 : Nat)) (.int .i64 (s.o : Nat)) (.int .i64 (l1 : Nat)))
  have HR := hiD (hkp.arr HR.out (by omega))
  have HVE := hiD (HVE.out.kp hkp (by omega))
  have HB := hiD (HB.out.trans (hkp.below (B := W.heap.size) (by omega) HB.out.size))
  clear hkp
  generalize (((((wa.setCell ⟨W.heap.size + 1, 0, none⟩ (.slice (some ⟨tb, 0, none⟩) ts.length c)).setCell ⟨W.heap.size + 1, 1, none⟩ (.int .i64 (i1 : Nat))).setCell ⟨W.heap.size + 1, 2, none⟩ (.int .i64 (k1 : Nat))).setCell ⟨W.heap.size + 1, 3, none⟩ (.int .i64 (s.o : Nat))).setCell ⟨W.heap.size + 1, 4, none⟩ (.int .i64 (l1 : Nat))) = wb at hHeld HQ HR HB HVE ⊢
  refine wpAnyH_ready (rs := [3]) (by kernel_rfl) (by simp) ?_
  refine AllReadyH.cons (o := ⟨none, _, _, _, _, _⟩) rfl (fun K' hK' => ?_) AllReadyH.nil
  obtain ⟨u0, v0, u1, v1, u2, v2, u3, v3⟩ := HR.out.all4
  have hkn := And.intro (hHeld.1.off4 (b := W.heap.size + 1 + 1) (by simp only [ne_eq]; omega) (.int .i64 mk) (.string (bstr mv)) (.string (bstr mn)) (.slice q4 ms.length cq)) (hHeld.2.off4 (b := W.heap.size + 1 + 1) (by simp only [ne_eq]; omega) (.int .i64 mk) (.string (bstr mv)) (.string (bstr mn)) (.slice q4 ms.length cq))
  clear hHeld
  go_simp
  clear u0 v0 u1 v1 u2 v2 u3 v3
  refine hK'.out _ _ hkn (fun hHeld => ?_)
  clear hK' K' hkn
  try simp only [Act.put, pz0, pz1, pz2]
  have hkp := kp_set4 wb (W.heap.size + 1 + 1) (.int .i64 mk) (.string (bstr mv)) (.string (bstr mn)) (.slice q4 ms.length cq)
  have HR := hiD (HR.out.set4 (.int .i64 mk) (.string (bstr mv)) (.string (bstr mn)) (.slice q4 ms.length cq))
  have HQ := hiD (hkp.arr HQ.out (by omega))
  have HVE := hiD (HVE.out.kp hkp (by omega))
  have HB := hiD (HB.out.trans (hkp.below (B := W.heap.size) (by omega) HB.out.size))
  clear hkp
  generalize ((((wb.setCell ⟨W.heap.size + 1 + 1, 0, none⟩ (.int .i64 mk)).setCell ⟨W.heap.size + 1 + 1, 1, none⟩ (.string (bstr mv))).setCell ⟨W.heap.size + 1 + 1, 2, none⟩ (.string (bstr mn))).setCell ⟨W.heap.size + 1 + 1, 3, none⟩ (.slice q4 ms.length cq)) = wc at hHeld HQ HR HB HVE ⊢
  refine wpAnyH_done (by kernel_rfl) ?_ _
  go_wp2_with fail
  clear hHeld
  have c0 := HQ.out.cell 0
  have c1 := HQ.out.cell 1
  have c2 := HQ.out.cell 2
  have c3 := HQ.out.cell 3
  have c4 := HQ.out.cell 4
  have d0 := HR.out.cell 0
  have d1 := HR.out.cell 1
  have d2 := HR.out.cell 2
  have d3 := HR.out.cell 3
  simp only [List.getElem?_cons_zero, List.getElem?_cons_succ] at c0 c1 c2 c3 c4 d0 d1 d2 d3
  refine bodyPost_ret (v := .tuple #[.agg #[.slice (some ⟨tb, 0, none⟩) ts.length c, .int .i64 (i1 : Nat), .int .i64 (k1 : Nat), .int .i64 (s.o : Nat), .int .i64 (l1 : Nat)], .agg #[.int .i64 mk, .string (bstr mv), .string (bstr mn), .slice q4 ms.length cq]]) ?_ rfl ⟨i1, k1, l1, _, _, HGF.out, rfl, HVE.out.ve.low (by omega), HB.out⟩
  simp [results, Tryz.results34, go_sem, c0, c1, c2, c3, c4, d0, d1, d2, d3]
end
end Go.Proofs.YtkildckeikedhaaGreatDoor
