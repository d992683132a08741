/-
  vestryref18.Parse.
-/
import Derived.Test.YtnnebfcggdbgpaaGreatDoorMv0
import Derived.Test.YtnnebfcggdbgpaaGreatDoorStepC
import Derived.RegionTactic
import Derived.BigRegion
import Derived.Test.YtnnebfcggdbgpaaGreatDoorSame
import Derived.Deep.RegionHeld3
import Derived.Test.YtnnebfcggdbgpaaGreatDoorNameC
import Derived.Test.YtnnebfcggdbgpaaGreatDoorNameA
import Derived.SizedLaws
import Derived.Test.YtnnebfcggdbgpaaGreatDoorRows
import Derived.ProofKit
import Derived.LaidMore
import Derived.LaidHandle
import Derived.OpenShut
import Derived.Stop.Joined
import Derived.HandedShaped
import Derived.ChangeMaps
namespace Go.Proofs.YtnnebfcggdbgpaaGreatDoor
open Go.ChangeShapes Go.WideShapes Go.ChangeAt Go.RowKit
set_option linter.unusedVariables false

theorem ext_mid (s : ByteArray) (i k : Nat) : s.extract i k = bstr ((s.data.toList.take k).drop i) := by
  apply bytes_inj
  rw [bstr_data, ByteArray.data_extract, Array.toList_extract, List.extract_eq_take_drop, List.drop_take]
theorem ext_all (s : ByteArray) : s.extract 0 s.size = s := by
  rw [ext_mid, ← size_len s, List.take_length, List.drop_zero]; rfl
/-- The two blocks that hold objects. -/
def OO (g : Nat) (oa oi : ByteArray) (g2 : Nat) (ua ui : ByteArray) (W : World) : Prop := Arr W 23 g [.string oa, .string oi] ∧ Arr W 23 g2 [.string ua, .string ui]
theorem OO.later {g g2 : Nat} {oa oi ua ui : ByteArray} {W W' : World} (h : OO g oa oi g2 ua ui W) (hb : Below W.heap.size W W') : OO g oa oi g2 ua ui W' := ⟨h.1.later hb, h.2.later hb⟩
theorem stepw_storeT {ops : Array Oper} {o : Oper} {a : Act} {w : World} {K : Act → World → Prop} {Q : Exit → Act → World → Prop} {E : Prop} {g : Nat} {u v : Tu} (hw : Region.wanted o (yielded ops a.tmps) = true) (x y : Operand) (ho : o.op = .store 25 x y) (hx : a.eval x = .pointer (some ⟨g, 0, none⟩)) (hy : a.eval y = tuV u) (hA : TuAt w g v)
    (hK : K (a.put o.dst undef) (w.setRow g (tc u).toArray)) : if Region.wanted o (yielded ops a.tmps) = true then Oper.wp Tryz.prog o a w K Q else E := by
  rw [if_pos hw]
  exact wp_store_row _ x y ho g (tc u).toArray hx hy _ (tc v).toArray hA (by kernel_rfl) rfl (Array.all_eq_true_iff_forall_mem.2 (fun v hv => tc_one u v (by simpa using hv))) hK
/-- The cut at a sign, as the reference finds it. -/
theorem cut_yes {s : ByteArray} {c : UInt8} {n : Nat} (hn : n = fnd s.data.toList c) (h : n < s.size) : cut3 s ⟨#[c]⟩ = (s.extract 0 n, s.extract (n + 1) s.size, true) := by
  rw [cut_fnd, ← hn, if_pos h, ext_take, ext_drop]
theorem cut_nay {s : ByteArray} {c : UInt8} {n : Nat} (hn : n = fnd s.data.toList c) (h : ¬ n < s.size) : cut3 s ⟨#[c]⟩ = (s, e0, false) := by
  rw [cut_fnd, ← hn, if_neg h]; rfl
theorem ext_size {s : ByteArray} {n : Nat} (h : n ≤ s.size) : (s.extract 0 n).size = n := by rw [ByteArray.size_extract]; omega
theorem ext_size2 (s : ByteArray) (i k : Nat) : (s.extract i k).size ≤ s.size := by rw [ByteArray.size_extract]; omega
theorem ext_ext {s : ByteArray} {n i : Nat} (h : n ≤ s.size) : (s.extract 0 n).extract i (s.extract 0 n).size = s.extract i n ∧ (i ≤ n → (s.extract 0 n).extract 0 i = s.extract 0 i) := by
  rw [ext_size h]
  constructor
  · rw [ext_mid, ext_mid s i n, ext_mid s 0 n, List.drop_zero, bstr_data, List.take_take, Nat.min_self]
  · intro hi
    rw [ext_mid, ext_mid s 0 i, ext_mid s 0 n, List.drop_zero, List.drop_zero, List.drop_zero, bstr_data, List.take_take, Nat.min_eq_left hi]
set_option maxRecDepth 100000 in
set_option maxHeartbeats 4000000 in
theorem rtparse_any (s : ByteArray) (w : World) (hs : s.size ≤ 1000000) : Calls Tryz.prog 24 #[.string s] w fun e w' => e = .returned (.tuple #[tuV (parseT s).1, .int .i64 ((parseT s).2.1 : Nat), .int .i64 ((parseT s).2.2 : Nat)]) ∧ Below w.heap.size w w' := by
  obtain ⟨w0, hw0⟩ : ∃ w0, w0 = (w.alloc (.cells (tc t0).toArray 25)) := ⟨_, rfl⟩
  have b0 : Below w.heap.size w w0 := by rw [hw0]; exact (Below.refl _ _).alloc (Nat.le_refl _) _
  have HB0 := Lib.hid b0
  have HX0 : Hid (TuAt w0 w.heap.size t0) := by show TuAt w0 _ _; rw [hw0]; exact tu_new w t0
  have HW := Lib.hid hw0
  have zs : (s.size : Int) ≤ 1000000 := by omega
  have HZS : Hid (s.size ≤ 1000000) := hs
  obtain ⟨A, hA⟩ : ∃ A, A = fnd s.data.toList 64 := ⟨_, rfl⟩
  have HF := Lib.hid (find_any s 64 hs w0)
  rw [← hA] at HF
  clear b0 hw0 hs
  by_cases hlt : A < s.size
  · have hcut := cut_yes hA hlt
    rw [if_pos hlt] at HF
    obtain ⟨f, hf⟩ : ∃ f, f = s.extract 0 A := ⟨_, rfl⟩
    obtain ⟨bk, hbk⟩ : ∃ bk, bk = s.extract (A + 1) s.size := ⟨_, rfl⟩
    have zfs : f.size = A := by rw [hf]; exact ext_size (by omega)
    have zbk : bk.size ≤ s.size := by rw [hbk]; exact ext_size2 _ _ _
    rw [← hf, ← hbk] at hcut
    have hext := fun i => ext_ext (s := s) (n := A) (i := i) (Nat.le_of_lt hlt)
    simp only [← hf] at hext
    obtain ⟨h, hh⟩ : ∃ h, h = fnd f.data.toList 35 := ⟨_, rfl⟩
    have HF2 := Lib.hid (find_any f 35 (by have := HZS.out; omega) w0)
    rw [← hh] at HF2
    have HCUT : Hid (cut3 s atA = (f, bk, true)) := hcut
    have HXF : Hid (s.extract 0 A = f) := hf.symm
    have HXB : Hid (s.extract (A + 1) s.size = bk) := hbk.symm
    have HZF := Lib.hid zfs
    have HZB := Lib.hid zbk
    have a1 : (A : Int) < s.size := by omega
    have a0 : (0 : Int) ≤ A := by omega
    have a2 : A ≤ s.size := by omega
    have a3 : (A : Int) + 1 ≤ s.size := by omega
    have zfI : (f.size : Int) ≤ 1000000 := by omega
    clear hcut hA hf hbk zbk hlt
    by_cases hlt2 : h < f.size
    · have hcut2 := cut_yes hh hlt2
      rw [if_pos hlt2] at HF2
      have hx1 := (hext h).2 (by omega)
      have hx2 := (hext (h + 1)).1
      obtain ⟨ob, hob⟩ : ∃ ob, ob = s.extract 0 h := ⟨_, rfl⟩
      obtain ⟨re, hre⟩ : ∃ re, re = s.extract (h + 1) A := ⟨_, rfl⟩
      rw [← hob] at hx1
      rw [← hre] at hx2
      rw [hx1, hx2] at hcut2
      have zob : ob.size ≤ s.size := by rw [hob]; exact ext_size2 _ _ _
      have zre : re.size ≤ s.size := by rw [hre]; exact ext_size2 _ _ _
      have zobe : ob.size = h := by rw [hob]; exact ext_size (by omega)
      have HXO : Hid (s.extract 0 h = ob) := hob.symm
      have HXR : Hid (s.extract (h + 1) A = re) := hre.symm
      have HCUT2 : Hid (cut3 f hashA = (ob, re, true)) := hcut2
      have HZO := Lib.hid zob
      have HZR := Lib.hid zre
      have HZOE := Lib.hid zobe
      have p1 : (h : Int) < s.size := by omega
      have p0 : (0 : Int) ≤ h := by omega
      have p2 : (h : Int) + 1 ≤ A := by omega
      have p3 : h ≤ s.size := by omega
      have p4 : h + 1 ≤ A := by omega
      clear hext hx1 hx2 hob hre hcut2 zob zre zobe hh hlt2
      obtain ⟨Q, hQ⟩ : ∃ Q, Q = parseObj ob := ⟨_, rfl⟩
      have HO := Lib.hid (rparseObj_any ob w0 (by have := HZO.out; have := HZS.out; omega))
      rw [← hQ] at HO
      have HQ := Lib.hid hQ
      clear hQ
      obtain ⟨oa, oi, oc, on⟩ := Q
      obtain ⟨sub, us, k3, hc3⟩ : ∃ a b c, cut3 bk hashA = (a, b, c) := ⟨_, _, _, rfl⟩
      have HP : Hid (parseT s = parseW s.size f true ob re true sub us k3) := by show _ = _; unfold parseT; rw [HCUT.out]; simp only []; rw [HCUT2.out, hc3]
      have HC3 := Lib.hid hc3
      clear hc3
      go_enter Tryz.func24, Tryz.ntmps24
      go_wp2_with fail
      rw [show (w.alloc (.cells #[.string ⟨#[]⟩, .string ⟨#[]⟩, .string ⟨#[]⟩, .string ⟨#[]⟩, .string ⟨#[]⟩, .string ⟨#[]⟩] 25)) = w0 from HW.out.symm]
      refine HF.out.mono ?_
      rintro e w1 ⟨rfl, hw1⟩
      subst hw1
      go_wp2_with fail
      rw [HXF.out]
      refine HF2.out.mono ?_
      rintro e w1 ⟨rfl, hw1⟩
      subst hw1
      clear zfs
      go_wp2_with fail
      rw [HXO.out]
      refine HO.out.mono ?_
      rintro e w4 ⟨rfl, b4⟩
      have HB4 := Lib.hid (HB0.out.trans (b4.mono HB0.out.size))
      have HX4 := Lib.hid (HX0.out.later b4)
      clear b4 HB0 HX0
      clear HO HF HF2 HW
      have b5 : Below w4.heap.size w4 (w4.alloc (.cells #[.string oa, .string oi] 23)) := (Below.refl _ _).alloc (Nat.le_refl _) _
      have HO5 := Lib.hid (Arr.new' w4 23 #[.string oa, .string oi] _ rfl)
      have HB5 := Lib.hid (HB4.out.trans (b5.mono HB4.out.size))
      have HX5 := Lib.hid (HX4.out.later b5)
      clear b5 HB4 HX4
      go_upto_region 8 with fail
      generalize w4.alloc (.cells #[.string oa, .string oi] 23) = w5 at HB5 HX5 HO5 ⊢
      generalize w4.heap.size = g5 at HO5 ⊢
      by_cases hoc : oc = 0
      · have HQ0 : Hid ((parseObj ob).2.2.1 = 0) := by show _ = _; rw [← HQ.out]; exact hoc
        have HRI := Lib.hid (risName_any re (by have := HZR.out; have := HZS.out; omega) w5)
        subst hoc
        rw [show ((0 : Nat) : Int) = 0 from rfl]
        go_wp2_with fail
        rw [HXR.out]
        refine HRI.out.mono ?_
        rintro e w6 ⟨rfl, hw6⟩
        subst hw6
        clear HRI
        cases hre : isName re with
        | false =>
          have HR : Hid (parseT s = (t0, 5, h + 1)) := by show _ = _; rw [HP.out, parseW_3 HQ0.out hre, HZOE.out]
          clear hre
          have hA := HX5.out
          go_wp2_with ((with_reducible refine storeT (x := .tmp 2) (y := .tmp 51) (u := t0) (o := ⟨none, .store _ _ _, _, _, _, _⟩) hA ?_ ?_); exact ⟨rfl, rfl, rfl, rfl⟩)
          refine bodyPost_ret (resT2 rfl (hA.row _) rfl) rfl ⟨?_, below_row HB5.out (Nat.le_refl _) _⟩
          rw [HR.out]; rfl
        | true =>
          have HRE := Lib.hid hre
          clear hre
          obtain ⟨k, hk⟩ : ∃ k, k = fnd bk.data.toList 35 := ⟨_, rfl⟩
          have HF3 := Lib.hid (find_any bk 35 (by have := HZB.out; have := HZS.out; omega) w5)
          rw [← hk] at HF3
          have zbI : (bk.size : Int) ≤ 1000000 := by have := HZB.out; have := HZS.out; omega
          by_cases hlt3 : k < bk.size
          · have hcut3 := cut_yes hk hlt3
            rw [show (⟨#[35]⟩ : ByteArray) = hashA from rfl, HC3.out] at hcut3
            obtain ⟨rfl, e2⟩ := Prod.mk.inj hcut3
            obtain ⟨rfl, rfl⟩ := Prod.mk.inj e2
            obtain ⟨sub, hsub⟩ : ∃ sub, sub = bk.extract 0 k := ⟨_, rfl⟩
            obtain ⟨us, hus⟩ : ∃ us, us = bk.extract (k + 1) bk.size := ⟨_, rfl⟩
            rw [← hsub, ← hus] at HP
            have zsub : sub.size = k := by rw [hsub]; exact ext_size (by omega)
            have zus : us.size ≤ bk.size := by rw [hus]; exact ext_size2 _ _ _
            have HXS : Hid (bk.extract 0 k = sub) := hsub.symm
            have HXU : Hid (bk.extract (k + 1) bk.size = us) := hus.symm
            rw [if_pos hlt3] at HF3
            have q0 : (0 : Int) ≤ k := by omega
            have q1 : (k : Int) ≤ bk.size := by omega
            have q2 : (k : Int) + 1 ≤ bk.size := by omega
            have q3 : k ≤ bk.size := by omega
            have HZSUB := Lib.hid zsub
            have HZUS := Lib.hid zus
            clear hcut3 e2 hk hsub hus zsub zus hlt3 HC3
            obtain ⟨Q2, hQ2⟩ : ∃ Q, Q = parseObj sub := ⟨_, rfl⟩
            have HU := Lib.hid (rparseObj_any sub w5 (by have := HZSUB.out; omega))
            rw [← hQ2] at HU
            have HQ2 := Lib.hid hQ2
            clear hQ2
            obtain ⟨ua, ui, uc, un⟩ := Q2
            go_wp2_with fail
            rw [HXB.out]
            refine HF3.out.mono ?_
            rintro e w6 ⟨rfl, hw6⟩
            subst hw6
            go_wp2_with fail
            rw [HXS.out]
            refine HU.out.mono ?_
            rintro e w7 ⟨rfl, b7⟩
            have HO7 := Lib.hid (HO5.out.later b7)
            have HB7 := Lib.hid (HB5.out.trans (b7.mono HB5.out.size))
            have HX7 := Lib.hid (HX5.out.later b7)
            clear b7 HB5 HX5
            clear HU HF3 HO5
            have b8 : Below w7.heap.size w7 (w7.alloc (.cells #[.string ua, .string ui] 23)) := (Below.refl _ _).alloc (Nat.le_refl _) _
            have HU8 := Lib.hid (Arr.new' w7 23 #[.string ua, .string ui] _ rfl)
            have HO8 := Lib.hid (HO7.out.later b8)
            have HB8 := Lib.hid (HB7.out.trans (b8.mono HB7.out.size))
            have HX8 := Lib.hid (HX7.out.later b8)
            clear b8 HB7 HX7
            clear HO7
            go_upto_region 18 with fail
            generalize w7.alloc (.cells #[.string ua, .string ui] 23) = w8 at HB8 HX8 HU8 HO8 ⊢
            generalize w7.heap.size = g8 at HU8 ⊢
            by_cases huc : uc = 0
            · have HQ20 : Hid ((parseObj sub).2.2.1 = 0) := by show _ = _; rw [← HQ2.out]; exact huc
              subst huc
              rw [show ((0 : Nat) : Int) = 0 from rfl]
              have HT : Hid (∀ u, (⟨(parseObj ob).1, (parseObj ob).2.1, re, (parseObj sub).1, (parseObj sub).2.1, u⟩ : Tu) = ⟨oa, oi, re, ua, ui, u⟩) := by intro u; rw [← HQ.out, ← HQ2.out]
              have HOO : Hid (OO g5 oa oi g8 ua ui w8) := ⟨HO8.out, HU8.out⟩
              clear HO8 HU8
              go_upto_region 20 with fail
              refine wp_region_noPanic ?_
              refine wp_region_held_drew (S := OO g5 oa oi g8 ua ui) (by kernel_rfl) (HOO.out.later (Below.refl _ _).drew) (fun hHeld => ?_)
              try simp only [Act.put]
              have HB9 := Lib.hid (HB8.out.drew)
              have HX9 := Lib.hid (HX8.out.drew)
              generalize w8.drew = w9 at hHeld HB9 HX9 ⊢
              clear HOO HB8 HX8
              refine wpAnyH_take (i := 0) (oi := ⟨some 81, _, _, _, _, _⟩) (v := .agg #[.string oa, .string oi]) rfl (by kernel_rfl) (by kernel_rfl) (by kernel_rfl) (fun _ _ _ h => h) (.inl ⟨by rfl, fun w' hSw => ?_⟩) hHeld ?_
              focus ((have q0 := hSw.1.cell 0; have q1 := hSw.1.cell 1; simp only [List.getElem?_cons_zero, List.getElem?_cons_succ] at q0 q1); clear hHeld; go_simp)
              try simp only [Act.put, List.setIfInBounds_toArray, List.set_cons_zero, List.set_cons_succ]
              refine wpAnyH_take (i := 1) (oi := ⟨some 82, _, _, _, _, _⟩) (v := .string s) rfl (by kernel_rfl) (by kernel_rfl) (by kernel_rfl) (fun _ _ _ h => h) (.inl ⟨by rfl, fun w' hSw => ?_⟩) hHeld ?_
              focus (skip; clear hHeld; go_simp)
              try simp only [Act.put, List.setIfInBounds_toArray, List.set_cons_zero, List.set_cons_succ]
              refine wpAnyH_take (i := 2) (oi := ⟨some 83, _, _, _, _, _⟩) (v := .int .i64 h) rfl (by kernel_rfl) (by kernel_rfl) (by kernel_rfl) (fun _ _ _ h => h) (.inl ⟨by rfl, fun w' hSw => ?_⟩) hHeld ?_
              focus (skip; clear hHeld; go_simp)
              try simp only [Act.put, List.setIfInBounds_toArray, List.set_cons_zero, List.set_cons_succ]
              refine wpAnyH_take (i := 3) (oi := ⟨some 84, _, _, _, _, _⟩) (v := .int .i64 ((h : Int) + 1)) rfl (by kernel_rfl) (by kernel_rfl) (by kernel_rfl) (fun _ _ _ h => h) (.inl ⟨by rfl, fun w' hSw => ?_⟩) hHeld ?_
              focus (skip; clear hHeld; go_simp; rw [IntKind.wrap_i64]; omega)
              try simp only [Act.put, List.setIfInBounds_toArray, List.set_cons_zero, List.set_cons_succ]
              refine wpAnyH_take (i := 4) (oi := ⟨some 85, _, _, _, _, _⟩) (v := .int .i64 A) rfl (by kernel_rfl) (by kernel_rfl) (by kernel_rfl) (fun _ _ _ h => h) (.inl ⟨by rfl, fun w' hSw => ?_⟩) hHeld ?_
              focus (skip; clear hHeld; go_simp)
              try simp only [Act.put, List.setIfInBounds_toArray, List.set_cons_zero, List.set_cons_succ]
              refine wpAnyH_take (i := 5) (oi := ⟨some 86, _, _, _, _, _⟩) (v := .string re) rfl (by kernel_rfl) (by kernel_rfl) (by kernel_rfl) (fun _ _ _ h => h) (.inl ⟨by rfl, fun w' hSw => ?_⟩) hHeld ?_
              focus (have hxr := HXR.out; clear hHeld; go_simp; intro hneg; exfalso; omega)
              try simp only [Act.put, List.setIfInBounds_toArray, List.set_cons_zero, List.set_cons_succ]
              refine wpAnyH_take (i := 6) (oi := ⟨some 87, _, _, _, _, _⟩) (v := .agg #[.string ua, .string ui]) rfl (by kernel_rfl) (by kernel_rfl) (by kernel_rfl) (fun _ _ _ h => h) (.inl ⟨by rfl, fun w' hSw => ?_⟩) hHeld ?_
              focus ((have q0 := hSw.2.cell 0; have q1 := hSw.2.cell 1; simp only [List.getElem?_cons_zero, List.getElem?_cons_succ] at q0 q1); clear hHeld; go_simp)
              try simp only [Act.put, List.setIfInBounds_toArray, List.set_cons_zero, List.set_cons_succ]
              refine wpAnyH_take (i := 7) (oi := ⟨some 88, _, _, _, _, _⟩) (v := .agg #[.string oa, .string oi, .string re, .string ua, .string ui, .string ⟨#[]⟩]) rfl (by kernel_rfl) (by kernel_rfl) (by kernel_rfl) (fun _ _ _ h => h) (.inl ⟨by rfl, fun w' hSw => ?_⟩) hHeld ?_
              focus (skip; clear hHeld; go_simp)
              try simp only [Act.put, List.setIfInBounds_toArray, List.set_cons_zero, List.set_cons_succ]
              refine wpAnyH_ready (rs := [8]) (by kernel_rfl) (by simp) ?_
              refine AllReadyH.cons (o := ⟨some 14, _, _, _, _, _⟩) rfl (fun K' hK' => ?_) AllReadyH.nil
              go_simp
              have hb0 : Below w9.heap.size w9 (w9.alloc (.cells (tc t0).toArray 25)) := (Below.refl _ _).alloc (Nat.le_refl _) _
              have HGO : Hid (g5 ≠ w9.heap.size ∧ g8 ≠ w9.heap.size) := ⟨Nat.ne_of_lt hHeld.1.lt, Nat.ne_of_lt hHeld.2.lt⟩
              have hkn := hHeld.later hb0
              have HN := Lib.hid (tu_new w9 t0)
              refine hK'.out _ (w9.alloc (.cells (tc t0).toArray 25)) hkn (fun _ => ?_)
              clear hK' K' hHeld
              have hHeld := hkn
              clear hkn
              have HB10 := Lib.hid (HB9.out.trans (hb0.mono HB9.out.size))
              have HX10 := Lib.hid (HX9.out.later hb0)
              have HGL : Hid (w.heap.size < w9.heap.size) := HX9.out.lt
              generalize w9.alloc (.cells (tc t0).toArray 25) = w10 at hHeld HN HB10 HX10 ⊢
              generalize w9.heap.size = n at HN HGL HGO ⊢
              clear hb0 HB9 HX9
              try simp only [Act.put, List.setIfInBounds_toArray, List.set_cons_zero, List.set_cons_succ]
              refine wpAnyH_ready (rs := [9]) (by kernel_rfl) (by simp) ?_
              refine AllReadyH.cons (o := ⟨none, _, _, _, _, _⟩) rfl (fun K' hK' => ?_) AllReadyH.nil
              refine stepw_storeT (u := ⟨oa, oi, re, ua, ui, ⟨#[]⟩⟩) (by rfl) (.tmp 14) (.tmp 88) rfl rfl rfl HN.out ?_
              have hkn : OO g5 oa oi g8 ua ui (w10.setRow n (tc ⟨oa, oi, re, ua, ui, ⟨#[]⟩⟩).toArray) := ⟨hHeld.1.row_other HGO.out.1 _, hHeld.2.row_other HGO.out.2 _⟩
              refine hK'.out _ _ hkn (fun _ => ?_)
              clear hK' K' hHeld
              have hHeld := hkn
              clear hkn
              try simp only [Act.put]
              refine wpAnyH_done (by kernel_rfl) ?_ _
              refine NoPanic.normal ?_
              have HT11 : Hid (TuAt (w10.setRow n (tc ⟨oa, oi, re, ua, ui, ⟨#[]⟩⟩).toArray) n ⟨oa, oi, re, ua, ui, ⟨#[]⟩⟩) := HN.out.row _
              have HX11 := Lib.hid (HX10.out.row_other (Nat.ne_of_lt HGL.out) (tc ⟨oa, oi, re, ua, ui, ⟨#[]⟩⟩).toArray)
              have HB11 := Lib.hid (below_row HB10.out (Nat.le_of_lt HGL.out) (tc ⟨oa, oi, re, ua, ui, ⟨#[]⟩⟩).toArray)
              clear hHeld HN HX10 HB10 HGO
              generalize w10.setRow n (tc ⟨oa, oi, re, ua, ui, ⟨#[]⟩⟩).toArray = w11 at HT11 HX11 HB11 ⊢
              have c5 := HT11.out.cells.2.2.2.2.2
              have f5 := Arr.free HT11.out 5
              have HT12 : Hid (TuAt (w11.setCell ⟨n, 5, none⟩ (.string us)) n ⟨oa, oi, re, ua, ui, us⟩) := Arr.set HT11.out 5 (.string us)
              have HX12 : Hid (TuAt (w11.setCell ⟨n, 5, none⟩ (.string us)) w.heap.size t0) := HX11.out.setCell (a := ⟨n, 5, none⟩) (Nat.ne_of_lt HGL.out) _
              have HB12 : Hid (Below w.heap.size w (w11.setCell ⟨n, 5, none⟩ (.string us))) := HB11.out.setCell (p := ⟨n, 5, none⟩) (Nat.le_of_lt HGL.out) _
              have hxu := HXU.out
              clear HT11 HX11 HB11
              go_wp2_with fail
              generalize w11.setCell ⟨n, 5, none⟩ (.string us) = w12 at HT12 HX12 HB12 ⊢
              refine (risName_any us (by have := HZUS.out; have := HZB.out; have := HZS.out; omega) w12).mono ?_
              rintro e w13 ⟨rfl, hw13⟩
              subst hw13
              clear hxu c5 f5
              cases hus : isName us with
              | false =>
                have HR : Hid (parseT s = (t0, 5, f.size + 1 + sub.size + 1)) := by show _ = _; rw [HP.out, parseW_5 HQ0.out HRE.out HQ20.out hus]
                clear hus
                have hA := HX12.out
                go_wp2_with ((with_reducible refine storeT (x := .tmp 2) (y := .tmp 100) (u := t0) (o := ⟨none, .store _ _ _, _, _, _, _⟩) hA ?_ ?_); exact ⟨rfl, rfl, rfl, rfl⟩)
                refine bodyPost_ret (resT2 rfl (hA.row _) rfl) rfl ⟨?_, below_row HB12.out (Nat.le_refl _) _⟩
                rw [HR.out, HZF.out, HZSUB.out]; rfl
              | true =>
                have HR : Hid (parseT s = (⟨oa, oi, re, ua, ui, us⟩, 0, 0)) := by show _ = _; rw [HP.out, parseW_6 HQ0.out HRE.out HQ20.out (by rintro ⟨_, h⟩; rw [hus] at h; cases h), HT.out]
                clear hus
                have hA := HX12.out
                go_wp2_with (first
                  | ((with_reducible refine loadT (x := .tmp 14) (o := ⟨some 106, _, _, _, _, _⟩) HT12.out ?_ ?_); exact ⟨rfl, rfl, rfl⟩)
                  | ((with_reducible refine storeT (x := .tmp 2) (y := .tmp 106) (u := ⟨oa, oi, re, ua, ui, us⟩) (o := ⟨none, .store _ _ _, _, _, _, _⟩) hA ?_ ?_); exact ⟨rfl, rfl, rfl, rfl⟩))
                refine bodyPost_ret (resT2 rfl (hA.row _) rfl) rfl ⟨?_, below_row HB12.out (Nat.le_refl _) _⟩
                rw [HR.out]; rfl
            · have HR : Hid (parseT s = (t0, uc, un + (f.size + 1))) := by show _ = _; rw [HP.out, parseW_4 HQ0.out HRE.out (by rw [← HQ2.out]; exact huc), ← HQ2.out]
              have HUN : Hid (un ≤ 1000001) := by
                have := (parseObj_at sub).1
                rw [← HQ2.out] at this
                simp only [] at this
                have := HZSUB.out
                show _ ≤ _
                omega
              have hun : (un : Int) ≤ 1000001 := by have := HUN.out; omega
              have hun0 : (0 : Int) ≤ un := by omega
              have h1 : ¬ (uc : Int) = 0 := by omega
              have h2 : ((uc : Int) != 0) = true := by rw [bne_iff_ne]; exact h1
              clear huc
              have hA := HX8.out
              go_wp2_with ((with_reducible refine storeT (x := .tmp 2) (y := .tmp 75) (u := t0) (o := ⟨none, .store _ _ _, _, _, _, _⟩) hA ?_ ?_); exact ⟨rfl, rfl, rfl, rfl⟩)
              refine bodyPost_ret (resT2 rfl (hA.row _) rfl) rfl ⟨?_, below_row HB8.out (Nat.le_refl _) _⟩
              rw [HR.out, HZF.out, show un + (A + 1) = A + 1 + un by omega]; rfl
          · have hcut3 := cut_nay hk hlt3
            rw [show (⟨#[35]⟩ : ByteArray) = hashA from rfl, HC3.out] at hcut3
            obtain ⟨rfl, e2⟩ := Prod.mk.inj hcut3
            obtain ⟨rfl, rfl⟩ := Prod.mk.inj e2
            rw [if_neg hlt3] at HF3
            have HXS : Hid (sub.extract 0 sub.size = sub) := ext_all sub
            clear hcut3 e2 hk hlt3 HC3
            obtain ⟨Q2, hQ2⟩ : ∃ Q, Q = parseObj sub := ⟨_, rfl⟩
            have HU := Lib.hid (rparseObj_any sub w5 (by omega))
            rw [← hQ2] at HU
            have HQ2 := Lib.hid hQ2
            clear hQ2
            obtain ⟨ua, ui, uc, un⟩ := Q2
            go_wp2_with fail
            rw [HXB.out]
            refine HF3.out.mono ?_
            rintro e w6 ⟨rfl, hw6⟩
            subst hw6
            go_wp2_with fail
            skip
            refine HU.out.mono ?_
            rintro e w7 ⟨rfl, b7⟩
            have HO7 := Lib.hid (HO5.out.later b7)
            have HB7 := Lib.hid (HB5.out.trans (b7.mono HB5.out.size))
            have HX7 := Lib.hid (HX5.out.later b7)
            clear b7 HB5 HX5
            clear HU HF3 HO5
            have b8 : Below w7.heap.size w7 (w7.alloc (.cells #[.string ua, .string ui] 23)) := (Below.refl _ _).alloc (Nat.le_refl _) _
            have HU8 := Lib.hid (Arr.new' w7 23 #[.string ua, .string ui] _ rfl)
            have HO8 := Lib.hid (HO7.out.later b8)
            have HB8 := Lib.hid (HB7.out.trans (b8.mono HB7.out.size))
            have HX8 := Lib.hid (HX7.out.later b8)
            clear b8 HB7 HX7
            clear HO7
            go_upto_region 18 with fail
            generalize w7.alloc (.cells #[.string ua, .string ui] 23) = w8 at HB8 HX8 HU8 HO8 ⊢
            generalize w7.heap.size = g8 at HU8 ⊢
            by_cases huc : uc = 0
            · have HQ20 : Hid ((parseObj sub).2.2.1 = 0) := by show _ = _; rw [← HQ2.out]; exact huc
              subst huc
              rw [show ((0 : Nat) : Int) = 0 from rfl]
              have HT : Hid (∀ u, (⟨(parseObj ob).1, (parseObj ob).2.1, re, (parseObj sub).1, (parseObj sub).2.1, u⟩ : Tu) = ⟨oa, oi, re, ua, ui, u⟩) := by intro u; rw [← HQ.out, ← HQ2.out]
              have HOO : Hid (OO g5 oa oi g8 ua ui w8) := ⟨HO8.out, HU8.out⟩
              clear HO8 HU8
              go_upto_region 20 with fail
              refine wp_region_noPanic ?_
              refine wp_region_held_drew (S := OO g5 oa oi g8 ua ui) (by kernel_rfl) (HOO.out.later (Below.refl _ _).drew) (fun hHeld => ?_)
              try simp only [Act.put]
              have HB9 := Lib.hid (HB8.out.drew)
              have HX9 := Lib.hid (HX8.out.drew)
              generalize w8.drew = w9 at hHeld HB9 HX9 ⊢
              clear HOO HB8 HX8
              refine wpAnyH_take (i := 0) (oi := ⟨some 81, _, _, _, _, _⟩) (v := .agg #[.string oa, .string oi]) rfl (by kernel_rfl) (by kernel_rfl) (by kernel_rfl) (fun _ _ _ h => h) (.inl ⟨by rfl, fun w' hSw => ?_⟩) hHeld ?_
              focus ((have q0 := hSw.1.cell 0; have q1 := hSw.1.cell 1; simp only [List.getElem?_cons_zero, List.getElem?_cons_succ] at q0 q1); clear hHeld; go_simp)
              try simp only [Act.put, List.setIfInBounds_toArray, List.set_cons_zero, List.set_cons_succ]
              refine wpAnyH_take (i := 1) (oi := ⟨some 82, _, _, _, _, _⟩) (v := .string s) rfl (by kernel_rfl) (by kernel_rfl) (by kernel_rfl) (fun _ _ _ h => h) (.inl ⟨by rfl, fun w' hSw => ?_⟩) hHeld ?_
              focus (skip; clear hHeld; go_simp)
              try simp only [Act.put, List.setIfInBounds_toArray, List.set_cons_zero, List.set_cons_succ]
              refine wpAnyH_take (i := 2) (oi := ⟨some 83, _, _, _, _, _⟩) (v := .int .i64 h) rfl (by kernel_rfl) (by kernel_rfl) (by kernel_rfl) (fun _ _ _ h => h) (.inl ⟨by rfl, fun w' hSw => ?_⟩) hHeld ?_
              focus (skip; clear hHeld; go_simp)
              try simp only [Act.put, List.setIfInBounds_toArray, List.set_cons_zero, List.set_cons_succ]
              refine wpAnyH_take (i := 3) (oi := ⟨some 84, _, _, _, _, _⟩) (v := .int .i64 ((h : Int) + 1)) rfl (by kernel_rfl) (by kernel_rfl) (by kernel_rfl) (fun _ _ _ h => h) (.inl ⟨by rfl, fun w' hSw => ?_⟩) hHeld ?_
              focus (skip; clear hHeld; go_simp; rw [IntKind.wrap_i64]; omega)
              try simp only [Act.put, List.setIfInBounds_toArray, List.set_cons_zero, List.set_cons_succ]
              refine wpAnyH_take (i := 4) (oi := ⟨some 85, _, _, _, _, _⟩) (v := .int .i64 A) rfl (by kernel_rfl) (by kernel_rfl) (by kernel_rfl) (fun _ _ _ h => h) (.inl ⟨by rfl, fun w' hSw => ?_⟩) hHeld ?_
              focus (skip; clear hHeld; go_simp)
              try simp only [Act.put, List.setIfInBounds_toArray, List.set_cons_zero, List.set_cons_succ]
              refine wpAnyH_take (i := 5) (oi := ⟨some 86, _, _, _, _, _⟩) (v := .string re) rfl (by kernel_rfl) (by kernel_rfl) (by kernel_rfl) (fun _ _ _ h => h) (.inl ⟨by rfl, fun w' hSw => ?_⟩) hHeld ?_
              focus (have hxr := HXR.out; clear hHeld; go_simp; intro hneg; exfalso; omega)
              try simp only [Act.put, List.setIfInBounds_toArray, List.set_cons_zero, List.set_cons_succ]
              refine wpAnyH_take (i := 6) (oi := ⟨some 87, _, _, _, _, _⟩) (v := .agg #[.string ua, .string ui]) rfl (by kernel_rfl) (by kernel_rfl) (by kernel_rfl) (fun _ _ _ h => h) (.inl ⟨by rfl, fun w' hSw => ?_⟩) hHeld ?_
              focus ((have q0 := hSw.2.cell 0; have q1 := hSw.2.cell 1; simp only [List.getElem?_cons_zero, List.getElem?_cons_succ] at q0 q1); clear hHeld; go_simp)
              try simp only [Act.put, List.setIfInBounds_toArray, List.set_cons_zero, List.set_cons_succ]
              refine wpAnyH_take (i := 7) (oi := ⟨some 88, _, _, _, _, _⟩) (v := .agg #[.string oa, .string oi, .string re, .string ua, .string ui, .string ⟨#[]⟩]) rfl (by kernel_rfl) (by kernel_rfl) (by kernel_rfl) (fun _ _ _ h => h) (.inl ⟨by rfl, fun w' hSw => ?_⟩) hHeld ?_
              focus (skip; clear hHeld; go_simp)
              try simp only [Act.put, List.setIfInBounds_toArray, List.set_cons_zero, List.set_cons_succ]
              refine wpAnyH_ready (rs := [8]) (by kernel_rfl) (by simp) ?_
              refine AllReadyH.cons (o := ⟨some 14, _, _, _, _, _⟩) rfl (fun K' hK' => ?_) AllReadyH.nil
              go_simp
              have hb0 : Below w9.heap.size w9 (w9.alloc (.cells (tc t0).toArray 25)) := (Below.refl _ _).alloc (Nat.le_refl _) _
              have HGO : Hid (g5 ≠ w9.heap.size ∧ g8 ≠ w9.heap.size) := ⟨Nat.ne_of_lt hHeld.1.lt, Nat.ne_of_lt hHeld.2.lt⟩
              have hkn := hHeld.later hb0
              have HN := Lib.hid (tu_new w9 t0)
              refine hK'.out _ (w9.alloc (.cells (tc t0).toArray 25)) hkn (fun _ => ?_)
              clear hK' K' hHeld
              have hHeld := hkn
              clear hkn
              have HB10 := Lib.hid (HB9.out.trans (hb0.mono HB9.out.size))
              have HX10 := Lib.hid (HX9.out.later hb0)
              have HGL : Hid (w.heap.size < w9.heap.size) := HX9.out.lt
              generalize w9.alloc (.cells (tc t0).toArray 25) = w10 at hHeld HN HB10 HX10 ⊢
              generalize w9.heap.size = n at HN HGL HGO ⊢
              clear hb0 HB9 HX9
              try simp only [Act.put, List.setIfInBounds_toArray, List.set_cons_zero, List.set_cons_succ]
              refine wpAnyH_ready (rs := [9]) (by kernel_rfl) (by simp) ?_
              refine AllReadyH.cons (o := ⟨none, _, _, _, _, _⟩) rfl (fun K' hK' => ?_) AllReadyH.nil
              refine stepw_storeT (u := ⟨oa, oi, re, ua, ui, ⟨#[]⟩⟩) (by rfl) (.tmp 14) (.tmp 88) rfl rfl rfl HN.out ?_
              have hkn : OO g5 oa oi g8 ua ui (w10.setRow n (tc ⟨oa, oi, re, ua, ui, ⟨#[]⟩⟩).toArray) := ⟨hHeld.1.row_other HGO.out.1 _, hHeld.2.row_other HGO.out.2 _⟩
              refine hK'.out _ _ hkn (fun _ => ?_)
              clear hK' K' hHeld
              have hHeld := hkn
              clear hkn
              try simp only [Act.put]
              refine wpAnyH_done (by kernel_rfl) ?_ _
              refine NoPanic.normal ?_
              have HT11 : Hid (TuAt (w10.setRow n (tc ⟨oa, oi, re, ua, ui, ⟨#[]⟩⟩).toArray) n ⟨oa, oi, re, ua, ui, ⟨#[]⟩⟩) := HN.out.row _
              have HX11 := Lib.hid (HX10.out.row_other (Nat.ne_of_lt HGL.out) (tc ⟨oa, oi, re, ua, ui, ⟨#[]⟩⟩).toArray)
              have HB11 := Lib.hid (below_row HB10.out (Nat.le_of_lt HGL.out) (tc ⟨oa, oi, re, ua, ui, ⟨#[]⟩⟩).toArray)
              clear hHeld HN HX10 HB10 HGO
              generalize w10.setRow n (tc ⟨oa, oi, re, ua, ui, ⟨#[]⟩⟩).toArray = w11 at HT11 HX11 HB11 ⊢
              have HR : Hid (parseT s = (⟨oa, oi, re, ua, ui, ⟨#[]⟩⟩, 0, 0)) := by show _ = _; rw [HP.out, parseW_6 HQ0.out HRE.out HQ20.out (by rintro ⟨h, _⟩; cases h), HT.out]; rfl
              have hA := HX11.out
              go_wp2_with (first
                | ((with_reducible refine loadT (x := .tmp 14) (o := ⟨some 106, _, _, _, _, _⟩) HT11.out ?_ ?_); exact ⟨rfl, rfl, rfl⟩)
                | ((with_reducible refine storeT (x := .tmp 2) (y := .tmp 106) (u := ⟨oa, oi, re, ua, ui, ⟨#[]⟩⟩) (o := ⟨none, .store _ _ _, _, _, _, _⟩) hA ?_ ?_); exact ⟨rfl, rfl, rfl, rfl⟩))
              refine bodyPost_ret (resT2 rfl (hA.row _) rfl) rfl ⟨?_, below_row HB11.out (Nat.le_refl _) _⟩
              rw [HR.out]; rfl
            · have HR : Hid (parseT s = (t0, uc, un + (f.size + 1))) := by show _ = _; rw [HP.out, parseW_4 HQ0.out HRE.out (by rw [← HQ2.out]; exact huc), ← HQ2.out]
              have HUN : Hid (un ≤ 1000001) := by
                have := (parseObj_at sub).1
                rw [← HQ2.out] at this
                simp only [] at this
                skip
                show _ ≤ _
                omega
              have hun : (un : Int) ≤ 1000001 := by have := HUN.out; omega
              have hun0 : (0 : Int) ≤ un := by omega
              have h1 : ¬ (uc : Int) = 0 := by omega
              have h2 : ((uc : Int) != 0) = true := by rw [bne_iff_ne]; exact h1
              clear huc
              have hA := HX8.out
              go_wp2_with ((with_reducible refine storeT (x := .tmp 2) (y := .tmp 75) (u := t0) (o := ⟨none, .store _ _ _, _, _, _, _⟩) hA ?_ ?_); exact ⟨rfl, rfl, rfl, rfl⟩)
              refine bodyPost_ret (resT2 rfl (hA.row _) rfl) rfl ⟨?_, below_row HB8.out (Nat.le_refl _) _⟩
              rw [HR.out, HZF.out, show un + (A + 1) = A + 1 + un by omega]; rfl
      · have HR : Hid (parseT s = (t0, oc, on)) := by show _ = _; rw [HP.out, parseW_2 (by rw [← HQ.out]; exact hoc), ← HQ.out]
        have h1 : ¬ (oc : Int) = 0 := by omega
        have h2 : ((oc : Int) != 0) = true := by rw [bne_iff_ne]; exact h1
        clear hoc
        have hA := HX5.out
        go_wp2_with ((with_reducible refine storeT (x := .tmp 2) (y := .tmp 41) (u := t0) (o := ⟨none, .store _ _ _, _, _, _, _⟩) hA ?_ ?_); exact ⟨rfl, rfl, rfl, rfl⟩)
        refine bodyPost_ret (resT2 rfl (hA.row _) rfl) rfl ⟨?_, below_row HB5.out (Nat.le_refl _) _⟩
        rw [HR.out]; rfl
    · have hcut2 := cut_nay hh hlt2
      rw [if_neg hlt2] at HF2
      have HR : Hid (parseT s = (t0, 6, s.size)) := by
        show _ = _
        unfold parseT
        refine parseW_1 (.inr ?_)
        rw [HCUT.out, show hashA = ⟨#[35]⟩ from rfl, hcut2]
      clear hcut2 hh hlt2 hext zfs
      go_enter Tryz.func24, Tryz.ntmps24
      go_wp2_with fail
      rw [show (w.alloc (.cells #[.string ⟨#[]⟩, .string ⟨#[]⟩, .string ⟨#[]⟩, .string ⟨#[]⟩, .string ⟨#[]⟩, .string ⟨#[]⟩] 25)) = w0 from HW.out.symm]
      refine HF.out.mono ?_
      rintro e w1 ⟨rfl, hw1⟩
      subst hw1
      go_wp2_with fail
      rw [HXF.out]
      refine HF2.out.mono ?_
      rintro e w1 ⟨rfl, hw1⟩
      subst hw1
      have hA := HX0.out
      go_wp2_with ((with_reducible refine storeT (x := .tmp 2) (y := .tmp 28) (u := t0) (o := ⟨none, .store _ _ _, _, _, _, _⟩) hA ?_ ?_); exact ⟨rfl, rfl, rfl, rfl⟩)
      refine bodyPost_ret (resT2 rfl (hA.row _) rfl) rfl ⟨?_, below_row HB0.out (Nat.le_refl _) _⟩
      rw [HR.out]; rfl
  · have hcut := cut_nay hA hlt
    rw [if_neg hlt] at HF
    have HR : Hid (parseT s = (t0, 6, s.size)) := by
      show _ = _
      unfold parseT
      exact parseW_1 (.inl (by rw [show atA = ⟨#[64]⟩ from rfl, hcut]))
    clear hcut hA hlt
    go_enter Tryz.func24, Tryz.ntmps24
    go_wp2_with fail
    rw [show (w.alloc (.cells #[.string ⟨#[]⟩, .string ⟨#[]⟩, .string ⟨#[]⟩, .string ⟨#[]⟩, .string ⟨#[]⟩, .string ⟨#[]⟩] 25)) = w0 from HW.out.symm]
    refine HF.out.mono ?_
    rintro e w1 ⟨rfl, hw1⟩
    subst hw1
    have hA := HX0.out
    go_wp2_with ((with_reducible refine storeT (x := .tmp 2) (y := .tmp 19) (u := t0) (o := ⟨none, .store _ _ _, _, _, _, _⟩) hA ?_ ?_); exact ⟨rfl, rfl, rfl, rfl⟩)
    refine bodyPost_ret (resT2 rfl (hA.row _) rfl) rfl ⟨?_, below_row HB0.out (Nat.le_refl _) _⟩
    rw [HR.out]; rfl
end Go.Proofs.YtnnebfcggdbgpaaGreatDoor
/-
  vestrylaw18.TupleParses: the walk.
-/
namespace Go.Proofs.YtnnebfcggdbgpaaGreatDoor
open Go.ChangeShapes Go.WideShapes Go.ChangeAt Go.RowKit
open errAs (ErrT)
set_option linter.unusedVariables false

theorem text_some (t : Tu) (w : World) (h : Env w) : Calls Tryz.prog 15 #[tuV t] w fun e w' => (∃ s ok, e = .returned (.tuple #[.string s, .bool ok])) ∧ Below w.heap.size w w' := by
  rcases hr : rightT t with _ | _
  · exact (text_no t hr w h).mono fun e w' ⟨h1, h2⟩ => ⟨⟨_, _, h1⟩, h2⟩
  · exact (text_yes t hr w h).mono fun e w' ⟨h1, h2⟩ => ⟨⟨_, _, h1⟩, h2⟩
set_option maxRecDepth 100000 in
set_option maxHeartbeats 4000000 in
theorem tparses_law (s : ByteArray) (w : World) (hE : Env w) : Calls Tryz.prog 4 #[.string s] w fun e w' => e = .returned (.bool true) ∧ Below w.heap.size w w' := by
  have HE := Lib.hid hE
  have HAW := Lib.hid (tawake_any w hE)
  clear hE
  by_cases hbig : 1000 < s.size
  · have h1 : (1000 : Int) < s.size := by omega
    go_enter Tryz.func4, Tryz.ntmps4
    go_wp2_with fail
    refine HAW.out.mono ?_
    rintro e w1 ⟨rfl, b1⟩
    have HB1 := Lib.hid b1
    have HAW2 := Lib.hid (tawake_any _ (HE.out.below b1))
    clear b1
    go_wp2_with fail
    refine HAW2.out.mono ?_
    rintro e w2 ⟨rfl, b2⟩
    have HB2 := Lib.hid (HB1.out.trans (b2.mono HB1.out.size))
    clear b2
    go_wp2_with fail
    go_ret
    exact ⟨rfl, HB2.out⟩
  · have h1 : ¬ (1000 : Int) < s.size := by omega
    have HSZ : Hid (s.size ≤ 1000000) := by show s.size ≤ 1000000; omega
    obtain ⟨t, c, n, hpz⟩ : ∃ t c n, parseT s = (t, c, n) := ⟨_, _, _, rfl⟩
    have HPZ := Lib.hid hpz
    clear hpz
    go_enter Tryz.func4, Tryz.ntmps4
    go_wp2_with fail
    refine HAW.out.mono ?_
    rintro e w1 ⟨rfl, b1⟩
    have HB1 := Lib.hid b1
    have HE1 := Lib.hid (HE.out.below b1)
    have HPA : Hid (Calls Tryz.prog 19 #[.string s] w1 fun e w' => e = .returned (.tuple #[tuV t, errF c n]) ∧ Below w1.heap.size w1 w') := by
      have h := tparse_any s w1 HE1.out HSZ.out
      rw [HPZ.out] at h
      exact h
    clear b1 HAW HE
    go_wp2_with fail
    refine HPA.out.mono ?_
    rintro e w2 ⟨rfl, b2⟩
    have hb3 : Below w2.heap.size w2 (w2.alloc (.cells (tc t).toArray 25)) := (Below.refl _ _).alloc (Nat.le_refl _) _
    have HB3 := Lib.hid ((HB1.out.trans (b2.mono HB1.out.size)).trans (hb3.mono (HB1.out.trans (b2.mono HB1.out.size)).size))
    have HE3 := Lib.hid ((HE1.out.below b2).below hb3)
    have HA3 := Lib.hid (tu_new w2 t)
    clear b2 hb3 HPA HB1 HE1
    go_upto_region 4 with ((with_reducible refine atT w2.heap.size (x := .tmp 3) (y := .tmp 21) (u := t) (o := ⟨none, .store _ _ _, _, _, _, _⟩) ?_ ?_); exact ⟨rfl, rfl, rfl, rfl, rfl, rfl⟩)
    generalize w2.alloc (.cells (tc t).toArray 25) = w3 at HB3 HE3 HA3 ⊢
    generalize w2.heap.size = g3 at HA3 ⊢
    have HRP : Hid (Calls Tryz.prog 24 #[.string s] w3 fun e w' => e = .returned (.tuple #[tuV t, .int .i64 (c : Nat), .int .i64 (n : Nat)]) ∧ Below w3.heap.size w3 w') := by
      have h := rtparse_any s w3 HSZ.out
      rw [HPZ.out] at h
      exact h
    go_wp2_with fail
    refine HRP.out.mono ?_
    rintro e w4 ⟨rfl, b4⟩
    have hb5 : Below w4.heap.size w4 (w4.alloc (.cells (tc t).toArray 25)) := (Below.refl _ _).alloc (Nat.le_refl _) _
    have HB5 := Lib.hid ((HB3.out.trans (b4.mono HB3.out.size)).trans (hb5.mono (HB3.out.trans (b4.mono HB3.out.size)).size))
    have HE5 := Lib.hid ((HE3.out.below b4).below hb5)
    have HA5 := Lib.hid ((HA3.out.later b4).later hb5)
    have HX5 := Lib.hid (tu_new w4 t)
    clear b4 hb5 HRP HB3 HE3 HA3
    go_upto_region 5 with ((with_reducible refine atT w4.heap.size (x := .tmp 5) (y := .tmp 26) (u := t) (o := ⟨none, .store _ _ _, _, _, _, _⟩) ?_ ?_); exact ⟨rfl, rfl, rfl, rfl, rfl, rfl⟩)
    generalize w4.alloc (.cells (tc t).toArray 25) = w5 at HB5 HE5 HA5 HX5 ⊢
    generalize w4.heap.size = g5 at HX5 ⊢
    have hee : Hid (eqT t t = !false) := eqT_refl t
    have HTO := Lib.hid (told_any c n w5 HE5.out.2.1)
    go_wp2_with (first
      | ((with_reducible refine loadT (x := .tmp 3) (u := t) (o := ⟨some 29, _, _, _, _, _⟩) HA5.out ?_ ?_); exact ⟨rfl, rfl, rfl⟩)
      | ((with_reducible refine loadT (x := .tmp 5) (u := t) (o := ⟨some 30, _, _, _, _, _⟩) HX5.out ?_ ?_); exact ⟨rfl, rfl, rfl⟩)
      | ((with_reducible refine neW hee.out (t := 25) (x := .tmp 29) (y := .tmp 30) (o := ⟨some 31, _, _, _, _, _⟩) ?_ ?_); exact ⟨rfl, rfl, rfl, rfl⟩))
    refine HTO.out.mono ?_
    rintro e w6 ⟨rfl, b6⟩
    have HB6 := Lib.hid (HB5.out.trans (b6.mono HB5.out.size))
    have HE6 := Lib.hid (HE5.out.below b6)
    have HA6 := Lib.hid (HA5.out.later b6)
    clear b6 HTO HB5 HE5 HA5 HX5
    by_cases hc : c = 0
    · subst hc
      obtain ⟨hr, ht, _⟩ := parseT_back (s := s) (by rw [HPZ.out])
      rw [HPZ.out] at hr ht
      have HR := Lib.hid hr
      have HTT : Hid (textT t = s) := ht
      clear hr ht
      have HTX := Lib.hid (text_yes t HR.out w6 HE6.out)
      rw [HTT.out] at HTX
      go_wp2_with ((with_reducible refine loadT (x := .tmp 3) (u := t) (o := ⟨some 40, _, _, _, _, _⟩) HA6.out ?_ ?_); exact ⟨rfl, rfl, rfl⟩)
      refine HTX.out.mono ?_
      rintro e w7 ⟨rfl, b7⟩
      have HB7 := Lib.hid (HB6.out.trans (b7.mono HB6.out.size))
      clear b7 HTX HB6 HE6 HA6
      go_wp2_with fail
      go_ret
      exact ⟨rfl, HB7.out⟩
    · have hc1 : ¬ (c : Int) = 0 := by omega
      have hc2 : ((c : Int) != 0) = true := by rw [bne_iff_ne]; exact hc1
      have HTX := Lib.hid (text_some t w6 HE6.out)
      go_wp2_with ((with_reducible refine loadT (x := .tmp 3) (u := t) (o := ⟨some 40, _, _, _, _, _⟩) HA6.out ?_ ?_); exact ⟨rfl, rfl, rfl⟩)
      refine HTX.out.mono ?_
      rintro e w7 ⟨⟨s', ok, rfl⟩, b7⟩
      have HB7 := Lib.hid (HB6.out.trans (b7.mono HB6.out.size))
      clear b7 HTX HB6 HE6 HA6
      go_wp2_with fail
      go_ret
      exact ⟨rfl, HB7.out⟩
end Go.Proofs.YtnnebfcggdbgpaaGreatDoor
/-
  The reference's Put1.
-/
namespace Go.Proofs.YtnnebfcggdbgpaaGreatDoor
open Go.ChangeShapes Go.WideShapes Go.ChangeAt Go.RowKit
set_option linter.unusedVariables false

theorem put1_end : ∀ {l : List Tu} {t : Tu} {k : Nat}, k ≤ l.length → (∀ j, (hj : j < l.length) → j < k → ordT l[j] t < 0) → (∀ h : k < l.length, ¬ ordT l[k] t < 0 ∧ ¬ l[k] = t) → put1 t l = l.take k ++ t :: l.drop k
  | [], t, k, hk, _, _ => by
    obtain rfl : k = 0 := by simpa using hk
    rfl
  | a :: l, t, 0, hk, _, h => by
    obtain ⟨h1, h2⟩ := h (by simp)
    simp only [List.getElem_cons_zero] at h1 h2
    unfold put1
    rw [if_neg h1, if_neg (fun e => h2 (ordT_eq e))]
    rfl
  | a :: l, t, k + 1, hk, hb, h => by
    have h0 : ordT a t < 0 := hb 0 (by simp) (by omega)
    unfold put1
    rw [if_pos h0, put1_end (k := k) (by simpa using hk) (fun j hj hjk => hb (j + 1) (by simpa using hj) (by omega)) (fun hk' => h (by simpa using hk'))]
    rfl
theorem put1_there : ∀ {l : List Tu} {t : Tu} {k : Nat} (hk : k < l.length), (∀ j, (hj : j < l.length) → j < k → ordT l[j] t < 0) → l[k] = t → put1 t l = l
  | a :: l, t, 0, hk, _, h => by
    simp only [List.getElem_cons_zero] at h
    subst h
    unfold put1
    rw [if_neg (by rw [ordT_self]; omega), if_pos (ordT_self a)]
  | a :: l, t, k + 1, hk, hb, h => by
    have h0 : ordT a t < 0 := hb 0 (by simp) (by omega)
    unfold put1
    rw [if_pos h0, put1_there (k := k) (by simpa using hk) (fun j hj hjk => hb (j + 1) (by simpa using hj) (by omega)) (by simpa using h)]
/-- The tuples l lie where p points. -/
def SrcT (p : Option Addr) (c : Nat) (w : World) (l : List Tu) : Prop := (l = [] ∧ p = none ∧ c = 0) ∨ ∃ b off, p = some ⟨b, off, none⟩ ∧ b < w.heap.size ∧ w.rangeAt b off (l.flatMap tc)
theorem TuSl.src {w : World} {sv : Value} {l : List Tu} (h : TuSl w sv l) : ∃ p c, sv = .slice p l.length c ∧ l.length ≤ c ∧ SrcT p c w l := by
  rcases h with ⟨h1, h2⟩ | ⟨b, off, c, h1, h2, h3, h4⟩
  · subst h1 h2
    exact ⟨none, 0, rfl, by simp, .inl ⟨rfl, rfl, rfl⟩⟩
  · exact ⟨_, c, h1, h2, .inr ⟨b, off, rfl, h3, h4⟩⟩
theorem SrcT.below {p : Option Addr} {c : Nat} {w w' : World} {l : List Tu} (h : SrcT p c w l) (hb : Below w.heap.size w w') : SrcT p c w' l := by
  rcases h with h | ⟨b, off, h1, h2, h3⟩
  · exact .inl h
  · refine .inr ⟨b, off, h1, Nat.lt_of_lt_of_le h2 hb.size, fun j v hv => ?_⟩
    have := h3 j v hv
    unfold World.cell? at this ⊢
    rw [hb.block b h2]
    exact this
theorem SrcT.row {p : Option Addr} {c : Nat} {w : World} {l : List Tu} (h : SrcT p c w l) {i : Nat} (hi : i < l.length) : ∃ b off, p = some ⟨b, off, none⟩ ∧ b < w.heap.size ∧ w.rangeAt b (off + i * 6) (tc l[i]) := by
  rcases h with ⟨h, _⟩ | ⟨b, off, h1, h2, h3⟩
  · subst h; exact absurd hi (by simp)
  · exact ⟨b, off, h1, h2, flat_row h3 hi⟩
theorem SrcT.take {p : Option Addr} {c : Nat} {w : World} {l : List Tu} (h : SrcT p c w l) (k : Nat) : SrcT p c w (l.take k) := by
  rcases h with ⟨h1, h2⟩ | ⟨b, off, h1, h2, h3⟩
  · exact .inl ⟨by rw [h1]; simp, h2⟩
  · refine .inr ⟨b, off, h1, h2, fun j v hv => h3 j v ?_⟩
    rw [← List.take_append_drop k l, List.flatMap_append, List.getElem?_append_left (List.getElem?_eq_some_iff.1 hv).1]
    exact hv
theorem SrcT.drop {b off c c' : Nat} {w : World} {l : List Tu} (h : SrcT (some ⟨b, off, none⟩) c w l) {k : Nat} (hk : k ≤ l.length) : SrcT (some ⟨b, off + k * 6, none⟩) c' w (l.drop k) := by
  rcases h with ⟨h1, h2, _⟩ | ⟨b', off', h1, h2, h3⟩
  · cases h2
  · simp only [Option.some.injEq, Addr.mk.injEq, and_true] at h1
    obtain ⟨rfl, rfl⟩ := h1
    refine .inr ⟨b, off + k * 6, rfl, h2, fun j v hv => ?_⟩
    rw [Nat.add_assoc]
    refine h3 (k * 6 + j) v ?_
    have hl : ((l.take k).flatMap tc).length = k * 6 := by rw [flat_len, List.length_take]; congr 1; omega
    rw [← List.take_append_drop k l, List.flatMap_append, List.getElem?_append_right (by rw [hl]; omega), hl, Nat.add_sub_cancel_left]
    exact hv
theorem appT {ops : Array Oper} {rest : List Oper} {o : Oper} {a : Act} {Q : Exit → Act → World → Prop} {w : World} (hgd : o.guard = none) (s x : Operand) (ho : o.op = .call { callee := .builtin .append, args := #[s, x], argTypes := #[52, 52] })
    {base n m c : Nat} {v : Value} {xs news : List Tu} {p : Option Addr} (hs : a.eval s = v) (hown : w.ownsRow base 25 6 v n (xs.flatMap tc)) (hx : a.eval x = .slice p m c) (hm : news.length = m) (h2 : SrcT p c w news)
    (hlen : n + m ≤ 1000000) (hbase : base ≤ w.heap.size)
    (h : ∀ v' w', w'.ownsRow base 25 6 v' (n + m) ((xs ++ news).flatMap tc) → Below base w w' → wpList Tryz.prog ops Q rest (a.put o.dst v') w') : wpList Tryz.prog ops Q (o :: rest) a w := by
  obtain ⟨i0, hi⟩ : ∃ i, Tryz.prog.info? 25 = some i := Option.isSome_iff_exists.1 (by kernel_rfl)
  have q1 : (Tryz.prog.info? 25).bind (·.zero) = some (tuV t0) := by kernel_rfl
  have q2 : (Tryz.prog.info? 25).map (·.size) = some 6 := by kernel_rfl
  have q3 : (Tryz.prog.info? 25).map (·.bytes) = some 96 := by kernel_rfl
  rw [hi] at q1 q2 q3
  rcases h2 with ⟨h1, h2, h3⟩ | ⟨b, off, h1, h2, h3⟩
  · subst h1 h2 h3
    obtain rfl : m = 0 := by simpa using hm.symm
    refine wpList_append_own_none hgd s x 52 ho base 25 i0 6 Tryz.underlying52 hi v n _ hs hown hx ?_
    exact h v w (by rw [List.append_nil]; exact hown) (Below.refl _ _)
  · subst h1
    refine wpList_append_own w hgd s x 52 ho base 25 i0 (tuV t0) 6 96 Tryz.underlying52 hi q1 (Option.some.inj q2) (Option.some.inj q3) (by kernel_rfl) (by decide) v n _ hs hown ⟨b, off, none⟩ m c (news.flatMap tc) hx (by rw [flat_len, hm]) ?_ ?_ (by unfold maxLen; omega) (by omega) hbase ?_
    · intro j u hj
      rw [show (Addr.add ⟨b, off, none⟩ j) = ⟨b, off + j, none⟩ by cases j <;> simp [Addr.add]]
      exact h3 j u hj
    · intro u hu
      obtain ⟨y, _, hy⟩ := List.mem_flatMap.1 hu
      exact tc_one y u hy
    · intro v' w' r1 r2 _
      exact h v' w' (by rw [List.flatMap_append]; exact r1) ((Below.refl _ _).grown r2 hbase (fun k hk => (hown.lt k hk).1))
theorem ownsRow_sl {w : World} {base : Nat} {v : Value} {l : List Tu} (h : w.ownsRow base 25 6 v l.length (l.flatMap tc)) : TuSl w v l := by
  rcases h.2 with ⟨h1, h2⟩ | ⟨g, cap, cur, rfl, h1, h2, h3, _, h5, h6⟩
  · exact .inl ⟨h1, List.eq_nil_of_length_eq_zero h2⟩
  · refine .inr ⟨g, 0, cap, rfl, h3, (Array.getElem?_eq_some_iff.1 h2).1, ?_⟩
    have := holds_of_row h2 h6
    exact row_of_holds (r := []) (by rw [List.append_nil]; exact this)
theorem stillG {ops : Array Oper} {rest : List Oper} {o : Oper} {a : Act} {Q' : Act → Prop} {w : World} {b off : Nat} {x : Operand} {u : Tu} (hr : w.rangeAt b off (tc u)) (hs : Region.wanted o (yielded ops a.tmps) = true ∧ o.op = .load 25 x ∧ a.eval x = .pointer (some ⟨b, off, none⟩))
    (hk : wpStill Tryz.prog ops w Q' rest (a.put o.dst (tuV u))) : wpStill Tryz.prog ops w Q' (o :: rest) a := by
  refine wpStill_step (fun K hK => ?_)
  rw [if_pos hs.1]
  unfold Oper.still execOp
  simp only [hs.2.1, hs.2.2, Instr.loadAt, Instr.sureAddr, Sem.run_bind, Sem.run_pure, Result.andThen_ok, run_loadVar_mid w b off _ (tc u) _ hr Tryz.underlying25 rfl (by kernel_rfl)]
  exact ⟨rfl, hK _ hk⟩
def PS (w : World) (g : Nat) (t : Tu) (W : World) : Prop := Below w.heap.size w W ∧ Arr W 25 g (tc t)
theorem PS.later {w W W' : World} {g : Nat} {t : Tu} (h : PS w g t W) (hb : Below W.heap.size W W') : PS w g t W' := ⟨h.1.trans (hb.mono h.1.size), h.2.later hb⟩
end Go.Proofs.YtnnebfcggdbgpaaGreatDoor
/-
  The reference's Put1: the walk.
-/
namespace Go.Proofs.YtnnebfcggdbgpaaGreatDoor
open Go.ChangeShapes Go.WideShapes Go.ChangeAt Go.RowKit
set_option linter.unusedVariables false

theorem SrcT.fin {{b off c c' k : Nat}} {{w : World}} {{l : List Tu}} (h : SrcT (some ⟨b, off, none⟩) c w l) (hk : k = l.length) : SrcT (some ⟨b, off, none⟩) c' w (l.drop k) := by
  rcases h with ⟨_, h2, _⟩ | ⟨b', off', h1, h2, _⟩
  · cases h2
  · simp only [Option.some.injEq, Addr.mk.injEq, and_true] at h1
    obtain ⟨rfl, rfl⟩ := h1
    refine .inr ⟨b, off, rfl, h2, fun j v hv => ?_⟩
    rw [hk, List.drop_length] at hv
    simp at hv
theorem own_alloc {w : World} {base n : Nat} {v : Value} {xs : List Value} (h : w.ownsRow base 25 6 v n xs) (o : Obj) : (w.alloc o).ownsRow base 25 6 v n xs := by
  refine h.kept (row := none) (grown_of ((Below.refl _ _).alloc (Nat.le_refl _) o) none) ?_
  by_cases e : v.ownBlock = none
  · exact .inl e
  · exact .inr e
set_option maxRecDepth 100000 in
set_option maxHeartbeats 4000000 in
theorem rput1_any {w : World} {sv : Value} {l : List Tu} (t : Tu) (h : TuSl w sv l) (hz : ∀ x ∈ l, sizesT x 1000000) (ht : sizesT t 1000000) (hl : l.length ≤ 1000) :
    Calls Tryz.prog 80 #[sv, tuV t] w fun e w' => ∃ v', e = .returned v' ∧ Below w.heap.size w w' ∧ TuSl w' v' (put1 t l) := by
  have b0 : Below w.heap.size w (w.alloc (.cells (tc t).toArray 25)) := (Below.refl _ _).alloc (Nat.le_refl _) _
  have HP0 : Hid (PS w w.heap.size t (w.alloc (.cells (tc t).toArray 25))) := ⟨b0, tu_new w t⟩
  obtain ⟨p, c, rfl, hc, hs⟩ := h.src
  have HS0 := Lib.hid (hs.below b0)
  have HZ := Lib.hid hz
  have HT := Lib.hid ht
  have HLN := Lib.hid hl
  clear h hz ht hs b0
  go_enter Tryz.func80, Tryz.ntmps80
  go_wp2_with fail
  generalize w.alloc (.cells (tc t).toArray 25) = w0 at HP0 HS0 ⊢
  go_loopg [5] (l.length + 1) (fun gg s5 wr => ∃ k : Nat, k ≤ l.length ∧ l.length + 1 - k ≤ gg ∧ s5 = .int .i64 k ∧ PS w w.heap.size t wr ∧ SrcT p c wr l ∧ ∀ j, (hj : j < l.length) → j < k → ordT l[j] t < 0)
  case atStart => exact ⟨0, by omega, by omega, rfl, HP0.out, HS0.out, fun j _ hj => absurd hj (by omega)⟩
  case round =>
    obtain ⟨k, hk, hg, rfl, hp, hs, hall⟩ := hrel
    have HP := Lib.hid hp
    have HSR := Lib.hid hs
    have HA := Lib.hid hall
    clear hp hs hall HP0 HS0
    by_cases hlt : k < l.length
    · obtain ⟨b, off, rfl, _, hr⟩ := HSR.out.row hlt
      obtain ⟨x, hx⟩ : ∃ x, x = l[k] := ⟨_, rfl⟩
      have HX : Hid (l[k]? = some x) := by show _ = _; rw [hx, List.getElem?_eq_getElem hlt]
      have HSX : Hid (sizesT x 1000000) := by rw [hx]; exact HZ.out _ (List.getElem_mem hlt)
      rw [← hx] at hr
      have HR : Hid ((wr.drew).rangeAt b (off + k * 6) (tc x)) := hr
      have HAT : Hid ((wr.drew).rangeAt w.heap.size 0 (tc t)) := HP.out.2.range
      have HCM := Lib.hid (rcompare_any x t HSX.out HT.out wr.drew)
      clear hx hr
      go_wp2_with fail
      refine region_tail 10 (by kernel_rfl) (by kernel_rfl) ?_
      simp only [List.take_succ_cons, List.take_zero, List.drop_succ_cons, List.drop_zero]
      repeat first
        | still_step
        | ((with_reducible refine stillG (x := .tmp 14) (o := ⟨some 15, _, _, _, _, _⟩) HR.out ?_ ?_); exact ⟨rfl, rfl, by go_simp⟩)
        | ((with_reducible refine stillG (x := .tmp 3) (o := ⟨some 16, _, _, _, _, _⟩) HAT.out ?_ ?_); exact ⟨rfl, rfl, by go_simp⟩)
      refine wpStill_nil ?_
      clear HR HAT
      go_wp2_with fail
      refine HCM.out.mono ?_
      rintro e w2 ⟨rfl, b2⟩
      have bb : Below wr.heap.size wr w2 := (Below.refl wr.heap.size wr).drew.trans b2
      have HP2 := Lib.hid (HP.out.later bb)
      have HS2 := Lib.hid (HSR.out.below bb)
      clear b2 bb HCM HP HSR
      obtain ⟨q, hq⟩ : ∃ q, q = ordT x t := ⟨_, rfl⟩
      have HQ := Lib.hid hq
      rw [← hq]
      clear hq
      by_cases hneg : q < 0
      · go_wp2_with fail
        go_roundg (l.length + 1 - (k + 1))
        case measure => omega
        case rel =>
          refine ⟨k + 1, by omega, Nat.le_refl _, by go_num, HP2.out, HS2.out, fun j hj hjk => ?_⟩
          by_cases e : j = k
          · subst e
            have := HX.out
            rw [List.getElem?_eq_getElem hj] at this
            rw [Option.some.inj this, ← HQ.out]; exact hneg
          · exact HA.out j hj (by omega)
      · have HR2 : Hid ((w2.drew).rangeAt b (off + k * 6) (tc x)) := by
          obtain ⟨b', off', he, _, hr⟩ := HS2.out.row hlt
          simp only [Option.some.injEq, Addr.mk.injEq, and_true] at he
          obtain ⟨rfl, rfl⟩ := he
          have := HX.out
          rw [List.getElem?_eq_getElem hlt] at this
          rw [Option.some.inj this] at hr
          exact hr
        have HAT2 : Hid ((w2.drew).rangeAt w.heap.size 0 (tc t)) := HP2.out.2.range
        go_wp2_with fail
        refine region_tail 10 (by kernel_rfl) (by kernel_rfl) ?_
        simp only [List.take_succ_cons, List.take_zero, List.drop_succ_cons, List.drop_zero]
        repeat first
          | still_step
          | ((with_reducible refine stillG (x := .tmp 29) (o := ⟨some 30, _, _, _, _, _⟩) HR2.out ?_ ?_); exact ⟨rfl, rfl, by go_simp⟩)
          | ((with_reducible refine stillG (x := .tmp 3) (o := ⟨some 31, _, _, _, _, _⟩) HAT2.out ?_ ?_); exact ⟨rfl, rfl, by go_simp⟩)
        refine wpStill_nil ?_
        clear HR2 HAT2
        have HPZ := Lib.hid (HP2.out.later (Below.refl w2.heap.size w2).drew)
        have HSZ := Lib.hid (HS2.out.below (Below.refl w2.heap.size w2).drew)
        generalize w2.drew = wz at HPZ HSZ ⊢
        rcases he : eqT x t with _ | _
        · have HF : Hid (put1 t l = l.take k ++ t :: l.drop k) := put1_end hk HA.out fun h => by
            have := HX.out
            rw [List.getElem?_eq_getElem h] at this
            rw [Option.some.inj this]
            exact ⟨by rw [← HQ.out]; omega, fun e => by rw [e, eqT_refl] at he; cases he⟩
          have HE := Lib.hid he
          have HP := HPZ
          have HSR := HSZ
          clear he HPZ HSZ HP2 HS2
          have HTK : Hid ((l.take k).length = k) := by show _ = _; rw [List.length_take]; omega
          have HDK : Hid ((l.drop k).length = l.length - k) := by show _ = _; rw [List.length_drop]
          have ba : Below wz.heap.size wz (wz.alloc (.cells #[] 25)) := (Below.refl _ _).alloc (Nat.le_refl _) _
          have HBA := Lib.hid ba
          have HS1 := Lib.hid ((HSR.out.below ba).take k)
          have HW1 : Hid (World.ownsRow (wz.alloc (.cells #[] 25)) wz.heap.size 25 6 (.slice (some ⟨wz.heap.size, 0, none⟩) 0 0) 0 (([] : List Tu).flatMap tc)) := World.ownsRow_made wz #[] 0 (Nat.le_refl _) (Nat.zero_le _) (by simp)
          clear ba
          go_upto_region 7 with (first | ((with_reducible refine eqW HE.out (t := 25) (x := .tmp 30) (y := .tmp 31) (o := ⟨some 32, _, _, _, _, _⟩) ?_ ?_); exact ⟨rfl, rfl, rfl, rfl⟩) | (at_builtin; refine appT rfl _ _ rfl (base := wz.heap.size) (xs := []) (news := l.take k) rfl HW1.out rfl HTK.out HS1.out (by have := HLN.out; omega) HBA.out.size ?_; intro v3 w3 h3 b3))
          have HB3 := Lib.hid (HBA.out.trans b3)
          have HP3 := Lib.hid (HP.out.later HB3.out)
          have HS3 := Lib.hid (HSR.out.below HB3.out)
          have HA3 : Hid (Arr w3 25 w.heap.size (tc t)) := HP3.out.2
          have ba : Below w3.heap.size w3 (w3.alloc (.cells #[.string t.ot, .string t.oi, .string t.re, .string t.st, .string t.si, .string t.us] 25)) := (Below.refl _ _).alloc (Nat.le_refl _) _
          have HO3 := Lib.hid (own_alloc h3 (.cells #[.string t.ot, .string t.oi, .string t.re, .string t.st, .string t.si, .string t.us] 25))
          have HB4 := Lib.hid (HB3.out.trans (ba.mono HB3.out.size))
          have HN4 : Hid (SrcT (some ⟨w3.heap.size, 0, none⟩) 1 (w3.alloc (.cells #[.string t.ot, .string t.oi, .string t.re, .string t.st, .string t.si, .string t.us] 25)) [t]) := .inr ⟨w3.heap.size, 0, rfl, by simp, Arr.range (Arr.new' w3 25 _ _ rfl)⟩
          clear ba b3 h3 HBA HW1 HS1
          go_upto_region 8 with (first | ((with_reducible refine loadX (x := .tmp 3) (t := t) (o := ⟨some 41, _, _, _, _, _⟩) HA3.out ?_ ?_); exact ⟨rfl, rfl, rfl⟩) | (at_builtin; refine appT rfl _ _ rfl (base := wz.heap.size) (xs := [] ++ l.take k) (news := [t]) rfl HO3.out rfl rfl HN4.out (by have := HLN.out; omega) HB4.out.size ?_; intro v4 w4 h4 b4))
          have HB5 := Lib.hid (HB4.out.trans b4)
          have HO5 := Lib.hid h4
          have HS4 := Lib.hid (HSR.out.below HB5.out)
          clear b4 h4 HO3 HN4 HP3 HS3 HA3
          go_wp2_with (at_builtin; refine appT rfl _ _ rfl (base := wz.heap.size) (xs := [] ++ l.take k ++ [t]) (news := l.drop k) rfl HO5.out rfl HDK.out (HS4.out.drop (k := k) (by omega)) (by have := HLN.out; omega) HB5.out.size ?_; intro v5 w5 h5 b5)
          have HB6 := Lib.hid (HB5.out.trans b5)
          have HO6 := Lib.hid h5
          clear b5 h5 HO5
          go_wp2_with fail
          go_ret
          refine ⟨v5, rfl, HP.out.1.trans (HB6.out.mono HP.out.1.size), ownsRow_sl (base := wz.heap.size) ?_⟩
          have e1 : 0 + k + 1 + (l.length - k) = (put1 t l).length := by rw [HF.out, List.length_append, HTK.out, List.length_cons, HDK.out]; omega
          have e2 : [] ++ l.take k ++ [t] ++ l.drop k = put1 t l := by rw [HF.out]; simp
          have h6 := HO6.out
          rw [e1, e2] at h6
          exact h6
        · have HF : Hid (put1 t l = l) := put1_there hlt HA.out (by
            have := HX.out
            rw [List.getElem?_eq_getElem hlt] at this
            rw [Option.some.inj this]; exact (eqT_iff _ _).1 he)
          have HE := Lib.hid he
          clear he
          go_wp2_with ((with_reducible refine eqW HE.out (t := 25) (x := .tmp 30) (y := .tmp 31) (o := ⟨some 32, _, _, _, _, _⟩) ?_ ?_); exact ⟨rfl, rfl, rfl, rfl⟩)
          go_ret
          refine ⟨_, rfl, HPZ.out.1, ?_⟩
          rw [HF.out]
          rcases HSZ.out with ⟨h1, _⟩ | ⟨b', off', h1, h2, h3⟩
          · subst h1; exact absurd hlt (by simp)
          · simp only [Option.some.injEq, Addr.mk.injEq, and_true] at h1
            obtain ⟨rfl, rfl⟩ := h1
            exact .inr ⟨_, _, _, rfl, hc, h2, h3⟩
    · have hke : k = l.length := by omega
      have HF : Hid (put1 t l = l.take k ++ t :: l.drop k) := put1_end hk HA.out (fun h => absurd h hlt)
      have HKE := Lib.hid hke
      clear hke
      have hlt' : ¬ (k : Int) < l.length := by omega
      go_wp2_with fail
      refine region_tail 10 (by kernel_rfl) (by kernel_rfl) ?_
      simp only [List.take_succ_cons, List.take_zero, List.drop_succ_cons, List.drop_zero]
      repeat still_step
      refine wpStill_nil ?_
      go_wp2_with fail
      refine region_tail 10 (by kernel_rfl) (by kernel_rfl) ?_
      simp only [List.take_succ_cons, List.take_zero, List.drop_succ_cons, List.drop_zero]
      repeat still_step
      refine wpStill_nil ?_
      have HPZ := Lib.hid ((HP.out.later (Below.refl wr.heap.size wr).drew).later (Below.refl wr.drew.heap.size wr.drew).drew)
      have HSZ := Lib.hid ((HSR.out.below (Below.refl wr.heap.size wr).drew).below (Below.refl wr.drew.heap.size wr.drew).drew)
      generalize wr.drew.drew = wz at HPZ HSZ ⊢
      have HP := HPZ
      have HSR := HSZ
      clear HPZ HSZ
      rcases p with _ | ⟨b, off, x⟩
      · have HL : Hid (l = [] ∧ c = 0) := by
          rcases HSR.out with ⟨h1, _, h3⟩ | ⟨b, off, h1, _⟩
          · exact ⟨h1, h3⟩
          · cases h1
        have HTK : Hid ((l.take k).length = k) := by show _ = _; rw [List.length_take]; omega
        have HDK : Hid ((l.drop k).length = l.length - k) := by show _ = _; rw [List.length_drop]
        have ba : Below wz.heap.size wz (wz.alloc (.cells #[] 25)) := (Below.refl _ _).alloc (Nat.le_refl _) _
        have HBA := Lib.hid ba
        have HS1 := Lib.hid ((HSR.out.below ba).take k)
        have HW1 : Hid (World.ownsRow (wz.alloc (.cells #[] 25)) wz.heap.size 25 6 (.slice (some ⟨wz.heap.size, 0, none⟩) 0 0) 0 (([] : List Tu).flatMap tc)) := World.ownsRow_made wz #[] 0 (Nat.le_refl _) (Nat.zero_le _) (by simp)
        clear ba
        go_upto_region 7 with (at_builtin; refine appT rfl _ _ rfl (base := wz.heap.size) (xs := []) (news := l.take k) rfl HW1.out rfl HTK.out HS1.out (by have := HLN.out; omega) HBA.out.size ?_; intro v3 w3 h3 b3)
        have HB3 := Lib.hid (HBA.out.trans b3)
        have HP3 := Lib.hid (HP.out.later HB3.out)
        have HS3 := Lib.hid (HSR.out.below HB3.out)
        have HA3 : Hid (Arr w3 25 w.heap.size (tc t)) := HP3.out.2
        have ba : Below w3.heap.size w3 (w3.alloc (.cells #[.string t.ot, .string t.oi, .string t.re, .string t.st, .string t.si, .string t.us] 25)) := (Below.refl _ _).alloc (Nat.le_refl _) _
        have HO3 := Lib.hid (own_alloc h3 (.cells #[.string t.ot, .string t.oi, .string t.re, .string t.st, .string t.si, .string t.us] 25))
        have HB4 := Lib.hid (HB3.out.trans (ba.mono HB3.out.size))
        have HN4 : Hid (SrcT (some ⟨w3.heap.size, 0, none⟩) 1 (w3.alloc (.cells #[.string t.ot, .string t.oi, .string t.re, .string t.st, .string t.si, .string t.us] 25)) [t]) := .inr ⟨w3.heap.size, 0, rfl, by simp, Arr.range (Arr.new' w3 25 _ _ rfl)⟩
        clear ba b3 h3 HBA HW1 HS1
        go_upto_region 8 with (first | ((with_reducible refine loadX (x := .tmp 3) (t := t) (o := ⟨some 41, _, _, _, _, _⟩) HA3.out ?_ ?_); exact ⟨rfl, rfl, rfl⟩) | (at_builtin; refine appT rfl _ _ rfl (base := wz.heap.size) (xs := [] ++ l.take k) (news := [t]) rfl HO3.out rfl rfl HN4.out (by have := HLN.out; omega) HB4.out.size ?_; intro v4 w4 h4 b4))
        have HB5 := Lib.hid (HB4.out.trans b4)
        have HO5 := Lib.hid h4
        have HS4 := Lib.hid (HSR.out.below HB5.out)
        clear b4 h4 HO3 HN4 HP3 HS3 HA3
        go_wp2_with (at_builtin; refine appT rfl _ _ rfl (base := wz.heap.size) (xs := [] ++ l.take k ++ [t]) (news := l.drop k) rfl HO5.out rfl HDK.out (.inl ⟨by simp [HL.out.1], rfl, by have := HL.out.2; omega⟩) (by have := HLN.out; omega) HB5.out.size ?_; intro v5 w5 h5 b5)
        have HB6 := Lib.hid (HB5.out.trans b5)
        have HO6 := Lib.hid h5
        clear b5 h5 HO5
        go_wp2_with fail
        go_ret
        refine ⟨v5, rfl, HP.out.1.trans (HB6.out.mono HP.out.1.size), ownsRow_sl (base := wz.heap.size) ?_⟩
        have e1 : 0 + k + 1 + (l.length - k) = (put1 t l).length := by rw [HF.out, List.length_append, HTK.out, List.length_cons, HDK.out]; omega
        have e2 : [] ++ l.take k ++ [t] ++ l.drop k = put1 t l := by rw [HF.out]; simp
        have h6 := HO6.out
        rw [e1, e2] at h6
        exact h6
      · have hx : x = none := by
          rcases HSR.out with ⟨_, h1, _⟩ | ⟨b', off', h1, _⟩
          · cases h1
          · simp only [Option.some.injEq, Addr.mk.injEq] at h1; exact h1.2.2
        subst hx
        have HTK : Hid ((l.take k).length = k) := by show _ = _; rw [List.length_take]; omega
        have HDK : Hid ((l.drop k).length = l.length - k) := by show _ = _; rw [List.length_drop]
        have ba : Below wz.heap.size wz (wz.alloc (.cells #[] 25)) := (Below.refl _ _).alloc (Nat.le_refl _) _
        have HBA := Lib.hid ba
        have HS1 := Lib.hid ((HSR.out.below ba).take k)
        have HW1 : Hid (World.ownsRow (wz.alloc (.cells #[] 25)) wz.heap.size 25 6 (.slice (some ⟨wz.heap.size, 0, none⟩) 0 0) 0 (([] : List Tu).flatMap tc)) := World.ownsRow_made wz #[] 0 (Nat.le_refl _) (Nat.zero_le _) (by simp)
        clear ba
        go_upto_region 7 with (at_builtin; refine appT rfl _ _ rfl (base := wz.heap.size) (xs := []) (news := l.take k) rfl HW1.out rfl HTK.out HS1.out (by have := HLN.out; omega) HBA.out.size ?_; intro v3 w3 h3 b3)
        have HB3 := Lib.hid (HBA.out.trans b3)
        have HP3 := Lib.hid (HP.out.later HB3.out)
        have HS3 := Lib.hid (HSR.out.below HB3.out)
        have HA3 : Hid (Arr w3 25 w.heap.size (tc t)) := HP3.out.2
        have ba : Below w3.heap.size w3 (w3.alloc (.cells #[.string t.ot, .string t.oi, .string t.re, .string t.st, .string t.si, .string t.us] 25)) := (Below.refl _ _).alloc (Nat.le_refl _) _
        have HO3 := Lib.hid (own_alloc h3 (.cells #[.string t.ot, .string t.oi, .string t.re, .string t.st, .string t.si, .string t.us] 25))
        have HB4 := Lib.hid (HB3.out.trans (ba.mono HB3.out.size))
        have HN4 : Hid (SrcT (some ⟨w3.heap.size, 0, none⟩) 1 (w3.alloc (.cells #[.string t.ot, .string t.oi, .string t.re, .string t.st, .string t.si, .string t.us] 25)) [t]) := .inr ⟨w3.heap.size, 0, rfl, by simp, Arr.range (Arr.new' w3 25 _ _ rfl)⟩
        clear ba b3 h3 HBA HW1 HS1
        go_upto_region 8 with (first | ((with_reducible refine loadX (x := .tmp 3) (t := t) (o := ⟨some 41, _, _, _, _, _⟩) HA3.out ?_ ?_); exact ⟨rfl, rfl, rfl⟩) | (at_builtin; refine appT rfl _ _ rfl (base := wz.heap.size) (xs := [] ++ l.take k) (news := [t]) rfl HO3.out rfl rfl HN4.out (by have := HLN.out; omega) HB4.out.size ?_; intro v4 w4 h4 b4))
        have HB5 := Lib.hid (HB4.out.trans b4)
        have HO5 := Lib.hid h4
        have HS4 := Lib.hid (HSR.out.below HB5.out)
        clear b4 h4 HO3 HN4 HP3 HS3 HA3
        by_cases hck : c = k
        · go_wp2_with (at_builtin; refine appT rfl _ _ rfl (base := wz.heap.size) (xs := [] ++ l.take k ++ [t]) (news := l.drop k) rfl HO5.out rfl HDK.out (HS4.out.fin HKE.out) (by have := HLN.out; omega) HB5.out.size ?_; intro v5 w5 h5 b5)
          have HB6 := Lib.hid (HB5.out.trans b5)
          have HO6 := Lib.hid h5
          clear b5 h5 HO5
          go_wp2_with fail
          go_ret
          refine ⟨v5, rfl, HP.out.1.trans (HB6.out.mono HP.out.1.size), ownsRow_sl (base := wz.heap.size) ?_⟩
          have e1 : 0 + k + 1 + (l.length - k) = (put1 t l).length := by rw [HF.out, List.length_append, HTK.out, List.length_cons, HDK.out]; omega
          have e2 : [] ++ l.take k ++ [t] ++ l.drop k = put1 t l := by rw [HF.out]; simp
          have h6 := HO6.out
          rw [e1, e2] at h6
          exact h6
        · have hck2 : k < c := by omega
          go_wp2_with (at_builtin; refine appT rfl _ _ rfl (base := wz.heap.size) (xs := [] ++ l.take k ++ [t]) (news := l.drop k) rfl HO5.out rfl HDK.out (HS4.out.drop (k := k) (by omega)) (by have := HLN.out; omega) HB5.out.size ?_; intro v5 w5 h5 b5)
          have HB6 := Lib.hid (HB5.out.trans b5)
          have HO6 := Lib.hid h5
          clear b5 h5 HO5
          go_wp2_with fail
          go_ret
          refine ⟨v5, rfl, HP.out.1.trans (HB6.out.mono HP.out.1.size), ownsRow_sl (base := wz.heap.size) ?_⟩
          have e1 : 0 + k + 1 + (l.length - k) = (put1 t l).length := by rw [HF.out, List.length_append, HTK.out, List.length_cons, HDK.out]; omega
          have e2 : [] ++ l.take k ++ [t] ++ l.drop k = put1 t l := by rw [HF.out]; simp
          have h6 := HO6.out
          rw [e1, e2] at h6
          exact h6
end Go.Proofs.YtnnebfcggdbgpaaGreatDoor
/-
  The reference's Sorted.
-/
namespace Go.Proofs.YtnnebfcggdbgpaaGreatDoor
open Go.ChangeShapes Go.WideShapes Go.ChangeAt Go.RowKit
set_option linter.unusedVariables false

theorem srt_snoc (t : Tu) : ∀ (l out : List Tu), srt out (l ++ [t]) = put1 t (srt out l)
  | [], out => rfl
  | a :: l, out => srt_snoc t l (put1 a out)
theorem put1_len (t : Tu) : ∀ (l : List Tu), (put1 t l).length ≤ l.length + 1
  | [] => Nat.le_refl _
  | a :: l => by
    unfold put1
    split
    · have := put1_len t l
      simp only [List.length_cons]; omega
    · split <;> simp
theorem srt_len : ∀ (l out : List Tu), (srt out l).length ≤ out.length + l.length
  | [], out => by simp [srt]
  | t :: l, out => by
    have h1 := srt_len l (put1 t out)
    have h2 := put1_len t out
    show (srt (put1 t out) l).length ≤ _
    simp only [List.length_cons]; omega
theorem range_below {w W : World} {b off : Nat} {xs : List Value} (h : w.rangeAt b off xs) (hb : b < w.heap.size) (hB : Below w.heap.size w W) : W.rangeAt b off xs := fun j v hv => by
  have := h j v hv
  unfold World.cell? at this ⊢
  rw [hB.block b hb]
  exact this
theorem take_snoc1 {α : Type} {l : List α} {k : Nat} (h : k < l.length) : l.take (k + 1) = l.take k ++ [l[k]] := by rw [List.take_add_one, List.getElem?_eq_getElem h]; rfl
set_option maxRecDepth 100000 in
set_option maxHeartbeats 2000000 in
theorem rsorted_any {w : World} {sv : Value} {l : List Tu} (h : TuRd w sv l) (hz : ∀ x ∈ l, sizesT x 1000000) (hl : l.length ≤ 1000) :
    Calls Tryz.prog 34 #[sv] w fun e w' => ∃ v', e = .returned v' ∧ Below w.heap.size w w' ∧ TuSl w' v' (sortedT l) := by
  have HZ := Lib.hid hz
  have HLN := Lib.hid hl
  obtain ⟨p, c, rfl, hrow⟩ := h.form tc_length (by decide)
  have HW := Lib.hid hrow
  clear h hz hrow
  go_enter Tryz.func34, Tryz.ntmps34
  go_wp2_with fail
  go_loopg [3, 4] l.length (fun g s3 s4 wr => ∃ k : Nat, k ≤ l.length ∧ l.length - k ≤ g ∧ s4 = .int .i64 k ∧ Below w.heap.size w wr ∧ TuSl wr s3 (srt [] (l.take k)))
  case atStart => exact ⟨0, by omega, by omega, rfl, Below.refl _ _, .inl ⟨rfl, rfl⟩⟩
  case round =>
    obtain ⟨k, hk, hg, rfl, hb, hsl⟩ := hrel
    have HB := Lib.hid hb
    have HS := Lib.hid hsl
    clear hb hsl
    by_cases hlt : k < l.length
    · obtain ⟨b, off, rfl, hbl, hr⟩ := HW.out k hlt
      have HR : Hid (wr.rangeAt b (off + k * 6) (tc l[k])) := range_below hr hbl HB.out
      have HP := Lib.hid (rput1_any l[k] HS.out (fun x hx => by
        rcases (srt_mem (l.take k) [] x).1 hx with h | h
        · cases h
        · exact HZ.out x (List.mem_of_mem_take h)) (HZ.out _ (List.getElem_mem hlt)) (by
          have h1 := srt_len (l.take k) []
          have h2 : (l.take k).length ≤ l.length := by rw [List.length_take]; omega
          have := HLN.out
          simp only [List.length_nil] at h1
          omega))
      have HN : Hid (put1 l[k] (srt [] (l.take k)) = srt [] (l.take (k + 1))) := by show _ = _; rw [take_snoc1 hlt, srt_snoc]
      obtain ⟨x, hx⟩ : ∃ x, x = l[k] := ⟨_, rfl⟩
      rw [← hx] at HR HP HN
      clear hr hx hbl
      go_wp2_with ((with_reducible refine loadM (x := .tmp 14) (o := ⟨some 15, _, _, _, _, _⟩) HR.out ?_ ?_); exact ⟨rfl, rfl, by go_simp⟩)
      refine HP.out.mono ?_
      rintro e w2 ⟨v', rfl, b2, hs2⟩
      rw [HN.out] at hs2
      have HB2 := Lib.hid (HB.out.trans (b2.mono HB.out.size))
      have HS2 := Lib.hid hs2
      clear b2 hs2 HP HR HB HS
      go_wp2_with fail
      go_roundg (l.length - (k + 1))
      case measure => omega
      case rel => exact ⟨k + 1, by omega, Nat.le_refl _, by go_num, HB2.out, HS2.out⟩
    · have HN : Hid (srt [] (l.take k) = sortedT l) := by show _ = _; rw [List.take_of_length_le (by omega)]; rfl
      go_wp2_with fail
      go_ret
      have h := HS.out
      rw [HN.out] at h
      exact ⟨_, rfl, HB.out, h⟩
end Go.Proofs.YtnnebfcggdbgpaaGreatDoor
/-
  vestryref18.Put, Read, ParseBytes.
-/
namespace Go.Proofs.YtnnebfcggdbgpaaGreatDoor
open Go.ChangeShapes Go.WideShapes Go.ChangeAt Go.RowKit
set_option linter.unusedVariables false
set_option linter.unusedSimpArgs false

set_option maxRecDepth 100000 in
set_option maxHeartbeats 4000000 in
theorem rput_any (t : Tu) (hz : sizesT t 1000) (w : World) : Calls Tryz.prog 23 #[tuV t] w fun e w' => ∃ v, e = .returned v ∧ Held w.heap.size w' v (putT t) ∧ Below w.heap.size w w' := by
  have HSZ : Hid (sizesT t 1000) := hz
  obtain ⟨c0, c1, c2, c3, c4, c5⟩ := tcells w t 25
  have HB0 := Lib.hid (below_tu w t 25)
  clear hz
  go_enter Tryz.func23, Tryz.ntmps23
  go_upto_region 3 with fail
  have b1 : Below (w.alloc (.cells (tc t).toArray 25)).heap.size (w.alloc (.cells (tc t).toArray 25)) ((w.alloc (.cells (tc t).toArray 25)).alloc (.cells #[.string t.ot, .string t.oi, .string t.re, .string t.st, .string t.si, .string t.us] 9)) := (Below.refl _ _).alloc (Nat.le_refl _) _
  have HB1 := Lib.hid (HB0.out.trans (b1.mono HB0.out.size))
  have HA1 := Lib.hid (Arr.new' (w.alloc (.cells (tc t).toArray 25)) 9 #[.string t.ot, .string t.oi, .string t.re, .string t.st, .string t.si, .string t.us] _ rfl)
  rw [show (w.alloc (.cells (tc t).toArray 25)).heap.size = w.heap.size + 1 by simp] at HA1
  have HNW : Hid (w.heap.size ≤ w.heap.size + 1) := Nat.le_succ _
  generalize (w.alloc (.cells (tc t).toArray 25)).alloc (.cells #[.string t.ot, .string t.oi, .string t.re, .string t.st, .string t.si, .string t.us] 9) = w1 at HB1 HA1 ⊢
  generalize w.heap.size + 1 = n at HA1 HNW ⊢
  have HH1 : Hid (Held (n + 1) w1 (.slice none 0 0) []) := .inl ⟨rfl, rfl⟩
  have HPT : Hid (([] : List UInt8) ++ putS t.ot ++ putS t.oi ++ putS t.re ++ putS t.st ++ putS t.si ++ putS t.us = putT t) := by
    show _ = _
    simp only [putT, List.nil_append, List.append_assoc]
  have HPZ : Hid ((putS t.ot).length ≤ 1010 ∧ (putS t.oi).length ≤ 1010 ∧ (putS t.re).length ≤ 1010 ∧ (putS t.st).length ≤ 1010 ∧ (putS t.si).length ≤ 1010) :=
    ⟨putS_small _ HSZ.out.1, putS_small _ HSZ.out.2.1, putS_small _ HSZ.out.2.2.1, putS_small _ HSZ.out.2.2.2.1, putS_small _ HSZ.out.2.2.2.2.1⟩
  clear b1 HB0 c0 c1 c2 c3 c4 c5
  go_wp2_with fail
  refine wp_loop_rounds 7 ?_
  rw [rounds_succ]
  have c0 := HA1.out.cell 0
  simp only [List.getElem?_cons_zero, List.getElem?_cons_succ] at c0
  go_wp2_with fail
  refine (rtext_any t.ot (by have := HSZ.out.1; omega) _).mono ?_
  rintro e w2 ⟨v2, rfl, o2, b2⟩
  have HO2 : Hid (Rd w2.heap.size w2 v2 (putS t.ot)) := Rd.of_own o2
  have HB2 := Lib.hid (HB1.out.trans (b2.mono HB1.out.size))
  have HA2 := Lib.hid (HA1.out.later b2)
  have HH2 := Lib.hid (HH1.out.later b2)
  have HLE2 : Hid (([] : List UInt8).length + (putS t.ot).length ≤ 140737488355328) := by
    have := HPZ.out
    have := putS_small t.ot HSZ.out.1
    show _ ≤ _
    simp only [List.length_append, List.length_nil] at this ⊢
    omega
  have HNL2 : Hid (n < w2.heap.size ∧ w.heap.size ≤ n) := ⟨HA2.out.lt, HNW.out⟩
  clear o2 b2 HB1 HA1 HH1 c0
  go_wp2_with (at_builtin; refine app_held rfl _ _ rfl rfl HH2.out rfl HO2.out HLE2.out HNL2.out.1 ?_; intro v3 w3 hA bA; have HB3 := Lib.hid (HB2.out.trans (bA.mono (by have := HNL2.out; omega))); have HA3 := Lib.hid (HA2.out.below bA (Nat.lt_succ_self _)); have HH3 := Lib.hid hA; obtain ⟨q3, m3, p3, hv3⟩ := held_sl hA; subst hv3; clear hA bA HB2 HA2 HH2 HO2 HLE2)
  rw [rounds_succ]
  have c1 := HA3.out.cell 1
  simp only [List.getElem?_cons_zero, List.getElem?_cons_succ] at c1
  go_wp2_with fail
  refine (rtext_any t.oi (by have := HSZ.out.2.1; omega) _).mono ?_
  rintro e w4 ⟨v4, rfl, o4, b4⟩
  have HO4 : Hid (Rd w4.heap.size w4 v4 (putS t.oi)) := Rd.of_own o4
  have HB4 := Lib.hid (HB3.out.trans (b4.mono HB3.out.size))
  have HA4 := Lib.hid (HA3.out.later b4)
  have HH4 := Lib.hid (HH3.out.later b4)
  have HLE4 : Hid ((([] : List UInt8) ++ putS t.ot).length + (putS t.oi).length ≤ 140737488355328) := by
    have := HPZ.out
    have := putS_small t.oi HSZ.out.2.1
    show _ ≤ _
    simp only [List.length_append, List.length_nil] at this ⊢
    omega
  have HNL4 : Hid (n < w4.heap.size ∧ w.heap.size ≤ n) := ⟨HA4.out.lt, HNW.out⟩
  clear o4 b4 HB3 HA3 HH3 c1
  go_wp2_with (at_builtin; refine app_held rfl _ _ rfl rfl HH4.out rfl HO4.out HLE4.out HNL4.out.1 ?_; intro v5 w5 hA bA; have HB5 := Lib.hid (HB4.out.trans (bA.mono (by have := HNL4.out; omega))); have HA5 := Lib.hid (HA4.out.below bA (Nat.lt_succ_self _)); have HH5 := Lib.hid hA; obtain ⟨q5, m5, p5, hv5⟩ := held_sl hA; subst hv5; clear hA bA HB4 HA4 HH4 HO4 HLE4)
  rw [rounds_succ]
  have c2 := HA5.out.cell 2
  simp only [List.getElem?_cons_zero, List.getElem?_cons_succ] at c2
  go_wp2_with fail
  refine (rtext_any t.re (by have := HSZ.out.2.2.1; omega) _).mono ?_
  rintro e w6 ⟨v6, rfl, o6, b6⟩
  have HO6 : Hid (Rd w6.heap.size w6 v6 (putS t.re)) := Rd.of_own o6
  have HB6 := Lib.hid (HB5.out.trans (b6.mono HB5.out.size))
  have HA6 := Lib.hid (HA5.out.later b6)
  have HH6 := Lib.hid (HH5.out.later b6)
  have HLE6 : Hid (((([] : List UInt8) ++ putS t.ot) ++ putS t.oi).length + (putS t.re).length ≤ 140737488355328) := by
    have := HPZ.out
    have := putS_small t.re HSZ.out.2.2.1
    show _ ≤ _
    simp only [List.length_append, List.length_nil] at this ⊢
    omega
  have HNL6 : Hid (n < w6.heap.size ∧ w.heap.size ≤ n) := ⟨HA6.out.lt, HNW.out⟩
  clear o6 b6 HB5 HA5 HH5 c2
  go_wp2_with (at_builtin; refine app_held rfl _ _ rfl rfl HH6.out rfl HO6.out HLE6.out HNL6.out.1 ?_; intro v7 w7 hA bA; have HB7 := Lib.hid (HB6.out.trans (bA.mono (by have := HNL6.out; omega))); have HA7 := Lib.hid (HA6.out.below bA (Nat.lt_succ_self _)); have HH7 := Lib.hid hA; obtain ⟨q7, m7, p7, hv7⟩ := held_sl hA; subst hv7; clear hA bA HB6 HA6 HH6 HO6 HLE6)
  rw [rounds_succ]
  have c3 := HA7.out.cell 3
  simp only [List.getElem?_cons_zero, List.getElem?_cons_succ] at c3
  go_wp2_with fail
  refine (rtext_any t.st (by have := HSZ.out.2.2.2.1; omega) _).mono ?_
  rintro e w8 ⟨v8, rfl, o8, b8⟩
  have HO8 : Hid (Rd w8.heap.size w8 v8 (putS t.st)) := Rd.of_own o8
  have HB8 := Lib.hid (HB7.out.trans (b8.mono HB7.out.size))
  have HA8 := Lib.hid (HA7.out.later b8)
  have HH8 := Lib.hid (HH7.out.later b8)
  have HLE8 : Hid ((((([] : List UInt8) ++ putS t.ot) ++ putS t.oi) ++ putS t.re).length + (putS t.st).length ≤ 140737488355328) := by
    have := HPZ.out
    have := putS_small t.st HSZ.out.2.2.2.1
    show _ ≤ _
    simp only [List.length_append, List.length_nil] at this ⊢
    omega
  have HNL8 : Hid (n < w8.heap.size ∧ w.heap.size ≤ n) := ⟨HA8.out.lt, HNW.out⟩
  clear o8 b8 HB7 HA7 HH7 c3
  go_wp2_with (at_builtin; refine app_held rfl _ _ rfl rfl HH8.out rfl HO8.out HLE8.out HNL8.out.1 ?_; intro v9 w9 hA bA; have HB9 := Lib.hid (HB8.out.trans (bA.mono (by have := HNL8.out; omega))); have HA9 := Lib.hid (HA8.out.below bA (Nat.lt_succ_self _)); have HH9 := Lib.hid hA; obtain ⟨q9, m9, p9, hv9⟩ := held_sl hA; subst hv9; clear hA bA HB8 HA8 HH8 HO8 HLE8)
  rw [rounds_succ]
  have c4 := HA9.out.cell 4
  simp only [List.getElem?_cons_zero, List.getElem?_cons_succ] at c4
  go_wp2_with fail
  refine (rtext_any t.si (by have := HSZ.out.2.2.2.2.1; omega) _).mono ?_
  rintro e w10 ⟨v10, rfl, o10, b10⟩
  have HO10 : Hid (Rd w10.heap.size w10 v10 (putS t.si)) := Rd.of_own o10
  have HB10 := Lib.hid (HB9.out.trans (b10.mono HB9.out.size))
  have HA10 := Lib.hid (HA9.out.later b10)
  have HH10 := Lib.hid (HH9.out.later b10)
  have HLE10 : Hid (((((([] : List UInt8) ++ putS t.ot) ++ putS t.oi) ++ putS t.re) ++ putS t.st).length + (putS t.si).length ≤ 140737488355328) := by
    have := HPZ.out
    have := putS_small t.si HSZ.out.2.2.2.2.1
    show _ ≤ _
    simp only [List.length_append, List.length_nil] at this ⊢
    omega
  have HNL10 : Hid (n < w10.heap.size ∧ w.heap.size ≤ n) := ⟨HA10.out.lt, HNW.out⟩
  clear o10 b10 HB9 HA9 HH9 c4
  go_wp2_with (at_builtin; refine app_held rfl _ _ rfl rfl HH10.out rfl HO10.out HLE10.out HNL10.out.1 ?_; intro v11 w11 hA bA; have HB11 := Lib.hid (HB10.out.trans (bA.mono (by have := HNL10.out; omega))); have HA11 := Lib.hid (HA10.out.below bA (Nat.lt_succ_self _)); have HH11 := Lib.hid hA; obtain ⟨q11, m11, p11, hv11⟩ := held_sl hA; subst hv11; clear hA bA HB10 HA10 HH10 HO10 HLE10)
  rw [rounds_succ]
  have c5 := HA11.out.cell 5
  simp only [List.getElem?_cons_zero, List.getElem?_cons_succ] at c5
  go_wp2_with fail
  refine (rtext_any t.us (by have := HSZ.out.2.2.2.2.2; omega) _).mono ?_
  rintro e w12 ⟨v12, rfl, o12, b12⟩
  have HO12 : Hid (Rd w12.heap.size w12 v12 (putS t.us)) := Rd.of_own o12
  have HB12 := Lib.hid (HB11.out.trans (b12.mono HB11.out.size))
  have HA12 := Lib.hid (HA11.out.later b12)
  have HH12 := Lib.hid (HH11.out.later b12)
  have HLE12 : Hid ((((((([] : List UInt8) ++ putS t.ot) ++ putS t.oi) ++ putS t.re) ++ putS t.st) ++ putS t.si).length + (putS t.us).length ≤ 140737488355328) := by
    have := HPZ.out
    have := putS_small t.us HSZ.out.2.2.2.2.2
    show _ ≤ _
    simp only [List.length_append, List.length_nil] at this ⊢
    omega
  have HNL12 : Hid (n < w12.heap.size ∧ w.heap.size ≤ n) := ⟨HA12.out.lt, HNW.out⟩
  clear o12 b12 HB11 HA11 HH11 c5
  go_wp2_with (at_builtin; refine app_held rfl _ _ rfl rfl HH12.out rfl HO12.out HLE12.out HNL12.out.1 ?_; intro v13 w13 hA bA; have HB13 := Lib.hid (HB12.out.trans (bA.mono (by have := HNL12.out; omega))); have HA13 := Lib.hid (HA12.out.below bA (Nat.lt_succ_self _)); have HH13 := Lib.hid hA; obtain ⟨q13, m13, p13, hv13⟩ := held_sl hA; subst hv13; clear hA bA HB12 HA12 HH12 HO12 HLE12)
  rw [rounds_succ]
  go_wp2_with fail
  go_ret
  exact ⟨_, rfl, by rw [← HPT.out]; exact HH13.out.mono (Nat.le_succ_of_le HNW.out), HB13.out⟩
end Go.Proofs.YtnnebfcggdbgpaaGreatDoor
/-
  vestryref18.Read, ParseBytes.
-/
namespace Go.Proofs.YtnnebfcggdbgpaaGreatDoor
open Go.ChangeShapes Go.WideShapes Go.ChangeAt Go.RowKit
set_option linter.unusedVariables false
set_option linter.unusedSimpArgs false

theorem readT_of {b : List UInt8} {A : Nat} {S : Tu × Nat × Nat} (h : readS b A = S) (hc : S.2.2 ≠ 0) : readT b A = (t0, S.2.1, S.2.2) := by unfold readT; rw [h, if_neg hc]
theorem readT_ok {b : List UInt8} {A : Nat} {S : Tu × Nat × Nat} (h : readS b A = S) (hc : S.2.2 = 0) : readT b A = S := by unfold readT; rw [h, if_pos hc]
set_option maxRecDepth 100000 in
set_option maxHeartbeats 8000000 in
theorem rtread_any {B : Nat} {w : World} {vb : Value} {b : List UInt8} (hr : Rd B w vb b) (hB : B ≤ w.heap.size) (hl : b.length ≤ 1000000) (At0 : Nat) (hat : At0 ≤ b.length) :
    Calls Tryz.prog 29 #[vb, .int .i64 At0] w fun e w' => e = .returned (.tuple #[tuV (readT b At0).1, .int .i64 ((readT b At0).2.1 : Nat), .int .i64 ((readT b At0).2.2 : Nat)]) ∧ Below w.heap.size w w' := by
  have b0 : Below w.heap.size w ((w.alloc (.cells #[.string ⟨#[]⟩, .string ⟨#[]⟩, .string ⟨#[]⟩, .string ⟨#[]⟩, .string ⟨#[]⟩, .string ⟨#[]⟩] 25)).alloc (.cells #[.string ⟨#[]⟩, .string ⟨#[]⟩, .string ⟨#[]⟩, .string ⟨#[]⟩, .string ⟨#[]⟩, .string ⟨#[]⟩] 111)) := ((Below.refl _ _).alloc (Nat.le_refl _) _).alloc (by simp) _
  have HB0 := Lib.hid b0
  have HX0 : Hid (TuAt ((w.alloc (.cells #[.string ⟨#[]⟩, .string ⟨#[]⟩, .string ⟨#[]⟩, .string ⟨#[]⟩, .string ⟨#[]⟩, .string ⟨#[]⟩] 25)).alloc (.cells #[.string ⟨#[]⟩, .string ⟨#[]⟩, .string ⟨#[]⟩, .string ⟨#[]⟩, .string ⟨#[]⟩, .string ⟨#[]⟩] 111)) w.heap.size t0) := (tu_new w t0).alloc _
  have HA0 : Hid (Arr ((w.alloc (.cells #[.string ⟨#[]⟩, .string ⟨#[]⟩, .string ⟨#[]⟩, .string ⟨#[]⟩, .string ⟨#[]⟩, .string ⟨#[]⟩] 25)).alloc (.cells #[.string ⟨#[]⟩, .string ⟨#[]⟩, .string ⟨#[]⟩, .string ⟨#[]⟩, .string ⟨#[]⟩, .string ⟨#[]⟩] 111)) 111 (w.heap.size + 1) [.string ⟨#[]⟩, .string ⟨#[]⟩, .string ⟨#[]⟩, .string ⟨#[]⟩, .string ⟨#[]⟩, .string ⟨#[]⟩]) := Arr.new2 w _ 111 #[.string ⟨#[]⟩, .string ⟨#[]⟩, .string ⟨#[]⟩, .string ⟨#[]⟩, .string ⟨#[]⟩, .string ⟨#[]⟩] _ rfl
  have HR0 : Hid (Rd w.heap.size ((w.alloc (.cells #[.string ⟨#[]⟩, .string ⟨#[]⟩, .string ⟨#[]⟩, .string ⟨#[]⟩, .string ⟨#[]⟩, .string ⟨#[]⟩] 25)).alloc (.cells #[.string ⟨#[]⟩, .string ⟨#[]⟩, .string ⟨#[]⟩, .string ⟨#[]⟩, .string ⟨#[]⟩, .string ⟨#[]⟩] 111)) vb b) := (hr.mono hB).below b0 (Nat.le_refl _)
  have HLN := Lib.hid hl
  have HAT0 : Hid (At0 ≤ b.length) := hat
  obtain ⟨A, hA⟩ : ∃ A, A = At0 := ⟨_, rfl⟩
  obtain ⟨T0, hT0⟩ : ∃ T, T = t0 := ⟨_, rfl⟩
  have HCH0 : Hid (readS b A = stepR b 2 5 (stepR b 1 4 (stepR b 0 3 (stepR b 0 2 (stepR b 1 1 (stepR b 0 0 ((T0, At0, 0)))))))) := by show _ = _; rw [hA, hT0]; rfl
  have HT0 := Lib.hid hT0
  obtain ⟨qb, cb, rfl⟩ := rd_form hr
  rw [← hA]
  rw [show (.int .i64 (A : Int) : Value) = .int .i64 (At0 : Int) by rw [hA]]
  clear b0 hr hat hl hA hT0
  go_enter Tryz.func29, Tryz.ntmps29
  go_upto_region 2 with fail
  have HNW : Hid (w.heap.size < w.heap.size + 1) := Nat.lt_succ_self _
  generalize ((w.alloc (.cells #[.string ⟨#[]⟩, .string ⟨#[]⟩, .string ⟨#[]⟩, .string ⟨#[]⟩, .string ⟨#[]⟩, .string ⟨#[]⟩] 25)).alloc (.cells #[.string ⟨#[]⟩, .string ⟨#[]⟩, .string ⟨#[]⟩, .string ⟨#[]⟩, .string ⟨#[]⟩, .string ⟨#[]⟩] 111)) = w0 at HB0 HX0 HA0 HR0 ⊢
  obtain ⟨n, hn⟩ : ∃ n, n = w.heap.size + 1 := ⟨_, rfl⟩
  rw [← hn] at HA0 HNW ⊢
  clear hn
  go_wp2_with fail
  refine wp_loop_rounds 7 ?_
  rw [rounds_succ]
  go_wp2_with fail
  refine (rread_at HR0.out HLN.out At0 HAT0.out 64 (by omega)).mono ?_
  rintro e w' ⟨rfl, hw'⟩
  subst hw'
  obtain ⟨P0, hP0⟩ : ∃ P, P = partP 64 (b.drop At0) := ⟨_, rfl⟩
  rw [← hP0]
  have HPS := Lib.hid (partP_small 64 (b.drop At0))
  have HPB := Lib.hid (fun h : (partP 64 (b.drop At0)).2.2 = 0 => (part_back h).1)
  rw [← hP0] at HPS HPB
  by_cases hc0 : P0.2.2 = 0
  · have HSY := Lib.hid (fun h3 : isName (str P0.1) = true => stepR_yes (b := b) (k := 0) (i := 0) (S := (T0, At0, 0)) rfl (by show (partP 64 (b.drop At0)).2.2 = 0; rw [← hP0]; exact hc0) (by show isName (str (partP 64 (b.drop At0)).1) = true; rw [← hP0]; exact h3))
    have HSN := Lib.hid (fun h3 : isName (str P0.1) = false => stepR_name (b := b) (k := 0) (i := 0) (S := (T0, At0, 0)) rfl (by show (partP 64 (b.drop At0)).2.2 = 0; rw [← hP0]; exact hc0) (by show isName (str (partP 64 (b.drop At0)).1) = false; rw [← hP0]; exact h3))
    rw [show mostK 0 = 64 from rfl] at HSY
    simp only [← hP0] at HSY
    have hsz0 : (str P0.1).size ≤ 64 := HPB.out hc0
    have hat1 : At0 + P0.2.1 ≤ b.length := by have := HPS.out; have := HAT0.out; rw [List.length_drop] at *; omega
    rw [hc0]
    obtain ⟨s0, hs0⟩ : ∃ s, s = str P0.1 := ⟨_, rfl⟩
    obtain ⟨At1, hA1⟩ : ∃ n, n = At0 + P0.2.1 := ⟨_, rfl⟩
    rw [← hs0] at HSY HSN hsz0 ⊢
    rw [← hA1] at HSY hat1 ⊢
    have HAT1 := Lib.hid hat1
    have HSZ0 := Lib.hid hsz0
    clear hs0 hA1 hat1 hsz0 hP0 hc0 HPS HPB
    rw [show ((0 : Nat) : Int) = 0 from rfl]
    go_wp2_with fail
    refine (risName_any s0 (by have := HSZ0.out; omega) _).mono ?_
    rintro e w' ⟨rfl, hw'⟩
    subst hw'
    cases hv0 : isName s0 with
    | false =>
      have HV0 := Lib.hid hv0
      clear hv0
      have HRT : Hid (readT b A = (t0, At0, 5)) := by
        refine readT_of (S := (T0, At0, 5)) ?_ (show (5 : Nat) ≠ 0 by decide)
        rw [HCH0.out, HSN.out HV0.out]
        rw [stepR_stop (S := (T0, At0, 5)) (show (5 : Nat) ≠ 0 by decide)]
        rw [stepR_stop (S := (T0, At0, 5)) (show (5 : Nat) ≠ 0 by decide)]
        rw [stepR_stop (S := (T0, At0, 5)) (show (5 : Nat) ≠ 0 by decide)]
        rw [stepR_stop (S := (T0, At0, 5)) (show (5 : Nat) ≠ 0 by decide)]
        rw [stepR_stop (S := (T0, At0, 5)) (show (5 : Nat) ≠ 0 by decide)]
      clear HSY HSN
      have hA := HX0.out
      go_wp2_with ((with_reducible refine storeT (x := .tmp 4) (y := .tmp 53) (u := t0) (o := ⟨none, .store _ _ _, _, _, _, _⟩) hA ?_ ?_); exact ⟨rfl, rfl, rfl, rfl⟩)
      refine bodyPost_ret (resT2 rfl (hA.row _) rfl) rfl ⟨?_, below_row HB0.out (Nat.le_refl _) _⟩
      rw [HRT.out]; rfl
    | true =>
      have HV0 := Lib.hid hv0
      clear hv0
      obtain ⟨T1, hT1⟩ : ∃ T, T = T0.set 0 s0 := ⟨_, rfl⟩
      have HCH1 : Hid (readS b A = stepR b 2 5 (stepR b 1 4 (stepR b 0 3 (stepR b 0 2 (stepR b 1 1 ((T1, At1, 0))))))) := by
        show _ = _
        rw [HCH0.out, HSY.out HV0.out, hT1]
      have HT1 := Lib.hid hT1
      have c0 := HA0.out.cell 0
      have f0 := HA0.out.free 0
      simp only [List.getElem?_cons_zero, List.getElem?_cons_succ] at c0
      have HA1 : Hid (Arr (w0.setCell ⟨n, 0, none⟩ (.string s0)) 111 n [.string s0, .string ⟨#[]⟩, .string ⟨#[]⟩, .string ⟨#[]⟩, .string ⟨#[]⟩, .string ⟨#[]⟩]) := HA0.out.set 0 (.string s0)
      have HX1 : Hid (TuAt (w0.setCell ⟨n, 0, none⟩ (.string s0)) w.heap.size t0) := HX0.out.setCell (a := ⟨n, 0, none⟩) (Nat.ne_of_lt HNW.out) _
      have HB1 : Hid (Below w.heap.size w (w0.setCell ⟨n, 0, none⟩ (.string s0))) := HB0.out.setCell (p := ⟨n, 0, none⟩) (Nat.le_of_lt HNW.out) _
      have HR1 : Hid (Rd w.heap.size (w0.setCell ⟨n, 0, none⟩ (.string s0)) (.slice qb b.length cb) b) := HR0.out.below ((Below.refl w.heap.size w0).setCell (p := ⟨n, 0, none⟩) (Nat.le_of_lt HNW.out) _) (Nat.le_refl _)
      clear hT1 HSY HSN HCH0
      go_wp2_with fail
      generalize w0.setCell ⟨n, 0, none⟩ (.string s0) = w1 at HA1 HX1 HB1 HR1 ⊢
      clear c0 f0 HA0 HX0 HB0 HR0
      rw [rounds_succ]
      go_wp2_with fail
      refine (rread_at HR1.out HLN.out At1 HAT1.out 128 (by omega)).mono ?_
      rintro e w' ⟨rfl, hw'⟩
      subst hw'
      obtain ⟨P1, hP1⟩ : ∃ P, P = partP 128 (b.drop At1) := ⟨_, rfl⟩
      rw [← hP1]
      have HPS := Lib.hid (partP_small 128 (b.drop At1))
      have HPB := Lib.hid (fun h : (partP 128 (b.drop At1)).2.2 = 0 => (part_back h).1)
      rw [← hP1] at HPS HPB
      by_cases hc1 : P1.2.2 = 0
      · have HSY := Lib.hid (fun h3 : isId (str P1.1) = true => stepR_yes (b := b) (k := 1) (i := 1) (S := (T1, At1, 0)) rfl (by show (partP 128 (b.drop At1)).2.2 = 0; rw [← hP1]; exact hc1) (by show isId (str (partP 128 (b.drop At1)).1) = true; rw [← hP1]; exact h3))
        have HSN := Lib.hid (fun h3 : isId (str P1.1) = false => stepR_name (b := b) (k := 1) (i := 1) (S := (T1, At1, 0)) rfl (by show (partP 128 (b.drop At1)).2.2 = 0; rw [← hP1]; exact hc1) (by show isId (str (partP 128 (b.drop At1)).1) = false; rw [← hP1]; exact h3))
        rw [show mostK 1 = 128 from rfl] at HSY
        simp only [← hP1] at HSY
        have hsz1 : (str P1.1).size ≤ 128 := HPB.out hc1
        have hat2 : At1 + P1.2.1 ≤ b.length := by have := HPS.out; have := HAT1.out; rw [List.length_drop] at *; omega
        rw [hc1]
        obtain ⟨s1, hs1⟩ : ∃ s, s = str P1.1 := ⟨_, rfl⟩
        obtain ⟨At2, hA2⟩ : ∃ n, n = At1 + P1.2.1 := ⟨_, rfl⟩
        rw [← hs1] at HSY HSN hsz1 ⊢
        rw [← hA2] at HSY hat2 ⊢
        have HAT2 := Lib.hid hat2
        have HSZ1 := Lib.hid hsz1
        clear hs1 hA2 hat2 hsz1 hP1 hc1 HPS HPB
        rw [show ((0 : Nat) : Int) = 0 from rfl]
        go_wp2_with fail
        refine (risName_any s1 (by have := HSZ1.out; omega) _).mono ?_
        rintro e w' ⟨rfl, hw'⟩
        subst hw'
        go_wp2_with fail
        refine (risId_any s1 (by have := HSZ1.out; omega) _).mono ?_
        rintro e w' ⟨rfl, hw'⟩
        subst hw'
        cases hv1 : isId s1 with
        | false =>
          have HV1 := Lib.hid hv1
          clear hv1
          have HRT : Hid (readT b A = (t0, At1, 5)) := by
            refine readT_of (S := (T1, At1, 5)) ?_ (show (5 : Nat) ≠ 0 by decide)
            rw [HCH1.out, HSN.out HV1.out]
            rw [stepR_stop (S := (T1, At1, 5)) (show (5 : Nat) ≠ 0 by decide)]
            rw [stepR_stop (S := (T1, At1, 5)) (show (5 : Nat) ≠ 0 by decide)]
            rw [stepR_stop (S := (T1, At1, 5)) (show (5 : Nat) ≠ 0 by decide)]
            rw [stepR_stop (S := (T1, At1, 5)) (show (5 : Nat) ≠ 0 by decide)]
          clear HSY HSN
          have hA := HX1.out
          go_wp2_with ((with_reducible refine storeT (x := .tmp 4) (y := .tmp 53) (u := t0) (o := ⟨none, .store _ _ _, _, _, _, _⟩) hA ?_ ?_); exact ⟨rfl, rfl, rfl, rfl⟩)
          refine bodyPost_ret (resT2 rfl (hA.row _) rfl) rfl ⟨?_, below_row HB1.out (Nat.le_refl _) _⟩
          rw [HRT.out]; rfl
        | true =>
          have HV1 := Lib.hid hv1
          clear hv1
          obtain ⟨T2, hT2⟩ : ∃ T, T = T1.set 1 s1 := ⟨_, rfl⟩
          have HCH2 : Hid (readS b A = stepR b 2 5 (stepR b 1 4 (stepR b 0 3 (stepR b 0 2 ((T2, At2, 0)))))) := by
            show _ = _
            rw [HCH1.out, HSY.out HV1.out, hT2]
          have HT2 := Lib.hid hT2
          have c1 := HA1.out.cell 1
          have f1 := HA1.out.free 1
          simp only [List.getElem?_cons_zero, List.getElem?_cons_succ] at c1
          have HA2 : Hid (Arr (w1.setCell ⟨n, 1, none⟩ (.string s1)) 111 n [.string s0, .string s1, .string ⟨#[]⟩, .string ⟨#[]⟩, .string ⟨#[]⟩, .string ⟨#[]⟩]) := HA1.out.set 1 (.string s1)
          have HX2 : Hid (TuAt (w1.setCell ⟨n, 1, none⟩ (.string s1)) w.heap.size t0) := HX1.out.setCell (a := ⟨n, 1, none⟩) (Nat.ne_of_lt HNW.out) _
          have HB2 : Hid (Below w.heap.size w (w1.setCell ⟨n, 1, none⟩ (.string s1))) := HB1.out.setCell (p := ⟨n, 1, none⟩) (Nat.le_of_lt HNW.out) _
          have HR2 : Hid (Rd w.heap.size (w1.setCell ⟨n, 1, none⟩ (.string s1)) (.slice qb b.length cb) b) := HR1.out.below ((Below.refl w.heap.size w1).setCell (p := ⟨n, 1, none⟩) (Nat.le_of_lt HNW.out) _) (Nat.le_refl _)
          clear hT2 HSY HSN HCH1
          go_wp2_with fail
          generalize w1.setCell ⟨n, 1, none⟩ (.string s1) = w2 at HA2 HX2 HB2 HR2 ⊢
          clear c1 f1 HA1 HX1 HB1 HR1
          rw [rounds_succ]
          go_wp2_with fail
          refine (rread_at HR2.out HLN.out At2 HAT2.out 64 (by omega)).mono ?_
          rintro e w' ⟨rfl, hw'⟩
          subst hw'
          obtain ⟨P2, hP2⟩ : ∃ P, P = partP 64 (b.drop At2) := ⟨_, rfl⟩
          rw [← hP2]
          have HPS := Lib.hid (partP_small 64 (b.drop At2))
          have HPB := Lib.hid (fun h : (partP 64 (b.drop At2)).2.2 = 0 => (part_back h).1)
          rw [← hP2] at HPS HPB
          by_cases hc2 : P2.2.2 = 0
          · have HSY := Lib.hid (fun h3 : isName (str P2.1) = true => stepR_yes (b := b) (k := 0) (i := 2) (S := (T2, At2, 0)) rfl (by show (partP 64 (b.drop At2)).2.2 = 0; rw [← hP2]; exact hc2) (by show isName (str (partP 64 (b.drop At2)).1) = true; rw [← hP2]; exact h3))
            have HSN := Lib.hid (fun h3 : isName (str P2.1) = false => stepR_name (b := b) (k := 0) (i := 2) (S := (T2, At2, 0)) rfl (by show (partP 64 (b.drop At2)).2.2 = 0; rw [← hP2]; exact hc2) (by show isName (str (partP 64 (b.drop At2)).1) = false; rw [← hP2]; exact h3))
            rw [show mostK 0 = 64 from rfl] at HSY
            simp only [← hP2] at HSY
            have hsz2 : (str P2.1).size ≤ 64 := HPB.out hc2
            have hat3 : At2 + P2.2.1 ≤ b.length := by have := HPS.out; have := HAT2.out; rw [List.length_drop] at *; omega
            rw [hc2]
            obtain ⟨s2, hs2⟩ : ∃ s, s = str P2.1 := ⟨_, rfl⟩
            obtain ⟨At3, hA3⟩ : ∃ n, n = At2 + P2.2.1 := ⟨_, rfl⟩
            rw [← hs2] at HSY HSN hsz2 ⊢
            rw [← hA3] at HSY hat3 ⊢
            have HAT3 := Lib.hid hat3
            have HSZ2 := Lib.hid hsz2
            clear hs2 hA3 hat3 hsz2 hP2 hc2 HPS HPB
            rw [show ((0 : Nat) : Int) = 0 from rfl]
            go_wp2_with fail
            refine (risName_any s2 (by have := HSZ2.out; omega) _).mono ?_
            rintro e w' ⟨rfl, hw'⟩
            subst hw'
            cases hv2 : isName s2 with
            | false =>
              have HV2 := Lib.hid hv2
              clear hv2
              have HRT : Hid (readT b A = (t0, At2, 5)) := by
                refine readT_of (S := (T2, At2, 5)) ?_ (show (5 : Nat) ≠ 0 by decide)
                rw [HCH2.out, HSN.out HV2.out]
                rw [stepR_stop (S := (T2, At2, 5)) (show (5 : Nat) ≠ 0 by decide)]
                rw [stepR_stop (S := (T2, At2, 5)) (show (5 : Nat) ≠ 0 by decide)]
                rw [stepR_stop (S := (T2, At2, 5)) (show (5 : Nat) ≠ 0 by decide)]
              clear HSY HSN
              have hA := HX2.out
              go_wp2_with ((with_reducible refine storeT (x := .tmp 4) (y := .tmp 53) (u := t0) (o := ⟨none, .store _ _ _, _, _, _, _⟩) hA ?_ ?_); exact ⟨rfl, rfl, rfl, rfl⟩)
              refine bodyPost_ret (resT2 rfl (hA.row _) rfl) rfl ⟨?_, below_row HB2.out (Nat.le_refl _) _⟩
              rw [HRT.out]; rfl
            | true =>
              have HV2 := Lib.hid hv2
              clear hv2
              obtain ⟨T3, hT3⟩ : ∃ T, T = T2.set 2 s2 := ⟨_, rfl⟩
              have HCH3 : Hid (readS b A = stepR b 2 5 (stepR b 1 4 (stepR b 0 3 ((T3, At3, 0))))) := by
                show _ = _
                rw [HCH2.out, HSY.out HV2.out, hT3]
              have HT3 := Lib.hid hT3
              have c2 := HA2.out.cell 2
              have f2 := HA2.out.free 2
              simp only [List.getElem?_cons_zero, List.getElem?_cons_succ] at c2
              have HA3 : Hid (Arr (w2.setCell ⟨n, 2, none⟩ (.string s2)) 111 n [.string s0, .string s1, .string s2, .string ⟨#[]⟩, .string ⟨#[]⟩, .string ⟨#[]⟩]) := HA2.out.set 2 (.string s2)
              have HX3 : Hid (TuAt (w2.setCell ⟨n, 2, none⟩ (.string s2)) w.heap.size t0) := HX2.out.setCell (a := ⟨n, 2, none⟩) (Nat.ne_of_lt HNW.out) _
              have HB3 : Hid (Below w.heap.size w (w2.setCell ⟨n, 2, none⟩ (.string s2))) := HB2.out.setCell (p := ⟨n, 2, none⟩) (Nat.le_of_lt HNW.out) _
              have HR3 : Hid (Rd w.heap.size (w2.setCell ⟨n, 2, none⟩ (.string s2)) (.slice qb b.length cb) b) := HR2.out.below ((Below.refl w.heap.size w2).setCell (p := ⟨n, 2, none⟩) (Nat.le_of_lt HNW.out) _) (Nat.le_refl _)
              clear hT3 HSY HSN HCH2
              go_wp2_with fail
              generalize w2.setCell ⟨n, 2, none⟩ (.string s2) = w3 at HA3 HX3 HB3 HR3 ⊢
              clear c2 f2 HA2 HX2 HB2 HR2
              rw [rounds_succ]
              go_wp2_with fail
              refine (rread_at HR3.out HLN.out At3 HAT3.out 64 (by omega)).mono ?_
              rintro e w' ⟨rfl, hw'⟩
              subst hw'
              obtain ⟨P3, hP3⟩ : ∃ P, P = partP 64 (b.drop At3) := ⟨_, rfl⟩
              rw [← hP3]
              have HPS := Lib.hid (partP_small 64 (b.drop At3))
              have HPB := Lib.hid (fun h : (partP 64 (b.drop At3)).2.2 = 0 => (part_back h).1)
              rw [← hP3] at HPS HPB
              by_cases hc3 : P3.2.2 = 0
              · have HSY := Lib.hid (fun h3 : isName (str P3.1) = true => stepR_yes (b := b) (k := 0) (i := 3) (S := (T3, At3, 0)) rfl (by show (partP 64 (b.drop At3)).2.2 = 0; rw [← hP3]; exact hc3) (by show isName (str (partP 64 (b.drop At3)).1) = true; rw [← hP3]; exact h3))
                have HSN := Lib.hid (fun h3 : isName (str P3.1) = false => stepR_name (b := b) (k := 0) (i := 3) (S := (T3, At3, 0)) rfl (by show (partP 64 (b.drop At3)).2.2 = 0; rw [← hP3]; exact hc3) (by show isName (str (partP 64 (b.drop At3)).1) = false; rw [← hP3]; exact h3))
                rw [show mostK 0 = 64 from rfl] at HSY
                simp only [← hP3] at HSY
                have hsz3 : (str P3.1).size ≤ 64 := HPB.out hc3
                have hat4 : At3 + P3.2.1 ≤ b.length := by have := HPS.out; have := HAT3.out; rw [List.length_drop] at *; omega
                rw [hc3]
                obtain ⟨s3, hs3⟩ : ∃ s, s = str P3.1 := ⟨_, rfl⟩
                obtain ⟨At4, hA4⟩ : ∃ n, n = At3 + P3.2.1 := ⟨_, rfl⟩
                rw [← hs3] at HSY HSN hsz3 ⊢
                rw [← hA4] at HSY hat4 ⊢
                have HAT4 := Lib.hid hat4
                have HSZ3 := Lib.hid hsz3
                clear hs3 hA4 hat4 hsz3 hP3 hc3 HPS HPB
                rw [show ((0 : Nat) : Int) = 0 from rfl]
                go_wp2_with fail
                refine (risName_any s3 (by have := HSZ3.out; omega) _).mono ?_
                rintro e w' ⟨rfl, hw'⟩
                subst hw'
                cases hv3 : isName s3 with
                | false =>
                  have HV3 := Lib.hid hv3
                  clear hv3
                  have HRT : Hid (readT b A = (t0, At3, 5)) := by
                    refine readT_of (S := (T3, At3, 5)) ?_ (show (5 : Nat) ≠ 0 by decide)
                    rw [HCH3.out, HSN.out HV3.out]
                    rw [stepR_stop (S := (T3, At3, 5)) (show (5 : Nat) ≠ 0 by decide)]
                    rw [stepR_stop (S := (T3, At3, 5)) (show (5 : Nat) ≠ 0 by decide)]
                  clear HSY HSN
                  have hA := HX3.out
                  go_wp2_with ((with_reducible refine storeT (x := .tmp 4) (y := .tmp 53) (u := t0) (o := ⟨none, .store _ _ _, _, _, _, _⟩) hA ?_ ?_); exact ⟨rfl, rfl, rfl, rfl⟩)
                  refine bodyPost_ret (resT2 rfl (hA.row _) rfl) rfl ⟨?_, below_row HB3.out (Nat.le_refl _) _⟩
                  rw [HRT.out]; rfl
                | true =>
                  have HV3 := Lib.hid hv3
                  clear hv3
                  obtain ⟨T4, hT4⟩ : ∃ T, T = T3.set 3 s3 := ⟨_, rfl⟩
                  have HCH4 : Hid (readS b A = stepR b 2 5 (stepR b 1 4 ((T4, At4, 0)))) := by
                    show _ = _
                    rw [HCH3.out, HSY.out HV3.out, hT4]
                  have HT4 := Lib.hid hT4
                  have c3 := HA3.out.cell 3
                  have f3 := HA3.out.free 3
                  simp only [List.getElem?_cons_zero, List.getElem?_cons_succ] at c3
                  have HA4 : Hid (Arr (w3.setCell ⟨n, 3, none⟩ (.string s3)) 111 n [.string s0, .string s1, .string s2, .string s3, .string ⟨#[]⟩, .string ⟨#[]⟩]) := HA3.out.set 3 (.string s3)
                  have HX4 : Hid (TuAt (w3.setCell ⟨n, 3, none⟩ (.string s3)) w.heap.size t0) := HX3.out.setCell (a := ⟨n, 3, none⟩) (Nat.ne_of_lt HNW.out) _
                  have HB4 : Hid (Below w.heap.size w (w3.setCell ⟨n, 3, none⟩ (.string s3))) := HB3.out.setCell (p := ⟨n, 3, none⟩) (Nat.le_of_lt HNW.out) _
                  have HR4 : Hid (Rd w.heap.size (w3.setCell ⟨n, 3, none⟩ (.string s3)) (.slice qb b.length cb) b) := HR3.out.below ((Below.refl w.heap.size w3).setCell (p := ⟨n, 3, none⟩) (Nat.le_of_lt HNW.out) _) (Nat.le_refl _)
                  clear hT4 HSY HSN HCH3
                  go_wp2_with fail
                  generalize w3.setCell ⟨n, 3, none⟩ (.string s3) = w4 at HA4 HX4 HB4 HR4 ⊢
                  clear c3 f3 HA3 HX3 HB3 HR3
                  rw [rounds_succ]
                  go_wp2_with fail
                  refine (rread_at HR4.out HLN.out At4 HAT4.out 128 (by omega)).mono ?_
                  rintro e w' ⟨rfl, hw'⟩
                  subst hw'
                  obtain ⟨P4, hP4⟩ : ∃ P, P = partP 128 (b.drop At4) := ⟨_, rfl⟩
                  rw [← hP4]
                  have HPS := Lib.hid (partP_small 128 (b.drop At4))
                  have HPB := Lib.hid (fun h : (partP 128 (b.drop At4)).2.2 = 0 => (part_back h).1)
                  rw [← hP4] at HPS HPB
                  by_cases hc4 : P4.2.2 = 0
                  · have HSY := Lib.hid (fun h3 : isId (str P4.1) = true => stepR_yes (b := b) (k := 1) (i := 4) (S := (T4, At4, 0)) rfl (by show (partP 128 (b.drop At4)).2.2 = 0; rw [← hP4]; exact hc4) (by show isId (str (partP 128 (b.drop At4)).1) = true; rw [← hP4]; exact h3))
                    have HSN := Lib.hid (fun h3 : isId (str P4.1) = false => stepR_name (b := b) (k := 1) (i := 4) (S := (T4, At4, 0)) rfl (by show (partP 128 (b.drop At4)).2.2 = 0; rw [← hP4]; exact hc4) (by show isId (str (partP 128 (b.drop At4)).1) = false; rw [← hP4]; exact h3))
                    rw [show mostK 1 = 128 from rfl] at HSY
                    simp only [← hP4] at HSY
                    have hsz4 : (str P4.1).size ≤ 128 := HPB.out hc4
                    have hat5 : At4 + P4.2.1 ≤ b.length := by have := HPS.out; have := HAT4.out; rw [List.length_drop] at *; omega
                    rw [hc4]
                    obtain ⟨s4, hs4⟩ : ∃ s, s = str P4.1 := ⟨_, rfl⟩
                    obtain ⟨At5, hA5⟩ : ∃ n, n = At4 + P4.2.1 := ⟨_, rfl⟩
                    rw [← hs4] at HSY HSN hsz4 ⊢
                    rw [← hA5] at HSY hat5 ⊢
                    have HAT5 := Lib.hid hat5
                    have HSZ4 := Lib.hid hsz4
                    clear hs4 hA5 hat5 hsz4 hP4 hc4 HPS HPB
                    rw [show ((0 : Nat) : Int) = 0 from rfl]
                    go_wp2_with fail
                    refine (risName_any s4 (by have := HSZ4.out; omega) _).mono ?_
                    rintro e w' ⟨rfl, hw'⟩
                    subst hw'
                    go_wp2_with fail
                    refine (risId_any s4 (by have := HSZ4.out; omega) _).mono ?_
                    rintro e w' ⟨rfl, hw'⟩
                    subst hw'
                    cases hv4 : isId s4 with
                    | false =>
                      have HV4 := Lib.hid hv4
                      clear hv4
                      have HRT : Hid (readT b A = (t0, At4, 5)) := by
                        refine readT_of (S := (T4, At4, 5)) ?_ (show (5 : Nat) ≠ 0 by decide)
                        rw [HCH4.out, HSN.out HV4.out]
                        rw [stepR_stop (S := (T4, At4, 5)) (show (5 : Nat) ≠ 0 by decide)]
                      clear HSY HSN
                      have hA := HX4.out
                      go_wp2_with ((with_reducible refine storeT (x := .tmp 4) (y := .tmp 53) (u := t0) (o := ⟨none, .store _ _ _, _, _, _, _⟩) hA ?_ ?_); exact ⟨rfl, rfl, rfl, rfl⟩)
                      refine bodyPost_ret (resT2 rfl (hA.row _) rfl) rfl ⟨?_, below_row HB4.out (Nat.le_refl _) _⟩
                      rw [HRT.out]; rfl
                    | true =>
                      have HV4 := Lib.hid hv4
                      clear hv4
                      obtain ⟨T5, hT5⟩ : ∃ T, T = T4.set 4 s4 := ⟨_, rfl⟩
                      have HCH5 : Hid (readS b A = stepR b 2 5 ((T5, At5, 0))) := by
                        show _ = _
                        rw [HCH4.out, HSY.out HV4.out, hT5]
                      have HT5 := Lib.hid hT5
                      have c4 := HA4.out.cell 4
                      have f4 := HA4.out.free 4
                      simp only [List.getElem?_cons_zero, List.getElem?_cons_succ] at c4
                      have HA5 : Hid (Arr (w4.setCell ⟨n, 4, none⟩ (.string s4)) 111 n [.string s0, .string s1, .string s2, .string s3, .string s4, .string ⟨#[]⟩]) := HA4.out.set 4 (.string s4)
                      have HX5 : Hid (TuAt (w4.setCell ⟨n, 4, none⟩ (.string s4)) w.heap.size t0) := HX4.out.setCell (a := ⟨n, 4, none⟩) (Nat.ne_of_lt HNW.out) _
                      have HB5 : Hid (Below w.heap.size w (w4.setCell ⟨n, 4, none⟩ (.string s4))) := HB4.out.setCell (p := ⟨n, 4, none⟩) (Nat.le_of_lt HNW.out) _
                      have HR5 : Hid (Rd w.heap.size (w4.setCell ⟨n, 4, none⟩ (.string s4)) (.slice qb b.length cb) b) := HR4.out.below ((Below.refl w.heap.size w4).setCell (p := ⟨n, 4, none⟩) (Nat.le_of_lt HNW.out) _) (Nat.le_refl _)
                      clear hT5 HSY HSN HCH4
                      go_wp2_with fail
                      generalize w4.setCell ⟨n, 4, none⟩ (.string s4) = w5 at HA5 HX5 HB5 HR5 ⊢
                      clear c4 f4 HA4 HX4 HB4 HR4
                      rw [rounds_succ]
                      go_wp2_with fail
                      refine (rread_at HR5.out HLN.out At5 HAT5.out 64 (by omega)).mono ?_
                      rintro e w' ⟨rfl, hw'⟩
                      subst hw'
                      obtain ⟨P5, hP5⟩ : ∃ P, P = partP 64 (b.drop At5) := ⟨_, rfl⟩
                      rw [← hP5]
                      have HPS := Lib.hid (partP_small 64 (b.drop At5))
                      have HPB := Lib.hid (fun h : (partP 64 (b.drop At5)).2.2 = 0 => (part_back h).1)
                      rw [← hP5] at HPS HPB
                      by_cases hc5 : P5.2.2 = 0
                      · have HSY := Lib.hid (fun h3 : isUs (str P5.1) = true => stepR_yes (b := b) (k := 2) (i := 5) (S := (T5, At5, 0)) rfl (by show (partP 64 (b.drop At5)).2.2 = 0; rw [← hP5]; exact hc5) (by show isUs (str (partP 64 (b.drop At5)).1) = true; rw [← hP5]; exact h3))
                        have HSN := Lib.hid (fun h3 : isUs (str P5.1) = false => stepR_name (b := b) (k := 2) (i := 5) (S := (T5, At5, 0)) rfl (by show (partP 64 (b.drop At5)).2.2 = 0; rw [← hP5]; exact hc5) (by show isUs (str (partP 64 (b.drop At5)).1) = false; rw [← hP5]; exact h3))
                        rw [show mostK 2 = 64 from rfl] at HSY
                        simp only [← hP5] at HSY
                        have hsz5 : (str P5.1).size ≤ 64 := HPB.out hc5
                        have hat6 : At5 + P5.2.1 ≤ b.length := by have := HPS.out; have := HAT5.out; rw [List.length_drop] at *; omega
                        rw [hc5]
                        obtain ⟨s5, hs5⟩ : ∃ s, s = str P5.1 := ⟨_, rfl⟩
                        obtain ⟨At6, hA6⟩ : ∃ n, n = At5 + P5.2.1 := ⟨_, rfl⟩
                        rw [← hs5] at HSY HSN hsz5 ⊢
                        rw [← hA6] at HSY hat6 ⊢
                        have HAT6 := Lib.hid hat6
                        have HSZ5 := Lib.hid hsz5
                        clear hs5 hA6 hat6 hsz5 hP5 hc5 HPS HPB
                        rw [show ((0 : Nat) : Int) = 0 from rfl]
                        go_wp2_with fail
                        refine (risName_any s5 (by have := HSZ5.out; omega) _).mono ?_
                        rintro e w' ⟨rfl, hw'⟩
                        subst hw'
                        by_cases he : s5 = e0
                        · have HV5 : Hid (isUs s5 = true) := by show _ = _; rw [he]; rfl
                          have hnn : isName s5 = false := by rw [he]; decide +kernel
                          rw [hnn]
                          have hempty : s5.toList.isEmpty = true := by rw [he, toList_data]; rfl
                          have hempty2 : s5.toList = [] := by rw [he, toList_data]; rfl
                          clear he hnn
                          obtain ⟨T6, hT6⟩ : ∃ T, T = T5.set 5 s5 := ⟨_, rfl⟩
                          have HCH6 : Hid (readS b A = (T6, At6, 0)) := by
                            show _ = _
                            rw [HCH5.out, HSY.out HV5.out, hT6]
                          have HT6 := Lib.hid hT6
                          have c5 := HA5.out.cell 5
                          have f5 := HA5.out.free 5
                          simp only [List.getElem?_cons_zero, List.getElem?_cons_succ] at c5
                          have HA6 : Hid (Arr (w5.setCell ⟨n, 5, none⟩ (.string s5)) 111 n [.string s0, .string s1, .string s2, .string s3, .string s4, .string s5]) := HA5.out.set 5 (.string s5)
                          have HX6 : Hid (TuAt (w5.setCell ⟨n, 5, none⟩ (.string s5)) w.heap.size t0) := HX5.out.setCell (a := ⟨n, 5, none⟩) (Nat.ne_of_lt HNW.out) _
                          have HB6 : Hid (Below w.heap.size w (w5.setCell ⟨n, 5, none⟩ (.string s5))) := HB5.out.setCell (p := ⟨n, 5, none⟩) (Nat.le_of_lt HNW.out) _
                          have HR6 : Hid (Rd w.heap.size (w5.setCell ⟨n, 5, none⟩ (.string s5)) (.slice qb b.length cb) b) := HR5.out.below ((Below.refl w.heap.size w5).setCell (p := ⟨n, 5, none⟩) (Nat.le_of_lt HNW.out) _) (Nat.le_refl _)
                          clear hT6 HSY HSN HCH5
                          go_wp2_with fail
                          generalize w5.setCell ⟨n, 5, none⟩ (.string s5) = w6 at HA6 HX6 HB6 HR6 ⊢
                          clear c5 f5 HA5 HX5 HB5 HR5
                          rw [rounds_succ]
                          have HRT : Hid (readT b A = (⟨s0, s1, s2, s3, s4, s5⟩, At6, 0)) := by
                            show _ = _
                            rw [readT_ok HCH6.out rfl, HT6.out, HT5.out, HT4.out, HT3.out, HT2.out, HT1.out, HT0.out, sets6]
                          have d0 := HA6.out.cell 0
                          have d1 := HA6.out.cell 1
                          have d2 := HA6.out.cell 2
                          have d3 := HA6.out.cell 3
                          have d4 := HA6.out.cell 4
                          have d5 := HA6.out.cell 5
                          simp only [List.getElem?_cons_zero, List.getElem?_cons_succ] at d0 d1 d2 d3 d4 d5
                          have hA := HX6.out
                          go_wp2_with ((with_reducible refine storeT (x := .tmp 4) (y := .tmp 73) (u := ⟨s0, s1, s2, s3, s4, s5⟩) (o := ⟨none, .store _ _ _, _, _, _, _⟩) hA ?_ ?_); exact ⟨rfl, rfl, rfl, rfl⟩)
                          refine bodyPost_ret (resT2 rfl (hA.row _) rfl) rfl ⟨?_, below_row HB6.out (Nat.le_refl _) _⟩
                          rw [HRT.out]; rfl
                        · obtain ⟨n1, n2⟩ := empty_ne he
                          have hie : isUs s5 = isName s5 := by unfold isUs; simp [he]
                          clear he
                          cases hv5 : isName s5 with
                          | false =>
                            have HV5 : Hid (isUs s5 = false) := by show _ = _; rw [hie, hv5]
                            clear hv5 hie
                            have HRT : Hid (readT b A = (t0, At5, 5)) := by
                              refine readT_of (S := (T5, At5, 5)) ?_ (show (5 : Nat) ≠ 0 by decide)
                              rw [HCH5.out, HSN.out HV5.out]
                            clear HSY HSN
                            have hA := HX5.out
                            go_wp2_with ((with_reducible refine storeT (x := .tmp 4) (y := .tmp 53) (u := t0) (o := ⟨none, .store _ _ _, _, _, _, _⟩) hA ?_ ?_); exact ⟨rfl, rfl, rfl, rfl⟩)
                            refine bodyPost_ret (resT2 rfl (hA.row _) rfl) rfl ⟨?_, below_row HB5.out (Nat.le_refl _) _⟩
                            rw [HRT.out]; rfl
                          | true =>
                            have HV5 : Hid (isUs s5 = true) := by show _ = _; rw [hie, hv5]
                            clear hv5 hie n1 n2
                            obtain ⟨T6, hT6⟩ : ∃ T, T = T5.set 5 s5 := ⟨_, rfl⟩
                            have HCH6 : Hid (readS b A = (T6, At6, 0)) := by
                              show _ = _
                              rw [HCH5.out, HSY.out HV5.out, hT6]
                            have HT6 := Lib.hid hT6
                            have c5 := HA5.out.cell 5
                            have f5 := HA5.out.free 5
                            simp only [List.getElem?_cons_zero, List.getElem?_cons_succ] at c5
                            have HA6 : Hid (Arr (w5.setCell ⟨n, 5, none⟩ (.string s5)) 111 n [.string s0, .string s1, .string s2, .string s3, .string s4, .string s5]) := HA5.out.set 5 (.string s5)
                            have HX6 : Hid (TuAt (w5.setCell ⟨n, 5, none⟩ (.string s5)) w.heap.size t0) := HX5.out.setCell (a := ⟨n, 5, none⟩) (Nat.ne_of_lt HNW.out) _
                            have HB6 : Hid (Below w.heap.size w (w5.setCell ⟨n, 5, none⟩ (.string s5))) := HB5.out.setCell (p := ⟨n, 5, none⟩) (Nat.le_of_lt HNW.out) _
                            have HR6 : Hid (Rd w.heap.size (w5.setCell ⟨n, 5, none⟩ (.string s5)) (.slice qb b.length cb) b) := HR5.out.below ((Below.refl w.heap.size w5).setCell (p := ⟨n, 5, none⟩) (Nat.le_of_lt HNW.out) _) (Nat.le_refl _)
                            clear hT6 HSY HSN HCH5
                            go_wp2_with fail
                            generalize w5.setCell ⟨n, 5, none⟩ (.string s5) = w6 at HA6 HX6 HB6 HR6 ⊢
                            clear c5 f5 HA5 HX5 HB5 HR5
                            rw [rounds_succ]
                            have HRT : Hid (readT b A = (⟨s0, s1, s2, s3, s4, s5⟩, At6, 0)) := by
                              show _ = _
                              rw [readT_ok HCH6.out rfl, HT6.out, HT5.out, HT4.out, HT3.out, HT2.out, HT1.out, HT0.out, sets6]
                            have d0 := HA6.out.cell 0
                            have d1 := HA6.out.cell 1
                            have d2 := HA6.out.cell 2
                            have d3 := HA6.out.cell 3
                            have d4 := HA6.out.cell 4
                            have d5 := HA6.out.cell 5
                            simp only [List.getElem?_cons_zero, List.getElem?_cons_succ] at d0 d1 d2 d3 d4 d5
                            have hA := HX6.out
                            go_wp2_with ((with_reducible refine storeT (x := .tmp 4) (y := .tmp 73) (u := ⟨s0, s1, s2, s3, s4, s5⟩) (o := ⟨none, .store _ _ _, _, _, _, _⟩) hA ?_ ?_); exact ⟨rfl, rfl, rfl, rfl⟩)
                            refine bodyPost_ret (resT2 rfl (hA.row _) rfl) rfl ⟨?_, below_row HB6.out (Nat.le_refl _) _⟩
                            rw [HRT.out]; rfl
                      · have HSB := Lib.hid (stepR_bad (b := b) (k := 2) (i := 5) (S := (T5, At5, 0)) rfl (by show (partP 64 (b.drop At5)).2.2 ≠ 0; rw [← hP5]; exact hc5))
                        rw [show mostK 2 = 64 from rfl] at HSB
                        simp only [← hP5] at HSB
                        have hb0 := partP_bad (most := 64) (r := b.drop At5) (by rw [← hP5]; exact hc5)
                        rw [← hP5] at hb0
                        rw [hb0.1, hb0.2, Nat.add_zero]
                        obtain ⟨cd, hcd⟩ : ∃ c, c = P5.2.2 := ⟨_, rfl⟩
                        rw [← hcd] at HSB hc5 ⊢
                        have HCD := Lib.hid hc5
                        have z1 : ¬ (cd : Int) = 0 := by omega
                        have z2 : ((cd : Int) != 0) = true := by rw [bne_iff_ne]; exact z1
                        clear hb0 hcd hP5 hc5 HPS HPB
                        have HRT : Hid (readT b A = (t0, At5, cd)) := by
                          refine readT_of (S := (T5, At5, cd)) ?_ HCD.out
                          rw [HCH5.out, HSB.out]
                        clear HSB
                        have hA := HX5.out
                        go_wp2_with ((with_reducible refine storeT (x := .tmp 4) (y := .tmp 34) (u := t0) (o := ⟨none, .store _ _ _, _, _, _, _⟩) hA ?_ ?_); exact ⟨rfl, rfl, rfl, rfl⟩)
                        refine bodyPost_ret (resT2 rfl (hA.row _) rfl) rfl ⟨?_, below_row HB5.out (Nat.le_refl _) _⟩
                        rw [HRT.out]; rfl
                  · have HSB := Lib.hid (stepR_bad (b := b) (k := 1) (i := 4) (S := (T4, At4, 0)) rfl (by show (partP 128 (b.drop At4)).2.2 ≠ 0; rw [← hP4]; exact hc4))
                    rw [show mostK 1 = 128 from rfl] at HSB
                    simp only [← hP4] at HSB
                    have hb0 := partP_bad (most := 128) (r := b.drop At4) (by rw [← hP4]; exact hc4)
                    rw [← hP4] at hb0
                    rw [hb0.1, hb0.2, Nat.add_zero]
                    obtain ⟨cd, hcd⟩ : ∃ c, c = P4.2.2 := ⟨_, rfl⟩
                    rw [← hcd] at HSB hc4 ⊢
                    have HCD := Lib.hid hc4
                    have z1 : ¬ (cd : Int) = 0 := by omega
                    have z2 : ((cd : Int) != 0) = true := by rw [bne_iff_ne]; exact z1
                    clear hb0 hcd hP4 hc4 HPS HPB
                    have HRT : Hid (readT b A = (t0, At4, cd)) := by
                      refine readT_of (S := (T4, At4, cd)) ?_ HCD.out
                      rw [HCH4.out, HSB.out]
                      rw [stepR_stop (S := (T4, At4, cd)) HCD.out]
                    clear HSB
                    have hA := HX4.out
                    go_wp2_with ((with_reducible refine storeT (x := .tmp 4) (y := .tmp 34) (u := t0) (o := ⟨none, .store _ _ _, _, _, _, _⟩) hA ?_ ?_); exact ⟨rfl, rfl, rfl, rfl⟩)
                    refine bodyPost_ret (resT2 rfl (hA.row _) rfl) rfl ⟨?_, below_row HB4.out (Nat.le_refl _) _⟩
                    rw [HRT.out]; rfl
              · have HSB := Lib.hid (stepR_bad (b := b) (k := 0) (i := 3) (S := (T3, At3, 0)) rfl (by show (partP 64 (b.drop At3)).2.2 ≠ 0; rw [← hP3]; exact hc3))
                rw [show mostK 0 = 64 from rfl] at HSB
                simp only [← hP3] at HSB
                have hb0 := partP_bad (most := 64) (r := b.drop At3) (by rw [← hP3]; exact hc3)
                rw [← hP3] at hb0
                rw [hb0.1, hb0.2, Nat.add_zero]
                obtain ⟨cd, hcd⟩ : ∃ c, c = P3.2.2 := ⟨_, rfl⟩
                rw [← hcd] at HSB hc3 ⊢
                have HCD := Lib.hid hc3
                have z1 : ¬ (cd : Int) = 0 := by omega
                have z2 : ((cd : Int) != 0) = true := by rw [bne_iff_ne]; exact z1
                clear hb0 hcd hP3 hc3 HPS HPB
                have HRT : Hid (readT b A = (t0, At3, cd)) := by
                  refine readT_of (S := (T3, At3, cd)) ?_ HCD.out
                  rw [HCH3.out, HSB.out]
                  rw [stepR_stop (S := (T3, At3, cd)) HCD.out]
                  rw [stepR_stop (S := (T3, At3, cd)) HCD.out]
                clear HSB
                have hA := HX3.out
                go_wp2_with ((with_reducible refine storeT (x := .tmp 4) (y := .tmp 34) (u := t0) (o := ⟨none, .store _ _ _, _, _, _, _⟩) hA ?_ ?_); exact ⟨rfl, rfl, rfl, rfl⟩)
                refine bodyPost_ret (resT2 rfl (hA.row _) rfl) rfl ⟨?_, below_row HB3.out (Nat.le_refl _) _⟩
                rw [HRT.out]; rfl
          · have HSB := Lib.hid (stepR_bad (b := b) (k := 0) (i := 2) (S := (T2, At2, 0)) rfl (by show (partP 64 (b.drop At2)).2.2 ≠ 0; rw [← hP2]; exact hc2))
            rw [show mostK 0 = 64 from rfl] at HSB
            simp only [← hP2] at HSB
            have hb0 := partP_bad (most := 64) (r := b.drop At2) (by rw [← hP2]; exact hc2)
            rw [← hP2] at hb0
            rw [hb0.1, hb0.2, Nat.add_zero]
            obtain ⟨cd, hcd⟩ : ∃ c, c = P2.2.2 := ⟨_, rfl⟩
            rw [← hcd] at HSB hc2 ⊢
            have HCD := Lib.hid hc2
            have z1 : ¬ (cd : Int) = 0 := by omega
            have z2 : ((cd : Int) != 0) = true := by rw [bne_iff_ne]; exact z1
            clear hb0 hcd hP2 hc2 HPS HPB
            have HRT : Hid (readT b A = (t0, At2, cd)) := by
              refine readT_of (S := (T2, At2, cd)) ?_ HCD.out
              rw [HCH2.out, HSB.out]
              rw [stepR_stop (S := (T2, At2, cd)) HCD.out]
              rw [stepR_stop (S := (T2, At2, cd)) HCD.out]
              rw [stepR_stop (S := (T2, At2, cd)) HCD.out]
            clear HSB
            have hA := HX2.out
            go_wp2_with ((with_reducible refine storeT (x := .tmp 4) (y := .tmp 34) (u := t0) (o := ⟨none, .store _ _ _, _, _, _, _⟩) hA ?_ ?_); exact ⟨rfl, rfl, rfl, rfl⟩)
            refine bodyPost_ret (resT2 rfl (hA.row _) rfl) rfl ⟨?_, below_row HB2.out (Nat.le_refl _) _⟩
            rw [HRT.out]; rfl
      · have HSB := Lib.hid (stepR_bad (b := b) (k := 1) (i := 1) (S := (T1, At1, 0)) rfl (by show (partP 128 (b.drop At1)).2.2 ≠ 0; rw [← hP1]; exact hc1))
        rw [show mostK 1 = 128 from rfl] at HSB
        simp only [← hP1] at HSB
        have hb0 := partP_bad (most := 128) (r := b.drop At1) (by rw [← hP1]; exact hc1)
        rw [← hP1] at hb0
        rw [hb0.1, hb0.2, Nat.add_zero]
        obtain ⟨cd, hcd⟩ : ∃ c, c = P1.2.2 := ⟨_, rfl⟩
        rw [← hcd] at HSB hc1 ⊢
        have HCD := Lib.hid hc1
        have z1 : ¬ (cd : Int) = 0 := by omega
        have z2 : ((cd : Int) != 0) = true := by rw [bne_iff_ne]; exact z1
        clear hb0 hcd hP1 hc1 HPS HPB
        have HRT : Hid (readT b A = (t0, At1, cd)) := by
          refine readT_of (S := (T1, At1, cd)) ?_ HCD.out
          rw [HCH1.out, HSB.out]
          rw [stepR_stop (S := (T1, At1, cd)) HCD.out]
          rw [stepR_stop (S := (T1, At1, cd)) HCD.out]
          rw [stepR_stop (S := (T1, At1, cd)) HCD.out]
          rw [stepR_stop (S := (T1, At1, cd)) HCD.out]
        clear HSB
        have hA := HX1.out
        go_wp2_with ((with_reducible refine storeT (x := .tmp 4) (y := .tmp 34) (u := t0) (o := ⟨none, .store _ _ _, _, _, _, _⟩) hA ?_ ?_); exact ⟨rfl, rfl, rfl, rfl⟩)
        refine bodyPost_ret (resT2 rfl (hA.row _) rfl) rfl ⟨?_, below_row HB1.out (Nat.le_refl _) _⟩
        rw [HRT.out]; rfl
  · have HSB := Lib.hid (stepR_bad (b := b) (k := 0) (i := 0) (S := (T0, At0, 0)) rfl (by show (partP 64 (b.drop At0)).2.2 ≠ 0; rw [← hP0]; exact hc0))
    rw [show mostK 0 = 64 from rfl] at HSB
    simp only [← hP0] at HSB
    have hb0 := partP_bad (most := 64) (r := b.drop At0) (by rw [← hP0]; exact hc0)
    rw [← hP0] at hb0
    rw [hb0.1, hb0.2, Nat.add_zero]
    obtain ⟨cd, hcd⟩ : ∃ c, c = P0.2.2 := ⟨_, rfl⟩
    rw [← hcd] at HSB hc0 ⊢
    have HCD := Lib.hid hc0
    have z1 : ¬ (cd : Int) = 0 := by omega
    have z2 : ((cd : Int) != 0) = true := by rw [bne_iff_ne]; exact z1
    clear hb0 hcd hP0 hc0 HPS HPB
    have HRT : Hid (readT b A = (t0, At0, cd)) := by
      refine readT_of (S := (T0, At0, cd)) ?_ HCD.out
      rw [HCH0.out, HSB.out]
      rw [stepR_stop (S := (T0, At0, cd)) HCD.out]
      rw [stepR_stop (S := (T0, At0, cd)) HCD.out]
      rw [stepR_stop (S := (T0, At0, cd)) HCD.out]
      rw [stepR_stop (S := (T0, At0, cd)) HCD.out]
      rw [stepR_stop (S := (T0, At0, cd)) HCD.out]
    clear HSB
    have hA := HX0.out
    go_wp2_with ((with_reducible refine storeT (x := .tmp 4) (y := .tmp 34) (u := t0) (o := ⟨none, .store _ _ _, _, _, _, _⟩) hA ?_ ?_); exact ⟨rfl, rfl, rfl, rfl⟩)
    refine bodyPost_ret (resT2 rfl (hA.row _) rfl) rfl ⟨?_, below_row HB0.out (Nat.le_refl _) _⟩
    rw [HRT.out]; rfl
end Go.Proofs.YtnnebfcggdbgpaaGreatDoor
/-
  vestryref18.ParseBytes.
-/
namespace Go.Proofs.YtnnebfcggdbgpaaGreatDoor
open Go.ChangeShapes Go.WideShapes Go.ChangeAt Go.RowKit
set_option linter.unusedVariables false

set_option maxRecDepth 100000 in
set_option maxHeartbeats 2000000 in
theorem rtparseB_any {B : Nat} {w : World} {vb : Value} {b : List UInt8} (hr : Rd B w vb b) (hB : B ≤ w.heap.size) (hl : b.length ≤ 1000000) :
    Calls Tryz.prog 26 #[vb] w fun e w' => e = .returned (.tuple #[tuV (parseB b).1, .int .i64 ((parseB b).2.1 : Nat), .int .i64 ((parseB b).2.2 : Nat)]) ∧ Below w.heap.size w w' := by
  obtain ⟨T, hT⟩ : ∃ T, T = readT b 0 := ⟨_, rfl⟩
  have hP : parseB b = endB b.length T := by rw [hT]; rfl
  have b0 : Below w.heap.size w (w.alloc (.cells (tc t0).toArray 25)) := (Below.refl _ _).alloc (Nat.le_refl _) _
  have HRD := Lib.hid (rtread_any (hr.below b0 hB) (Nat.le_trans hB b0.size) hl 0 (Nat.zero_le _))
  rw [← hT] at HRD
  have HAT : Hid (T.2.1 ≤ b.length) := by rw [hT]; exact (readT_at (Nat.zero_le _)).2
  have HB0 := Lib.hid b0
  have HX0 := Lib.hid (tu_new w t0)
  have HP := Lib.hid hP
  obtain ⟨qb, cb, rfl⟩ := rd_form hr
  have hbl : (b.length : Int) ≤ 1000000 := by omega
  clear hr hB hl hT hP b0
  obtain ⟨t, n, cd⟩ := T
  go_enter Tryz.func26, Tryz.ntmps26
  go_wp2_with fail
  refine HRD.out.mono ?_
  rintro e w2 ⟨rfl, b2⟩
  have HB2 := Lib.hid (HB0.out.trans (b2.mono HB0.out.size))
  have HX2 := Lib.hid (HX0.out.later b2)
  have b3 : Below w2.heap.size w2 (w2.alloc (.cells (tc t).toArray 25)) := (Below.refl _ _).alloc (Nat.le_refl _) _
  have HB3 := Lib.hid (HB2.out.trans (b3.mono HB2.out.size))
  have HX3 := Lib.hid (HX2.out.later b3)
  have HT3 := Lib.hid (tu_new w2 t)
  clear b2 b3 HRD HB0 HX0 HB2 HX2
  go_upto_region 2 with ((with_reducible refine atT w2.heap.size (x := .tmp 5) (y := .tmp 11) (u := t) (o := ⟨none, .store _ _ _, _, _, _, _⟩) ?_ ?_); exact ⟨rfl, rfl, rfl, rfl, rfl, rfl⟩)
  generalize w2.alloc (.cells (tc t).toArray 25) = w3 at HB3 HX3 HT3 ⊢
  generalize w2.heap.size = g3 at HT3 ⊢
  have hA := HX3.out
  by_cases hc : cd = 0
  · subst hc
    by_cases hlt : n < b.length
    · have HP2 : Hid (parseB b = (t0, 16, n)) := by show _ = _; rw [HP.out]; exact endB_long rfl hlt
      have h1 : (n : Int) < b.length := by omega
      clear HP hlt
      go_wp2_with ((with_reducible refine storeT (x := .tmp 2) (y := .tmp 24) (u := t0) (o := ⟨none, .store _ _ _, _, _, _, _⟩) hA ?_ ?_); exact ⟨rfl, rfl, rfl, rfl⟩)
      refine bodyPost_ret (resT2 rfl (hA.row _) rfl) rfl ⟨?_, below_row HB3.out (Nat.le_refl _) _⟩
      rw [HP2.out]; rfl
    · have HP2 : Hid (parseB b = (t, 0, 0)) := by show _ = _; rw [HP.out]; exact endB_yes rfl hlt
      have h1 : ¬ (n : Int) < b.length := by omega
      clear HP hlt
      go_wp2_with (first
        | ((with_reducible refine loadT (x := .tmp 5) (o := ⟨some 27, _, _, _, _, _⟩) HT3.out ?_ ?_); exact ⟨rfl, rfl, rfl⟩)
        | ((with_reducible refine storeT (x := .tmp 2) (y := .tmp 27) (u := t) (o := ⟨none, .store _ _ _, _, _, _, _⟩) hA ?_ ?_); exact ⟨rfl, rfl, rfl, rfl⟩))
      refine bodyPost_ret (resT2 rfl (hA.row _) rfl) rfl ⟨?_, below_row HB3.out (Nat.le_refl _) _⟩
      rw [HP2.out]; rfl
  · have HP2 : Hid (parseB b = (t0, cd, n)) := by show _ = _; rw [HP.out]; exact endB_bad hc
    have z0 : ((cd : Int) == 0) = false := by rw [beq_eq_false_iff_ne]; omega
    have z1 : ¬ (cd : Int) = 0 := by omega
    have z2 : ((cd : Int) != 0) = true := by rw [bne_iff_ne]; exact z1
    clear HP hc
    go_wp2_with ((with_reducible refine storeT (x := .tmp 2) (y := .tmp 24) (u := t0) (o := ⟨none, .store _ _ _, _, _, _, _⟩) hA ?_ ?_); exact ⟨rfl, rfl, rfl, rfl⟩)
    refine bodyPost_ret (resT2 rfl (hA.row _) rfl) rfl ⟨?_, below_row HB3.out (Nat.le_refl _) _⟩
    rw [HP2.out]; rfl
end Go.Proofs.YtnnebfcggdbgpaaGreatDoor
/-
  vestrylaw18.TupleMatchesReference: the walk.
-/
namespace Go.Proofs.YtnnebfcggdbgpaaGreatDoor
open Go.ChangeShapes Go.WideShapes Go.ChangeAt Go.RowKit
open errAs (ErrT)
set_option linter.unusedVariables false

theorem sizesT.mono {t : Tu} {n m : Nat} (h : sizesT t n) (hm : n ≤ m) : sizesT t m := ⟨Nat.le_trans h.1 hm, Nat.le_trans h.2.1 hm, Nat.le_trans h.2.2.1 hm, Nat.le_trans h.2.2.2.1 hm, Nat.le_trans h.2.2.2.2.1 hm, Nat.le_trans h.2.2.2.2.2 hm⟩
theorem rd_now {B : Nat} {w w' : World} {v : Value} {l : List UInt8} (h : Rd w.heap.size w v l) (hb : Below w.heap.size w w') : Rd w'.heap.size w' v l := (h.below hb (Nat.le_refl _)).mono hb.size
/-- What the law's region holds on to. -/
def MS (w : World) (g : Nat) (t : Tu) (W : World) : Prop := Below w.heap.size w W ∧ Env W ∧ Arr W 25 g (tc t)
theorem MS.later {w W W' : World} {g : Nat} {t : Tu} (h : MS w g t W) (b : Below W.heap.size W W') : MS w g t W' := ⟨h.1.trans (b.mono h.1.size), h.2.1.below b, h.2.2.later b⟩
theorem MS.right {w W : World} {g : Nat} {t : Tu} (h : MS w g t W) : Calls Tryz.prog 17 #[tuV t] W fun e W' => ∃ v, e = .returned v ∧ v = .bool (rightT t) ∧ MS w g t W' :=
  (right_any' t W h.2.1.1).mono fun _ _ ⟨he, hb⟩ => ⟨_, he, rfl, h.later hb⟩
theorem MS.rright {w W : World} {g : Nat} {t : Tu} (h : MS w g t W) (hs : sizesT t 1000000) : Calls Tryz.prog 18 #[tuV t] W fun e W' => ∃ v, e = .returned v ∧ v = .bool (rightT t) ∧ MS w g t W' :=
  (rrightT_any t hs W).mono fun _ _ ⟨he, hb⟩ => ⟨_, he, rfl, h.later hb⟩
theorem takeT {ops : Array Oper} {md : Region.Mode} {S : World → Prop} {Q : Exit → Act → World → Prop} {i : Nat} {o : Oper} {fuel : Nat} {listed : Array Bool} {a : Act} {w : World} {u : Tu} (hi : ops[i]? = some o) (hs : Region.noSelect ops = true) (hf : Region.free md ops listed i = true) (hr : (Region.ready md ops listed).contains i = true)
    (hQ : ∀ c a w, Q (.panic c) (a.put o.dst (tuV u)) w → Q (.panic c) a w) (hwt : Region.wanted o (yielded ops a.tmps) = true) {x : Operand} {b off : Nat} (ho : o.op = .load 25 x ∧ a.eval x = .pointer (some ⟨b, off, none⟩)) (hS : ∀ w, S w → w.rangeAt b off (tc u)) (hw : S w)
    (h : wpAnyH Tryz.prog md ops Q S fuel (listed.setIfInBounds i true) (a.put o.dst (tuV u)) w) : wpAnyH Tryz.prog md ops Q S (fuel + 1) listed a w :=
  wpAnyH_take hi hs hf hr hQ (yieldsIf_load_mid hwt _ x ho.1 b off ho.2 (tc u) _ hS Tryz.underlying25 rfl (by kernel_rfl)) hw h
theorem takeE {ops : Array Oper} {md : Region.Mode} {S : World → Prop} {Q : Exit → Act → World → Prop} {i : Nat} {o : Oper} {fuel : Nat} {listed : Array Bool} {a : Act} {w : World} {u v : Tu} (hi : ops[i]? = some o) (hs : Region.noSelect ops = true) (hf : Region.free md ops listed i = true) (hr : (Region.ready md ops listed).contains i = true)
    (hQ : ∀ c a w, Q (.panic c) (a.put o.dst (.bool (eqT u v))) w → Q (.panic c) a w) (hwt : Region.wanted o (yielded ops a.tmps) = true) {x y : Operand} {t : TypeId} (ho : o.op = .binOp .eql 25 x y t ∧ a.eval x = tuV u ∧ a.eval y = tuV v) (hw : S w)
    (h : wpAnyH Tryz.prog md ops Q S fuel (listed.setIfInBounds i true) (a.put o.dst (.bool (eqT u v))) w) : wpAnyH Tryz.prog md ops Q S (fuel + 1) listed a w :=
  wpAnyH_take hi hs hf hr hQ (.inl ⟨hwt, fun w' _ => by
    have hg : Tryz.prog.eqGuardType Tryz.prog.depth 25 = false := by kernel_rfl
    unfold execOp
    simp only [ho.1, ho.2.1, ho.2.2, Sem.run_bind, run_eqGuard_agg (hm := hg), Result.andThen_ok, eqlT, Sem.run_pure]⟩) hw h
def MS2 (w : World) (g : Nat) (t : Tu) (w0 W : World) : Prop := MS w g t W ∧ Below w0.heap.size w0 W
theorem MS2.later {w w0 W W' : World} {g : Nat} {t : Tu} (h : MS2 w g t w0 W) (b : Below W.heap.size W W') : MS2 w g t w0 W' := ⟨h.1.later b, h.2.trans (b.mono h.2.size)⟩
theorem MS2.right {w w0 W : World} {g : Nat} {t : Tu} (h : MS2 w g t w0 W) : Calls Tryz.prog 17 #[tuV t] W fun e W' => ∃ v, e = .returned v ∧ v = .bool (rightT t) ∧ MS2 w g t w0 W' :=
  (right_any' t W h.1.2.1.1).mono fun _ _ ⟨he, hb⟩ => ⟨_, he, rfl, h.later hb⟩
theorem MS2.rright {w w0 W : World} {g : Nat} {t : Tu} (h : MS2 w g t w0 W) (hs : sizesT t 1000000) : Calls Tryz.prog 18 #[tuV t] W fun e W' => ∃ v, e = .returned v ∧ v = .bool (rightT t) ∧ MS2 w g t w0 W' :=
  (rrightT_any t hs W).mono fun _ _ ⟨he, hb⟩ => ⟨_, he, rfl, h.later hb⟩
set_option maxRecDepth 100000 in
set_option maxHeartbeats 4000000 in
theorem tmatch_law (t : Tu) (hz : sizesT t 140737488355328) (w : World) (hE : Env w) : Calls Tryz.prog 3 #[tuV t] w fun e w' => e = .returned (.bool true) ∧ Below w.heap.size w w' := by
  have b0 : Below w.heap.size w (w.alloc (.cells (tc t).toArray 25)) := (Below.refl _ _).alloc (Nat.le_refl _) _
  have HB0 := Lib.hid b0
  have HE0 := Lib.hid (hE.below b0)
  have HA0 := Lib.hid (tu_new w t)
  have HAW := Lib.hid (tawake_any _ HE0.out)
  have HSH := Lib.hid (short_any t hz)
  rcases hs : shortT t with _ | _
  · have HSF := Lib.hid hs
    clear b0 hE hz hs
    go_enter Tryz.func3, Tryz.ntmps3
    go_wp2_with fail
    generalize w.alloc (.cells (tc t).toArray 25) = w0 at HB0 HE0 HA0 HAW HSH ⊢
    refine HAW.out.mono ?_
    rintro e w1 ⟨rfl, b1⟩
    have HSH1 := Lib.hid (HSH.out w1)
    have HB1 := Lib.hid (HB0.out.trans (b1.mono HB0.out.size))
    have HE1 := Lib.hid (HE0.out.below b1)
    have HA1 := Lib.hid (HA0.out.later b1)
    clear b1 HB0 HE0 HA0 HAW HSH
    go_wp2_with ((with_reducible refine loadT (x := .tmp 1) (u := t) (o := ⟨some 14, _, _, _, _, _⟩) HA1.out ?_ ?_); exact ⟨rfl, rfl, rfl⟩)
    refine HSH1.out.mono ?_
    rintro e w2 ⟨rfl, b2⟩
    have HB2 := Lib.hid (HB1.out.trans (b2.mono HB1.out.size))
    have HE2 := Lib.hid (HE1.out.below b2)
    have HA2 := Lib.hid (HA1.out.later b2)
    clear b2 HB1 HE1 HA1 HSH1
    rw [HSF.out]
    have HAW3 := Lib.hid (tawake_any w2 HE2.out)
    go_wp2_with fail
    refine HAW3.out.mono ?_
    rintro e w3 ⟨rfl, b3⟩
    have HB3 := Lib.hid (HB2.out.trans (b3.mono HB2.out.size))
    have HE3 := Lib.hid (HE2.out.below b3)
    have HA3 := Lib.hid (HA2.out.later b3)
    clear b3 HB2 HE2 HA2 
    go_wp2_with fail
    go_ret
    exact ⟨rfl, HB3.out⟩
  · have HST := Lib.hid hs
    have HS6 : Hid (sizesT t 1000000) := (shortT_sizes hs).mono (by decide)
    clear b0 hE hz hs
    rcases hr : rightT t with _ | _
    · have HR := Lib.hid hr
      clear hr
      go_enter Tryz.func3, Tryz.ntmps3
      go_wp2_with fail
      generalize w.alloc (.cells (tc t).toArray 25) = w0 at HB0 HE0 HA0 HAW HSH ⊢
      refine HAW.out.mono ?_
      rintro e w1 ⟨rfl, b1⟩
      have HSH1 := Lib.hid (HSH.out w1)
      have HB1 := Lib.hid (HB0.out.trans (b1.mono HB0.out.size))
      have HE1 := Lib.hid (HE0.out.below b1)
      have HA1 := Lib.hid (HA0.out.later b1)
      clear b1 HB0 HE0 HA0 HAW HSH
      go_wp2_with ((with_reducible refine loadT (x := .tmp 1) (u := t) (o := ⟨some 14, _, _, _, _, _⟩) HA1.out ?_ ?_); exact ⟨rfl, rfl, rfl⟩)
      refine HSH1.out.mono ?_
      rintro e w2 ⟨rfl, b2⟩
      have HB2 := Lib.hid (HB1.out.trans (b2.mono HB1.out.size))
      have HE2 := Lib.hid (HE1.out.below b2)
      have HA2 := Lib.hid (HA1.out.later b2)
      clear b2 HB1 HE1 HA1 HSH1
      rw [HST.out]
      have HTX := Lib.hid (text_no t HR.out w2 HE2.out)
      go_wp2_with ((with_reducible refine loadT (x := .tmp 1) (u := t) (o := ⟨some 20, _, _, _, _, _⟩) HA2.out ?_ ?_); exact ⟨rfl, rfl, rfl⟩)
      refine HTX.out.mono ?_
      rintro e w3 ⟨rfl, b3⟩
      have HB3 := Lib.hid (HB2.out.trans (b3.mono HB2.out.size))
      have HE3 := Lib.hid (HE2.out.below b3)
      have HA3 := Lib.hid (HA2.out.later b3)
      clear b3 HB2 HE2 HA2 HTX
      have HPU := Lib.hid (put_no t HR.out w3 HE3.out.1)
      go_wp2_with ((with_reducible refine loadT (x := .tmp 1) (u := t) (o := ⟨some 25, _, _, _, _, _⟩) HA3.out ?_ ?_); exact ⟨rfl, rfl, rfl⟩)
      refine HPU.out.mono ?_
      rintro e w4 ⟨rfl, b4⟩
      have HB4 := Lib.hid (HB3.out.trans (b4.mono HB3.out.size))
      have HE4 := Lib.hid (HE3.out.below b4)
      have HA4 := Lib.hid (HA3.out.later b4)
      clear b4 HB3 HE3 HA3 HPU
      go_wp2_with fail
      have HM : Hid (MS w w.heap.size t w4) := ⟨HB4.out, HE4.out, HA4.out⟩
      clear HB4 HE4 HA4
      refine wp_region_noPanic ?_
      refine wp_region_held_drew (S := MS w w.heap.size t) (by kernel_rfl) (HM.out.later (Below.refl _ _).drew) (fun hHeld => ?_)
      try simp only [Act.put]
      generalize w4.drew = wd at hHeld ⊢
      clear HM
      refine takeT (i := 0) (o := ⟨some 29, _, _, _, _, _⟩) (u := t) rfl (by kernel_rfl) (by kernel_rfl) (by kernel_rfl) (fun _ _ _ h => h) (by rfl) ⟨rfl, rfl⟩ (fun _ h => h.2.2.range) hHeld ?_
      try simp only [Act.put, List.setIfInBounds_toArray, List.set_cons_zero, List.set_cons_succ]
      refine takeT (i := 2) (o := ⟨some 31, _, _, _, _, _⟩) (u := t) rfl (by kernel_rfl) (by kernel_rfl) (by kernel_rfl) (fun _ _ _ h => h) (by rfl) ⟨rfl, rfl⟩ (fun _ h => h.2.2.range) hHeld ?_
      try simp only [Act.put, List.setIfInBounds_toArray, List.set_cons_zero, List.set_cons_succ]
      refine wpAnyH_ready (rs := [1]) (by kernel_rfl) (by simp) ?_
      refine AllReadyH.cons (o := ⟨some 30, _, _, _, _, _⟩) rfl (fun K' hK' => ?_) AllReadyH.nil
      refine stepw_call (by rfl) ?_ (hHeld.right) ?_
      focus go_simp
      rintro v wa ⟨rfl, hkn⟩
      refine hK'.out _ _ hkn (fun _ => ?_)
      clear hK' K' hHeld
      have hHeld := hkn
      clear hkn
      try simp only [Act.put, List.setIfInBounds_toArray, List.set_cons_zero, List.set_cons_succ]
      refine wpAnyH_ready (rs := [3]) (by kernel_rfl) (by simp) ?_
      refine AllReadyH.cons (o := ⟨some 32, _, _, _, _, _⟩) rfl (fun K' hK' => ?_) AllReadyH.nil
      refine stepw_call (by rfl) ?_ (hHeld.rright HS6.out) ?_
      focus go_simp
      rintro v wb ⟨rfl, hkn⟩
      refine hK'.out _ _ hkn (fun _ => ?_)
      clear hK' K' hHeld
      have hHeld := hkn
      clear hkn
      try simp only [Act.put, List.setIfInBounds_toArray, List.set_cons_zero, List.set_cons_succ]
      rw [HR.out]
      refine wpAnyH_take (i := 4) (oi := ⟨some 33, _, _, _, _, _⟩) (v := .bool false) rfl (by kernel_rfl) (by kernel_rfl) (by kernel_rfl) (fun _ _ _ h => h) (.inl ⟨by rfl, fun w' hSw => ?_⟩) hHeld ?_
      focus (skip; clear hHeld; go_simp)
      try simp only [Act.put, List.setIfInBounds_toArray, List.set_cons_zero, List.set_cons_succ]
      refine wpAnyH_done (by kernel_rfl) ?_ _
      refine NoPanic.normal ?_
      have HB5 := Lib.hid hHeld.1
      have HE5 := Lib.hid hHeld.2.1
      have HA5 := Lib.hid hHeld.2.2
      clear hHeld
      generalize wb = w5 at HB5 HE5 HA5 ⊢
      have HRR := Lib.hid (rrightT_any t HS6.out w5)
      rw [HR.out] at HRR
      go_wp2_with ((with_reducible refine loadT (x := .tmp 1) (u := t) (o := ⟨some 34, _, _, _, _, _⟩) HA5.out ?_ ?_); exact ⟨rfl, rfl, rfl⟩)
      refine HRR.out.mono ?_
      rintro e w6 ⟨rfl, b6⟩
      have HB6 := Lib.hid (HB5.out.trans (b6.mono HB5.out.size))
      have HE6 := Lib.hid (HE5.out.below b6)
      have HA6 := Lib.hid (HA5.out.later b6)
      clear b6 HB5 HE5 HA5 HRR
      go_wp2_with fail
      go_ret
      exact ⟨rfl, HB6.out⟩
    · have HR := Lib.hid hr
      have HS3 : Hid (sizesT t 1000) := (sizes_right hr).mono (by decide)
      clear hr
      go_enter Tryz.func3, Tryz.ntmps3
      go_wp2_with fail
      generalize w.alloc (.cells (tc t).toArray 25) = w0 at HB0 HE0 HA0 HAW HSH ⊢
      refine HAW.out.mono ?_
      rintro e w1 ⟨rfl, b1⟩
      have HSH1 := Lib.hid (HSH.out w1)
      have HB1 := Lib.hid (HB0.out.trans (b1.mono HB0.out.size))
      have HE1 := Lib.hid (HE0.out.below b1)
      have HA1 := Lib.hid (HA0.out.later b1)
      clear b1 HB0 HE0 HA0 HAW HSH
      go_wp2_with ((with_reducible refine loadT (x := .tmp 1) (u := t) (o := ⟨some 14, _, _, _, _, _⟩) HA1.out ?_ ?_); exact ⟨rfl, rfl, rfl⟩)
      refine HSH1.out.mono ?_
      rintro e w2 ⟨rfl, b2⟩
      have HB2 := Lib.hid (HB1.out.trans (b2.mono HB1.out.size))
      have HE2 := Lib.hid (HE1.out.below b2)
      have HA2 := Lib.hid (HA1.out.later b2)
      clear b2 HB1 HE1 HA1 HSH1
      rw [HST.out]
      have HTX := Lib.hid (text_yes t HR.out w2 HE2.out)
      go_wp2_with ((with_reducible refine loadT (x := .tmp 1) (u := t) (o := ⟨some 20, _, _, _, _, _⟩) HA2.out ?_ ?_); exact ⟨rfl, rfl, rfl⟩)
      refine HTX.out.mono ?_
      rintro e w3 ⟨rfl, b3⟩
      have HB3 := Lib.hid (HB2.out.trans (b3.mono HB2.out.size))
      have HE3 := Lib.hid (HE2.out.below b3)
      have HA3 := Lib.hid (HA2.out.later b3)
      clear b3 HB2 HE2 HA2 HTX
      obtain ⟨tx, htx⟩ : ∃ tx, tx = textT t := ⟨_, rfl⟩
      rw [← htx]
      have HTE := Lib.hid htx
      have HTZ : Hid (tx.size ≤ 1000000) := by show tx.size ≤ 1000000; rw [htx]; exact Nat.le_trans (textT_len HR.out) (by decide)
      clear htx
      have HPU := Lib.hid (put_yes t HR.out w3 HE3.out.1)
      go_wp2_with ((with_reducible refine loadT (x := .tmp 1) (u := t) (o := ⟨some 25, _, _, _, _, _⟩) HA3.out ?_ ?_); exact ⟨rfl, rfl, rfl⟩)
      refine HPU.out.mono ?_
      rintro e w4 ⟨v, rfl, hh, b4⟩
      have HRD : Hid (Rd w4.heap.size w4 v (putT t)) := hh.rd
      obtain ⟨pv, cv, rfl⟩ := rd_form hh.rd
      clear hh
      obtain ⟨pl, hpl⟩ : ∃ pl, pl = putT t := ⟨_, rfl⟩
      rw [← hpl] at HRD ⊢
      have HPE := Lib.hid hpl
      have HPZ : Hid (pl.length ≤ 1000000) := by show pl.length ≤ 1000000; rw [hpl]; exact Nat.le_trans (putT_len HR.out) (by decide)
      clear hpl
      have HB4 := Lib.hid (HB3.out.trans (b4.mono HB3.out.size))
      have HE4 := Lib.hid (HE3.out.below b4)
      have HA4 := Lib.hid (HA3.out.later b4)
      clear b4 HB3 HE3 HA3 HPU
      go_wp2_with fail
      have HM : Hid (MS2 w w.heap.size t w4 w4) := ⟨⟨HB4.out, HE4.out, HA4.out⟩, Below.refl _ _⟩
      clear HB4 HE4 HA4
      refine wp_region_noPanic ?_
      refine wp_region_held_drew (S := MS2 w w.heap.size t w4) (by kernel_rfl) (HM.out.later (Below.refl _ _).drew) (fun hHeld => ?_)
      try simp only [Act.put]
      generalize w4.drew = wd at hHeld ⊢
      clear HM
      refine takeT (i := 0) (o := ⟨some 29, _, _, _, _, _⟩) (u := t) rfl (by kernel_rfl) (by kernel_rfl) (by kernel_rfl) (fun _ _ _ h => h) (by rfl) ⟨rfl, rfl⟩ (fun _ h => h.1.2.2.range) hHeld ?_
      try simp only [Act.put, List.setIfInBounds_toArray, List.set_cons_zero, List.set_cons_succ]
      refine takeT (i := 2) (o := ⟨some 31, _, _, _, _, _⟩) (u := t) rfl (by kernel_rfl) (by kernel_rfl) (by kernel_rfl) (fun _ _ _ h => h) (by rfl) ⟨rfl, rfl⟩ (fun _ h => h.1.2.2.range) hHeld ?_
      try simp only [Act.put, List.setIfInBounds_toArray, List.set_cons_zero, List.set_cons_succ]
      refine wpAnyH_ready (rs := [1]) (by kernel_rfl) (by simp) ?_
      refine AllReadyH.cons (o := ⟨some 30, _, _, _, _, _⟩) rfl (fun K' hK' => ?_) AllReadyH.nil
      refine stepw_call (by rfl) ?_ (hHeld.right) ?_
      focus go_simp
      rintro v wa ⟨rfl, hkn⟩
      refine hK'.out _ _ hkn (fun _ => ?_)
      clear hK' K' hHeld
      have hHeld := hkn
      clear hkn
      try simp only [Act.put, List.setIfInBounds_toArray, List.set_cons_zero, List.set_cons_succ]
      refine wpAnyH_ready (rs := [3]) (by kernel_rfl) (by simp) ?_
      refine AllReadyH.cons (o := ⟨some 32, _, _, _, _, _⟩) rfl (fun K' hK' => ?_) AllReadyH.nil
      refine stepw_call (by rfl) ?_ (hHeld.rright HS6.out) ?_
      focus go_simp
      rintro v wb ⟨rfl, hkn⟩
      refine hK'.out _ _ hkn (fun _ => ?_)
      clear hK' K' hHeld
      have hHeld := hkn
      clear hkn
      try simp only [Act.put, List.setIfInBounds_toArray, List.set_cons_zero, List.set_cons_succ]
      rw [HR.out]
      refine wpAnyH_take (i := 4) (oi := ⟨some 33, _, _, _, _, _⟩) (v := .bool false) rfl (by kernel_rfl) (by kernel_rfl) (by kernel_rfl) (fun _ _ _ h => h) (.inl ⟨by rfl, fun w' hSw => ?_⟩) hHeld ?_
      focus (skip; clear hHeld; go_simp)
      try simp only [Act.put, List.setIfInBounds_toArray, List.set_cons_zero, List.set_cons_succ]
      refine wpAnyH_done (by kernel_rfl) ?_ _
      refine NoPanic.normal ?_
      have HB5 := Lib.hid hHeld.1.1
      have HE5 := Lib.hid hHeld.1.2.1
      have HA5 := Lib.hid hHeld.1.2.2
      have HRD5 := Lib.hid (rd_now (B := 0) HRD.out hHeld.2)
      clear HRD
      clear hHeld
      generalize wb = w5 at HB5 HE5 HA5 HRD5 ⊢
      have HRR := Lib.hid (rrightT_any t HS6.out w5)
      rw [HR.out] at HRR
      go_wp2_with ((with_reducible refine loadT (x := .tmp 1) (u := t) (o := ⟨some 34, _, _, _, _, _⟩) HA5.out ?_ ?_); exact ⟨rfl, rfl, rfl⟩)
      refine HRR.out.mono ?_
      rintro e w6 ⟨rfl, b6⟩
      have HB6 := Lib.hid (HB5.out.trans (b6.mono HB5.out.size))
      have HE6 := Lib.hid (HE5.out.below b6)
      have HA6 := Lib.hid (HA5.out.later b6)
      have HRD6 := Lib.hid (rd_now (B := 0) HRD5.out b6)
      clear b6 HB5 HE5 HA5 HRR HRD5
      have HPA : Hid (Calls Tryz.prog 19 #[.string tx] w6 fun e w' => e = .returned (.tuple #[tuV t, .nilIface]) ∧ Below w6.heap.size w6 w') := by
        have h := tparse_any tx w6 HE6.out HTZ.out
        rw [show parseT tx = (t, 0, 0) by rw [HTE.out, parse_text HR.out]] at h
        exact h
      go_wp2_with fail
      refine HPA.out.mono ?_
      rintro e w7 ⟨rfl, b7⟩
      have hb8 : Below w7.heap.size w7 (w7.alloc (.cells (tc t).toArray 25)) := (Below.refl _ _).alloc (Nat.le_refl _) _
      have HB8 := Lib.hid ((HB6.out.trans (b7.mono HB6.out.size)).trans (hb8.mono (HB6.out.trans (b7.mono HB6.out.size)).size))
      have HE8 := Lib.hid ((HE6.out.below b7).below hb8)
      have HA8 := Lib.hid ((HA6.out.later b7).later hb8)
      have HRD8 := Lib.hid (rd_now (B := 0) (rd_now (B := 0) HRD6.out b7) hb8)
      have HX8 := Lib.hid (tu_new w7 t)
      clear b7 hb8 HPA HB6 HE6 HA6 HRD6
      go_upto_region 10 with ((with_reducible refine atT w7.heap.size (x := .tmp 7) (y := .tmp 55) (u := t) (o := ⟨none, .store _ _ _, _, _, _, _⟩) ?_ ?_); exact ⟨rfl, rfl, rfl, rfl, rfl, rfl⟩)
      generalize w7.alloc (.cells (tc t).toArray 25) = w8 at HB8 HE8 HA8 HX8 HRD8 ⊢
      generalize w7.heap.size = g8 at HX8 ⊢
      have HPB : Hid (Calls Tryz.prog 20 #[.slice pv pl.length cv] w8 fun e w' => e = .returned (.tuple #[tuV t, .nilIface]) ∧ Below w8.heap.size w8 w') := by
        have h := tparseB_any HRD8.out (Nat.le_refl _) HPZ.out HE8.out
        rw [show parseB pl = (t, 0, 0) by rw [HPE.out, parseB_put HR.out]] at h
        exact h
      go_wp2_with fail
      refine HPB.out.mono ?_
      rintro e w9 ⟨rfl, b9⟩
      have hb10 : Below w9.heap.size w9 (w9.alloc (.cells (tc t).toArray 25)) := (Below.refl _ _).alloc (Nat.le_refl _) _
      have HB10 := Lib.hid ((HB8.out.trans (b9.mono HB8.out.size)).trans (hb10.mono (HB8.out.trans (b9.mono HB8.out.size)).size))
      have HE10 := Lib.hid ((HE8.out.below b9).below hb10)
      have HA10 := Lib.hid ((HA8.out.later b9).later hb10)
      have HRD10 := Lib.hid (rd_now (B := 0) (rd_now (B := 0) HRD8.out b9) hb10)
      have HX10 := Lib.hid ((HX8.out.later b9).later hb10)
      have HY10 := Lib.hid (tu_new w9 t)
      clear b9 hb10 HPB HB8 HE8 HA8 HRD8 HX8
      go_upto_region 11 with ((with_reducible refine atT w9.heap.size (x := .tmp 9) (y := .tmp 60) (u := t) (o := ⟨none, .store _ _ _, _, _, _, _⟩) ?_ ?_); exact ⟨rfl, rfl, rfl, rfl, rfl, rfl⟩)
      generalize w9.alloc (.cells (tc t).toArray 25) = w10 at HB10 HE10 HA10 HX10 HY10 HRD10 ⊢
      generalize w9.heap.size = g10 at HY10 ⊢
      have HRT := Lib.hid (rtextT_any t HS6.out w10)
      rw [← HTE.out] at HRT
      go_wp2_with ((with_reducible refine loadT (x := .tmp 1) (u := t) (o := ⟨some 68, _, _, _, _, _⟩) HA10.out ?_ ?_); exact ⟨rfl, rfl, rfl⟩)
      refine HRT.out.mono ?_
      rintro e w11 ⟨rfl, b11⟩
      have HB11 := Lib.hid (HB10.out.trans (b11.mono HB10.out.size))
      have HE11 := Lib.hid (HE10.out.below b11)
      have HA11 := Lib.hid (HA10.out.later b11)
      have HRD11 := Lib.hid (rd_now (B := 0) HRD10.out b11)
      have HX11 := Lib.hid (HX10.out.later b11)
      have HY11 := Lib.hid (HY10.out.later b11)
      clear b11 HB10 HE10 HA10 HRT HRD10 HX10 HY10
      have HRU := Lib.hid (rput_any t HS3.out w11)
      rw [← HPE.out] at HRU
      go_wp2_with ((with_reducible refine loadT (x := .tmp 1) (u := t) (o := ⟨some 74, _, _, _, _, _⟩) HA11.out ?_ ?_); exact ⟨rfl, rfl, rfl⟩)
      refine HRU.out.mono ?_
      rintro e w12 ⟨v12, rfl, hh12, b12⟩
      have HSM := Lib.hid (same_any (rd_now (B := 0) HRD11.out b12) hh12.rd)
      rw [eqB_refl] at HSM
      obtain ⟨p12, c12, rfl⟩ := rd_form hh12.rd
      clear hh12
      have HB12 := Lib.hid (HB11.out.trans (b12.mono HB11.out.size))
      have HE12 := Lib.hid (HE11.out.below b12)
      have HA12 := Lib.hid (HA11.out.later b12)
      have HX12 := Lib.hid (HX11.out.later b12)
      have HY12 := Lib.hid (HY11.out.later b12)
      clear b12 HB11 HE11 HA11 HRU HRD11 HX11 HY11
      go_wp2_with fail
      refine HSM.out.mono ?_
      rintro e w13 ⟨rfl, n13, rfl⟩
      have b13 := below_drewN (Below.refl w12.heap.size w12) n13
      generalize w12.drewN n13 = w13 at b13 ⊢
      have HB13 := Lib.hid (HB12.out.trans (b13.mono HB12.out.size))
      have HE13 := Lib.hid (HE12.out.below b13)
      have HA13 := Lib.hid (HA12.out.later b13)
      have HX13 := Lib.hid (HX12.out.later b13)
      have HY13 := Lib.hid (HY12.out.later b13)
      clear b13 HB12 HE12 HA12 HSM HX12 HY12
      have hee : Hid (eqT t t = true) := eqT_refl t
      go_wp2_with (first
        | ((with_reducible refine loadT (x := .tmp 7) (u := t) (o := ⟨some 83, _, _, _, _, _⟩) HX13.out ?_ ?_); exact ⟨rfl, rfl, rfl⟩)
        | ((with_reducible refine loadT (x := .tmp 1) (u := t) (o := ⟨some 84, _, _, _, _, _⟩) HA13.out ?_ ?_); exact ⟨rfl, rfl, rfl⟩)
        | ((with_reducible refine eqW hee.out (t := 25) (x := .tmp 83) (y := .tmp 84) (o := ⟨some 85, _, _, _, _, _⟩) ?_ ?_); exact ⟨rfl, rfl, rfl, rfl⟩)
        | ((with_reducible refine loadT (x := .tmp 9) (u := t) (o := ⟨some 92, _, _, _, _, _⟩) HY13.out ?_ ?_); exact ⟨rfl, rfl, rfl⟩)
        | ((with_reducible refine loadT (x := .tmp 1) (u := t) (o := ⟨some 93, _, _, _, _, _⟩) HA13.out ?_ ?_); exact ⟨rfl, rfl, rfl⟩)
        | ((with_reducible refine eqW hee.out (t := 25) (x := .tmp 92) (y := .tmp 93) (o := ⟨some 94, _, _, _, _, _⟩) ?_ ?_); exact ⟨rfl, rfl, rfl, rfl⟩))
      go_ret
      exact ⟨rfl, HB13.out⟩
end Go.Proofs.YtnnebfcggdbgpaaGreatDoor
/-
  vestrylaw18.TupleSorts: the walk.
-/
namespace Go.Proofs.YtnnebfcggdbgpaaGreatDoor
open Go.ChangeShapes Go.WideShapes Go.ChangeAt Go.RowKit
open errAs (ErrT)
set_option linter.unusedVariables false

theorem fewT_out {l : List Tu} (h : fewT l = true) : (∀ x ∈ l, sizesT x 1500) ∧ l.length ≤ 60 := by
  unfold fewT at h
  rw [Bool.and_eq_true, List.all_eq_true] at h
  exact ⟨fun x hx => shortT_sizes (h.1 x hx), of_decide_eq_true h.2⟩
theorem same_self (l : List Tu) : sameT l l = true := decide_eq_true rfl
theorem rcmpS {w W : World} (x y : Tu) (hx : sizesT x 1000000) (hy : sizesT y 1000000) (h : Below w.heap.size w W) : Calls Tryz.prog 36 #[tuV x, tuV y] W fun e W' => ∃ v, e = .returned v ∧ v = .int .i64 (ordT x y) ∧ Below w.heap.size w W' :=
  (rcompare_any x y hx hy W).mono fun _ _ ⟨he, hb⟩ => ⟨_, he, rfl, h.trans (hb.mono h.size)⟩
theorem appR {ops : Array Oper} {rest : List Oper} {o : Oper} {a : Act} {Q : Exit → Act → World → Prop} {w : World} (hgd : o.guard = none) (s x : Operand) (ho : o.op = .call { callee := .builtin .append, args := #[s, x], argTypes := #[52, 52] })
    {base n m c : Nat} {v : Value} {xs news : List Tu} {p : Option Addr} (hs : a.eval s = v) (hown : w.ownsRow base 25 6 v n (xs.flatMap tc)) (hx : a.eval x = .slice p m c) (h2 : TuRd w (.slice p m c) news) (hm : news.length = m)
    (hlen : n + m ≤ 1000000) (hbase : base ≤ w.heap.size)
    (h : ∀ v' w', w'.ownsRow base 25 6 v' (n + m) ((xs ++ news).flatMap tc) → Below base w w' → wpList Tryz.prog ops Q rest (a.put o.dst v') w') : wpList Tryz.prog ops Q (o :: rest) a w := by
  obtain ⟨i0, hi⟩ : ∃ i, Tryz.prog.info? 25 = some i := Option.isSome_iff_exists.1 (by kernel_rfl)
  have q1 : (Tryz.prog.info? 25).bind (·.zero) = some (tuV t0) := by kernel_rfl
  have q2 : (Tryz.prog.info? 25).map (·.size) = some 6 := by kernel_rfl
  have q3 : (Tryz.prog.info? 25).map (·.bytes) = some 96 := by kernel_rfl
  rw [hi] at q1 q2 q3
  rcases h2 with ⟨h1, h2⟩ | ⟨ad, cap, h1, h2, h3⟩
  · simp only [Value.slice.injEq] at h1
    obtain ⟨rfl, rfl, rfl⟩ := h1
    subst h2
    refine wpList_append_own_none hgd s x 52 ho base 25 i0 6 Tryz.underlying52 hi v n _ hs hown hx ?_
    exact h v w (by rw [List.append_nil]; exact hown) (Below.refl _ _)
  · simp only [Value.slice.injEq] at h1
    obtain ⟨rfl, _, rfl⟩ := h1
    refine wpList_append_own w hgd s x 52 ho base 25 i0 (tuV t0) 6 96 Tryz.underlying52 hi q1 (Option.some.inj q2) (Option.some.inj q3) (by kernel_rfl) (by decide) v n _ hs hown ad m c (news.flatMap tc) hx (by rw [flat_len, hm]) ?_ ?_ (by unfold maxLen; omega) (by omega) hbase ?_
    · intro j u hj
      have hj' := (List.getElem?_eq_some_iff.1 hj).1
      rw [flat_len] at hj'
      obtain ⟨b, off, rfl, _, hr⟩ := h3 (by omega)
      rw [show (Addr.add ⟨b, off, none⟩ j) = ⟨b, off + j, none⟩ by cases j <;> simp [Addr.add]]
      exact hr j u hj
    · intro u hu
      obtain ⟨y, _, hy⟩ := List.mem_flatMap.1 hu
      exact tc_one y u hy
    · intro v' w' r1 r2 _
      exact h v' w' (by rw [List.flatMap_append]; exact r1) ((Below.refl _ _).grown r2 hbase (fun k hk => (hown.lt k hk).1))
set_option maxRecDepth 100000 in
set_option maxHeartbeats 4000000 in
theorem tsorts_law (l : List Tu) {sv : Value} (hz : ∀ t ∈ l, sizesT t 140737488355328) (hl : l.length ≤ 140737488355328) (w : World) (hs : TuRd w sv l) (hE : Env w) : Calls Tryz.prog 6 #[sv] w fun e w' => e = .returned (.bool true) ∧ Below w.heap.size w w' := by
  have HB0 : Hid (Below w.heap.size w w) := Below.refl _ _
  have HE0 := Lib.hid hE
  have HS := Lib.hid hs
  have HZ := Lib.hid hz
  have HLN := Lib.hid hl
  have HAW := Lib.hid (tawake_any w hE)
  obtain ⟨p, c, rfl, hrow⟩ := hs.form tc_length (by decide)
  have HW := Lib.hid hrow
  clear hE hz hl hs hrow
  go_enter Tryz.func6, Tryz.ntmps6
  go_wp2_with fail
  refine HAW.out.mono ?_
  rintro e w1 ⟨rfl, b1⟩
  have HB1 := Lib.hid (HB0.out.trans (b1.mono HB0.out.size))
  have HE1 := Lib.hid (HE0.out.below b1)
  have HS1 := Lib.hid (HS.out.below b1)
  have HFW := Lib.hid (few_any HS1.out HZ.out HLN.out)
  clear b1 HB0 HE0 HAW
  go_wp2_with fail
  refine HFW.out.mono ?_
  rintro e w2 ⟨rfl, b2⟩
  have HB2 := Lib.hid (HB1.out.trans (b2.mono HB1.out.size))
  have HE2 := Lib.hid (HE1.out.below b2)
  have HS2 := Lib.hid (HS1.out.below b2)
  clear b2 HB1 HE1 HFW HS1
  rcases hf : fewT l with _ | _
  · have HAW2 := Lib.hid (tawake_any w2 HE2.out)
    go_wp2_with fail
    refine HAW2.out.mono ?_
    rintro e w3 ⟨rfl, b3⟩
    have HB3 := Lib.hid (HB2.out.trans (b3.mono HB2.out.size))
    have HE3 := Lib.hid (HE2.out.below b3)
    clear b3 HB2 HE2 
    go_wp2_with fail
    go_ret
    exact ⟨rfl, HB3.out⟩
  · have hff := fewT_out hf
    have HL6 : Hid (l.length ≤ 60) := hff.2
    have HZ5 : Hid (∀ x ∈ l, sizesT x 1000000) := fun x hx => (hff.1 x hx).mono (by decide)
    have h60 := hff.2
    clear hf hff HLN HZ
    have ba : Below w2.heap.size w2 (w2.alloc (.cells #[] 25)) := (Below.refl _ _).alloc (Nat.le_refl _) _
    have HBA := Lib.hid ba
    have HSA := Lib.hid (HS2.out.below ba)
    have HW1 : Hid (World.ownsRow (w2.alloc (.cells #[] 25)) w2.heap.size 25 6 (.slice (some ⟨w2.heap.size, 0, none⟩) 0 0) 0 (([] : List Tu).flatMap tc)) := World.ownsRow_made w2 #[] 0 (Nat.le_refl _) (Nat.zero_le _) (by simp)
    clear ba
    go_upto_region 4 with (at_builtin; refine appR rfl _ _ rfl (base := w2.heap.size) (xs := []) (news := l) rfl HW1.out rfl HSA.out rfl (by have := HL6.out; omega) HBA.out.size ?_; intro v3 w3 h3 b3)
    have HB3 := Lib.hid (HB2.out.trans ((HBA.out.trans b3).mono HB2.out.size))
    have HE3 := Lib.hid (HE2.out.below (HBA.out.trans b3))
    have HO3 : Hid (TuSl w3 v3 l) := ownsRow_sl (base := w2.heap.size) (by have h := h3; rw [Nat.zero_add, List.nil_append] at h; exact h)
    clear HB2 HE2 HS2 HBA HSA HW1 b3 h3
    have HSO := Lib.hid (tsorted_any HO3.out (by have := HL6.out; omega))
    go_wp2_with fail
    refine HSO.out.mono ?_
    rintro e w4 ⟨v4, rfl, b4, hs4⟩
    have HB4 := Lib.hid (HB3.out.trans (b4.mono HB3.out.size))
    have HE4 := Lib.hid (HE3.out.below b4)
    have HO4 := Lib.hid (HO3.out.below b4)
    have HQ4 := Lib.hid hs4
    clear b4 HB3 HE3 HSO HO3 hs4
    have HSR := Lib.hid (rsorted_any (HS.out.below HB4.out) HZ5.out (by have := HL6.out; omega))
    go_wp2_with fail
    refine HSR.out.mono ?_
    rintro e w5 ⟨v5, rfl, b5, hs5⟩
    have HB5 := Lib.hid (HB4.out.trans (b5.mono HB4.out.size))
    have HE5 := Lib.hid (HE4.out.below b5)
    have HO5 := Lib.hid (HO4.out.below b5)
    have HQ5 := Lib.hid (HQ4.out.below b5)
    have HP5 := Lib.hid hs5
    clear b5 HB4 HE4 HSR HO4 HQ4 hs5
    have HLS : Hid ((sortedT l).length ≤ 140737488355328) := by
      show _ ≤ _
      have h1 := srt_len l []
      have h2 := HL6.out
      unfold sortedT
      simp only [List.length_nil] at h1
      omega
    have HSM := Lib.hid (samel_any HQ5.out.rd HP5.out.rd HLS.out HLS.out)
    rw [same_self] at HSM
    go_wp2_with fail
    refine HSM.out.mono ?_
    rintro e w6 ⟨rfl, b6⟩
    have HB6 := Lib.hid (HB5.out.trans (b6.mono HB5.out.size))
    have HE6 := Lib.hid (HE5.out.below b6)
    have HO6 := Lib.hid (HO5.out.below b6)
    clear b6 HB5 HE5 HSM HO5 HQ5 HP5 HLS
    have HSN := Lib.hid (samel_any HO6.out.rd (HS.out.below HB6.out) (by have := HL6.out; omega) (by have := HL6.out; omega))
    rw [same_self] at HSN
    go_wp2_with fail
    refine HSN.out.mono ?_
    rintro e w7 ⟨rfl, b7⟩
    have HB7 := Lib.hid (HB6.out.trans (b7.mono HB6.out.size))
    have HE7 := Lib.hid (HE6.out.below b7)
    clear b7 HB6 HE6 HSN HO6
    go_wp2_with fail
    go_loopg [5, 6, 7] (l.length + 1) (fun g s5 s6 s7 wr => ∃ k : Nat, k ≤ l.length ∧ l.length + 1 - k ≤ g ∧ s5 = .int .i64 k ∧ Below w.heap.size w wr)
    case atStart => exact ⟨0, by omega, by omega, rfl, HB7.out⟩
    case round =>
      obtain ⟨i, hi, hg, rfl, hb⟩ := hrel
      have HB := Lib.hid hb
      clear hb HB7 HE7
      by_cases hlt : i < l.length
      · by_cases h6 : i < 6
        · have HI := Lib.hid hlt
          have h6i : (i : Int) < 6 := by omega
          go_wp2_with fail
          go_loopg [6, 7] (l.length + 1) (fun g s6 s7 wr => ∃ k : Nat, k ≤ l.length ∧ l.length + 1 - k ≤ g ∧ s6 = .int .i64 k ∧ Below w.heap.size w wr)
          case atStart => exact ⟨0, by omega, by omega, rfl, HB.out⟩
          case round =>
            obtain ⟨k, hk, hgk, rfl, hb⟩ := hrel
            have HK := Lib.hid hb
            clear hb
            by_cases hkl : k < l.length
            · by_cases hk6 : k < 6
              · have k6i : (k : Int) < 6 := by omega
                obtain ⟨b, off, rfl, hbl, ri⟩ := HW.out i HI.out
                obtain ⟨b', off', hbo, _, rk⟩ := HW.out k hkl
                simp only [Option.some.injEq, Addr.mk.injEq, and_true] at hbo
                obtain ⟨rfl, rfl⟩ := hbo
                obtain ⟨x, hx⟩ : ∃ x, x = l[i] := ⟨_, rfl⟩
                obtain ⟨y, hy⟩ : ∃ y, y = l[k] := ⟨_, rfl⟩
                have HZX : Hid (sizesT x 1000000) := by rw [hx]; exact HZ5.out _ (List.getElem_mem HI.out)
                have HZY : Hid (sizesT y 1000000) := by rw [hy]; exact HZ5.out _ (List.getElem_mem hkl)
                have ri : w.rangeAt b (off + i * 6) (tc x) := by rw [hx]; exact ri
                have rk : w.rangeAt b (off + k * 6) (tc y) := by rw [hy]; exact rk
                have HRI : Hid (∀ W, Below w.heap.size w W → W.rangeAt b (off + i * 6) (tc x)) := fun W hB => range_below ri hbl hB
                have HRK : Hid (∀ W, Below w.heap.size w W → W.rangeAt b (off + k * 6) (tc y)) := fun W hB => range_below rk hbl hB
                clear hx hy ri rk hbl
                have hwd := HK.out.trans ((Below.refl wr.heap.size wr).drew.mono HK.out.size)
                have HX1 : Hid ((wr.drew).rangeAt b (off + i * 6) (tc x)) := HRI.out _ hwd
                have HY1 : Hid ((wr.drew).rangeAt b (off + k * 6) (tc y)) := HRK.out _ hwd
                have HCM := Lib.hid (tcompare_below x y wr.drew)
                clear hwd
                go_wp2_with fail
                refine region_tail 8 (by kernel_rfl) (by kernel_rfl) ?_
                simp only [List.take_succ_cons, List.take_zero, List.drop_succ_cons, List.drop_zero]
                repeat first
                  | still_step
                  | ((with_reducible refine stillG (x := .tmp 54) (o := ⟨some 55, _, _, _, _, _⟩) HX1.out ?_ ?_); exact ⟨rfl, rfl, by go_simp⟩)
                  | ((with_reducible refine stillG (x := .tmp 58) (o := ⟨some 59, _, _, _, _, _⟩) HY1.out ?_ ?_); exact ⟨rfl, rfl, by go_simp⟩)
                refine wpStill_nil ?_
                clear HX1 HY1
                have HKD := Lib.hid (HK.out.trans ((Below.refl wr.heap.size wr).drew.mono HK.out.size))
                generalize wr.drew = wd at HCM HKD ⊢
                go_wp2_with fail
                refine HCM.out.mono ?_
                rintro e w8 ⟨rfl, b8⟩
                have HB8 := Lib.hid (HKD.out.trans (b8.mono HKD.out.size))
                clear b8 HCM HK HKD
                obtain ⟨n, hn⟩ : ∃ n, n = ordT x y := ⟨_, rfl⟩
                have HN := Lib.hid hn
                obtain ⟨r, hr⟩ : ∃ r, r = (n == 0) := ⟨_, rfl⟩
                have HRE : Hid (eqT x y = r) := by
                  show _ = _
                  rw [hr, hn]
                  rcases he : eqT x y with _ | _
                  · exact (beq_eq_false_iff_ne.2 fun h => by rw [ordT_eq h, eqT_refl] at he; cases he).symm
                  · exact (beq_iff_eq.2 (by rw [(eqT_iff _ _).1 he]; exact ordT_self _)).symm
                rw [← hn]
                have HRR := Lib.hid hr
                clear hn hr
                go_wp2_with fail
                refine wp_region_noPanic ?_
                refine wp_region_held_drew (S := Below w.heap.size w) (by kernel_rfl) (HB8.out.trans ((Below.refl w8.heap.size w8).drew.mono HB8.out.size)) (fun hHeld => ?_)
                try simp only [Act.put]
                generalize w8.drew = wd at hHeld ⊢
                clear HB8
                refine wpAnyH_take (i := 0) (oi := ⟨some 61, _, _, _, _, _⟩) (v := .int .i64 n) rfl (by kernel_rfl) (by kernel_rfl) (by kernel_rfl) (fun _ _ _ h => h) (.inl ⟨by rfl, fun w' hSw => ?_⟩) hHeld ?_
                focus (skip; clear hHeld; go_simp)
                try simp only [Act.put, List.setIfInBounds_toArray, List.set_cons_zero, List.set_cons_succ]
                refine wpAnyH_take (i := 1) (oi := ⟨some 62, _, _, _, _, _⟩) (v := .slice (some ⟨b, off, none⟩) l.length c) rfl (by kernel_rfl) (by kernel_rfl) (by kernel_rfl) (fun _ _ _ h => h) (.inl ⟨by rfl, fun w' hSw => ?_⟩) hHeld ?_
                focus (skip; clear hHeld; go_simp)
                try simp only [Act.put, List.setIfInBounds_toArray, List.set_cons_zero, List.set_cons_succ]
                refine wpAnyH_take (i := 2) (oi := ⟨some 63, _, _, _, _, _⟩) (v := .int .i64 i) rfl (by kernel_rfl) (by kernel_rfl) (by kernel_rfl) (fun _ _ _ h => h) (.inl ⟨by rfl, fun w' hSw => ?_⟩) hHeld ?_
                focus (skip; clear hHeld; go_simp)
                try simp only [Act.put, List.setIfInBounds_toArray, List.set_cons_zero, List.set_cons_succ]
                refine wpAnyH_take (i := 3) (oi := ⟨some 64, _, _, _, _, _⟩) (v := .pointer (some ⟨b, off + i * 6, none⟩)) rfl (by kernel_rfl) (by kernel_rfl) (by kernel_rfl) (fun _ _ _ h => h) (.inl ⟨by rfl, fun w' hSw => ?_⟩) hHeld ?_
                focus (skip; clear hHeld; go_simp)
                try simp only [Act.put, List.setIfInBounds_toArray, List.set_cons_zero, List.set_cons_succ]
                refine takeT (i := 4) (o := ⟨some 65, _, _, _, _, _⟩) (u := x) rfl (by kernel_rfl) (by kernel_rfl) (by kernel_rfl) (fun _ _ _ h => h) (by rfl) ⟨rfl, rfl⟩ (fun _ h => HRI.out _ h) hHeld ?_
                try simp only [Act.put, List.setIfInBounds_toArray, List.set_cons_zero, List.set_cons_succ]
                refine wpAnyH_take (i := 5) (oi := ⟨some 66, _, _, _, _, _⟩) (v := .slice (some ⟨b, off, none⟩) l.length c) rfl (by kernel_rfl) (by kernel_rfl) (by kernel_rfl) (fun _ _ _ h => h) (.inl ⟨by rfl, fun w' hSw => ?_⟩) hHeld ?_
                focus (skip; clear hHeld; go_simp)
                try simp only [Act.put, List.setIfInBounds_toArray, List.set_cons_zero, List.set_cons_succ]
                refine wpAnyH_take (i := 6) (oi := ⟨some 67, _, _, _, _, _⟩) (v := .int .i64 k) rfl (by kernel_rfl) (by kernel_rfl) (by kernel_rfl) (fun _ _ _ h => h) (.inl ⟨by rfl, fun w' hSw => ?_⟩) hHeld ?_
                focus (skip; clear hHeld; go_simp)
                try simp only [Act.put, List.setIfInBounds_toArray, List.set_cons_zero, List.set_cons_succ]
                refine wpAnyH_take (i := 7) (oi := ⟨some 68, _, _, _, _, _⟩) (v := .pointer (some ⟨b, off + k * 6, none⟩)) rfl (by kernel_rfl) (by kernel_rfl) (by kernel_rfl) (fun _ _ _ h => h) (.inl ⟨by rfl, fun w' hSw => ?_⟩) hHeld ?_
                focus (skip; clear hHeld; go_simp)
                try simp only [Act.put, List.setIfInBounds_toArray, List.set_cons_zero, List.set_cons_succ]
                refine takeT (i := 8) (o := ⟨some 69, _, _, _, _, _⟩) (u := y) rfl (by kernel_rfl) (by kernel_rfl) (by kernel_rfl) (fun _ _ _ h => h) (by rfl) ⟨rfl, rfl⟩ (fun _ h => HRK.out _ h) hHeld ?_
                try simp only [Act.put, List.setIfInBounds_toArray, List.set_cons_zero, List.set_cons_succ]
                refine wpAnyH_ready (rs := [9]) (by kernel_rfl) (by simp) ?_
                refine AllReadyH.cons (o := ⟨some 70, _, _, _, _, _⟩) rfl (fun K' hK' => ?_) AllReadyH.nil
                refine stepw_call (by rfl) ?_ ((rcmpS x y HZX.out HZY.out hHeld)) ?_
                focus go_simp
                rintro v wb ⟨rfl, hkn⟩
                refine hK'.out _ _ hkn (fun _ => ?_)
                clear hK' K' hHeld
                have hHeld := hkn
                clear hkn
                try simp only [Act.put, List.setIfInBounds_toArray, List.set_cons_zero, List.set_cons_succ]
                rw [← HN.out]
                refine wpAnyH_take (i := 10) (oi := ⟨some 71, _, _, _, _, _⟩) (v := .bool false) rfl (by kernel_rfl) (by kernel_rfl) (by kernel_rfl) (fun _ _ _ h => h) (.inl ⟨by rfl, fun w' hSw => ?_⟩) hHeld ?_
                focus (skip; clear hHeld; go_simp)
                try simp only [Act.put, List.setIfInBounds_toArray, List.set_cons_zero, List.set_cons_succ]
                refine wpAnyH_take (i := 11) (oi := ⟨some 72, _, _, _, _, _⟩) (v := .bool false) rfl (by kernel_rfl) (by kernel_rfl) (by kernel_rfl) (fun _ _ _ h => h) (.inl ⟨by rfl, fun w' hSw => ?_⟩) hHeld ?_
                focus (skip; clear hHeld; go_simp)
                try simp only [Act.put, List.setIfInBounds_toArray, List.set_cons_zero, List.set_cons_succ]
                refine wpAnyH_take (i := 12) (oi := ⟨some 73, _, _, _, _, _⟩) (v := .int .i64 n) rfl (by kernel_rfl) (by kernel_rfl) (by kernel_rfl) (fun _ _ _ h => h) (.inl ⟨by rfl, fun w' hSw => ?_⟩) hHeld ?_
                focus (skip; clear hHeld; go_simp)
                try simp only [Act.put, List.setIfInBounds_toArray, List.set_cons_zero, List.set_cons_succ]
                refine wpAnyH_take (i := 13) (oi := ⟨some 74, _, _, _, _, _⟩) (v := .bool r) rfl (by kernel_rfl) (by kernel_rfl) (by kernel_rfl) (fun _ _ _ h => h) (.inl ⟨by rfl, fun w' hSw => ?_⟩) hHeld ?_
                focus (have hq' : (n == 0) = r := HRR.out.symm; clear hHeld; go_simp)
                try simp only [Act.put, List.setIfInBounds_toArray, List.set_cons_zero, List.set_cons_succ]
                refine wpAnyH_take (i := 14) (oi := ⟨some 75, _, _, _, _, _⟩) (v := .slice (some ⟨b, off, none⟩) l.length c) rfl (by kernel_rfl) (by kernel_rfl) (by kernel_rfl) (fun _ _ _ h => h) (.inl ⟨by rfl, fun w' hSw => ?_⟩) hHeld ?_
                focus (skip; clear hHeld; go_simp)
                try simp only [Act.put, List.setIfInBounds_toArray, List.set_cons_zero, List.set_cons_succ]
                refine wpAnyH_take (i := 15) (oi := ⟨some 76, _, _, _, _, _⟩) (v := .int .i64 i) rfl (by kernel_rfl) (by kernel_rfl) (by kernel_rfl) (fun _ _ _ h => h) (.inl ⟨by rfl, fun w' hSw => ?_⟩) hHeld ?_
                focus (skip; clear hHeld; go_simp)
                try simp only [Act.put, List.setIfInBounds_toArray, List.set_cons_zero, List.set_cons_succ]
                refine wpAnyH_take (i := 16) (oi := ⟨some 77, _, _, _, _, _⟩) (v := .pointer (some ⟨b, off + i * 6, none⟩)) rfl (by kernel_rfl) (by kernel_rfl) (by kernel_rfl) (fun _ _ _ h => h) (.inl ⟨by rfl, fun w' hSw => ?_⟩) hHeld ?_
                focus (skip; clear hHeld; go_simp)
                try simp only [Act.put, List.setIfInBounds_toArray, List.set_cons_zero, List.set_cons_succ]
                refine takeT (i := 17) (o := ⟨some 78, _, _, _, _, _⟩) (u := x) rfl (by kernel_rfl) (by kernel_rfl) (by kernel_rfl) (fun _ _ _ h => h) (by rfl) ⟨rfl, rfl⟩ (fun _ h => HRI.out _ h) hHeld ?_
                try simp only [Act.put, List.setIfInBounds_toArray, List.set_cons_zero, List.set_cons_succ]
                refine wpAnyH_take (i := 18) (oi := ⟨some 79, _, _, _, _, _⟩) (v := .slice (some ⟨b, off, none⟩) l.length c) rfl (by kernel_rfl) (by kernel_rfl) (by kernel_rfl) (fun _ _ _ h => h) (.inl ⟨by rfl, fun w' hSw => ?_⟩) hHeld ?_
                focus (skip; clear hHeld; go_simp)
                try simp only [Act.put, List.setIfInBounds_toArray, List.set_cons_zero, List.set_cons_succ]
                refine wpAnyH_take (i := 19) (oi := ⟨some 80, _, _, _, _, _⟩) (v := .int .i64 k) rfl (by kernel_rfl) (by kernel_rfl) (by kernel_rfl) (fun _ _ _ h => h) (.inl ⟨by rfl, fun w' hSw => ?_⟩) hHeld ?_
                focus (skip; clear hHeld; go_simp)
                try simp only [Act.put, List.setIfInBounds_toArray, List.set_cons_zero, List.set_cons_succ]
                refine wpAnyH_take (i := 20) (oi := ⟨some 81, _, _, _, _, _⟩) (v := .pointer (some ⟨b, off + k * 6, none⟩)) rfl (by kernel_rfl) (by kernel_rfl) (by kernel_rfl) (fun _ _ _ h => h) (.inl ⟨by rfl, fun w' hSw => ?_⟩) hHeld ?_
                focus (skip; clear hHeld; go_simp)
                try simp only [Act.put, List.setIfInBounds_toArray, List.set_cons_zero, List.set_cons_succ]
                refine takeT (i := 21) (o := ⟨some 82, _, _, _, _, _⟩) (u := y) rfl (by kernel_rfl) (by kernel_rfl) (by kernel_rfl) (fun _ _ _ h => h) (by rfl) ⟨rfl, rfl⟩ (fun _ h => HRK.out _ h) hHeld ?_
                try simp only [Act.put, List.setIfInBounds_toArray, List.set_cons_zero, List.set_cons_succ]
                refine takeE (i := 22) (o := ⟨some 83, _, _, _, _, _⟩) (u := x) (v := y) rfl (by kernel_rfl) (by kernel_rfl) (by kernel_rfl) (fun _ _ _ h => h) (by rfl) ⟨rfl, rfl, rfl⟩ hHeld ?_
                rw [HRE.out]
                try simp only [Act.put, List.setIfInBounds_toArray, List.set_cons_zero, List.set_cons_succ]
                refine wpAnyH_take (i := 23) (oi := ⟨some 84, _, _, _, _, _⟩) (v := .bool false) rfl (by kernel_rfl) (by kernel_rfl) (by kernel_rfl) (fun _ _ _ h => h) (.inl ⟨by rfl, fun w' hSw => ?_⟩) hHeld ?_
                focus (skip; clear hHeld; go_simp)
                try simp only [Act.put, List.setIfInBounds_toArray, List.set_cons_zero, List.set_cons_succ]
                refine wpAnyH_take (i := 24) (oi := ⟨some 85, _, _, _, _, _⟩) (v := .bool false) rfl (by kernel_rfl) (by kernel_rfl) (by kernel_rfl) (fun _ _ _ h => h) (.inl ⟨by rfl, fun w' hSw => ?_⟩) hHeld ?_
                focus (skip; clear hHeld; go_simp)
                try simp only [Act.put, List.setIfInBounds_toArray, List.set_cons_zero, List.set_cons_succ]
                refine wpAnyH_done (by kernel_rfl) ?_ _
                refine NoPanic.normal ?_
                have HBZ := Lib.hid hHeld
                clear hHeld
                go_wp2_with fail
                go_roundg (l.length + 1 - (k + 1))
                case measure => omega
                case rel => exact ⟨k + 1, by omega, Nat.le_refl _, by go_num, HBZ.out⟩
              · have k6i : ¬ (k : Int) < 6 := by omega
                go_wp2_with fail
                go_roundg (l.length + 1 - (i + 1))
                case measure => omega
                case rel => exact ⟨i + 1, by omega, Nat.le_refl _, by go_num, HK.out⟩
            · go_wp2_with fail
              go_roundg (l.length + 1 - (i + 1))
              case measure => omega
              case rel => exact ⟨i + 1, by omega, Nat.le_refl _, by go_num, HK.out⟩
        · have h6i : ¬ (i : Int) < 6 := by omega
          go_wp2_with fail
          go_ret
          exact ⟨rfl, HB.out⟩
      · go_wp2_with fail
        go_ret
        exact ⟨rfl, HB.out⟩
end Go.Proofs.YtnnebfcggdbgpaaGreatDoor
/-
  What the rows' condition on package-level variables gives the walks, and that a world meets it.
-/
namespace Go.Proofs.YtnnebfcggdbgpaaGreatDoor
open Go.ChangeShapes Go.WideShapes Go.ChangeAt Go.RowKit
set_option linter.unusedVariables false

def laidL : List (String × DataW Unit) := [("errors.errorType", Rows.laid_errors_errorType), ("vestry/name.reserved", Rows.laid_vestry_name_reserved)]

theorem own : ownKnob Tryz.prog.godebug = none := by kernel_rfl
theorem laidOut : laidOutB Tryz.prog = true := by kernel_rfl
theorem gErr : Tryz.prog.globalNamed "errors.errorType" = some 2 := by kernel_rfl
theorem gRes : Tryz.prog.globalNamed "vestry/name.reserved" = some 0 := by kernel_rfl
theorem tRes : (Tryz.prog.globals[0]?).map (·.type) = some 158 := by kernel_rfl
theorem rtyp : (Tryz.prog.cutTypes.find? (·.1 == "internal/reflectlite.rtype")).map (·.2) = some 211 := by kernel_rfl
theorem nTypes : ∃ n, Tryz.prog.types.size = n ∧ ((List.range n).filter fun t => Tryz.prog.rowNamed t [101, 114, 114, 111, 114]) = [34] := ⟨_, rfl, by kernel_rfl⟩
theorem errHandle : typeHandle Tryz.prog 34 = .pointer (some ⟨8, 34, none⟩) := by kernel_rfl
theorem cells9 : Tryz.prog.cellsOf 9 = 1 := by kernel_rfl

/-- The heap that the door's own run leaves meets the condition. -/
theorem door_met (os : Os) (args : Array Value) : laidMetH Tryz.prog laidL ((World.doorLaid Tryz.prog 400 os).forCall (fun _ _ => 0) ⟨#[], args, []⟩).memory :=
  laidMetH_of_parts3 (fuel := 8) (laidMet_of_run' 8 (by kernel_rfl) (by kernel_rfl)) (by kernel_rfl) (by kernel_rfl)

set_option maxRecDepth 100000 in
theorem env_of_laid {W : World} (h : laidMetH Tryz.prog laidL W) (hsh : W.ShapedOpen Tryz.prog) : Env W := by
  have h' : laidMet Tryz.prog [("vestry/name.reserved", Rows.laid_vestry_name_reserved)] W ∧ handlesMet Tryz.prog [("errors.errorType", Rows.laid_errors_errorType)] W := h
  obtain ⟨h1, h2⟩ := h'
  refine ⟨?_, ?_, Tryz.laysM145.s1_3 W hsh⟩
  · obtain ⟨ps, ⟨g0, t0, cs0, f0, p0, q0, hg0, ht0, hv0, hd0, _, _⟩, _, _⟩ := h1
    obtain rfl := Option.some.inj (gRes.symm.trans hg0)
    obtain rfl := Option.some.inj (tRes.symm.trans ht0)
    obtain ⟨xs, m1, rfl, hx1, hlen, hn3, hel⟩ := DataW.trod_array Tryz.underlying158 hd0
    have e0 := hel 0 (by decide)
    have e1 := hel 1 (by decide)
    have e2 := hel 2 (by decide)
    rw [cells9] at e0 e1 e2
    simp only [Prod.mk.injEq, Rows.laid_vestry_name_reserved, DataW.agg.injEq] at hx1
    match xs, hn3, hx1, e0, e1, e2 with
    | [x0, x1, x2], _, hx1, e0, e1, e2 =>
      simp only [List.map_cons, List.map_nil, List.cons.injEq] at hx1
      obtain ⟨s0, a0, b0, _⟩ := DataW.trod_string Tryz.underlying9 (show DataW.trod _ Tryz.prog W 0 _ false m1 9 _ = some x0 from e0)
      obtain ⟨s1, a1, b1, _⟩ := DataW.trod_string Tryz.underlying9 (show DataW.trod _ Tryz.prog W 0 _ false m1 9 _ = some x1 from e1)
      obtain ⟨s2, a2, b2, _⟩ := DataW.trod_string Tryz.underlying9 (show DataW.trod _ Tryz.prog W 0 _ false m1 9 _ = some x2 from e2)
      rw [b0, b1, b2] at hx1
      simp at hx1
      obtain ⟨⟨y0, y1, y2⟩, _⟩ := hx1
      have z0 : s0 = wDef := bytes_inj y0.symm
      have z1 : s1 = wRel := bytes_inj y1.symm
      have z2 : s2 = wPerm := bytes_inj y2.symm
      subst z0 z1 z2
      have v0 := World.var?_cell hg0 hv0 0
      have v1 := World.var?_cell hg0 hv0 1
      have v2 := World.var?_cell hg0 hv0 2
      obtain ⟨l⟩ := cs0
      match l, a0, a1, a2 with
      | [c0, c1, c2], a0, a1, a2 =>
        simp at a0 a1 a2
        subst a0 a1 a2
        exact ⟨by simpa using v0, by simpa using v1, by simpa using v2⟩
  · obtain ⟨name, u, ty, k1, k2, k3, k4, k5⟩ := h2 _ (List.mem_singleton.2 rfl)
    have en : name = [101, 114, 114, 111, 114] := (Option.some.inj k1).symm
    subst en
    obtain rfl := Option.some.inj (rtyp.symm.trans k2)
    obtain ⟨n, hn, hone⟩ := nTypes
    have hm : ty ∈ (List.range n).filter fun t => Tryz.prog.rowNamed t [101, 114, 114, 111, 114] := List.mem_filter.2 ⟨List.mem_range.2 (by rw [← hn]; exact k3), k4⟩
    rw [hone] at hm
    obtain rfl := List.mem_singleton.1 hm
    rw [errHandle] at k5
    have k6 := World.var?_cell gErr k5 0
    show errAs.ErrT W
    unfold errAs.ErrT
    simpa using k6

section
variable {H : Type} {enc : TypeId × Value → H}
/-- The wrap of a row with a condition on memory, the world's shape kept. -/
theorem wrap_and {a : Assume} {C : Checked} {os : Os} {f : FuncId} {fn : Func} {s : ChangeSpec} {conds : List PathCond} {apart fresh handsOn again : Bool} {X : World → Array Value → Prop}
    (hX : ∀ (w w' : World) (args : Array Value), w.heap = w'.heap → X w args → X w' args)
    (own : ownKnob C.prog.godebug = none) (started : os.Started) (noInit : C.prog.inits.idxOf? f = none) (hfn : C.prog.funcs[f]? = some fn)
    (witness : ∃ (w : World) (tape : Tape) (i : Input), w.os = os ∧ (w.forCall tape i).Shaped C.prog ∧ i.vars = [] ∧ Input.okWide C.prog (w.forCall tape i) .any w.heap.size f i ∧
      ((s.pre enc C.prog fn conds apart (w.forCall tape i).memory i.args ∧ X (w.forCall tape i).memory i.args) ∧ sizedMet enc C.prog fn (OpenSpec.ofChange s) apart (w.forCall tape i).memory i.args) ∧ a.holds C.prog (lone (Frame.enter C.prog f i.args .normal) [] (w.forCall tape i)))
    (contract : ∀ (W : World) (base : Nat) (args : Array Value) (ds gs : List (DataW H)) (before : List MemPlace),
      (∀ (j : Nat) t v, fn.params[j]? = some t → args[j]? = some v → Value.okWide C.prog W .any base t v) →
      DataW.Whole enc C.prog fn.params.toList s.vars apart W args.toList ds gs before →
      W.ShapedOpen C.prog → X W args →
      Calls C.prog f args W fun e W' => ∃ v, e = .returned v ∧ s.post enc C.prog fn apart fresh handsOn again W args v W') :
    ReturnsInHanded a C os f .any (fun w args => (s.pre enc C.prog fn conds apart w args ∧ X w args) ∧ sizedMet enc C.prog fn (OpenSpec.ofChange s) apart w args) (s.post enc C.prog fn apart fresh handsOn again) := by
  refine returnsInHanded_of_calls own started noInit witness ?_
  intro w tape i _ hsh _ hok hpre _
  obtain ⟨_, _, _, fn', hfn', _, _, _, _, hval⟩ := hok
  have e : fn' = fn := Option.some.inj (hfn'.symm.trans hfn)
  subst e
  obtain ⟨⟨⟨ds, gs, before, hw, _⟩, hx⟩, _⟩ := hpre
  have hw' := DataW.Whole.of_heap (w' := w.forCall tape i) (by rfl) hw
  refine (contract (w.forCall tape i) w.heap.size i.args ds gs before hval hw' hsh (hX _ _ _ (by rfl) hx)).mono fun e W' ⟨v, he, hp⟩ => ?_
  subst he
  exact ChangeSpec.post_blind hp
/-- .. with the arguments' sizes. -/
theorem wrap_sized {a : Assume} {C : Checked} {os : Os} {f : FuncId} {fn : Func} {s : ChangeSpec} {conds : List PathCond} {apart fresh handsOn again : Bool} {X : World → Array Value → Prop}
    (hX : ∀ (w w' : World) (args : Array Value), w.heap = w'.heap → X w args → X w' args)
    (own : ownKnob C.prog.godebug = none) (started : os.Started) (noInit : C.prog.inits.idxOf? f = none) (hfn : C.prog.funcs[f]? = some fn)
    (witness : ∃ (w : World) (tape : Tape) (i : Input), w.os = os ∧ (w.forCall tape i).Shaped C.prog ∧ i.vars = [] ∧ Input.okWide C.prog (w.forCall tape i) .any w.heap.size f i ∧
      ((s.pre enc C.prog fn conds apart (w.forCall tape i).memory i.args ∧ X (w.forCall tape i).memory i.args) ∧ sizedMet enc C.prog fn (OpenSpec.ofChange s) apart (w.forCall tape i).memory i.args) ∧ a.holds C.prog (lone (Frame.enter C.prog f i.args .normal) [] (w.forCall tape i)))
    (contract : ∀ (W : World) (base : Nat) (args : Array Value) (ds gs : List (DataW H)) (before : List MemPlace),
      (∀ (j : Nat) t v, fn.params[j]? = some t → args[j]? = some v → Value.okWide C.prog W .any base t v) →
      DataW.Whole enc C.prog fn.params.toList s.vars apart W args.toList ds gs before →
      W.ShapedOpen C.prog → X W args →
      (DataW.weightsEach C.prog (fn.params.toList ++ (OpenSpec.ofChange s).bare.plain.varTypes C.prog) (ds ++ gs)).all (· ≤ reachBytes) = true →
      Calls C.prog f args W fun e W' => ∃ v, e = .returned v ∧ s.post enc C.prog fn apart fresh handsOn again W args v W') :
    ReturnsInHanded a C os f .any (fun w args => (s.pre enc C.prog fn conds apart w args ∧ X w args) ∧ sizedMet enc C.prog fn (OpenSpec.ofChange s) apart w args) (s.post enc C.prog fn apart fresh handsOn again) := by
  refine returnsInHanded_of_calls own started noInit witness ?_
  intro w tape i _ hsh _ hok hpre _
  obtain ⟨_, _, _, fn', hfn', _, _, _, _, hval⟩ := hok
  have e : fn' = fn := Option.some.inj (hfn'.symm.trans hfn)
  subst e
  obtain ⟨⟨⟨ds, gs, before, hw, _⟩, hx⟩, hz⟩ := hpre
  have hw' := DataW.Whole.of_heap (w' := w.forCall tape i) (by rfl) hw
  refine (contract (w.forCall tape i) w.heap.size i.args ds gs before hval hw' hsh (hX _ _ _ (by rfl) hx) (hz.weights hw)).mono fun e W' ⟨v, he, hp⟩ => ?_
  subst he
  exact ChangeSpec.post_blind hp
end
end Go.Proofs.YtnnebfcggdbgpaaGreatDoor
/-
  All that the card of TupleSorts wants.
-/
namespace Go.Proofs.YtnnebfcggdbgpaaGreatDoor
end Go.Proofs.YtnnebfcggdbgpaaGreatDoor
