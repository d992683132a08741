/-
  vestryref18.Parse.
-/
import Derived.Test.YtnnebfcggdbgpaaGreatDoorMc0
import Derived.Test.YtnnebfcggdbgpaaGreatDoorStepC
import Derived.RegionTactic
import Derived.BigRegion
import Derived.Test.YtnnebfcggdbgpaaGreatDoorSame
import Derived.Deep.RegionHeld3
import Derived.Test.YtnnebfcggdbgpaaGreatDoorShfT
import Derived.Lib.ItoaMem
import Derived.Lib.AppendIntMem
import Derived.Lib.Walk
import Derived.WalkKit
import Derived.BigCall
import Derived.BigGuard
import Derived.Lib.SmallJoins
import Derived.Lib.Strings
import Derived.Test.YtnnebfcggdbgpaaGreatDoorRefPut
import Derived.Test.YtnnebfcggdbgpaaGreatDoorRows
import Derived.Test.YtnnebfcggdbgpaaGreatDoorPlain
import Derived.Test.YtnnebfcggdbgpaaGreatDoorShelf
import Derived.Lib.ItoaNum
import Derived.ProofKit
import Derived.OpenShut
import Derived.Below
import Derived.Lib.Hide
import Derived.WalkLawsBesides
import Derived.WalkSpells
import Derived.Deep.QuietTactic
import Derived.BigQuiet
import Derived.Test.YtnnebfcggdbgpaaGreatDoorJoin
import Derived.Test.YtnnebfcggdbgpaaGreatDoorPut
import Derived.Laws.BitsAllLaws
import Derived.Test.YtnnebfcggdbgpaaGreatDoorApp
import Derived.Test.YtnnebfcggdbgpaaGreatDoorRowsOf
namespace Go.Proofs.YtnnebfcggdbgpaaGreatDoor
open Go.ChangeShapes Go.WideShapes Go.ChangeAt Go.RowKit
set_option linter.unusedVariables false

theorem ext_mid (s : ByteArray) (i k : Nat) : s.extract i k = bstr ((s.data.toList.take k).drop i) := by
  apply bytes_inj
  rw [bstr_data, ByteArray.data_extract, Array.toList_extract, List.extract_eq_take_drop, List.drop_take]
theorem ext_all (s : ByteArray) : s.extract 0 s.size = s := by
  rw [ext_mid, ← size_len s, List.take_length, List.drop_zero]; rfl
/-- The two blocks that hold objects. -/
def OO (g : Nat) (oa oi : ByteArray) (g2 : Nat) (ua ui : ByteArray) (W : World) : Prop := Arr W 23 g [.string oa, .string oi] ∧ Arr W 23 g2 [.string ua, .string ui]
theorem OO.later {g g2 : Nat} {oa oi ua ui : ByteArray} {W W' : World} (h : OO g oa oi g2 ua ui W) (hb : Below W.heap.size W W') : OO g oa oi g2 ua ui W' := ⟨h.1.later hb, h.2.later hb⟩
theorem stepw_storeT {ops : Array Oper} {o : Oper} {a : Act} {w : World} {K : Act → World → Prop} {Q : Exit → Act → World → Prop} {E : Prop} {g : Nat} {u v : Tu} (hw : Region.wanted o (yielded ops a.tmps) = true) (x y : Operand) (ho : o.op = .store 25 x y) (hx : a.eval x = .pointer (some ⟨g, 0, none⟩)) (hy : a.eval y = tuV u) (hA : TuAt w g v)
    (hK : K (a.put o.dst undef) (w.setRow g (tc u).toArray)) : if Region.wanted o (yielded ops a.tmps) = true then Oper.wp Tryz.prog o a w K Q else E := by
  rw [if_pos hw]
  exact wp_store_row _ x y ho g (tc u).toArray hx hy _ (tc v).toArray hA (by kernel_rfl) rfl (Array.all_eq_true_iff_forall_mem.2 (fun v hv => tc_one u v (by simpa using hv))) hK
/-- The cut at a sign, as the reference finds it. -/
theorem cut_yes {s : ByteArray} {c : UInt8} {n : Nat} (hn : n = fnd s.data.toList c) (h : n < s.size) : cut3 s ⟨#[c]⟩ = (s.extract 0 n, s.extract (n + 1) s.size, true) := by
  rw [cut_fnd, ← hn, if_pos h, ext_take, ext_drop]
theorem cut_nay {s : ByteArray} {c : UInt8} {n : Nat} (hn : n = fnd s.data.toList c) (h : ¬ n < s.size) : cut3 s ⟨#[c]⟩ = (s, e0, false) := by
  rw [cut_fnd, ← hn, if_neg h]; rfl
theorem ext_size {s : ByteArray} {n : Nat} (h : n ≤ s.size) : (s.extract 0 n).size = n := by rw [ByteArray.size_extract]; omega
theorem ext_size2 (s : ByteArray) (i k : Nat) : (s.extract i k).size ≤ s.size := by rw [ByteArray.size_extract]; omega
theorem ext_ext {s : ByteArray} {n i : Nat} (h : n ≤ s.size) : (s.extract 0 n).extract i (s.extract 0 n).size = s.extract i n ∧ (i ≤ n → (s.extract 0 n).extract 0 i = s.extract 0 i) := by
  rw [ext_size h]
  constructor
  · rw [ext_mid, ext_mid s i n, ext_mid s 0 n, List.drop_zero, bstr_data, List.take_take, Nat.min_self]
  · intro hi
    rw [ext_mid, ext_mid s 0 i, ext_mid s 0 n, List.drop_zero, List.drop_zero, List.drop_zero, bstr_data, List.take_take, Nat.min_eq_left hi]
set_option maxRecDepth 100000 in
set_option maxHeartbeats 4000000 in
theorem rtparse_any (s : ByteArray) (w : World) (hs : s.size ≤ 1000000) : Calls Tryz.prog 24 #[.string s] w fun e w' => e = .returned (.tuple #[tuV (parseT s).1, .int .i64 ((parseT s).2.1 : Nat), .int .i64 ((parseT s).2.2 : Nat)]) ∧ Below w.heap.size w w' := by
  obtain ⟨w0, hw0⟩ : ∃ w0, w0 = (w.alloc (.cells (tc t0).toArray 25)) := ⟨_, rfl⟩
  have b0 : Below w.heap.size w w0 := by rw [hw0]; exact (Below.refl _ _).alloc (Nat.le_refl _) _
  have HB0 := Lib.hid b0
  have HX0 : Hid (TuAt w0 w.heap.size t0) := by show TuAt w0 _ _; rw [hw0]; exact tu_new w t0
  have HW := Lib.hid hw0
  have zs : (s.size : Int) ≤ 1000000 := by omega
  have HZS : Hid (s.size ≤ 1000000) := hs
  obtain ⟨A, hA⟩ : ∃ A, A = fnd s.data.toList 64 := ⟨_, rfl⟩
  have HF := Lib.hid (find_any s 64 hs w0)
  rw [← hA] at HF
  clear b0 hw0 hs
  by_cases hlt : A < s.size
  · have hcut := cut_yes hA hlt
    rw [if_pos hlt] at HF
    obtain ⟨f, hf⟩ : ∃ f, f = s.extract 0 A := ⟨_, rfl⟩
    obtain ⟨bk, hbk⟩ : ∃ bk, bk = s.extract (A + 1) s.size := ⟨_, rfl⟩
    have zfs : f.size = A := by rw [hf]; exact ext_size (by omega)
    have zbk : bk.size ≤ s.size := by rw [hbk]; exact ext_size2 _ _ _
    rw [← hf, ← hbk] at hcut
    have hext := fun i => ext_ext (s := s) (n := A) (i := i) (Nat.le_of_lt hlt)
    simp only [← hf] at hext
    obtain ⟨h, hh⟩ : ∃ h, h = fnd f.data.toList 35 := ⟨_, rfl⟩
    have HF2 := Lib.hid (find_any f 35 (by have := HZS.out; omega) w0)
    rw [← hh] at HF2
    have HCUT : Hid (cut3 s atA = (f, bk, true)) := hcut
    have HXF : Hid (s.extract 0 A = f) := hf.symm
    have HXB : Hid (s.extract (A + 1) s.size = bk) := hbk.symm
    have HZF := Lib.hid zfs
    have HZB := Lib.hid zbk
    have a1 : (A : Int) < s.size := by omega
    have a0 : (0 : Int) ≤ A := by omega
    have a2 : A ≤ s.size := by omega
    have a3 : (A : Int) + 1 ≤ s.size := by omega
    have zfI : (f.size : Int) ≤ 1000000 := by omega
    clear hcut hA hf hbk zbk hlt
    by_cases hlt2 : h < f.size
    · have hcut2 := cut_yes hh hlt2
      rw [if_pos hlt2] at HF2
      have hx1 := (hext h).2 (by omega)
      have hx2 := (hext (h + 1)).1
      obtain ⟨ob, hob⟩ : ∃ ob, ob = s.extract 0 h := ⟨_, rfl⟩
      obtain ⟨re, hre⟩ : ∃ re, re = s.extract (h + 1) A := ⟨_, rfl⟩
      rw [← hob] at hx1
      rw [← hre] at hx2
      rw [hx1, hx2] at hcut2
      have zob : ob.size ≤ s.size := by rw [hob]; exact ext_size2 _ _ _
      have zre : re.size ≤ s.size := by rw [hre]; exact ext_size2 _ _ _
      have zobe : ob.size = h := by rw [hob]; exact ext_size (by omega)
      have HXO : Hid (s.extract 0 h = ob) := hob.symm
      have HXR : Hid (s.extract (h + 1) A = re) := hre.symm
      have HCUT2 : Hid (cut3 f hashA = (ob, re, true)) := hcut2
      have HZO := Lib.hid zob
      have HZR := Lib.hid zre
      have HZOE := Lib.hid zobe
      have p1 : (h : Int) < s.size := by omega
      have p0 : (0 : Int) ≤ h := by omega
      have p2 : (h : Int) + 1 ≤ A := by omega
      have p3 : h ≤ s.size := by omega
      have p4 : h + 1 ≤ A := by omega
      clear hext hx1 hx2 hob hre hcut2 zob zre zobe hh hlt2
      obtain ⟨Q, hQ⟩ : ∃ Q, Q = parseObj ob := ⟨_, rfl⟩
      have HO := Lib.hid (rparseObj_any ob w0 (by have := HZO.out; have := HZS.out; omega))
      rw [← hQ] at HO
      have HQ := Lib.hid hQ
      clear hQ
      obtain ⟨oa, oi, oc, on⟩ := Q
      obtain ⟨sub, us, k3, hc3⟩ : ∃ a b c, cut3 bk hashA = (a, b, c) := ⟨_, _, _, rfl⟩
      have HP : Hid (parseT s = parseW s.size f true ob re true sub us k3) := by show _ = _; unfold parseT; rw [HCUT.out]; simp only []; rw [HCUT2.out, hc3]
      have HC3 := Lib.hid hc3
      clear hc3
      go_enter Tryz.func24, Tryz.ntmps24
      go_wp2_with fail
      rw [show (w.alloc (.cells #[.string ⟨#[]⟩, .string ⟨#[]⟩, .string ⟨#[]⟩, .string ⟨#[]⟩, .string ⟨#[]⟩, .string ⟨#[]⟩] 25)) = w0 from HW.out.symm]
      refine HF.out.mono ?_
      rintro e w1 ⟨rfl, hw1⟩
      subst hw1
      go_wp2_with fail
      rw [HXF.out]
      refine HF2.out.mono ?_
      rintro e w1 ⟨rfl, hw1⟩
      subst hw1
      clear zfs
      go_wp2_with fail
      rw [HXO.out]
      refine HO.out.mono ?_
      rintro e w4 ⟨rfl, b4⟩
      have HB4 := Lib.hid (HB0.out.trans (b4.mono HB0.out.size))
      have HX4 := Lib.hid (HX0.out.later b4)
      clear b4 HB0 HX0
      clear HO HF HF2 HW
      have b5 : Below w4.heap.size w4 (w4.alloc (.cells #[.string oa, .string oi] 23)) := (Below.refl _ _).alloc (Nat.le_refl _) _
      have HO5 := Lib.hid (Arr.new' w4 23 #[.string oa, .string oi] _ rfl)
      have HB5 := Lib.hid (HB4.out.trans (b5.mono HB4.out.size))
      have HX5 := Lib.hid (HX4.out.later b5)
      clear b5 HB4 HX4
      go_upto_region 8 with fail
      generalize w4.alloc (.cells #[.string oa, .string oi] 23) = w5 at HB5 HX5 HO5 ⊢
      generalize w4.heap.size = g5 at HO5 ⊢
      by_cases hoc : oc = 0
      · have HQ0 : Hid ((parseObj ob).2.2.1 = 0) := by show _ = _; rw [← HQ.out]; exact hoc
        have HRI := Lib.hid (risName_any re (by have := HZR.out; have := HZS.out; omega) w5)
        subst hoc
        rw [show ((0 : Nat) : Int) = 0 from rfl]
        go_wp2_with fail
        rw [HXR.out]
        refine HRI.out.mono ?_
        rintro e w6 ⟨rfl, hw6⟩
        subst hw6
        clear HRI
        cases hre : isName re with
        | false =>
          have HR : Hid (parseT s = (t0, 5, h + 1)) := by show _ = _; rw [HP.out, parseW_3 HQ0.out hre, HZOE.out]
          clear hre
          have hA := HX5.out
          go_wp2_with ((with_reducible refine storeT (x := .tmp 2) (y := .tmp 51) (u := t0) (o := ⟨none, .store _ _ _, _, _, _, _⟩) hA ?_ ?_); exact ⟨rfl, rfl, rfl, rfl⟩)
          refine bodyPost_ret (resT2 rfl (hA.row _) rfl) rfl ⟨?_, below_row HB5.out (Nat.le_refl _) _⟩
          rw [HR.out]; rfl
        | true =>
          have HRE := Lib.hid hre
          clear hre
          obtain ⟨k, hk⟩ : ∃ k, k = fnd bk.data.toList 35 := ⟨_, rfl⟩
          have HF3 := Lib.hid (find_any bk 35 (by have := HZB.out; have := HZS.out; omega) w5)
          rw [← hk] at HF3
          have zbI : (bk.size : Int) ≤ 1000000 := by have := HZB.out; have := HZS.out; omega
          by_cases hlt3 : k < bk.size
          · have hcut3 := cut_yes hk hlt3
            rw [show (⟨#[35]⟩ : ByteArray) = hashA from rfl, HC3.out] at hcut3
            obtain ⟨rfl, e2⟩ := Prod.mk.inj hcut3
            obtain ⟨rfl, rfl⟩ := Prod.mk.inj e2
            obtain ⟨sub, hsub⟩ : ∃ sub, sub = bk.extract 0 k := ⟨_, rfl⟩
            obtain ⟨us, hus⟩ : ∃ us, us = bk.extract (k + 1) bk.size := ⟨_, rfl⟩
            rw [← hsub, ← hus] at HP
            have zsub : sub.size = k := by rw [hsub]; exact ext_size (by omega)
            have zus : us.size ≤ bk.size := by rw [hus]; exact ext_size2 _ _ _
            have HXS : Hid (bk.extract 0 k = sub) := hsub.symm
            have HXU : Hid (bk.extract (k + 1) bk.size = us) := hus.symm
            rw [if_pos hlt3] at HF3
            have q0 : (0 : Int) ≤ k := by omega
            have q1 : (k : Int) ≤ bk.size := by omega
            have q2 : (k : Int) + 1 ≤ bk.size := by omega
            have q3 : k ≤ bk.size := by omega
            have HZSUB := Lib.hid zsub
            have HZUS := Lib.hid zus
            clear hcut3 e2 hk hsub hus zsub zus hlt3 HC3
            obtain ⟨Q2, hQ2⟩ : ∃ Q, Q = parseObj sub := ⟨_, rfl⟩
            have HU := Lib.hid (rparseObj_any sub w5 (by have := HZSUB.out; omega))
            rw [← hQ2] at HU
            have HQ2 := Lib.hid hQ2
            clear hQ2
            obtain ⟨ua, ui, uc, un⟩ := Q2
            go_wp2_with fail
            rw [HXB.out]
            refine HF3.out.mono ?_
            rintro e w6 ⟨rfl, hw6⟩
            subst hw6
            go_wp2_with fail
            rw [HXS.out]
            refine HU.out.mono ?_
            rintro e w7 ⟨rfl, b7⟩
            have HO7 := Lib.hid (HO5.out.later b7)
            have HB7 := Lib.hid (HB5.out.trans (b7.mono HB5.out.size))
            have HX7 := Lib.hid (HX5.out.later b7)
            clear b7 HB5 HX5
            clear HU HF3 HO5
            have b8 : Below w7.heap.size w7 (w7.alloc (.cells #[.string ua, .string ui] 23)) := (Below.refl _ _).alloc (Nat.le_refl _) _
            have HU8 := Lib.hid (Arr.new' w7 23 #[.string ua, .string ui] _ rfl)
            have HO8 := Lib.hid (HO7.out.later b8)
            have HB8 := Lib.hid (HB7.out.trans (b8.mono HB7.out.size))
            have HX8 := Lib.hid (HX7.out.later b8)
            clear b8 HB7 HX7
            clear HO7
            go_upto_region 18 with fail
            generalize w7.alloc (.cells #[.string ua, .string ui] 23) = w8 at HB8 HX8 HU8 HO8 ⊢
            generalize w7.heap.size = g8 at HU8 ⊢
            by_cases huc : uc = 0
            · have HQ20 : Hid ((parseObj sub).2.2.1 = 0) := by show _ = _; rw [← HQ2.out]; exact huc
              subst huc
              rw [show ((0 : Nat) : Int) = 0 from rfl]
              have HT : Hid (∀ u, (⟨(parseObj ob).1, (parseObj ob).2.1, re, (parseObj sub).1, (parseObj sub).2.1, u⟩ : Tu) = ⟨oa, oi, re, ua, ui, u⟩) := by intro u; rw [← HQ.out, ← HQ2.out]
              have HOO : Hid (OO g5 oa oi g8 ua ui w8) := ⟨HO8.out, HU8.out⟩
              clear HO8 HU8
              go_upto_region 20 with fail
              refine wp_region_noPanic ?_
              refine wp_region_held_drew (S := OO g5 oa oi g8 ua ui) (by kernel_rfl) (HOO.out.later (Below.refl _ _).drew) (fun hHeld => ?_)
              try simp only [Act.put]
              have HB9 := Lib.hid (HB8.out.drew)
              have HX9 := Lib.hid (HX8.out.drew)
              generalize w8.drew = w9 at hHeld HB9 HX9 ⊢
              clear HOO HB8 HX8
              refine wpAnyH_take (i := 0) (oi := ⟨some 81, _, _, _, _, _⟩) (v := .agg #[.string oa, .string oi]) rfl (by kernel_rfl) (by kernel_rfl) (by kernel_rfl) (fun _ _ _ h => h) (.inl ⟨by rfl, fun w' hSw => ?_⟩) hHeld ?_
              focus ((have q0 := hSw.1.cell 0; have q1 := hSw.1.cell 1; simp only [List.getElem?_cons_zero, List.getElem?_cons_succ] at q0 q1); clear hHeld; go_simp)
              try simp only [Act.put, List.setIfInBounds_toArray, List.set_cons_zero, List.set_cons_succ]
              refine wpAnyH_take (i := 1) (oi := ⟨some 82, _, _, _, _, _⟩) (v := .string s) rfl (by kernel_rfl) (by kernel_rfl) (by kernel_rfl) (fun _ _ _ h => h) (.inl ⟨by rfl, fun w' hSw => ?_⟩) hHeld ?_
              focus (skip; clear hHeld; go_simp)
              try simp only [Act.put, List.setIfInBounds_toArray, List.set_cons_zero, List.set_cons_succ]
              refine wpAnyH_take (i := 2) (oi := ⟨some 83, _, _, _, _, _⟩) (v := .int .i64 h) rfl (by kernel_rfl) (by kernel_rfl) (by kernel_rfl) (fun _ _ _ h => h) (.inl ⟨by rfl, fun w' hSw => ?_⟩) hHeld ?_
              focus (skip; clear hHeld; go_simp)
              try simp only [Act.put, List.setIfInBounds_toArray, List.set_cons_zero, List.set_cons_succ]
              refine wpAnyH_take (i := 3) (oi := ⟨some 84, _, _, _, _, _⟩) (v := .int .i64 ((h : Int) + 1)) rfl (by kernel_rfl) (by kernel_rfl) (by kernel_rfl) (fun _ _ _ h => h) (.inl ⟨by rfl, fun w' hSw => ?_⟩) hHeld ?_
              focus (skip; clear hHeld; go_simp; rw [IntKind.wrap_i64]; omega)
              try simp only [Act.put, List.setIfInBounds_toArray, List.set_cons_zero, List.set_cons_succ]
              refine wpAnyH_take (i := 4) (oi := ⟨some 85, _, _, _, _, _⟩) (v := .int .i64 A) rfl (by kernel_rfl) (by kernel_rfl) (by kernel_rfl) (fun _ _ _ h => h) (.inl ⟨by rfl, fun w' hSw => ?_⟩) hHeld ?_
              focus (skip; clear hHeld; go_simp)
              try simp only [Act.put, List.setIfInBounds_toArray, List.set_cons_zero, List.set_cons_succ]
              refine wpAnyH_take (i := 5) (oi := ⟨some 86, _, _, _, _, _⟩) (v := .string re) rfl (by kernel_rfl) (by kernel_rfl) (by kernel_rfl) (fun _ _ _ h => h) (.inl ⟨by rfl, fun w' hSw => ?_⟩) hHeld ?_
              focus (have hxr := HXR.out; clear hHeld; go_simp; intro hneg; exfalso; omega)
              try simp only [Act.put, List.setIfInBounds_toArray, List.set_cons_zero, List.set_cons_succ]
              refine wpAnyH_take (i := 6) (oi := ⟨some 87, _, _, _, _, _⟩) (v := .agg #[.string ua, .string ui]) rfl (by kernel_rfl) (by kernel_rfl) (by kernel_rfl) (fun _ _ _ h => h) (.inl ⟨by rfl, fun w' hSw => ?_⟩) hHeld ?_
              focus ((have q0 := hSw.2.cell 0; have q1 := hSw.2.cell 1; simp only [List.getElem?_cons_zero, List.getElem?_cons_succ] at q0 q1); clear hHeld; go_simp)
              try simp only [Act.put, List.setIfInBounds_toArray, List.set_cons_zero, List.set_cons_succ]
              refine wpAnyH_take (i := 7) (oi := ⟨some 88, _, _, _, _, _⟩) (v := .agg #[.string oa, .string oi, .string re, .string ua, .string ui, .string ⟨#[]⟩]) rfl (by kernel_rfl) (by kernel_rfl) (by kernel_rfl) (fun _ _ _ h => h) (.inl ⟨by rfl, fun w' hSw => ?_⟩) hHeld ?_
              focus (skip; clear hHeld; go_simp)
              try simp only [Act.put, List.setIfInBounds_toArray, List.set_cons_zero, List.set_cons_succ]
              refine wpAnyH_ready (rs := [8]) (by kernel_rfl) (by simp) ?_
              refine AllReadyH.cons (o := ⟨some 14, _, _, _, _, _⟩) rfl (fun K' hK' => ?_) AllReadyH.nil
              go_simp
              have hb0 : Below w9.heap.size w9 (w9.alloc (.cells (tc t0).toArray 25)) := (Below.refl _ _).alloc (Nat.le_refl _) _
              have HGO : Hid (g5 ≠ w9.heap.size ∧ g8 ≠ w9.heap.size) := ⟨Nat.ne_of_lt hHeld.1.lt, Nat.ne_of_lt hHeld.2.lt⟩
              have hkn := hHeld.later hb0
              have HN := Lib.hid (tu_new w9 t0)
              refine hK'.out _ (w9.alloc (.cells (tc t0).toArray 25)) hkn (fun _ => ?_)
              clear hK' K' hHeld
              have hHeld := hkn
              clear hkn
              have HB10 := Lib.hid (HB9.out.trans (hb0.mono HB9.out.size))
              have HX10 := Lib.hid (HX9.out.later hb0)
              have HGL : Hid (w.heap.size < w9.heap.size) := HX9.out.lt
              generalize w9.alloc (.cells (tc t0).toArray 25) = w10 at hHeld HN HB10 HX10 ⊢
              generalize w9.heap.size = n at HN HGL HGO ⊢
              clear hb0 HB9 HX9
              try simp only [Act.put, List.setIfInBounds_toArray, List.set_cons_zero, List.set_cons_succ]
              refine wpAnyH_ready (rs := [9]) (by kernel_rfl) (by simp) ?_
              refine AllReadyH.cons (o := ⟨none, _, _, _, _, _⟩) rfl (fun K' hK' => ?_) AllReadyH.nil
              refine stepw_storeT (u := ⟨oa, oi, re, ua, ui, ⟨#[]⟩⟩) (by rfl) (.tmp 14) (.tmp 88) rfl rfl rfl HN.out ?_
              have hkn : OO g5 oa oi g8 ua ui (w10.setRow n (tc ⟨oa, oi, re, ua, ui, ⟨#[]⟩⟩).toArray) := ⟨hHeld.1.row_other HGO.out.1 _, hHeld.2.row_other HGO.out.2 _⟩
              refine hK'.out _ _ hkn (fun _ => ?_)
              clear hK' K' hHeld
              have hHeld := hkn
              clear hkn
              try simp only [Act.put]
              refine wpAnyH_done (by kernel_rfl) ?_ _
              refine NoPanic.normal ?_
              have HT11 : Hid (TuAt (w10.setRow n (tc ⟨oa, oi, re, ua, ui, ⟨#[]⟩⟩).toArray) n ⟨oa, oi, re, ua, ui, ⟨#[]⟩⟩) := HN.out.row _
              have HX11 := Lib.hid (HX10.out.row_other (Nat.ne_of_lt HGL.out) (tc ⟨oa, oi, re, ua, ui, ⟨#[]⟩⟩).toArray)
              have HB11 := Lib.hid (below_row HB10.out (Nat.le_of_lt HGL.out) (tc ⟨oa, oi, re, ua, ui, ⟨#[]⟩⟩).toArray)
              clear hHeld HN HX10 HB10 HGO
              generalize w10.setRow n (tc ⟨oa, oi, re, ua, ui, ⟨#[]⟩⟩).toArray = w11 at HT11 HX11 HB11 ⊢
              have c5 := HT11.out.cells.2.2.2.2.2
              have f5 := Arr.free HT11.out 5
              have HT12 : Hid (TuAt (w11.setCell ⟨n, 5, none⟩ (.string us)) n ⟨oa, oi, re, ua, ui, us⟩) := Arr.set HT11.out 5 (.string us)
              have HX12 : Hid (TuAt (w11.setCell ⟨n, 5, none⟩ (.string us)) w.heap.size t0) := HX11.out.setCell (a := ⟨n, 5, none⟩) (Nat.ne_of_lt HGL.out) _
              have HB12 : Hid (Below w.heap.size w (w11.setCell ⟨n, 5, none⟩ (.string us))) := HB11.out.setCell (p := ⟨n, 5, none⟩) (Nat.le_of_lt HGL.out) _
              have hxu := HXU.out
              clear HT11 HX11 HB11
              go_wp2_with fail
              generalize w11.setCell ⟨n, 5, none⟩ (.string us) = w12 at HT12 HX12 HB12 ⊢
              refine (risName_any us (by have := HZUS.out; have := HZB.out; have := HZS.out; omega) w12).mono ?_
              rintro e w13 ⟨rfl, hw13⟩
              subst hw13
              clear hxu c5 f5
              cases hus : isName us with
              | false =>
                have HR : Hid (parseT s = (t0, 5, f.size + 1 + sub.size + 1)) := by show _ = _; rw [HP.out, parseW_5 HQ0.out HRE.out HQ20.out hus]
                clear hus
                have hA := HX12.out
                go_wp2_with ((with_reducible refine storeT (x := .tmp 2) (y := .tmp 100) (u := t0) (o := ⟨none, .store _ _ _, _, _, _, _⟩) hA ?_ ?_); exact ⟨rfl, rfl, rfl, rfl⟩)
                refine bodyPost_ret (resT2 rfl (hA.row _) rfl) rfl ⟨?_, below_row HB12.out (Nat.le_refl _) _⟩
                rw [HR.out, HZF.out, HZSUB.out]; rfl
              | true =>
                have HR : Hid (parseT s = (⟨oa, oi, re, ua, ui, us⟩, 0, 0)) := by show _ = _; rw [HP.out, parseW_6 HQ0.out HRE.out HQ20.out (by rintro ⟨_, h⟩; rw [hus] at h; cases h), HT.out]
                clear hus
                have hA := HX12.out
                go_wp2_with (first
                  | ((with_reducible refine loadT (x := .tmp 14) (o := ⟨some 106, _, _, _, _, _⟩) HT12.out ?_ ?_); exact ⟨rfl, rfl, rfl⟩)
                  | ((with_reducible refine storeT (x := .tmp 2) (y := .tmp 106) (u := ⟨oa, oi, re, ua, ui, us⟩) (o := ⟨none, .store _ _ _, _, _, _, _⟩) hA ?_ ?_); exact ⟨rfl, rfl, rfl, rfl⟩))
                refine bodyPost_ret (resT2 rfl (hA.row _) rfl) rfl ⟨?_, below_row HB12.out (Nat.le_refl _) _⟩
                rw [HR.out]; rfl
            · have HR : Hid (parseT s = (t0, uc, un + (f.size + 1))) := by show _ = _; rw [HP.out, parseW_4 HQ0.out HRE.out (by rw [← HQ2.out]; exact huc), ← HQ2.out]
              have HUN : Hid (un ≤ 1000001) := by
                have := (parseObj_at sub).1
                rw [← HQ2.out] at this
                simp only [] at this
                have := HZSUB.out
                show _ ≤ _
                omega
              have hun : (un : Int) ≤ 1000001 := by have := HUN.out; omega
              have hun0 : (0 : Int) ≤ un := by omega
              have h1 : ¬ (uc : Int) = 0 := by omega
              have h2 : ((uc : Int) != 0) = true := by rw [bne_iff_ne]; exact h1
              clear huc
              have hA := HX8.out
              go_wp2_with ((with_reducible refine storeT (x := .tmp 2) (y := .tmp 75) (u := t0) (o := ⟨none, .store _ _ _, _, _, _, _⟩) hA ?_ ?_); exact ⟨rfl, rfl, rfl, rfl⟩)
              refine bodyPost_ret (resT2 rfl (hA.row _) rfl) rfl ⟨?_, below_row HB8.out (Nat.le_refl _) _⟩
              rw [HR.out, HZF.out, show un + (A + 1) = A + 1 + un by omega]; rfl
          · have hcut3 := cut_nay hk hlt3
            rw [show (⟨#[35]⟩ : ByteArray) = hashA from rfl, HC3.out] at hcut3
            obtain ⟨rfl, e2⟩ := Prod.mk.inj hcut3
            obtain ⟨rfl, rfl⟩ := Prod.mk.inj e2
            rw [if_neg hlt3] at HF3
            have HXS : Hid (sub.extract 0 sub.size = sub) := ext_all sub
            clear hcut3 e2 hk hlt3 HC3
            obtain ⟨Q2, hQ2⟩ : ∃ Q, Q = parseObj sub := ⟨_, rfl⟩
            have HU := Lib.hid (rparseObj_any sub w5 (by omega))
            rw [← hQ2] at HU
            have HQ2 := Lib.hid hQ2
            clear hQ2
            obtain ⟨ua, ui, uc, un⟩ := Q2
            go_wp2_with fail
            rw [HXB.out]
            refine HF3.out.mono ?_
            rintro e w6 ⟨rfl, hw6⟩
            subst hw6
            go_wp2_with fail
            skip
            refine HU.out.mono ?_
            rintro e w7 ⟨rfl, b7⟩
            have HO7 := Lib.hid (HO5.out.later b7)
            have HB7 := Lib.hid (HB5.out.trans (b7.mono HB5.out.size))
            have HX7 := Lib.hid (HX5.out.later b7)
            clear b7 HB5 HX5
            clear HU HF3 HO5
            have b8 : Below w7.heap.size w7 (w7.alloc (.cells #[.string ua, .string ui] 23)) := (Below.refl _ _).alloc (Nat.le_refl _) _
            have HU8 := Lib.hid (Arr.new' w7 23 #[.string ua, .string ui] _ rfl)
            have HO8 := Lib.hid (HO7.out.later b8)
            have HB8 := Lib.hid (HB7.out.trans (b8.mono HB7.out.size))
            have HX8 := Lib.hid (HX7.out.later b8)
            clear b8 HB7 HX7
            clear HO7
            go_upto_region 18 with fail
            generalize w7.alloc (.cells #[.string ua, .string ui] 23) = w8 at HB8 HX8 HU8 HO8 ⊢
            generalize w7.heap.size = g8 at HU8 ⊢
            by_cases huc : uc = 0
            · have HQ20 : Hid ((parseObj sub).2.2.1 = 0) := by show _ = _; rw [← HQ2.out]; exact huc
              subst huc
              rw [show ((0 : Nat) : Int) = 0 from rfl]
              have HT : Hid (∀ u, (⟨(parseObj ob).1, (parseObj ob).2.1, re, (parseObj sub).1, (parseObj sub).2.1, u⟩ : Tu) = ⟨oa, oi, re, ua, ui, u⟩) := by intro u; rw [← HQ.out, ← HQ2.out]
              have HOO : Hid (OO g5 oa oi g8 ua ui w8) := ⟨HO8.out, HU8.out⟩
              clear HO8 HU8
              go_upto_region 20 with fail
              refine wp_region_noPanic ?_
              refine wp_region_held_drew (S := OO g5 oa oi g8 ua ui) (by kernel_rfl) (HOO.out.later (Below.refl _ _).drew) (fun hHeld => ?_)
              try simp only [Act.put]
              have HB9 := Lib.hid (HB8.out.drew)
              have HX9 := Lib.hid (HX8.out.drew)
              generalize w8.drew = w9 at hHeld HB9 HX9 ⊢
              clear HOO HB8 HX8
              refine wpAnyH_take (i := 0) (oi := ⟨some 81, _, _, _, _, _⟩) (v := .agg #[.string oa, .string oi]) rfl (by kernel_rfl) (by kernel_rfl) (by kernel_rfl) (fun _ _ _ h => h) (.inl ⟨by rfl, fun w' hSw => ?_⟩) hHeld ?_
              focus ((have q0 := hSw.1.cell 0; have q1 := hSw.1.cell 1; simp only [List.getElem?_cons_zero, List.getElem?_cons_succ] at q0 q1); clear hHeld; go_simp)
              try simp only [Act.put, List.setIfInBounds_toArray, List.set_cons_zero, List.set_cons_succ]
              refine wpAnyH_take (i := 1) (oi := ⟨some 82, _, _, _, _, _⟩) (v := .string s) rfl (by kernel_rfl) (by kernel_rfl) (by kernel_rfl) (fun _ _ _ h => h) (.inl ⟨by rfl, fun w' hSw => ?_⟩) hHeld ?_
              focus (skip; clear hHeld; go_simp)
              try simp only [Act.put, List.setIfInBounds_toArray, List.set_cons_zero, List.set_cons_succ]
              refine wpAnyH_take (i := 2) (oi := ⟨some 83, _, _, _, _, _⟩) (v := .int .i64 h) rfl (by kernel_rfl) (by kernel_rfl) (by kernel_rfl) (fun _ _ _ h => h) (.inl ⟨by rfl, fun w' hSw => ?_⟩) hHeld ?_
              focus (skip; clear hHeld; go_simp)
              try simp only [Act.put, List.setIfInBounds_toArray, List.set_cons_zero, List.set_cons_succ]
              refine wpAnyH_take (i := 3) (oi := ⟨some 84, _, _, _, _, _⟩) (v := .int .i64 ((h : Int) + 1)) rfl (by kernel_rfl) (by kernel_rfl) (by kernel_rfl) (fun _ _ _ h => h) (.inl ⟨by rfl, fun w' hSw => ?_⟩) hHeld ?_
              focus (skip; clear hHeld; go_simp; rw [IntKind.wrap_i64]; omega)
              try simp only [Act.put, List.setIfInBounds_toArray, List.set_cons_zero, List.set_cons_succ]
              refine wpAnyH_take (i := 4) (oi := ⟨some 85, _, _, _, _, _⟩) (v := .int .i64 A) rfl (by kernel_rfl) (by kernel_rfl) (by kernel_rfl) (fun _ _ _ h => h) (.inl ⟨by rfl, fun w' hSw => ?_⟩) hHeld ?_
              focus (skip; clear hHeld; go_simp)
              try simp only [Act.put, List.setIfInBounds_toArray, List.set_cons_zero, List.set_cons_succ]
              refine wpAnyH_take (i := 5) (oi := ⟨some 86, _, _, _, _, _⟩) (v := .string re) rfl (by kernel_rfl) (by kernel_rfl) (by kernel_rfl) (fun _ _ _ h => h) (.inl ⟨by rfl, fun w' hSw => ?_⟩) hHeld ?_
              focus (have hxr := HXR.out; clear hHeld; go_simp; intro hneg; exfalso; omega)
              try simp only [Act.put, List.setIfInBounds_toArray, List.set_cons_zero, List.set_cons_succ]
              refine wpAnyH_take (i := 6) (oi := ⟨some 87, _, _, _, _, _⟩) (v := .agg #[.string ua, .string ui]) rfl (by kernel_rfl) (by kernel_rfl) (by kernel_rfl) (fun _ _ _ h => h) (.inl ⟨by rfl, fun w' hSw => ?_⟩) hHeld ?_
              focus ((have q0 := hSw.2.cell 0; have q1 := hSw.2.cell 1; simp only [List.getElem?_cons_zero, List.getElem?_cons_succ] at q0 q1); clear hHeld; go_simp)
              try simp only [Act.put, List.setIfInBounds_toArray, List.set_cons_zero, List.set_cons_succ]
              refine wpAnyH_take (i := 7) (oi := ⟨some 88, _, _, _, _, _⟩) (v := .agg #[.string oa, .string oi, .string re, .string ua, .string ui, .string ⟨#[]⟩]) rfl (by kernel_rfl) (by kernel_rfl) (by kernel_rfl) (fun _ _ _ h => h) (.inl ⟨by rfl, fun w' hSw => ?_⟩) hHeld ?_
              focus (skip; clear hHeld; go_simp)
              try simp only [Act.put, List.setIfInBounds_toArray, List.set_cons_zero, List.set_cons_succ]
              refine wpAnyH_ready (rs := [8]) (by kernel_rfl) (by simp) ?_
              refine AllReadyH.cons (o := ⟨some 14, _, _, _, _, _⟩) rfl (fun K' hK' => ?_) AllReadyH.nil
              go_simp
              have hb0 : Below w9.heap.size w9 (w9.alloc (.cells (tc t0).toArray 25)) := (Below.refl _ _).alloc (Nat.le_refl _) _
              have HGO : Hid (g5 ≠ w9.heap.size ∧ g8 ≠ w9.heap.size) := ⟨Nat.ne_of_lt hHeld.1.lt, Nat.ne_of_lt hHeld.2.lt⟩
              have hkn := hHeld.later hb0
              have HN := Lib.hid (tu_new w9 t0)
              refine hK'.out _ (w9.alloc (.cells (tc t0).toArray 25)) hkn (fun _ => ?_)
              clear hK' K' hHeld
              have hHeld := hkn
              clear hkn
              have HB10 := Lib.hid (HB9.out.trans (hb0.mono HB9.out.size))
              have HX10 := Lib.hid (HX9.out.later hb0)
              have HGL : Hid (w.heap.size < w9.heap.size) := HX9.out.lt
              generalize w9.alloc (.cells (tc t0).toArray 25) = w10 at hHeld HN HB10 HX10 ⊢
              generalize w9.heap.size = n at HN HGL HGO ⊢
              clear hb0 HB9 HX9
              try simp only [Act.put, List.setIfInBounds_toArray, List.set_cons_zero, List.set_cons_succ]
              refine wpAnyH_ready (rs := [9]) (by kernel_rfl) (by simp) ?_
              refine AllReadyH.cons (o := ⟨none, _, _, _, _, _⟩) rfl (fun K' hK' => ?_) AllReadyH.nil
              refine stepw_storeT (u := ⟨oa, oi, re, ua, ui, ⟨#[]⟩⟩) (by rfl) (.tmp 14) (.tmp 88) rfl rfl rfl HN.out ?_
              have hkn : OO g5 oa oi g8 ua ui (w10.setRow n (tc ⟨oa, oi, re, ua, ui, ⟨#[]⟩⟩).toArray) := ⟨hHeld.1.row_other HGO.out.1 _, hHeld.2.row_other HGO.out.2 _⟩
              refine hK'.out _ _ hkn (fun _ => ?_)
              clear hK' K' hHeld
              have hHeld := hkn
              clear hkn
              try simp only [Act.put]
              refine wpAnyH_done (by kernel_rfl) ?_ _
              refine NoPanic.normal ?_
              have HT11 : Hid (TuAt (w10.setRow n (tc ⟨oa, oi, re, ua, ui, ⟨#[]⟩⟩).toArray) n ⟨oa, oi, re, ua, ui, ⟨#[]⟩⟩) := HN.out.row _
              have HX11 := Lib.hid (HX10.out.row_other (Nat.ne_of_lt HGL.out) (tc ⟨oa, oi, re, ua, ui, ⟨#[]⟩⟩).toArray)
              have HB11 := Lib.hid (below_row HB10.out (Nat.le_of_lt HGL.out) (tc ⟨oa, oi, re, ua, ui, ⟨#[]⟩⟩).toArray)
              clear hHeld HN HX10 HB10 HGO
              generalize w10.setRow n (tc ⟨oa, oi, re, ua, ui, ⟨#[]⟩⟩).toArray = w11 at HT11 HX11 HB11 ⊢
              have HR : Hid (parseT s = (⟨oa, oi, re, ua, ui, ⟨#[]⟩⟩, 0, 0)) := by show _ = _; rw [HP.out, parseW_6 HQ0.out HRE.out HQ20.out (by rintro ⟨h, _⟩; cases h), HT.out]; rfl
              have hA := HX11.out
              go_wp2_with (first
                | ((with_reducible refine loadT (x := .tmp 14) (o := ⟨some 106, _, _, _, _, _⟩) HT11.out ?_ ?_); exact ⟨rfl, rfl, rfl⟩)
                | ((with_reducible refine storeT (x := .tmp 2) (y := .tmp 106) (u := ⟨oa, oi, re, ua, ui, ⟨#[]⟩⟩) (o := ⟨none, .store _ _ _, _, _, _, _⟩) hA ?_ ?_); exact ⟨rfl, rfl, rfl, rfl⟩))
              refine bodyPost_ret (resT2 rfl (hA.row _) rfl) rfl ⟨?_, below_row HB11.out (Nat.le_refl _) _⟩
              rw [HR.out]; rfl
            · have HR : Hid (parseT s = (t0, uc, un + (f.size + 1))) := by show _ = _; rw [HP.out, parseW_4 HQ0.out HRE.out (by rw [← HQ2.out]; exact huc), ← HQ2.out]
              have HUN : Hid (un ≤ 1000001) := by
                have := (parseObj_at sub).1
                rw [← HQ2.out] at this
                simp only [] at this
                skip
                show _ ≤ _
                omega
              have hun : (un : Int) ≤ 1000001 := by have := HUN.out; omega
              have hun0 : (0 : Int) ≤ un := by omega
              have h1 : ¬ (uc : Int) = 0 := by omega
              have h2 : ((uc : Int) != 0) = true := by rw [bne_iff_ne]; exact h1
              clear huc
              have hA := HX8.out
              go_wp2_with ((with_reducible refine storeT (x := .tmp 2) (y := .tmp 75) (u := t0) (o := ⟨none, .store _ _ _, _, _, _, _⟩) hA ?_ ?_); exact ⟨rfl, rfl, rfl, rfl⟩)
              refine bodyPost_ret (resT2 rfl (hA.row _) rfl) rfl ⟨?_, below_row HB8.out (Nat.le_refl _) _⟩
              rw [HR.out, HZF.out, show un + (A + 1) = A + 1 + un by omega]; rfl
      · have HR : Hid (parseT s = (t0, oc, on)) := by show _ = _; rw [HP.out, parseW_2 (by rw [← HQ.out]; exact hoc), ← HQ.out]
        have h1 : ¬ (oc : Int) = 0 := by omega
        have h2 : ((oc : Int) != 0) = true := by rw [bne_iff_ne]; exact h1
        clear hoc
        have hA := HX5.out
        go_wp2_with ((with_reducible refine storeT (x := .tmp 2) (y := .tmp 41) (u := t0) (o := ⟨none, .store _ _ _, _, _, _, _⟩) hA ?_ ?_); exact ⟨rfl, rfl, rfl, rfl⟩)
        refine bodyPost_ret (resT2 rfl (hA.row _) rfl) rfl ⟨?_, below_row HB5.out (Nat.le_refl _) _⟩
        rw [HR.out]; rfl
    · have hcut2 := cut_nay hh hlt2
      rw [if_neg hlt2] at HF2
      have HR : Hid (parseT s = (t0, 6, s.size)) := by
        show _ = _
        unfold parseT
        refine parseW_1 (.inr ?_)
        rw [HCUT.out, show hashA = ⟨#[35]⟩ from rfl, hcut2]
      clear hcut2 hh hlt2 hext zfs
      go_enter Tryz.func24, Tryz.ntmps24
      go_wp2_with fail
      rw [show (w.alloc (.cells #[.string ⟨#[]⟩, .string ⟨#[]⟩, .string ⟨#[]⟩, .string ⟨#[]⟩, .string ⟨#[]⟩, .string ⟨#[]⟩] 25)) = w0 from HW.out.symm]
      refine HF.out.mono ?_
      rintro e w1 ⟨rfl, hw1⟩
      subst hw1
      go_wp2_with fail
      rw [HXF.out]
      refine HF2.out.mono ?_
      rintro e w1 ⟨rfl, hw1⟩
      subst hw1
      have hA := HX0.out
      go_wp2_with ((with_reducible refine storeT (x := .tmp 2) (y := .tmp 28) (u := t0) (o := ⟨none, .store _ _ _, _, _, _, _⟩) hA ?_ ?_); exact ⟨rfl, rfl, rfl, rfl⟩)
      refine bodyPost_ret (resT2 rfl (hA.row _) rfl) rfl ⟨?_, below_row HB0.out (Nat.le_refl _) _⟩
      rw [HR.out]; rfl
  · have hcut := cut_nay hA hlt
    rw [if_neg hlt] at HF
    have HR : Hid (parseT s = (t0, 6, s.size)) := by
      show _ = _
      unfold parseT
      exact parseW_1 (.inl (by rw [show atA = ⟨#[64]⟩ from rfl, hcut]))
    clear hcut hA hlt
    go_enter Tryz.func24, Tryz.ntmps24
    go_wp2_with fail
    rw [show (w.alloc (.cells #[.string ⟨#[]⟩, .string ⟨#[]⟩, .string ⟨#[]⟩, .string ⟨#[]⟩, .string ⟨#[]⟩, .string ⟨#[]⟩] 25)) = w0 from HW.out.symm]
    refine HF.out.mono ?_
    rintro e w1 ⟨rfl, hw1⟩
    subst hw1
    have hA := HX0.out
    go_wp2_with ((with_reducible refine storeT (x := .tmp 2) (y := .tmp 19) (u := t0) (o := ⟨none, .store _ _ _, _, _, _, _⟩) hA ?_ ?_); exact ⟨rfl, rfl, rfl, rfl⟩)
    refine bodyPost_ret (resT2 rfl (hA.row _) rfl) rfl ⟨?_, below_row HB0.out (Nat.le_refl _) _⟩
    rw [HR.out]; rfl
end Go.Proofs.YtnnebfcggdbgpaaGreatDoor
/-
  vestrylaw18.TupleParses: the walk.
-/
namespace Go.Proofs.YtnnebfcggdbgpaaGreatDoor
open Go.ChangeShapes Go.WideShapes Go.ChangeAt Go.RowKit
open errAs (ErrT)
set_option linter.unusedVariables false

theorem text_some (t : Tu) (w : World) (h : Env w) : Calls Tryz.prog 15 #[tuV t] w fun e w' => (∃ s ok, e = .returned (.tuple #[.string s, .bool ok])) ∧ Below w.heap.size w w' := by
  rcases hr : rightT t with _ | _
  · exact (text_no t hr w h).mono fun e w' ⟨h1, h2⟩ => ⟨⟨_, _, h1⟩, h2⟩
  · exact (text_yes t hr w h).mono fun e w' ⟨h1, h2⟩ => ⟨⟨_, _, h1⟩, h2⟩
set_option maxRecDepth 100000 in
set_option maxHeartbeats 4000000 in
theorem tparses_law (s : ByteArray) (w : World) (hE : Env w) : Calls Tryz.prog 4 #[.string s] w fun e w' => e = .returned (.bool true) ∧ Below w.heap.size w w' := by
  have HE := Lib.hid hE
  have HAW := Lib.hid (tawake_any w hE)
  clear hE
  by_cases hbig : 1000 < s.size
  · have h1 : (1000 : Int) < s.size := by omega
    go_enter Tryz.func4, Tryz.ntmps4
    go_wp2_with fail
    refine HAW.out.mono ?_
    rintro e w1 ⟨rfl, b1⟩
    have HB1 := Lib.hid b1
    have HAW2 := Lib.hid (tawake_any _ (HE.out.below b1))
    clear b1
    go_wp2_with fail
    refine HAW2.out.mono ?_
    rintro e w2 ⟨rfl, b2⟩
    have HB2 := Lib.hid (HB1.out.trans (b2.mono HB1.out.size))
    clear b2
    go_wp2_with fail
    go_ret
    exact ⟨rfl, HB2.out⟩
  · have h1 : ¬ (1000 : Int) < s.size := by omega
    have HSZ : Hid (s.size ≤ 1000000) := by show s.size ≤ 1000000; omega
    obtain ⟨t, c, n, hpz⟩ : ∃ t c n, parseT s = (t, c, n) := ⟨_, _, _, rfl⟩
    have HPZ := Lib.hid hpz
    clear hpz
    go_enter Tryz.func4, Tryz.ntmps4
    go_wp2_with fail
    refine HAW.out.mono ?_
    rintro e w1 ⟨rfl, b1⟩
    have HB1 := Lib.hid b1
    have HE1 := Lib.hid (HE.out.below b1)
    have HPA : Hid (Calls Tryz.prog 19 #[.string s] w1 fun e w' => e = .returned (.tuple #[tuV t, errF c n]) ∧ Below w1.heap.size w1 w') := by
      have h := tparse_any s w1 HE1.out HSZ.out
      rw [HPZ.out] at h
      exact h
    clear b1 HAW HE
    go_wp2_with fail
    refine HPA.out.mono ?_
    rintro e w2 ⟨rfl, b2⟩
    have hb3 : Below w2.heap.size w2 (w2.alloc (.cells (tc t).toArray 25)) := (Below.refl _ _).alloc (Nat.le_refl _) _
    have HB3 := Lib.hid ((HB1.out.trans (b2.mono HB1.out.size)).trans (hb3.mono (HB1.out.trans (b2.mono HB1.out.size)).size))
    have HE3 := Lib.hid ((HE1.out.below b2).below hb3)
    have HA3 := Lib.hid (tu_new w2 t)
    clear b2 hb3 HPA HB1 HE1
    go_upto_region 4 with ((with_reducible refine atT w2.heap.size (x := .tmp 3) (y := .tmp 21) (u := t) (o := ⟨none, .store _ _ _, _, _, _, _⟩) ?_ ?_); exact ⟨rfl, rfl, rfl, rfl, rfl, rfl⟩)
    generalize w2.alloc (.cells (tc t).toArray 25) = w3 at HB3 HE3 HA3 ⊢
    generalize w2.heap.size = g3 at HA3 ⊢
    have HRP : Hid (Calls Tryz.prog 24 #[.string s] w3 fun e w' => e = .returned (.tuple #[tuV t, .int .i64 (c : Nat), .int .i64 (n : Nat)]) ∧ Below w3.heap.size w3 w') := by
      have h := rtparse_any s w3 HSZ.out
      rw [HPZ.out] at h
      exact h
    go_wp2_with fail
    refine HRP.out.mono ?_
    rintro e w4 ⟨rfl, b4⟩
    have hb5 : Below w4.heap.size w4 (w4.alloc (.cells (tc t).toArray 25)) := (Below.refl _ _).alloc (Nat.le_refl _) _
    have HB5 := Lib.hid ((HB3.out.trans (b4.mono HB3.out.size)).trans (hb5.mono (HB3.out.trans (b4.mono HB3.out.size)).size))
    have HE5 := Lib.hid ((HE3.out.below b4).below hb5)
    have HA5 := Lib.hid ((HA3.out.later b4).later hb5)
    have HX5 := Lib.hid (tu_new w4 t)
    clear b4 hb5 HRP HB3 HE3 HA3
    go_upto_region 5 with ((with_reducible refine atT w4.heap.size (x := .tmp 5) (y := .tmp 26) (u := t) (o := ⟨none, .store _ _ _, _, _, _, _⟩) ?_ ?_); exact ⟨rfl, rfl, rfl, rfl, rfl, rfl⟩)
    generalize w4.alloc (.cells (tc t).toArray 25) = w5 at HB5 HE5 HA5 HX5 ⊢
    generalize w4.heap.size = g5 at HX5 ⊢
    have hee : Hid (eqT t t = !false) := eqT_refl t
    have HTO := Lib.hid (told_any c n w5 HE5.out.2.1)
    go_wp2_with (first
      | ((with_reducible refine loadT (x := .tmp 3) (u := t) (o := ⟨some 29, _, _, _, _, _⟩) HA5.out ?_ ?_); exact ⟨rfl, rfl, rfl⟩)
      | ((with_reducible refine loadT (x := .tmp 5) (u := t) (o := ⟨some 30, _, _, _, _, _⟩) HX5.out ?_ ?_); exact ⟨rfl, rfl, rfl⟩)
      | ((with_reducible refine neW hee.out (t := 25) (x := .tmp 29) (y := .tmp 30) (o := ⟨some 31, _, _, _, _, _⟩) ?_ ?_); exact ⟨rfl, rfl, rfl, rfl⟩))
    refine HTO.out.mono ?_
    rintro e w6 ⟨rfl, b6⟩
    have HB6 := Lib.hid (HB5.out.trans (b6.mono HB5.out.size))
    have HE6 := Lib.hid (HE5.out.below b6)
    have HA6 := Lib.hid (HA5.out.later b6)
    clear b6 HTO HB5 HE5 HA5 HX5
    by_cases hc : c = 0
    · subst hc
      obtain ⟨hr, ht, _⟩ := parseT_back (s := s) (by rw [HPZ.out])
      rw [HPZ.out] at hr ht
      have HR := Lib.hid hr
      have HTT : Hid (textT t = s) := ht
      clear hr ht
      have HTX := Lib.hid (text_yes t HR.out w6 HE6.out)
      rw [HTT.out] at HTX
      go_wp2_with ((with_reducible refine loadT (x := .tmp 3) (u := t) (o := ⟨some 40, _, _, _, _, _⟩) HA6.out ?_ ?_); exact ⟨rfl, rfl, rfl⟩)
      refine HTX.out.mono ?_
      rintro e w7 ⟨rfl, b7⟩
      have HB7 := Lib.hid (HB6.out.trans (b7.mono HB6.out.size))
      clear b7 HTX HB6 HE6 HA6
      go_wp2_with fail
      go_ret
      exact ⟨rfl, HB7.out⟩
    · have hc1 : ¬ (c : Int) = 0 := by omega
      have hc2 : ((c : Int) != 0) = true := by rw [bne_iff_ne]; exact hc1
      have HTX := Lib.hid (text_some t w6 HE6.out)
      go_wp2_with ((with_reducible refine loadT (x := .tmp 3) (u := t) (o := ⟨some 40, _, _, _, _, _⟩) HA6.out ?_ ?_); exact ⟨rfl, rfl, rfl⟩)
      refine HTX.out.mono ?_
      rintro e w7 ⟨⟨s', ok, rfl⟩, b7⟩
      have HB7 := Lib.hid (HB6.out.trans (b7.mono HB6.out.size))
      clear b7 HTX HB6 HE6 HA6
      go_wp2_with fail
      go_ret
      exact ⟨rfl, HB7.out⟩
end Go.Proofs.YtnnebfcggdbgpaaGreatDoor
/-
  The reference's Put1.
-/
namespace Go.Proofs.YtnnebfcggdbgpaaGreatDoor
open Go.ChangeShapes Go.WideShapes Go.ChangeAt Go.RowKit
set_option linter.unusedVariables false

theorem put1_end : ∀ {l : List Tu} {t : Tu} {k : Nat}, k ≤ l.length → (∀ j, (hj : j < l.length) → j < k → ordT l[j] t < 0) → (∀ h : k < l.length, ¬ ordT l[k] t < 0 ∧ ¬ l[k] = t) → put1 t l = l.take k ++ t :: l.drop k
  | [], t, k, hk, _, _ => by
    obtain rfl : k = 0 := by simpa using hk
    rfl
  | a :: l, t, 0, hk, _, h => by
    obtain ⟨h1, h2⟩ := h (by simp)
    simp only [List.getElem_cons_zero] at h1 h2
    unfold put1
    rw [if_neg h1, if_neg (fun e => h2 (ordT_eq e))]
    rfl
  | a :: l, t, k + 1, hk, hb, h => by
    have h0 : ordT a t < 0 := hb 0 (by simp) (by omega)
    unfold put1
    rw [if_pos h0, put1_end (k := k) (by simpa using hk) (fun j hj hjk => hb (j + 1) (by simpa using hj) (by omega)) (fun hk' => h (by simpa using hk'))]
    rfl
theorem put1_there : ∀ {l : List Tu} {t : Tu} {k : Nat} (hk : k < l.length), (∀ j, (hj : j < l.length) → j < k → ordT l[j] t < 0) → l[k] = t → put1 t l = l
  | a :: l, t, 0, hk, _, h => by
    simp only [List.getElem_cons_zero] at h
    subst h
    unfold put1
    rw [if_neg (by rw [ordT_self]; omega), if_pos (ordT_self a)]
  | a :: l, t, k + 1, hk, hb, h => by
    have h0 : ordT a t < 0 := hb 0 (by simp) (by omega)
    unfold put1
    rw [if_pos h0, put1_there (k := k) (by simpa using hk) (fun j hj hjk => hb (j + 1) (by simpa using hj) (by omega)) (by simpa using h)]
/-- The tuples l lie where p points. -/
def SrcT (p : Option Addr) (c : Nat) (w : World) (l : List Tu) : Prop := (l = [] ∧ p = none ∧ c = 0) ∨ ∃ b off, p = some ⟨b, off, none⟩ ∧ b < w.heap.size ∧ w.rangeAt b off (l.flatMap tc)
theorem TuSl.src {w : World} {sv : Value} {l : List Tu} (h : TuSl w sv l) : ∃ p c, sv = .slice p l.length c ∧ l.length ≤ c ∧ SrcT p c w l := by
  rcases h with ⟨h1, h2⟩ | ⟨b, off, c, h1, h2, h3, h4⟩
  · subst h1 h2
    exact ⟨none, 0, rfl, by simp, .inl ⟨rfl, rfl, rfl⟩⟩
  · exact ⟨_, c, h1, h2, .inr ⟨b, off, rfl, h3, h4⟩⟩
theorem SrcT.below {p : Option Addr} {c : Nat} {w w' : World} {l : List Tu} (h : SrcT p c w l) (hb : Below w.heap.size w w') : SrcT p c w' l := by
  rcases h with h | ⟨b, off, h1, h2, h3⟩
  · exact .inl h
  · refine .inr ⟨b, off, h1, Nat.lt_of_lt_of_le h2 hb.size, fun j v hv => ?_⟩
    have := h3 j v hv
    unfold World.cell? at this ⊢
    rw [hb.block b h2]
    exact this
theorem SrcT.row {p : Option Addr} {c : Nat} {w : World} {l : List Tu} (h : SrcT p c w l) {i : Nat} (hi : i < l.length) : ∃ b off, p = some ⟨b, off, none⟩ ∧ b < w.heap.size ∧ w.rangeAt b (off + i * 6) (tc l[i]) := by
  rcases h with ⟨h, _⟩ | ⟨b, off, h1, h2, h3⟩
  · subst h; exact absurd hi (by simp)
  · exact ⟨b, off, h1, h2, flat_row h3 hi⟩
theorem SrcT.take {p : Option Addr} {c : Nat} {w : World} {l : List Tu} (h : SrcT p c w l) (k : Nat) : SrcT p c w (l.take k) := by
  rcases h with ⟨h1, h2⟩ | ⟨b, off, h1, h2, h3⟩
  · exact .inl ⟨by rw [h1]; simp, h2⟩
  · refine .inr ⟨b, off, h1, h2, fun j v hv => h3 j v ?_⟩
    rw [← List.take_append_drop k l, List.flatMap_append, List.getElem?_append_left (List.getElem?_eq_some_iff.1 hv).1]
    exact hv
theorem SrcT.drop {b off c c' : Nat} {w : World} {l : List Tu} (h : SrcT (some ⟨b, off, none⟩) c w l) {k : Nat} (hk : k ≤ l.length) : SrcT (some ⟨b, off + k * 6, none⟩) c' w (l.drop k) := by
  rcases h with ⟨h1, h2, _⟩ | ⟨b', off', h1, h2, h3⟩
  · cases h2
  · simp only [Option.some.injEq, Addr.mk.injEq, and_true] at h1
    obtain ⟨rfl, rfl⟩ := h1
    refine .inr ⟨b, off + k * 6, rfl, h2, fun j v hv => ?_⟩
    rw [Nat.add_assoc]
    refine h3 (k * 6 + j) v ?_
    have hl : ((l.take k).flatMap tc).length = k * 6 := by rw [flat_len, List.length_take]; congr 1; omega
    rw [← List.take_append_drop k l, List.flatMap_append, List.getElem?_append_right (by rw [hl]; omega), hl, Nat.add_sub_cancel_left]
    exact hv
theorem appT {ops : Array Oper} {rest : List Oper} {o : Oper} {a : Act} {Q : Exit → Act → World → Prop} {w : World} (hgd : o.guard = none) (s x : Operand) (ho : o.op = .call { callee := .builtin .append, args := #[s, x], argTypes := #[52, 52] })
    {base n m c : Nat} {v : Value} {xs news : List Tu} {p : Option Addr} (hs : a.eval s = v) (hown : w.ownsRow base 25 6 v n (xs.flatMap tc)) (hx : a.eval x = .slice p m c) (hm : news.length = m) (h2 : SrcT p c w news)
    (hlen : n + m ≤ 1000000) (hbase : base ≤ w.heap.size)
    (h : ∀ v' w', w'.ownsRow base 25 6 v' (n + m) ((xs ++ news).flatMap tc) → Below base w w' → wpList Tryz.prog ops Q rest (a.put o.dst v') w') : wpList Tryz.prog ops Q (o :: rest) a w := by
  obtain ⟨i0, hi⟩ : ∃ i, Tryz.prog.info? 25 = some i := Option.isSome_iff_exists.1 (by kernel_rfl)
  have q1 : (Tryz.prog.info? 25).bind (·.zero) = some (tuV t0) := by kernel_rfl
  have q2 : (Tryz.prog.info? 25).map (·.size) = some 6 := by kernel_rfl
  have q3 : (Tryz.prog.info? 25).map (·.bytes) = some 96 := by kernel_rfl
  rw [hi] at q1 q2 q3
  rcases h2 with ⟨h1, h2, h3⟩ | ⟨b, off, h1, h2, h3⟩
  · subst h1 h2 h3
    obtain rfl : m = 0 := by simpa using hm.symm
    refine wpList_append_own_none hgd s x 52 ho base 25 i0 6 Tryz.underlying52 hi v n _ hs hown hx ?_
    exact h v w (by rw [List.append_nil]; exact hown) (Below.refl _ _)
  · subst h1
    refine wpList_append_own w hgd s x 52 ho base 25 i0 (tuV t0) 6 96 Tryz.underlying52 hi q1 (Option.some.inj q2) (Option.some.inj q3) (by kernel_rfl) (by decide) v n _ hs hown ⟨b, off, none⟩ m c (news.flatMap tc) hx (by rw [flat_len, hm]) ?_ ?_ (by unfold maxLen; omega) (by omega) hbase ?_
    · intro j u hj
      rw [show (Addr.add ⟨b, off, none⟩ j) = ⟨b, off + j, none⟩ by cases j <;> simp [Addr.add]]
      exact h3 j u hj
    · intro u hu
      obtain ⟨y, _, hy⟩ := List.mem_flatMap.1 hu
      exact tc_one y u hy
    · intro v' w' r1 r2 _
      exact h v' w' (by rw [List.flatMap_append]; exact r1) ((Below.refl _ _).grown r2 hbase (fun k hk => (hown.lt k hk).1))
theorem ownsRow_sl {w : World} {base : Nat} {v : Value} {l : List Tu} (h : w.ownsRow base 25 6 v l.length (l.flatMap tc)) : TuSl w v l := by
  rcases h.2 with ⟨h1, h2⟩ | ⟨g, cap, cur, rfl, h1, h2, h3, _, h5, h6⟩
  · exact .inl ⟨h1, List.eq_nil_of_length_eq_zero h2⟩
  · refine .inr ⟨g, 0, cap, rfl, h3, (Array.getElem?_eq_some_iff.1 h2).1, ?_⟩
    have := holds_of_row h2 h6
    exact row_of_holds (r := []) (by rw [List.append_nil]; exact this)
theorem stillG {ops : Array Oper} {rest : List Oper} {o : Oper} {a : Act} {Q' : Act → Prop} {w : World} {b off : Nat} {x : Operand} {u : Tu} (hr : w.rangeAt b off (tc u)) (hs : Region.wanted o (yielded ops a.tmps) = true ∧ o.op = .load 25 x ∧ a.eval x = .pointer (some ⟨b, off, none⟩))
    (hk : wpStill Tryz.prog ops w Q' rest (a.put o.dst (tuV u))) : wpStill Tryz.prog ops w Q' (o :: rest) a := by
  refine wpStill_step (fun K hK => ?_)
  rw [if_pos hs.1]
  unfold Oper.still execOp
  simp only [hs.2.1, hs.2.2, Instr.loadAt, Instr.sureAddr, Sem.run_bind, Sem.run_pure, Result.andThen_ok, run_loadVar_mid w b off _ (tc u) _ hr Tryz.underlying25 rfl (by kernel_rfl)]
  exact ⟨rfl, hK _ hk⟩
def PS (w : World) (g : Nat) (t : Tu) (W : World) : Prop := Below w.heap.size w W ∧ Arr W 25 g (tc t)
theorem PS.later {w W W' : World} {g : Nat} {t : Tu} (h : PS w g t W) (hb : Below W.heap.size W W') : PS w g t W' := ⟨h.1.trans (hb.mono h.1.size), h.2.later hb⟩
end Go.Proofs.YtnnebfcggdbgpaaGreatDoor
/-
  The reference's Put1: the walk.
-/
namespace Go.Proofs.YtnnebfcggdbgpaaGreatDoor
open Go.ChangeShapes Go.WideShapes Go.ChangeAt Go.RowKit
set_option linter.unusedVariables false

theorem SrcT.fin {{b off c c' k : Nat}} {{w : World}} {{l : List Tu}} (h : SrcT (some ⟨b, off, none⟩) c w l) (hk : k = l.length) : SrcT (some ⟨b, off, none⟩) c' w (l.drop k) := by
  rcases h with ⟨_, h2, _⟩ | ⟨b', off', h1, h2, _⟩
  · cases h2
  · simp only [Option.some.injEq, Addr.mk.injEq, and_true] at h1
    obtain ⟨rfl, rfl⟩ := h1
    refine .inr ⟨b, off, rfl, h2, fun j v hv => ?_⟩
    rw [hk, List.drop_length] at hv
    simp at hv
theorem own_alloc {w : World} {base n : Nat} {v : Value} {xs : List Value} (h : w.ownsRow base 25 6 v n xs) (o : Obj) : (w.alloc o).ownsRow base 25 6 v n xs := by
  refine h.kept (row := none) (grown_of ((Below.refl _ _).alloc (Nat.le_refl _) o) none) ?_
  by_cases e : v.ownBlock = none
  · exact .inl e
  · exact .inr e
set_option maxRecDepth 100000 in
set_option maxHeartbeats 4000000 in
theorem rput1_any {w : World} {sv : Value} {l : List Tu} (t : Tu) (h : TuSl w sv l) (hz : ∀ x ∈ l, sizesT x 1000000) (ht : sizesT t 1000000) (hl : l.length ≤ 1000) :
    Calls Tryz.prog 80 #[sv, tuV t] w fun e w' => ∃ v', e = .returned v' ∧ Below w.heap.size w w' ∧ TuSl w' v' (put1 t l) := by
  have b0 : Below w.heap.size w (w.alloc (.cells (tc t).toArray 25)) := (Below.refl _ _).alloc (Nat.le_refl _) _
  have HP0 : Hid (PS w w.heap.size t (w.alloc (.cells (tc t).toArray 25))) := ⟨b0, tu_new w t⟩
  obtain ⟨p, c, rfl, hc, hs⟩ := h.src
  have HS0 := Lib.hid (hs.below b0)
  have HZ := Lib.hid hz
  have HT := Lib.hid ht
  have HLN := Lib.hid hl
  clear h hz ht hs b0
  go_enter Tryz.func80, Tryz.ntmps80
  go_wp2_with fail
  generalize w.alloc (.cells (tc t).toArray 25) = w0 at HP0 HS0 ⊢
  go_loopg [5] (l.length + 1) (fun gg s5 wr => ∃ k : Nat, k ≤ l.length ∧ l.length + 1 - k ≤ gg ∧ s5 = .int .i64 k ∧ PS w w.heap.size t wr ∧ SrcT p c wr l ∧ ∀ j, (hj : j < l.length) → j < k → ordT l[j] t < 0)
  case atStart => exact ⟨0, by omega, by omega, rfl, HP0.out, HS0.out, fun j _ hj => absurd hj (by omega)⟩
  case round =>
    obtain ⟨k, hk, hg, rfl, hp, hs, hall⟩ := hrel
    have HP := Lib.hid hp
    have HSR := Lib.hid hs
    have HA := Lib.hid hall
    clear hp hs hall HP0 HS0
    by_cases hlt : k < l.length
    · obtain ⟨b, off, rfl, _, hr⟩ := HSR.out.row hlt
      obtain ⟨x, hx⟩ : ∃ x, x = l[k] := ⟨_, rfl⟩
      have HX : Hid (l[k]? = some x) := by show _ = _; rw [hx, List.getElem?_eq_getElem hlt]
      have HSX : Hid (sizesT x 1000000) := by rw [hx]; exact HZ.out _ (List.getElem_mem hlt)
      rw [← hx] at hr
      have HR : Hid ((wr.drew).rangeAt b (off + k * 6) (tc x)) := hr
      have HAT : Hid ((wr.drew).rangeAt w.heap.size 0 (tc t)) := HP.out.2.range
      have HCM := Lib.hid (rcompare_any x t HSX.out HT.out wr.drew)
      clear hx hr
      go_wp2_with fail
      refine region_tail 10 (by kernel_rfl) (by kernel_rfl) ?_
      simp only [List.take_succ_cons, List.take_zero, List.drop_succ_cons, List.drop_zero]
      repeat first
        | still_step
        | ((with_reducible refine stillG (x := .tmp 14) (o := ⟨some 15, _, _, _, _, _⟩) HR.out ?_ ?_); exact ⟨rfl, rfl, by go_simp⟩)
        | ((with_reducible refine stillG (x := .tmp 3) (o := ⟨some 16, _, _, _, _, _⟩) HAT.out ?_ ?_); exact ⟨rfl, rfl, by go_simp⟩)
      refine wpStill_nil ?_
      clear HR HAT
      go_wp2_with fail
      refine HCM.out.mono ?_
      rintro e w2 ⟨rfl, b2⟩
      have bb : Below wr.heap.size wr w2 := (Below.refl wr.heap.size wr).drew.trans b2
      have HP2 := Lib.hid (HP.out.later bb)
      have HS2 := Lib.hid (HSR.out.below bb)
      clear b2 bb HCM HP HSR
      obtain ⟨q, hq⟩ : ∃ q, q = ordT x t := ⟨_, rfl⟩
      have HQ := Lib.hid hq
      rw [← hq]
      clear hq
      by_cases hneg : q < 0
      · go_wp2_with fail
        go_roundg (l.length + 1 - (k + 1))
        case measure => omega
        case rel =>
          refine ⟨k + 1, by omega, Nat.le_refl _, by go_num, HP2.out, HS2.out, fun j hj hjk => ?_⟩
          by_cases e : j = k
          · subst e
            have := HX.out
            rw [List.getElem?_eq_getElem hj] at this
            rw [Option.some.inj this, ← HQ.out]; exact hneg
          · exact HA.out j hj (by omega)
      · have HR2 : Hid ((w2.drew).rangeAt b (off + k * 6) (tc x)) := by
          obtain ⟨b', off', he, _, hr⟩ := HS2.out.row hlt
          simp only [Option.some.injEq, Addr.mk.injEq, and_true] at he
          obtain ⟨rfl, rfl⟩ := he
          have := HX.out
          rw [List.getElem?_eq_getElem hlt] at this
          rw [Option.some.inj this] at hr
          exact hr
        have HAT2 : Hid ((w2.drew).rangeAt w.heap.size 0 (tc t)) := HP2.out.2.range
        go_wp2_with fail
        refine region_tail 10 (by kernel_rfl) (by kernel_rfl) ?_
        simp only [List.take_succ_cons, List.take_zero, List.drop_succ_cons, List.drop_zero]
        repeat first
          | still_step
          | ((with_reducible refine stillG (x := .tmp 29) (o := ⟨some 30, _, _, _, _, _⟩) HR2.out ?_ ?_); exact ⟨rfl, rfl, by go_simp⟩)
          | ((with_reducible refine stillG (x := .tmp 3) (o := ⟨some 31, _, _, _, _, _⟩) HAT2.out ?_ ?_); exact ⟨rfl, rfl, by go_simp⟩)
        refine wpStill_nil ?_
        clear HR2 HAT2
        have HPZ := Lib.hid (HP2.out.later (Below.refl w2.heap.size w2).drew)
        have HSZ := Lib.hid (HS2.out.below (Below.refl w2.heap.size w2).drew)
        generalize w2.drew = wz at HPZ HSZ ⊢
        rcases he : eqT x t with _ | _
        · have HF : Hid (put1 t l = l.take k ++ t :: l.drop k) := put1_end hk HA.out fun h => by
            have := HX.out
            rw [List.getElem?_eq_getElem h] at this
            rw [Option.some.inj this]
            exact ⟨by rw [← HQ.out]; omega, fun e => by rw [e, eqT_refl] at he; cases he⟩
          have HE := Lib.hid he
          have HP := HPZ
          have HSR := HSZ
          clear he HPZ HSZ HP2 HS2
          have HTK : Hid ((l.take k).length = k) := by show _ = _; rw [List.length_take]; omega
          have HDK : Hid ((l.drop k).length = l.length - k) := by show _ = _; rw [List.length_drop]
          have ba : Below wz.heap.size wz (wz.alloc (.cells #[] 25)) := (Below.refl _ _).alloc (Nat.le_refl _) _
          have HBA := Lib.hid ba
          have HS1 := Lib.hid ((HSR.out.below ba).take k)
          have HW1 : Hid (World.ownsRow (wz.alloc (.cells #[] 25)) wz.heap.size 25 6 (.slice (some ⟨wz.heap.size, 0, none⟩) 0 0) 0 (([] : List Tu).flatMap tc)) := World.ownsRow_made wz #[] 0 (Nat.le_refl _) (Nat.zero_le _) (by simp)
          clear ba
          go_upto_region 7 with (first | ((with_reducible refine eqW HE.out (t := 25) (x := .tmp 30) (y := .tmp 31) (o := ⟨some 32, _, _, _, _, _⟩) ?_ ?_); exact ⟨rfl, rfl, rfl, rfl⟩) | (at_builtin; refine appT rfl _ _ rfl (base := wz.heap.size) (xs := []) (news := l.take k) rfl HW1.out rfl HTK.out HS1.out (by have := HLN.out; omega) HBA.out.size ?_; intro v3 w3 h3 b3))
          have HB3 := Lib.hid (HBA.out.trans b3)
          have HP3 := Lib.hid (HP.out.later HB3.out)
          have HS3 := Lib.hid (HSR.out.below HB3.out)
          have HA3 : Hid (Arr w3 25 w.heap.size (tc t)) := HP3.out.2
          have ba : Below w3.heap.size w3 (w3.alloc (.cells #[.string t.ot, .string t.oi, .string t.re, .string t.st, .string t.si, .string t.us] 25)) := (Below.refl _ _).alloc (Nat.le_refl _) _
          have HO3 := Lib.hid (own_alloc h3 (.cells #[.string t.ot, .string t.oi, .string t.re, .string t.st, .string t.si, .string t.us] 25))
          have HB4 := Lib.hid (HB3.out.trans (ba.mono HB3.out.size))
          have HN4 : Hid (SrcT (some ⟨w3.heap.size, 0, none⟩) 1 (w3.alloc (.cells #[.string t.ot, .string t.oi, .string t.re, .string t.st, .string t.si, .string t.us] 25)) [t]) := .inr ⟨w3.heap.size, 0, rfl, by simp, Arr.range (Arr.new' w3 25 _ _ rfl)⟩
          clear ba b3 h3 HBA HW1 HS1
          go_upto_region 8 with (first | ((with_reducible refine loadX (x := .tmp 3) (t := t) (o := ⟨some 41, _, _, _, _, _⟩) HA3.out ?_ ?_); exact ⟨rfl, rfl, rfl⟩) | (at_builtin; refine appT rfl _ _ rfl (base := wz.heap.size) (xs := [] ++ l.take k) (news := [t]) rfl HO3.out rfl rfl HN4.out (by have := HLN.out; omega) HB4.out.size ?_; intro v4 w4 h4 b4))
          have HB5 := Lib.hid (HB4.out.trans b4)
          have HO5 := Lib.hid h4
          have HS4 := Lib.hid (HSR.out.below HB5.out)
          clear b4 h4 HO3 HN4 HP3 HS3 HA3
          go_wp2_with (at_builtin; refine appT rfl _ _ rfl (base := wz.heap.size) (xs := [] ++ l.take k ++ [t]) (news := l.drop k) rfl HO5.out rfl HDK.out (HS4.out.drop (k := k) (by omega)) (by have := HLN.out; omega) HB5.out.size ?_; intro v5 w5 h5 b5)
          have HB6 := Lib.hid (HB5.out.trans b5)
          have HO6 := Lib.hid h5
          clear b5 h5 HO5
          go_wp2_with fail
          go_ret
          refine ⟨v5, rfl, HP.out.1.trans (HB6.out.mono HP.out.1.size), ownsRow_sl (base := wz.heap.size) ?_⟩
          have e1 : 0 + k + 1 + (l.length - k) = (put1 t l).length := by rw [HF.out, List.length_append, HTK.out, List.length_cons, HDK.out]; omega
          have e2 : [] ++ l.take k ++ [t] ++ l.drop k = put1 t l := by rw [HF.out]; simp
          have h6 := HO6.out
          rw [e1, e2] at h6
          exact h6
        · have HF : Hid (put1 t l = l) := put1_there hlt HA.out (by
            have := HX.out
            rw [List.getElem?_eq_getElem hlt] at this
            rw [Option.some.inj this]; exact (eqT_iff _ _).1 he)
          have HE := Lib.hid he
          clear he
          go_wp2_with ((with_reducible refine eqW HE.out (t := 25) (x := .tmp 30) (y := .tmp 31) (o := ⟨some 32, _, _, _, _, _⟩) ?_ ?_); exact ⟨rfl, rfl, rfl, rfl⟩)
          go_ret
          refine ⟨_, rfl, HPZ.out.1, ?_⟩
          rw [HF.out]
          rcases HSZ.out with ⟨h1, _⟩ | ⟨b', off', h1, h2, h3⟩
          · subst h1; exact absurd hlt (by simp)
          · simp only [Option.some.injEq, Addr.mk.injEq, and_true] at h1
            obtain ⟨rfl, rfl⟩ := h1
            exact .inr ⟨_, _, _, rfl, hc, h2, h3⟩
    · have hke : k = l.length := by omega
      have HF : Hid (put1 t l = l.take k ++ t :: l.drop k) := put1_end hk HA.out (fun h => absurd h hlt)
      have HKE := Lib.hid hke
      clear hke
      have hlt' : ¬ (k : Int) < l.length := by omega
      go_wp2_with fail
      refine region_tail 10 (by kernel_rfl) (by kernel_rfl) ?_
      simp only [List.take_succ_cons, List.take_zero, List.drop_succ_cons, List.drop_zero]
      repeat still_step
      refine wpStill_nil ?_
      go_wp2_with fail
      refine region_tail 10 (by kernel_rfl) (by kernel_rfl) ?_
      simp only [List.take_succ_cons, List.take_zero, List.drop_succ_cons, List.drop_zero]
      repeat still_step
      refine wpStill_nil ?_
      have HPZ := Lib.hid ((HP.out.later (Below.refl wr.heap.size wr).drew).later (Below.refl wr.drew.heap.size wr.drew).drew)
      have HSZ := Lib.hid ((HSR.out.below (Below.refl wr.heap.size wr).drew).below (Below.refl wr.drew.heap.size wr.drew).drew)
      generalize wr.drew.drew = wz at HPZ HSZ ⊢
      have HP := HPZ
      have HSR := HSZ
      clear HPZ HSZ
      rcases p with _ | ⟨b, off, x⟩
      · have HL : Hid (l = [] ∧ c = 0) := by
          rcases HSR.out with ⟨h1, _, h3⟩ | ⟨b, off, h1, _⟩
          · exact ⟨h1, h3⟩
          · cases h1
        have HTK : Hid ((l.take k).length = k) := by show _ = _; rw [List.length_take]; omega
        have HDK : Hid ((l.drop k).length = l.length - k) := by show _ = _; rw [List.length_drop]
        have ba : Below wz.heap.size wz (wz.alloc (.cells #[] 25)) := (Below.refl _ _).alloc (Nat.le_refl _) _
        have HBA := Lib.hid ba
        have HS1 := Lib.hid ((HSR.out.below ba).take k)
        have HW1 : Hid (World.ownsRow (wz.alloc (.cells #[] 25)) wz.heap.size 25 6 (.slice (some ⟨wz.heap.size, 0, none⟩) 0 0) 0 (([] : List Tu).flatMap tc)) := World.ownsRow_made wz #[] 0 (Nat.le_refl _) (Nat.zero_le _) (by simp)
        clear ba
        go_upto_region 7 with (at_builtin; refine appT rfl _ _ rfl (base := wz.heap.size) (xs := []) (news := l.take k) rfl HW1.out rfl HTK.out HS1.out (by have := HLN.out; omega) HBA.out.size ?_; intro v3 w3 h3 b3)
        have HB3 := Lib.hid (HBA.out.trans b3)
        have HP3 := Lib.hid (HP.out.later HB3.out)
        have HS3 := Lib.hid (HSR.out.below HB3.out)
        have HA3 : Hid (Arr w3 25 w.heap.size (tc t)) := HP3.out.2
        have ba : Below w3.heap.size w3 (w3.alloc (.cells #[.string t.ot, .string t.oi, .string t.re, .string t.st, .string t.si, .string t.us] 25)) := (Below.refl _ _).alloc (Nat.le_refl _) _
        have HO3 := Lib.hid (own_alloc h3 (.cells #[.string t.ot, .string t.oi, .string t.re, .string t.st, .string t.si, .string t.us] 25))
        have HB4 := Lib.hid (HB3.out.trans (ba.mono HB3.out.size))
        have HN4 : Hid (SrcT (some ⟨w3.heap.size, 0, none⟩) 1 (w3.alloc (.cells #[.string t.ot, .string t.oi, .string t.re, .string t.st, .string t.si, .string t.us] 25)) [t]) := .inr ⟨w3.heap.size, 0, rfl, by simp, Arr.range (Arr.new' w3 25 _ _ rfl)⟩
        clear ba b3 h3 HBA HW1 HS1
        go_upto_region 8 with (first | ((with_reducible refine loadX (x := .tmp 3) (t := t) (o := ⟨some 41, _, _, _, _, _⟩) HA3.out ?_ ?_); exact ⟨rfl, rfl, rfl⟩) | (at_builtin; refine appT rfl _ _ rfl (base := wz.heap.size) (xs := [] ++ l.take k) (news := [t]) rfl HO3.out rfl rfl HN4.out (by have := HLN.out; omega) HB4.out.size ?_; intro v4 w4 h4 b4))
        have HB5 := Lib.hid (HB4.out.trans b4)
        have HO5 := Lib.hid h4
        have HS4 := Lib.hid (HSR.out.below HB5.out)
        clear b4 h4 HO3 HN4 HP3 HS3 HA3
        go_wp2_with (at_builtin; refine appT rfl _ _ rfl (base := wz.heap.size) (xs := [] ++ l.take k ++ [t]) (news := l.drop k) rfl HO5.out rfl HDK.out (.inl ⟨by simp [HL.out.1], rfl, by have := HL.out.2; omega⟩) (by have := HLN.out; omega) HB5.out.size ?_; intro v5 w5 h5 b5)
        have HB6 := Lib.hid (HB5.out.trans b5)
        have HO6 := Lib.hid h5
        clear b5 h5 HO5
        go_wp2_with fail
        go_ret
        refine ⟨v5, rfl, HP.out.1.trans (HB6.out.mono HP.out.1.size), ownsRow_sl (base := wz.heap.size) ?_⟩
        have e1 : 0 + k + 1 + (l.length - k) = (put1 t l).length := by rw [HF.out, List.length_append, HTK.out, List.length_cons, HDK.out]; omega
        have e2 : [] ++ l.take k ++ [t] ++ l.drop k = put1 t l := by rw [HF.out]; simp
        have h6 := HO6.out
        rw [e1, e2] at h6
        exact h6
      · have hx : x = none := by
          rcases HSR.out with ⟨_, h1, _⟩ | ⟨b', off', h1, _⟩
          · cases h1
          · simp only [Option.some.injEq, Addr.mk.injEq] at h1; exact h1.2.2
        subst hx
        have HTK : Hid ((l.take k).length = k) := by show _ = _; rw [List.length_take]; omega
        have HDK : Hid ((l.drop k).length = l.length - k) := by show _ = _; rw [List.length_drop]
        have ba : Below wz.heap.size wz (wz.alloc (.cells #[] 25)) := (Below.refl _ _).alloc (Nat.le_refl _) _
        have HBA := Lib.hid ba
        have HS1 := Lib.hid ((HSR.out.below ba).take k)
        have HW1 : Hid (World.ownsRow (wz.alloc (.cells #[] 25)) wz.heap.size 25 6 (.slice (some ⟨wz.heap.size, 0, none⟩) 0 0) 0 (([] : List Tu).flatMap tc)) := World.ownsRow_made wz #[] 0 (Nat.le_refl _) (Nat.zero_le _) (by simp)
        clear ba
        go_upto_region 7 with (at_builtin; refine appT rfl _ _ rfl (base := wz.heap.size) (xs := []) (news := l.take k) rfl HW1.out rfl HTK.out HS1.out (by have := HLN.out; omega) HBA.out.size ?_; intro v3 w3 h3 b3)
        have HB3 := Lib.hid (HBA.out.trans b3)
        have HP3 := Lib.hid (HP.out.later HB3.out)
        have HS3 := Lib.hid (HSR.out.below HB3.out)
        have HA3 : Hid (Arr w3 25 w.heap.size (tc t)) := HP3.out.2
        have ba : Below w3.heap.size w3 (w3.alloc (.cells #[.string t.ot, .string t.oi, .string t.re, .string t.st, .string t.si, .string t.us] 25)) := (Below.refl _ _).alloc (Nat.le_refl _) _
        have HO3 := Lib.hid (own_alloc h3 (.cells #[.string t.ot, .string t.oi, .string t.re, .string t.st, .string t.si, .string t.us] 25))
        have HB4 := Lib.hid (HB3.out.trans (ba.mono HB3.out.size))
        have HN4 : Hid (SrcT (some ⟨w3.heap.size, 0, none⟩) 1 (w3.alloc (.cells #[.string t.ot, .string t.oi, .string t.re, .string t.st, .string t.si, .string t.us] 25)) [t]) := .inr ⟨w3.heap.size, 0, rfl, by simp, Arr.range (Arr.new' w3 25 _ _ rfl)⟩
        clear ba b3 h3 HBA HW1 HS1
        go_upto_region 8 with (first | ((with_reducible refine loadX (x := .tmp 3) (t := t) (o := ⟨some 41, _, _, _, _, _⟩) HA3.out ?_ ?_); exact ⟨rfl, rfl, rfl⟩) | (at_builtin; refine appT rfl _ _ rfl (base := wz.heap.size) (xs := [] ++ l.take k) (news := [t]) rfl HO3.out rfl rfl HN4.out (by have := HLN.out; omega) HB4.out.size ?_; intro v4 w4 h4 b4))
        have HB5 := Lib.hid (HB4.out.trans b4)
        have HO5 := Lib.hid h4
        have HS4 := Lib.hid (HSR.out.below HB5.out)
        clear b4 h4 HO3 HN4 HP3 HS3 HA3
        by_cases hck : c = k
        · go_wp2_with (at_builtin; refine appT rfl _ _ rfl (base := wz.heap.size) (xs := [] ++ l.take k ++ [t]) (news := l.drop k) rfl HO5.out rfl HDK.out (HS4.out.fin HKE.out) (by have := HLN.out; omega) HB5.out.size ?_; intro v5 w5 h5 b5)
          have HB6 := Lib.hid (HB5.out.trans b5)
          have HO6 := Lib.hid h5
          clear b5 h5 HO5
          go_wp2_with fail
          go_ret
          refine ⟨v5, rfl, HP.out.1.trans (HB6.out.mono HP.out.1.size), ownsRow_sl (base := wz.heap.size) ?_⟩
          have e1 : 0 + k + 1 + (l.length - k) = (put1 t l).length := by rw [HF.out, List.length_append, HTK.out, List.length_cons, HDK.out]; omega
          have e2 : [] ++ l.take k ++ [t] ++ l.drop k = put1 t l := by rw [HF.out]; simp
          have h6 := HO6.out
          rw [e1, e2] at h6
          exact h6
        · have hck2 : k < c := by omega
          go_wp2_with (at_builtin; refine appT rfl _ _ rfl (base := wz.heap.size) (xs := [] ++ l.take k ++ [t]) (news := l.drop k) rfl HO5.out rfl HDK.out (HS4.out.drop (k := k) (by omega)) (by have := HLN.out; omega) HB5.out.size ?_; intro v5 w5 h5 b5)
          have HB6 := Lib.hid (HB5.out.trans b5)
          have HO6 := Lib.hid h5
          clear b5 h5 HO5
          go_wp2_with fail
          go_ret
          refine ⟨v5, rfl, HP.out.1.trans (HB6.out.mono HP.out.1.size), ownsRow_sl (base := wz.heap.size) ?_⟩
          have e1 : 0 + k + 1 + (l.length - k) = (put1 t l).length := by rw [HF.out, List.length_append, HTK.out, List.length_cons, HDK.out]; omega
          have e2 : [] ++ l.take k ++ [t] ++ l.drop k = put1 t l := by rw [HF.out]; simp
          have h6 := HO6.out
          rw [e1, e2] at h6
          exact h6
end Go.Proofs.YtnnebfcggdbgpaaGreatDoor
/-
  The reference's Sorted.
-/
namespace Go.Proofs.YtnnebfcggdbgpaaGreatDoor
open Go.ChangeShapes Go.WideShapes Go.ChangeAt Go.RowKit
set_option linter.unusedVariables false

theorem srt_snoc (t : Tu) : ∀ (l out : List Tu), srt out (l ++ [t]) = put1 t (srt out l)
  | [], out => rfl
  | a :: l, out => srt_snoc t l (put1 a out)
theorem put1_len (t : Tu) : ∀ (l : List Tu), (put1 t l).length ≤ l.length + 1
  | [] => Nat.le_refl _
  | a :: l => by
    unfold put1
    split
    · have := put1_len t l
      simp only [List.length_cons]; omega
    · split <;> simp
theorem srt_len : ∀ (l out : List Tu), (srt out l).length ≤ out.length + l.length
  | [], out => by simp [srt]
  | t :: l, out => by
    have h1 := srt_len l (put1 t out)
    have h2 := put1_len t out
    show (srt (put1 t out) l).length ≤ _
    simp only [List.length_cons]; omega
theorem range_below {w W : World} {b off : Nat} {xs : List Value} (h : w.rangeAt b off xs) (hb : b < w.heap.size) (hB : Below w.heap.size w W) : W.rangeAt b off xs := fun j v hv => by
  have := h j v hv
  unfold World.cell? at this ⊢
  rw [hB.block b hb]
  exact this
theorem take_snoc1 {α : Type} {l : List α} {k : Nat} (h : k < l.length) : l.take (k + 1) = l.take k ++ [l[k]] := by rw [List.take_add_one, List.getElem?_eq_getElem h]; rfl
set_option maxRecDepth 100000 in
set_option maxHeartbeats 2000000 in
theorem rsorted_any {w : World} {sv : Value} {l : List Tu} (h : TuRd w sv l) (hz : ∀ x ∈ l, sizesT x 1000000) (hl : l.length ≤ 1000) :
    Calls Tryz.prog 34 #[sv] w fun e w' => ∃ v', e = .returned v' ∧ Below w.heap.size w w' ∧ TuSl w' v' (sortedT l) := by
  have HZ := Lib.hid hz
  have HLN := Lib.hid hl
  obtain ⟨p, c, rfl, hrow⟩ := h.form tc_length (by decide)
  have HW := Lib.hid hrow
  clear h hz hrow
  go_enter Tryz.func34, Tryz.ntmps34
  go_wp2_with fail
  go_loopg [3, 4] l.length (fun g s3 s4 wr => ∃ k : Nat, k ≤ l.length ∧ l.length - k ≤ g ∧ s4 = .int .i64 k ∧ Below w.heap.size w wr ∧ TuSl wr s3 (srt [] (l.take k)))
  case atStart => exact ⟨0, by omega, by omega, rfl, Below.refl _ _, .inl ⟨rfl, rfl⟩⟩
  case round =>
    obtain ⟨k, hk, hg, rfl, hb, hsl⟩ := hrel
    have HB := Lib.hid hb
    have HS := Lib.hid hsl
    clear hb hsl
    by_cases hlt : k < l.length
    · obtain ⟨b, off, rfl, hbl, hr⟩ := HW.out k hlt
      have HR : Hid (wr.rangeAt b (off + k * 6) (tc l[k])) := range_below hr hbl HB.out
      have HP := Lib.hid (rput1_any l[k] HS.out (fun x hx => by
        rcases (srt_mem (l.take k) [] x).1 hx with h | h
        · cases h
        · exact HZ.out x (List.mem_of_mem_take h)) (HZ.out _ (List.getElem_mem hlt)) (by
          have h1 := srt_len (l.take k) []
          have h2 : (l.take k).length ≤ l.length := by rw [List.length_take]; omega
          have := HLN.out
          simp only [List.length_nil] at h1
          omega))
      have HN : Hid (put1 l[k] (srt [] (l.take k)) = srt [] (l.take (k + 1))) := by show _ = _; rw [take_snoc1 hlt, srt_snoc]
      obtain ⟨x, hx⟩ : ∃ x, x = l[k] := ⟨_, rfl⟩
      rw [← hx] at HR HP HN
      clear hr hx hbl
      go_wp2_with ((with_reducible refine loadM (x := .tmp 14) (o := ⟨some 15, _, _, _, _, _⟩) HR.out ?_ ?_); exact ⟨rfl, rfl, by go_simp⟩)
      refine HP.out.mono ?_
      rintro e w2 ⟨v', rfl, b2, hs2⟩
      rw [HN.out] at hs2
      have HB2 := Lib.hid (HB.out.trans (b2.mono HB.out.size))
      have HS2 := Lib.hid hs2
      clear b2 hs2 HP HR HB HS
      go_wp2_with fail
      go_roundg (l.length - (k + 1))
      case measure => omega
      case rel => exact ⟨k + 1, by omega, Nat.le_refl _, by go_num, HB2.out, HS2.out⟩
    · have HN : Hid (srt [] (l.take k) = sortedT l) := by show _ = _; rw [List.take_of_length_le (by omega)]; rfl
      go_wp2_with fail
      go_ret
      have h := HS.out
      rw [HN.out] at h
      exact ⟨_, rfl, HB.out, h⟩
end Go.Proofs.YtnnebfcggdbgpaaGreatDoor
/-
  The reference's number.
-/
namespace Go.Proofs.YtnnebfcggdbgpaaGreatDoor
open Go.ChangeShapes Go.WideShapes Go.ChangeAt Go.RowKit
set_option linter.unusedVariables false

theorem numR_app : ∀ (l m : List UInt8) (acc : Nat), numR acc (l ++ m) = (numR acc l).bind fun y => numR y m
  | [], m, acc => rfl
  | a :: l, m, acc => by
    simp only [List.cons_append, numR]
    split
    · exact numR_app l m _
    · rfl
theorem numR_lt : ∀ {l : List UInt8} {acc x : Nat}, numR acc l = some x → x < (acc + 1) * 10 ^ l.length
  | [], acc, x, h => by simp only [numR, Option.some.injEq] at h; subst h; simp
  | c :: r, acc, x, h => by
    simp only [numR] at h
    split at h
    · have := numR_lt h
      rw [List.length_cons, Nat.pow_succ, Nat.mul_comm (10 ^ r.length) 10, ← Nat.mul_assoc]
      refine Nat.lt_of_lt_of_le this (Nat.mul_le_mul_right _ ?_)
      omega
    · cases h
set_option maxRecDepth 100000 in
set_option maxHeartbeats 1000000 in
theorem rnum_any (s : ByteArray) (hs : s.size ≤ 1000000) (w : World) : Calls Tryz.prog 94 #[.string s] w fun e w' => e = .returned (.int .u64 (numS s.data.toList : Nat)) ∧ w' = w := by
  have hs' : (s.size : Int) ≤ 1000000 := by omega
  have hsl : s.data.toList.length = s.size := by rw [Array.length_toList]; rfl
  have HSL := Lib.hid hsl
  obtain ⟨r, hr⟩ : ∃ r : Nat, r = numS s.data.toList := ⟨_, rfl⟩
  rw [← hr]
  have HR := Lib.hid hr
  clear hr
  by_cases h0 : s.size = 0
  · have HZ : Hid (r = 0) := by
      show r = 0
      rw [HR.out]; unfold numS; rw [if_pos (.inl (by omega))]
    have t0 : ((s.size : Int) == 0) = true := by rw [h0]; rfl
    clear hsl h0
    go_enter Tryz.func94, Tryz.ntmps94
    go_wp2_with fail
    go_ret
    exact ⟨by rw [HZ.out]; rfl, rfl⟩
  have t0 : ((s.size : Int) == 0) = false := by rw [beq_eq_false_iff_ne]; omega
  have hpos : 0 < s.size := by omega
  by_cases h19 : 19 < s.size
  · have HZ : Hid (r = 0) := by
      show r = 0
      rw [HR.out]; unfold numS; rw [if_pos (.inr (.inl (by omega)))]
    have t1 : (19 : Int) < s.size := by omega
    clear hsl h0
    go_enter Tryz.func94, Tryz.ntmps94
    go_wp2_with fail
    go_ret
    exact ⟨by rw [HZ.out]; rfl, rfl⟩
  have t1 : ¬ (19 : Int) < s.size := by omega
  have hl0 : s.data.toList.head? = some s[0] := by
    rw [List.head?_eq_getElem?, List.getElem?_eq_getElem (by omega)]; rfl
  by_cases h48 : s[0] = 48
  · have HZ : Hid (r = 0) := by
      show r = 0
      rw [HR.out]; unfold numS; rw [if_pos (.inr (.inr (by rw [hl0, h48])))]
    have t2 : ((s[0].toNat : Int) == 48) = true := by rw [h48]; rfl
    clear hsl h0 hl0 h48
    go_enter Tryz.func94, Tryz.ntmps94
    go_wp2_with fail
    go_ret
    exact ⟨by rw [HZ.out]; rfl, rfl⟩
  have t2 : ((s[0].toNat : Int) == 48) = false := by
    rw [beq_eq_false_iff_ne]
    intro e
    exact h48 (UInt8.toNat_inj.1 (by show s[0].toNat = 48; omega))
  have HN : Hid (numS s.data.toList = match numR 0 s.data.toList with | some x => if x ≤ 9223372036854775807 then x else 0 | none => 0) := by
    show _ = _
    have hc : ¬ (s.data.toList.length = 0 ∨ 19 < s.data.toList.length ∨ s.data.toList.head? = some 48) := fun e => e.elim (fun e => by omega) (fun e => e.elim (fun e => by omega) (fun e => by rw [hl0] at e; exact h48 (Option.some.inj e)))
    unfold numS
    rw [if_neg hc]
    rfl
  clear hsl h0 hl0 h48
  go_enter Tryz.func94, Tryz.ntmps94
  go_wp2_with fail
  go_loop [3, 4] (fun xv iv => ∃ k x : Nat, k ≤ s.size ∧ iv = .int .i64 k ∧ xv = .int .u64 x ∧ Hid (numR 0 (s.data.toList.take k) = some x)) (fun xv iv => s.size - (intOf iv).toNat)
  case atStart => exact ⟨0, 0, Nat.zero_le _, rfl, rfl, rfl⟩
  case round =>
    obtain ⟨k, x, hk, rfl, rfl, HP⟩ := hrel
    by_cases hlt : k < s.size
    · have hk0 : (0 : Int) ≤ k := by omega
      have hk1 : (k : Int) < s.size := by omega
      have hlk : k < s.data.toList.length := by rw [HSL.out]; exact hlt
      have hg : s.data.toList[k]'hlk = s[k]'hlt := rfl
      have hx : x < 10 ^ 18 := by
        have h1 := numR_lt HP.out
        rw [List.length_take, Nat.min_eq_left (by omega)] at h1
        refine Nat.lt_of_lt_of_le h1 ?_
        rw [Nat.zero_add, Nat.one_mul]
        exact Nat.pow_le_pow_right (by decide) (by omega)
      obtain ⟨d, hd⟩ : ∃ d, d = (s[k]'hlt).toNat := ⟨_, rfl⟩
      have hd2 : d < 256 := by rw [hd]; exact (s[k]'hlt).toNat_lt
      have HL : Hid (numR 0 (s.data.toList.take (k + 1)) = if 48 ≤ d ∧ d ≤ 57 then some (x * 10 + (d - 48)) else none) := by
        show _ = _
        rw [take_snoc1 hlk, numR_snoc, HP.out, Option.bind_some, hg, hd]
      have HD : Hid (s.data.toList = s.data.toList.take (k + 1) ++ s.data.toList.drop (k + 1)) := (List.take_append_drop _ _).symm
      clear hg hlk
      have HDD := Lib.hid hd
      clear hd
      by_cases hlo : d < 48
      · have i1 : (s[k].toNat : Int) < 48 := by have := HDD.out; omega
        have HZ : Hid (r = 0) := by
          show r = 0
          rw [HR.out, HN.out, HD.out, numR_app, HL.out, if_neg (by omega)]; rfl
        clear HP HL HD HDD
        go_wp2_with fail
        go_ret
        exact ⟨by rw [HZ.out]; rfl, rfl⟩
      · by_cases hhi : 57 < d
        · have i1 : ¬ (s[k].toNat : Int) < 48 := by have := HDD.out; omega
          have i2 : (57 : Int) < s[k].toNat := by have := HDD.out; omega
          have HZ : Hid (r = 0) := by
            show r = 0
            rw [HR.out, HN.out, HD.out, numR_app, HL.out, if_neg (by omega)]; rfl
          clear HP HL HD HDD
          go_wp2_with fail
          go_ret
          exact ⟨by rw [HZ.out]; rfl, rfl⟩
        · have i1 : ¬ (s[k].toNat : Int) < 48 := by have := HDD.out; omega
          have i2 : ¬ (57 : Int) < s[k].toNat := by have := HDD.out; omega
          have e1 : IntKind.u64.wrap (10 * (x : Int)) = 10 * x := by rw [IntKind.wrap_u64]; omega
          have e2 : IntKind.u8.wrap ((s[k].toNat : Int) - 48) = (s[k].toNat : Int) - 48 := by have := HDD.out; rw [IntKind.wrap_u8]; omega
          have e3 : IntKind.u64.wrap ((s[k].toNat : Int) - 48) = (s[k].toNat : Int) - 48 := by have := HDD.out; rw [IntKind.wrap_u64]; omega
          have e4 : IntKind.u64.wrap (10 * (x : Int) + ((s[k].toNat : Int) - 48)) = 10 * (x : Int) + ((s[k].toNat : Int) - 48) := by have := HDD.out; rw [IntKind.wrap_u64]; omega
          have HQ : Hid (numR 0 (s.data.toList.take (k + 1)) = some (x * 10 + (d - 48))) := by show _ = _; rw [HL.out, if_pos (by omega)]
          have HV : Hid (10 * (x : Int) + ((s[k].toNat : Int) - 48) = ((x * 10 + (d - 48) : Nat) : Int)) := by show _ = _; have := HDD.out; omega
          clear HP HL HD HDD
          go_wp2_with fail
          go_round
          case rel => exact ⟨k + 1, x * 10 + (d - 48), by omega, by go_num, by rw [HV.out], HQ.out⟩
          case measure => simp [intOf]; omega
    · obtain rfl : k = s.size := by omega
      have HP2 : Hid (numR 0 s.data.toList = some x) := by
        have := HP.out
        rwa [List.take_of_length_le (by rw [HSL.out]; exact Nat.le_refl _)] at this
      by_cases hb : x ≤ 9223372036854775807
      · have i1 : ¬ (9223372036854775808 : Int) ≤ x := by omega
        have HZ : Hid (r = x) := by
          show r = x
          rw [HR.out, HN.out, HP2.out]
          simp only []
          rw [if_pos hb]
        clear HP HP2 hb
        go_wp2_with fail
        go_ret
        exact ⟨by rw [HZ.out]; rfl, rfl⟩
      · have i1 : (9223372036854775808 : Int) ≤ x := by omega
        have HZ : Hid (r = 0) := by
          show r = 0
          rw [HR.out, HN.out, HP2.out]
          simp only []
          rw [if_neg hb]
        clear HP HP2 hb
        go_wp2_with fail
        go_ret
        exact ⟨by rw [HZ.out]; rfl, rfl⟩
end Go.Proofs.YtnnebfcggdbgpaaGreatDoor
/-
  Entries of changelogs and their bytes; no program is spoken of.
-/
namespace Go.Proofs.YtnnebfcggdbgpaaGreatDoor
open Go.ChangeShapes Go.WideShapes Go.ChangeAt Go.RowKit
set_option linter.unusedVariables false

structure Ch where
  r : Nat
  d : Bool
  t : Tu
def c0 : Ch := ⟨0, false, t0⟩
def revB (n : Nat) : Bool := decide (1 ≤ n) && decide (n ≤ 9223372036854775807)
def kdB (n : Nat) : Bool := decide (1 ≤ n) && decide (n ≤ 2)
def rightC (c : Ch) : Bool := revB c.r && rightT c.t
theorem rightC_all {c : Ch} (h : rightC c = true) : 1 ≤ c.r ∧ c.r ≤ 9223372036854775807 ∧ rightT c.t = true := by
  unfold rightC revB at h
  simp only [Bool.and_eq_true, decide_eq_true_eq] at h
  exact ⟨h.1.1, h.1.2, h.2⟩
theorem rightC_mk {c : Ch} (h1 : revB c.r = true) (h2 : rightT c.t = true) : rightC c = true := by unfold rightC; rw [h1, h2]; rfl
theorem rightC_rev {c : Ch} (h : rightC c = true) : revB c.r = true := by unfold rightC at h; simp only [Bool.and_eq_true] at h; exact h.1
def kindC (d : Bool) : Nat := if d then 2 else 1
theorem kindC_two (k : Nat) (h : kdB k = true) : kindC (k == 2) = k := by
  unfold kdB at h
  simp only [Bool.and_eq_true, decide_eq_true_eq] at h
  obtain rfl | rfl : k = 1 ∨ k = 2 := by omega
  · rfl
  · rfl
theorem kdB_kind (d : Bool) : kdB (kindC d) = true := by cases d <;> rfl
theorem kind_eq (d : Bool) : (kindC d == 2) = d := by cases d <;> rfl
def putC (c : Ch) : List UInt8 := put c.r ++ (put (kindC c.d) ++ putT c.t)
/-- A number that is read and tested. -/
def numC (P : Nat → Bool) (bad : Nat) (r : List UInt8) : Nat × Nat × Nat :=
  if (num r).2.2 ≠ 0 then (0, 0, (num r).2.2) else if P (num r).1 = false then (0, (num r).2.1, bad) else ((num r).1, (num r).2.1, 0)
theorem numC_bad {P : Nat → Bool} {bad : Nat} {r : List UInt8} (h : (num r).2.2 ≠ 0) : numC P bad r = (0, 0, (num r).2.2) := by unfold numC; rw [if_pos h]
theorem numC_no {P : Nat → Bool} {bad : Nat} {r : List UInt8} (h : (num r).2.2 = 0) (h2 : P (num r).1 = false) : numC P bad r = (0, (num r).2.1, bad) := by unfold numC; rw [if_neg (by omega), if_pos h2]
theorem numC_yes {P : Nat → Bool} {bad : Nat} {r : List UInt8} (h : (num r).2.2 = 0) (h2 : P (num r).1 = true) : numC P bad r = ((num r).1, (num r).2.1, 0) := by unfold numC; rw [if_neg (by omega), if_neg (by rw [h2]; simp)]
theorem numC_back {P : Nat → Bool} {bad : Nat} {r : List UInt8} (hb : bad ≠ 0) (h : (numC P bad r).2.2 = 0) : (num r).2.2 = 0 ∧ P (num r).1 = true ∧ numC P bad r = ((num r).1, (num r).2.1, 0) := by
  by_cases h1 : (num r).2.2 = 0
  · rcases h2 : P (num r).1 with _ | _
    · rw [numC_no h1 h2] at h; exact absurd h hb
    · exact ⟨h1, rfl, numC_yes h1 h2⟩
  · rw [numC_bad h1] at h; exact absurd h h1
theorem numC_put {P : Nat → Bool} {bad x : Nat} (hx : x < lim64) (hP : P x = true) (r : List UInt8) : numC P bad (put x ++ r) = (x, (put x).length, 0) := by
  have h := num_put hx r
  rw [numC_yes (by rw [h]) (by rw [h]; exact hP), h]
theorem numC_at {P : Nat → Bool} {bad : Nat} (hb : bad ≠ 0) {r : List UInt8} (h : (numC P bad r).2.2 = 0) : (numC P bad r).2.1 ≤ r.length := by
  obtain ⟨h1, _, h3⟩ := numC_back hb h
  rw [h3]
  exact (num_at h1).2.1
def fin3 (n r k : Nat) (T : Tu × Nat × Nat) : Ch × Nat × Nat := if T.2.2 ≠ 0 then (c0, T.2.2, T.2.1) else if T.2.1 < n then (c0, 16, T.2.1) else (⟨r, k == 2, T.1⟩, 0, 0)
theorem fin3_bad {n r k : Nat} {T : Tu × Nat × Nat} (h : T.2.2 ≠ 0) : fin3 n r k T = (c0, T.2.2, T.2.1) := by unfold fin3; rw [if_pos h]
theorem fin3_long {n r k : Nat} {T : Tu × Nat × Nat} (h : T.2.2 = 0) (h2 : T.2.1 < n) : fin3 n r k T = (c0, 16, T.2.1) := by unfold fin3; rw [if_neg (by omega), if_pos h2]
theorem fin3_yes {n r k : Nat} {T : Tu × Nat × Nat} (h : T.2.2 = 0) (h2 : ¬ T.2.1 < n) : fin3 n r k T = (⟨r, k == 2, T.1⟩, 0, 0) := by unfold fin3; rw [if_neg (by omega), if_neg h2]
def fin2 (b : List UInt8) (r n1 : Nat) (R : Nat × Nat × Nat) : Ch × Nat × Nat := if R.2.2 ≠ 0 then (c0, R.2.2, n1) else fin3 b.length r R.1 (readT b (n1 + R.2.1))
theorem fin2_bad {b : List UInt8} {r n1 : Nat} {R : Nat × Nat × Nat} (h : R.2.2 ≠ 0) : fin2 b r n1 R = (c0, R.2.2, n1) := by unfold fin2; rw [if_pos h]
theorem fin2_yes {b : List UInt8} {r n1 : Nat} {R : Nat × Nat × Nat} (h : R.2.2 = 0) : fin2 b r n1 R = fin3 b.length r R.1 (readT b (n1 + R.2.1)) := by unfold fin2; rw [if_neg (by omega)]
def fin1 (b : List UInt8) (R : Nat × Nat × Nat) : Ch × Nat × Nat := if R.2.2 ≠ 0 then (c0, R.2.2, 0) else fin2 b R.1 R.2.1 (numC kdB 6 (b.drop R.2.1))
theorem fin1_bad {b : List UInt8} {R : Nat × Nat × Nat} (h : R.2.2 ≠ 0) : fin1 b R = (c0, R.2.2, 0) := by unfold fin1; rw [if_pos h]
theorem fin1_yes {b : List UInt8} {R : Nat × Nat × Nat} (h : R.2.2 = 0) : fin1 b R = fin2 b R.1 R.2.1 (numC kdB 6 (b.drop R.2.1)) := by unfold fin1; rw [if_neg (by omega)]
/-- The entry that bytes are, the code of the error, its offset. -/
def parseC (b : List UInt8) : Ch × Nat × Nat := fin1 b (numC revB 15 b)
theorem rev_lim {n : Nat} (h : revB n = true) : 1 ≤ n ∧ n ≤ 9223372036854775807 := by
  unfold revB at h
  simpa only [Bool.and_eq_true, decide_eq_true_eq] using h
theorem kd_lim {n : Nat} (h : kdB n = true) : 1 ≤ n ∧ n ≤ 2 := by
  unfold kdB at h
  simpa only [Bool.and_eq_true, decide_eq_true_eq] using h
theorem parseC_put {c : Ch} (h : rightC c = true) : parseC (putC c) = (c, 0, 0) := by
  obtain ⟨h1, h2, h3⟩ := rightC_all h
  have e1 : numC revB 15 (putC c) = (c.r, (put c.r).length, 0) := numC_put (by unfold lim64; omega) (rightC_rev h) _
  have e2 : (putC c).drop (put c.r).length = put (kindC c.d) ++ putT c.t := by unfold putC; rw [List.drop_left' rfl]
  have e3 : numC kdB 6 (put (kindC c.d) ++ putT c.t) = (kindC c.d, (put (kindC c.d)).length, 0) := numC_put (by have := kd_lim (kdB_kind c.d); unfold lim64; omega) (kdB_kind _) _
  have e4 : (putC c).drop ((put c.r).length + (put (kindC c.d)).length) = putT c.t ++ [] := by rw [← List.drop_drop, e2, List.drop_left' rfl, List.append_nil]
  have e5 := read_put h3 e4
  unfold parseC
  rw [e1, fin1_yes rfl, e2, e3, fin2_yes rfl, e5, fin3_yes rfl (by unfold putC; simp only [List.length_append]; omega), kind_eq]
theorem parseC_back {b : List UInt8} (h : (parseC b).2.1 = 0) : rightC (parseC b).1 = true ∧ putC (parseC b).1 = b ∧ (parseC b).2.2 = 0 := by
  unfold parseC at h ⊢
  by_cases h1 : (numC revB 15 b).2.2 = 0
  · obtain ⟨a1, a2, a3⟩ := numC_back (by decide) h1
    have b1 := (num_back a1).1
    rw [a3, fin1_yes rfl] at h ⊢
    clear a3 h1
    generalize num b = Q at h a1 a2 b1 ⊢
    obtain ⟨x, u, cd⟩ := Q
    obtain rfl : cd = 0 := a1
    dsimp only at h a2 b1 ⊢
    by_cases h2 : (numC kdB 6 (b.drop u)).2.2 = 0
    · obtain ⟨k1, k2, k3⟩ := numC_back (by decide) h2
      have b2 := (num_back k1).1
      rw [k3, fin2_yes rfl] at h ⊢
      clear k3 h2
      generalize num (b.drop u) = R at h k1 k2 b2 ⊢
      obtain ⟨k, v, ce⟩ := R
      obtain rfl : ce = 0 := k1
      dsimp only at h k2 b2 ⊢
      by_cases h3 : (readT b (u + v)).2.2 = 0
      · by_cases h4 : (readT b (u + v)).2.1 < b.length
        · rw [fin3_long h3 h4] at h; cases h
        · rw [fin3_yes h3 h4]
          obtain ⟨r1, r2, r3⟩ := read_back h3
          generalize readT b (u + v) = T at h3 h4 r1 r2 r3 ⊢
          refine ⟨rightC_mk a2 r1, ?_, rfl⟩
          have b1' : b.take u = put x := b1
          have b2' : (b.drop u).take v = put k := b2
          show put x ++ (put (kindC (k == 2)) ++ putT T.1) = b
          rw [kindC_two _ k2, ← b1', ← b2']
          have e : b.drop T.2.1 = [] := List.drop_of_length_le (by omega)
          rw [e, List.append_nil] at r3
          rw [← r3, ← List.drop_drop, List.take_append_drop, List.take_append_drop]
      · rw [fin3_bad h3] at h; dsimp only at h; exact absurd h h3
    · rw [fin2_bad h2] at h; dsimp only at h; exact absurd h h2
  · rw [fin1_bad h1] at h; dsimp only at h; exact absurd h h1
theorem parseC_fail {b : List UInt8} (h : (parseC b).2.1 ≠ 0) : (parseC b).1 = c0 := by
  unfold parseC at h ⊢
  by_cases h1 : (numC revB 15 b).2.2 = 0
  · rw [fin1_yes h1] at h ⊢
    by_cases h2 : (numC kdB 6 (b.drop (numC revB 15 b).2.1)).2.2 = 0
    · rw [fin2_yes h2] at h ⊢
      generalize readT b ((numC revB 15 b).2.1 + (numC kdB 6 (b.drop (numC revB 15 b).2.1)).2.1) = T at h ⊢
      by_cases h3 : T.2.2 = 0
      · by_cases h4 : T.2.1 < b.length
        · rw [fin3_long h3 h4]
        · rw [fin3_yes h3 h4] at h; exact absurd rfl h
      · rw [fin3_bad h3]
    · rw [fin2_bad h2]
  · rw [fin1_bad h1]
theorem put_len_small {n : Nat} (h : n ≤ 9223372036854775807) : (put n).length ≤ 10 := put_len10 (by unfold lim64; omega)
theorem putC_len {c : Ch} (h : rightC c = true) : (putC c).length ≤ 620 := by
  obtain ⟨h1, h2, h3⟩ := rightC_all h
  have a := put_len_small h2
  have b := put_len_small (n := kindC c.d) (by have := kd_lim (kdB_kind c.d); omega)
  have d := putT_len h3
  unfold putC
  simp only [List.length_append]
  omega
def eqC (a b : Ch) : Bool := (a.r == b.r) && ((a.d == b.d) && eqT a.t b.t)
theorem eqC_iff (a b : Ch) : eqC a b = true ↔ a = b := by
  unfold eqC
  simp only [Bool.and_eq_true, beq_iff_eq, eqT_iff]
  constructor
  · rintro ⟨h1, h2, h3⟩; cases a; cases b; simp_all
  · rintro rfl; exact ⟨rfl, rfl, rfl⟩
theorem eqC_refl (a : Ch) : eqC a a = true := (eqC_iff a a).2 rfl
end Go.Proofs.YtnnebfcggdbgpaaGreatDoor
/-
  vestryref18.Put, Read, ParseBytes.
-/
namespace Go.Proofs.YtnnebfcggdbgpaaGreatDoor
open Go.ChangeShapes Go.WideShapes Go.ChangeAt Go.RowKit
set_option linter.unusedVariables false
set_option linter.unusedSimpArgs false

set_option maxRecDepth 100000 in
set_option maxHeartbeats 4000000 in
theorem rput_any (t : Tu) (hz : sizesT t 1000) (w : World) : Calls Tryz.prog 23 #[tuV t] w fun e w' => ∃ v, e = .returned v ∧ Held w.heap.size w' v (putT t) ∧ Below w.heap.size w w' := by
  have HSZ : Hid (sizesT t 1000) := hz
  obtain ⟨c0, c1, c2, c3, c4, c5⟩ := tcells w t 25
  have HB0 := Lib.hid (below_tu w t 25)
  clear hz
  go_enter Tryz.func23, Tryz.ntmps23
  go_upto_region 3 with fail
  have b1 : Below (w.alloc (.cells (tc t).toArray 25)).heap.size (w.alloc (.cells (tc t).toArray 25)) ((w.alloc (.cells (tc t).toArray 25)).alloc (.cells #[.string t.ot, .string t.oi, .string t.re, .string t.st, .string t.si, .string t.us] 9)) := (Below.refl _ _).alloc (Nat.le_refl _) _
  have HB1 := Lib.hid (HB0.out.trans (b1.mono HB0.out.size))
  have HA1 := Lib.hid (Arr.new' (w.alloc (.cells (tc t).toArray 25)) 9 #[.string t.ot, .string t.oi, .string t.re, .string t.st, .string t.si, .string t.us] _ rfl)
  rw [show (w.alloc (.cells (tc t).toArray 25)).heap.size = w.heap.size + 1 by simp] at HA1
  have HNW : Hid (w.heap.size ≤ w.heap.size + 1) := Nat.le_succ _
  generalize (w.alloc (.cells (tc t).toArray 25)).alloc (.cells #[.string t.ot, .string t.oi, .string t.re, .string t.st, .string t.si, .string t.us] 9) = w1 at HB1 HA1 ⊢
  generalize w.heap.size + 1 = n at HA1 HNW ⊢
  have HH1 : Hid (Held (n + 1) w1 (.slice none 0 0) []) := .inl ⟨rfl, rfl⟩
  have HPT : Hid (([] : List UInt8) ++ putS t.ot ++ putS t.oi ++ putS t.re ++ putS t.st ++ putS t.si ++ putS t.us = putT t) := by
    show _ = _
    simp only [putT, List.nil_append, List.append_assoc]
  have HPZ : Hid ((putS t.ot).length ≤ 1010 ∧ (putS t.oi).length ≤ 1010 ∧ (putS t.re).length ≤ 1010 ∧ (putS t.st).length ≤ 1010 ∧ (putS t.si).length ≤ 1010) :=
    ⟨putS_small _ HSZ.out.1, putS_small _ HSZ.out.2.1, putS_small _ HSZ.out.2.2.1, putS_small _ HSZ.out.2.2.2.1, putS_small _ HSZ.out.2.2.2.2.1⟩
  clear b1 HB0 c0 c1 c2 c3 c4 c5
  go_wp2_with fail
  refine wp_loop_rounds 7 ?_
  rw [rounds_succ]
  have c0 := HA1.out.cell 0
  simp only [List.getElem?_cons_zero, List.getElem?_cons_succ] at c0
  go_wp2_with fail
  refine (rtext_any t.ot (by have := HSZ.out.1; omega) _).mono ?_
  rintro e w2 ⟨v2, rfl, o2, b2⟩
  have HO2 : Hid (Rd w2.heap.size w2 v2 (putS t.ot)) := Rd.of_own o2
  have HB2 := Lib.hid (HB1.out.trans (b2.mono HB1.out.size))
  have HA2 := Lib.hid (HA1.out.later b2)
  have HH2 := Lib.hid (HH1.out.later b2)
  have HLE2 : Hid (([] : List UInt8).length + (putS t.ot).length ≤ 140737488355328) := by
    have := HPZ.out
    have := putS_small t.ot HSZ.out.1
    show _ ≤ _
    simp only [List.length_append, List.length_nil] at this ⊢
    omega
  have HNL2 : Hid (n < w2.heap.size ∧ w.heap.size ≤ n) := ⟨HA2.out.lt, HNW.out⟩
  clear o2 b2 HB1 HA1 HH1 c0
  go_wp2_with (at_builtin; refine app_held rfl _ _ rfl rfl HH2.out rfl HO2.out HLE2.out HNL2.out.1 ?_; intro v3 w3 hA bA; have HB3 := Lib.hid (HB2.out.trans (bA.mono (by have := HNL2.out; omega))); have HA3 := Lib.hid (HA2.out.below bA (Nat.lt_succ_self _)); have HH3 := Lib.hid hA; obtain ⟨q3, m3, p3, hv3⟩ := held_sl hA; subst hv3; clear hA bA HB2 HA2 HH2 HO2 HLE2)
  rw [rounds_succ]
  have c1 := HA3.out.cell 1
  simp only [List.getElem?_cons_zero, List.getElem?_cons_succ] at c1
  go_wp2_with fail
  refine (rtext_any t.oi (by have := HSZ.out.2.1; omega) _).mono ?_
  rintro e w4 ⟨v4, rfl, o4, b4⟩
  have HO4 : Hid (Rd w4.heap.size w4 v4 (putS t.oi)) := Rd.of_own o4
  have HB4 := Lib.hid (HB3.out.trans (b4.mono HB3.out.size))
  have HA4 := Lib.hid (HA3.out.later b4)
  have HH4 := Lib.hid (HH3.out.later b4)
  have HLE4 : Hid ((([] : List UInt8) ++ putS t.ot).length + (putS t.oi).length ≤ 140737488355328) := by
    have := HPZ.out
    have := putS_small t.oi HSZ.out.2.1
    show _ ≤ _
    simp only [List.length_append, List.length_nil] at this ⊢
    omega
  have HNL4 : Hid (n < w4.heap.size ∧ w.heap.size ≤ n) := ⟨HA4.out.lt, HNW.out⟩
  clear o4 b4 HB3 HA3 HH3 c1
  go_wp2_with (at_builtin; refine app_held rfl _ _ rfl rfl HH4.out rfl HO4.out HLE4.out HNL4.out.1 ?_; intro v5 w5 hA bA; have HB5 := Lib.hid (HB4.out.trans (bA.mono (by have := HNL4.out; omega))); have HA5 := Lib.hid (HA4.out.below bA (Nat.lt_succ_self _)); have HH5 := Lib.hid hA; obtain ⟨q5, m5, p5, hv5⟩ := held_sl hA; subst hv5; clear hA bA HB4 HA4 HH4 HO4 HLE4)
  rw [rounds_succ]
  have c2 := HA5.out.cell 2
  simp only [List.getElem?_cons_zero, List.getElem?_cons_succ] at c2
  go_wp2_with fail
  refine (rtext_any t.re (by have := HSZ.out.2.2.1; omega) _).mono ?_
  rintro e w6 ⟨v6, rfl, o6, b6⟩
  have HO6 : Hid (Rd w6.heap.size w6 v6 (putS t.re)) := Rd.of_own o6
  have HB6 := Lib.hid (HB5.out.trans (b6.mono HB5.out.size))
  have HA6 := Lib.hid (HA5.out.later b6)
  have HH6 := Lib.hid (HH5.out.later b6)
  have HLE6 : Hid (((([] : List UInt8) ++ putS t.ot) ++ putS t.oi).length + (putS t.re).length ≤ 140737488355328) := by
    have := HPZ.out
    have := putS_small t.re HSZ.out.2.2.1
    show _ ≤ _
    simp only [List.length_append, List.length_nil] at this ⊢
    omega
  have HNL6 : Hid (n < w6.heap.size ∧ w.heap.size ≤ n) := ⟨HA6.out.lt, HNW.out⟩
  clear o6 b6 HB5 HA5 HH5 c2
  go_wp2_with (at_builtin; refine app_held rfl _ _ rfl rfl HH6.out rfl HO6.out HLE6.out HNL6.out.1 ?_; intro v7 w7 hA bA; have HB7 := Lib.hid (HB6.out.trans (bA.mono (by have := HNL6.out; omega))); have HA7 := Lib.hid (HA6.out.below bA (Nat.lt_succ_self _)); have HH7 := Lib.hid hA; obtain ⟨q7, m7, p7, hv7⟩ := held_sl hA; subst hv7; clear hA bA HB6 HA6 HH6 HO6 HLE6)
  rw [rounds_succ]
  have c3 := HA7.out.cell 3
  simp only [List.getElem?_cons_zero, List.getElem?_cons_succ] at c3
  go_wp2_with fail
  refine (rtext_any t.st (by have := HSZ.out.2.2.2.1; omega) _).mono ?_
  rintro e w8 ⟨v8, rfl, o8, b8⟩
  have HO8 : Hid (Rd w8.heap.size w8 v8 (putS t.st)) := Rd.of_own o8
  have HB8 := Lib.hid (HB7.out.trans (b8.mono HB7.out.size))
  have HA8 := Lib.hid (HA7.out.later b8)
  have HH8 := Lib.hid (HH7.out.later b8)
  have HLE8 : Hid ((((([] : List UInt8) ++ putS t.ot) ++ putS t.oi) ++ putS t.re).length + (putS t.st).length ≤ 140737488355328) := by
    have := HPZ.out
    have := putS_small t.st HSZ.out.2.2.2.1
    show _ ≤ _
    simp only [List.length_append, List.length_nil] at this ⊢
    omega
  have HNL8 : Hid (n < w8.heap.size ∧ w.heap.size ≤ n) := ⟨HA8.out.lt, HNW.out⟩
  clear o8 b8 HB7 HA7 HH7 c3
  go_wp2_with (at_builtin; refine app_held rfl _ _ rfl rfl HH8.out rfl HO8.out HLE8.out HNL8.out.1 ?_; intro v9 w9 hA bA; have HB9 := Lib.hid (HB8.out.trans (bA.mono (by have := HNL8.out; omega))); have HA9 := Lib.hid (HA8.out.below bA (Nat.lt_succ_self _)); have HH9 := Lib.hid hA; obtain ⟨q9, m9, p9, hv9⟩ := held_sl hA; subst hv9; clear hA bA HB8 HA8 HH8 HO8 HLE8)
  rw [rounds_succ]
  have c4 := HA9.out.cell 4
  simp only [List.getElem?_cons_zero, List.getElem?_cons_succ] at c4
  go_wp2_with fail
  refine (rtext_any t.si (by have := HSZ.out.2.2.2.2.1; omega) _).mono ?_
  rintro e w10 ⟨v10, rfl, o10, b10⟩
  have HO10 : Hid (Rd w10.heap.size w10 v10 (putS t.si)) := Rd.of_own o10
  have HB10 := Lib.hid (HB9.out.trans (b10.mono HB9.out.size))
  have HA10 := Lib.hid (HA9.out.later b10)
  have HH10 := Lib.hid (HH9.out.later b10)
  have HLE10 : Hid (((((([] : List UInt8) ++ putS t.ot) ++ putS t.oi) ++ putS t.re) ++ putS t.st).length + (putS t.si).length ≤ 140737488355328) := by
    have := HPZ.out
    have := putS_small t.si HSZ.out.2.2.2.2.1
    show _ ≤ _
    simp only [List.length_append, List.length_nil] at this ⊢
    omega
  have HNL10 : Hid (n < w10.heap.size ∧ w.heap.size ≤ n) := ⟨HA10.out.lt, HNW.out⟩
  clear o10 b10 HB9 HA9 HH9 c4
  go_wp2_with (at_builtin; refine app_held rfl _ _ rfl rfl HH10.out rfl HO10.out HLE10.out HNL10.out.1 ?_; intro v11 w11 hA bA; have HB11 := Lib.hid (HB10.out.trans (bA.mono (by have := HNL10.out; omega))); have HA11 := Lib.hid (HA10.out.below bA (Nat.lt_succ_self _)); have HH11 := Lib.hid hA; obtain ⟨q11, m11, p11, hv11⟩ := held_sl hA; subst hv11; clear hA bA HB10 HA10 HH10 HO10 HLE10)
  rw [rounds_succ]
  have c5 := HA11.out.cell 5
  simp only [List.getElem?_cons_zero, List.getElem?_cons_succ] at c5
  go_wp2_with fail
  refine (rtext_any t.us (by have := HSZ.out.2.2.2.2.2; omega) _).mono ?_
  rintro e w12 ⟨v12, rfl, o12, b12⟩
  have HO12 : Hid (Rd w12.heap.size w12 v12 (putS t.us)) := Rd.of_own o12
  have HB12 := Lib.hid (HB11.out.trans (b12.mono HB11.out.size))
  have HA12 := Lib.hid (HA11.out.later b12)
  have HH12 := Lib.hid (HH11.out.later b12)
  have HLE12 : Hid ((((((([] : List UInt8) ++ putS t.ot) ++ putS t.oi) ++ putS t.re) ++ putS t.st) ++ putS t.si).length + (putS t.us).length ≤ 140737488355328) := by
    have := HPZ.out
    have := putS_small t.us HSZ.out.2.2.2.2.2
    show _ ≤ _
    simp only [List.length_append, List.length_nil] at this ⊢
    omega
  have HNL12 : Hid (n < w12.heap.size ∧ w.heap.size ≤ n) := ⟨HA12.out.lt, HNW.out⟩
  clear o12 b12 HB11 HA11 HH11 c5
  go_wp2_with (at_builtin; refine app_held rfl _ _ rfl rfl HH12.out rfl HO12.out HLE12.out HNL12.out.1 ?_; intro v13 w13 hA bA; have HB13 := Lib.hid (HB12.out.trans (bA.mono (by have := HNL12.out; omega))); have HA13 := Lib.hid (HA12.out.below bA (Nat.lt_succ_self _)); have HH13 := Lib.hid hA; obtain ⟨q13, m13, p13, hv13⟩ := held_sl hA; subst hv13; clear hA bA HB12 HA12 HH12 HO12 HLE12)
  rw [rounds_succ]
  go_wp2_with fail
  go_ret
  exact ⟨_, rfl, by rw [← HPT.out]; exact HH13.out.mono (Nat.le_succ_of_le HNW.out), HB13.out⟩
end Go.Proofs.YtnnebfcggdbgpaaGreatDoor
/-
  vestryref18.Read, ParseBytes.
-/
namespace Go.Proofs.YtnnebfcggdbgpaaGreatDoor
open Go.ChangeShapes Go.WideShapes Go.ChangeAt Go.RowKit
set_option linter.unusedVariables false
set_option linter.unusedSimpArgs false

theorem readT_of {b : List UInt8} {A : Nat} {S : Tu × Nat × Nat} (h : readS b A = S) (hc : S.2.2 ≠ 0) : readT b A = (t0, S.2.1, S.2.2) := by unfold readT; rw [h, if_neg hc]
theorem readT_ok {b : List UInt8} {A : Nat} {S : Tu × Nat × Nat} (h : readS b A = S) (hc : S.2.2 = 0) : readT b A = S := by unfold readT; rw [h, if_pos hc]
set_option maxRecDepth 100000 in
set_option maxHeartbeats 8000000 in
theorem rtread_any {B : Nat} {w : World} {vb : Value} {b : List UInt8} (hr : Rd B w vb b) (hB : B ≤ w.heap.size) (hl : b.length ≤ 1000000) (At0 : Nat) (hat : At0 ≤ b.length) :
    Calls Tryz.prog 29 #[vb, .int .i64 At0] w fun e w' => e = .returned (.tuple #[tuV (readT b At0).1, .int .i64 ((readT b At0).2.1 : Nat), .int .i64 ((readT b At0).2.2 : Nat)]) ∧ Below w.heap.size w w' := by
  have b0 : Below w.heap.size w ((w.alloc (.cells #[.string ⟨#[]⟩, .string ⟨#[]⟩, .string ⟨#[]⟩, .string ⟨#[]⟩, .string ⟨#[]⟩, .string ⟨#[]⟩] 25)).alloc (.cells #[.string ⟨#[]⟩, .string ⟨#[]⟩, .string ⟨#[]⟩, .string ⟨#[]⟩, .string ⟨#[]⟩, .string ⟨#[]⟩] 111)) := ((Below.refl _ _).alloc (Nat.le_refl _) _).alloc (by simp) _
  have HB0 := Lib.hid b0
  have HX0 : Hid (TuAt ((w.alloc (.cells #[.string ⟨#[]⟩, .string ⟨#[]⟩, .string ⟨#[]⟩, .string ⟨#[]⟩, .string ⟨#[]⟩, .string ⟨#[]⟩] 25)).alloc (.cells #[.string ⟨#[]⟩, .string ⟨#[]⟩, .string ⟨#[]⟩, .string ⟨#[]⟩, .string ⟨#[]⟩, .string ⟨#[]⟩] 111)) w.heap.size t0) := (tu_new w t0).alloc _
  have HA0 : Hid (Arr ((w.alloc (.cells #[.string ⟨#[]⟩, .string ⟨#[]⟩, .string ⟨#[]⟩, .string ⟨#[]⟩, .string ⟨#[]⟩, .string ⟨#[]⟩] 25)).alloc (.cells #[.string ⟨#[]⟩, .string ⟨#[]⟩, .string ⟨#[]⟩, .string ⟨#[]⟩, .string ⟨#[]⟩, .string ⟨#[]⟩] 111)) 111 (w.heap.size + 1) [.string ⟨#[]⟩, .string ⟨#[]⟩, .string ⟨#[]⟩, .string ⟨#[]⟩, .string ⟨#[]⟩, .string ⟨#[]⟩]) := Arr.new2 w _ 111 #[.string ⟨#[]⟩, .string ⟨#[]⟩, .string ⟨#[]⟩, .string ⟨#[]⟩, .string ⟨#[]⟩, .string ⟨#[]⟩] _ rfl
  have HR0 : Hid (Rd w.heap.size ((w.alloc (.cells #[.string ⟨#[]⟩, .string ⟨#[]⟩, .string ⟨#[]⟩, .string ⟨#[]⟩, .string ⟨#[]⟩, .string ⟨#[]⟩] 25)).alloc (.cells #[.string ⟨#[]⟩, .string ⟨#[]⟩, .string ⟨#[]⟩, .string ⟨#[]⟩, .string ⟨#[]⟩, .string ⟨#[]⟩] 111)) vb b) := (hr.mono hB).below b0 (Nat.le_refl _)
  have HLN := Lib.hid hl
  have HAT0 : Hid (At0 ≤ b.length) := hat
  obtain ⟨A, hA⟩ : ∃ A, A = At0 := ⟨_, rfl⟩
  obtain ⟨T0, hT0⟩ : ∃ T, T = t0 := ⟨_, rfl⟩
  have HCH0 : Hid (readS b A = stepR b 2 5 (stepR b 1 4 (stepR b 0 3 (stepR b 0 2 (stepR b 1 1 (stepR b 0 0 ((T0, At0, 0)))))))) := by show _ = _; rw [hA, hT0]; rfl
  have HT0 := Lib.hid hT0
  obtain ⟨qb, cb, rfl⟩ := rd_form hr
  rw [← hA]
  rw [show (.int .i64 (A : Int) : Value) = .int .i64 (At0 : Int) by rw [hA]]
  clear b0 hr hat hl hA hT0
  go_enter Tryz.func29, Tryz.ntmps29
  go_upto_region 2 with fail
  have HNW : Hid (w.heap.size < w.heap.size + 1) := Nat.lt_succ_self _
  generalize ((w.alloc (.cells #[.string ⟨#[]⟩, .string ⟨#[]⟩, .string ⟨#[]⟩, .string ⟨#[]⟩, .string ⟨#[]⟩, .string ⟨#[]⟩] 25)).alloc (.cells #[.string ⟨#[]⟩, .string ⟨#[]⟩, .string ⟨#[]⟩, .string ⟨#[]⟩, .string ⟨#[]⟩, .string ⟨#[]⟩] 111)) = w0 at HB0 HX0 HA0 HR0 ⊢
  obtain ⟨n, hn⟩ : ∃ n, n = w.heap.size + 1 := ⟨_, rfl⟩
  rw [← hn] at HA0 HNW ⊢
  clear hn
  go_wp2_with fail
  refine wp_loop_rounds 7 ?_
  rw [rounds_succ]
  go_wp2_with fail
  refine (rread_at HR0.out HLN.out At0 HAT0.out 64 (by omega)).mono ?_
  rintro e w' ⟨rfl, hw'⟩
  subst hw'
  obtain ⟨P0, hP0⟩ : ∃ P, P = partP 64 (b.drop At0) := ⟨_, rfl⟩
  rw [← hP0]
  have HPS := Lib.hid (partP_small 64 (b.drop At0))
  have HPB := Lib.hid (fun h : (partP 64 (b.drop At0)).2.2 = 0 => (part_back h).1)
  rw [← hP0] at HPS HPB
  by_cases hc0 : P0.2.2 = 0
  · have HSY := Lib.hid (fun h3 : isName (str P0.1) = true => stepR_yes (b := b) (k := 0) (i := 0) (S := (T0, At0, 0)) rfl (by show (partP 64 (b.drop At0)).2.2 = 0; rw [← hP0]; exact hc0) (by show isName (str (partP 64 (b.drop At0)).1) = true; rw [← hP0]; exact h3))
    have HSN := Lib.hid (fun h3 : isName (str P0.1) = false => stepR_name (b := b) (k := 0) (i := 0) (S := (T0, At0, 0)) rfl (by show (partP 64 (b.drop At0)).2.2 = 0; rw [← hP0]; exact hc0) (by show isName (str (partP 64 (b.drop At0)).1) = false; rw [← hP0]; exact h3))
    rw [show mostK 0 = 64 from rfl] at HSY
    simp only [← hP0] at HSY
    have hsz0 : (str P0.1).size ≤ 64 := HPB.out hc0
    have hat1 : At0 + P0.2.1 ≤ b.length := by have := HPS.out; have := HAT0.out; rw [List.length_drop] at *; omega
    rw [hc0]
    obtain ⟨s0, hs0⟩ : ∃ s, s = str P0.1 := ⟨_, rfl⟩
    obtain ⟨At1, hA1⟩ : ∃ n, n = At0 + P0.2.1 := ⟨_, rfl⟩
    rw [← hs0] at HSY HSN hsz0 ⊢
    rw [← hA1] at HSY hat1 ⊢
    have HAT1 := Lib.hid hat1
    have HSZ0 := Lib.hid hsz0
    clear hs0 hA1 hat1 hsz0 hP0 hc0 HPS HPB
    rw [show ((0 : Nat) : Int) = 0 from rfl]
    go_wp2_with fail
    refine (risName_any s0 (by have := HSZ0.out; omega) _).mono ?_
    rintro e w' ⟨rfl, hw'⟩
    subst hw'
    cases hv0 : isName s0 with
    | false =>
      have HV0 := Lib.hid hv0
      clear hv0
      have HRT : Hid (readT b A = (t0, At0, 5)) := by
        refine readT_of (S := (T0, At0, 5)) ?_ (show (5 : Nat) ≠ 0 by decide)
        rw [HCH0.out, HSN.out HV0.out]
        rw [stepR_stop (S := (T0, At0, 5)) (show (5 : Nat) ≠ 0 by decide)]
        rw [stepR_stop (S := (T0, At0, 5)) (show (5 : Nat) ≠ 0 by decide)]
        rw [stepR_stop (S := (T0, At0, 5)) (show (5 : Nat) ≠ 0 by decide)]
        rw [stepR_stop (S := (T0, At0, 5)) (show (5 : Nat) ≠ 0 by decide)]
        rw [stepR_stop (S := (T0, At0, 5)) (show (5 : Nat) ≠ 0 by decide)]
      clear HSY HSN
      have hA := HX0.out
      go_wp2_with ((with_reducible refine storeT (x := .tmp 4) (y := .tmp 53) (u := t0) (o := ⟨none, .store _ _ _, _, _, _, _⟩) hA ?_ ?_); exact ⟨rfl, rfl, rfl, rfl⟩)
      refine bodyPost_ret (resT2 rfl (hA.row _) rfl) rfl ⟨?_, below_row HB0.out (Nat.le_refl _) _⟩
      rw [HRT.out]; rfl
    | true =>
      have HV0 := Lib.hid hv0
      clear hv0
      obtain ⟨T1, hT1⟩ : ∃ T, T = T0.set 0 s0 := ⟨_, rfl⟩
      have HCH1 : Hid (readS b A = stepR b 2 5 (stepR b 1 4 (stepR b 0 3 (stepR b 0 2 (stepR b 1 1 ((T1, At1, 0))))))) := by
        show _ = _
        rw [HCH0.out, HSY.out HV0.out, hT1]
      have HT1 := Lib.hid hT1
      have c0 := HA0.out.cell 0
      have f0 := HA0.out.free 0
      simp only [List.getElem?_cons_zero, List.getElem?_cons_succ] at c0
      have HA1 : Hid (Arr (w0.setCell ⟨n, 0, none⟩ (.string s0)) 111 n [.string s0, .string ⟨#[]⟩, .string ⟨#[]⟩, .string ⟨#[]⟩, .string ⟨#[]⟩, .string ⟨#[]⟩]) := HA0.out.set 0 (.string s0)
      have HX1 : Hid (TuAt (w0.setCell ⟨n, 0, none⟩ (.string s0)) w.heap.size t0) := HX0.out.setCell (a := ⟨n, 0, none⟩) (Nat.ne_of_lt HNW.out) _
      have HB1 : Hid (Below w.heap.size w (w0.setCell ⟨n, 0, none⟩ (.string s0))) := HB0.out.setCell (p := ⟨n, 0, none⟩) (Nat.le_of_lt HNW.out) _
      have HR1 : Hid (Rd w.heap.size (w0.setCell ⟨n, 0, none⟩ (.string s0)) (.slice qb b.length cb) b) := HR0.out.below ((Below.refl w.heap.size w0).setCell (p := ⟨n, 0, none⟩) (Nat.le_of_lt HNW.out) _) (Nat.le_refl _)
      clear hT1 HSY HSN HCH0
      go_wp2_with fail
      generalize w0.setCell ⟨n, 0, none⟩ (.string s0) = w1 at HA1 HX1 HB1 HR1 ⊢
      clear c0 f0 HA0 HX0 HB0 HR0
      rw [rounds_succ]
      go_wp2_with fail
      refine (rread_at HR1.out HLN.out At1 HAT1.out 128 (by omega)).mono ?_
      rintro e w' ⟨rfl, hw'⟩
      subst hw'
      obtain ⟨P1, hP1⟩ : ∃ P, P = partP 128 (b.drop At1) := ⟨_, rfl⟩
      rw [← hP1]
      have HPS := Lib.hid (partP_small 128 (b.drop At1))
      have HPB := Lib.hid (fun h : (partP 128 (b.drop At1)).2.2 = 0 => (part_back h).1)
      rw [← hP1] at HPS HPB
      by_cases hc1 : P1.2.2 = 0
      · have HSY := Lib.hid (fun h3 : isId (str P1.1) = true => stepR_yes (b := b) (k := 1) (i := 1) (S := (T1, At1, 0)) rfl (by show (partP 128 (b.drop At1)).2.2 = 0; rw [← hP1]; exact hc1) (by show isId (str (partP 128 (b.drop At1)).1) = true; rw [← hP1]; exact h3))
        have HSN := Lib.hid (fun h3 : isId (str P1.1) = false => stepR_name (b := b) (k := 1) (i := 1) (S := (T1, At1, 0)) rfl (by show (partP 128 (b.drop At1)).2.2 = 0; rw [← hP1]; exact hc1) (by show isId (str (partP 128 (b.drop At1)).1) = false; rw [← hP1]; exact h3))
        rw [show mostK 1 = 128 from rfl] at HSY
        simp only [← hP1] at HSY
        have hsz1 : (str P1.1).size ≤ 128 := HPB.out hc1
        have hat2 : At1 + P1.2.1 ≤ b.length := by have := HPS.out; have := HAT1.out; rw [List.length_drop] at *; omega
        rw [hc1]
        obtain ⟨s1, hs1⟩ : ∃ s, s = str P1.1 := ⟨_, rfl⟩
        obtain ⟨At2, hA2⟩ : ∃ n, n = At1 + P1.2.1 := ⟨_, rfl⟩
        rw [← hs1] at HSY HSN hsz1 ⊢
        rw [← hA2] at HSY hat2 ⊢
        have HAT2 := Lib.hid hat2
        have HSZ1 := Lib.hid hsz1
        clear hs1 hA2 hat2 hsz1 hP1 hc1 HPS HPB
        rw [show ((0 : Nat) : Int) = 0 from rfl]
        go_wp2_with fail
        refine (risName_any s1 (by have := HSZ1.out; omega) _).mono ?_
        rintro e w' ⟨rfl, hw'⟩
        subst hw'
        go_wp2_with fail
        refine (risId_any s1 (by have := HSZ1.out; omega) _).mono ?_
        rintro e w' ⟨rfl, hw'⟩
        subst hw'
        cases hv1 : isId s1 with
        | false =>
          have HV1 := Lib.hid hv1
          clear hv1
          have HRT : Hid (readT b A = (t0, At1, 5)) := by
            refine readT_of (S := (T1, At1, 5)) ?_ (show (5 : Nat) ≠ 0 by decide)
            rw [HCH1.out, HSN.out HV1.out]
            rw [stepR_stop (S := (T1, At1, 5)) (show (5 : Nat) ≠ 0 by decide)]
            rw [stepR_stop (S := (T1, At1, 5)) (show (5 : Nat) ≠ 0 by decide)]
            rw [stepR_stop (S := (T1, At1, 5)) (show (5 : Nat) ≠ 0 by decide)]
            rw [stepR_stop (S := (T1, At1, 5)) (show (5 : Nat) ≠ 0 by decide)]
          clear HSY HSN
          have hA := HX1.out
          go_wp2_with ((with_reducible refine storeT (x := .tmp 4) (y := .tmp 53) (u := t0) (o := ⟨none, .store _ _ _, _, _, _, _⟩) hA ?_ ?_); exact ⟨rfl, rfl, rfl, rfl⟩)
          refine bodyPost_ret (resT2 rfl (hA.row _) rfl) rfl ⟨?_, below_row HB1.out (Nat.le_refl _) _⟩
          rw [HRT.out]; rfl
        | true =>
          have HV1 := Lib.hid hv1
          clear hv1
          obtain ⟨T2, hT2⟩ : ∃ T, T = T1.set 1 s1 := ⟨_, rfl⟩
          have HCH2 : Hid (readS b A = stepR b 2 5 (stepR b 1 4 (stepR b 0 3 (stepR b 0 2 ((T2, At2, 0)))))) := by
            show _ = _
            rw [HCH1.out, HSY.out HV1.out, hT2]
          have HT2 := Lib.hid hT2
          have c1 := HA1.out.cell 1
          have f1 := HA1.out.free 1
          simp only [List.getElem?_cons_zero, List.getElem?_cons_succ] at c1
          have HA2 : Hid (Arr (w1.setCell ⟨n, 1, none⟩ (.string s1)) 111 n [.string s0, .string s1, .string ⟨#[]⟩, .string ⟨#[]⟩, .string ⟨#[]⟩, .string ⟨#[]⟩]) := HA1.out.set 1 (.string s1)
          have HX2 : Hid (TuAt (w1.setCell ⟨n, 1, none⟩ (.string s1)) w.heap.size t0) := HX1.out.setCell (a := ⟨n, 1, none⟩) (Nat.ne_of_lt HNW.out) _
          have HB2 : Hid (Below w.heap.size w (w1.setCell ⟨n, 1, none⟩ (.string s1))) := HB1.out.setCell (p := ⟨n, 1, none⟩) (Nat.le_of_lt HNW.out) _
          have HR2 : Hid (Rd w.heap.size (w1.setCell ⟨n, 1, none⟩ (.string s1)) (.slice qb b.length cb) b) := HR1.out.below ((Below.refl w.heap.size w1).setCell (p := ⟨n, 1, none⟩) (Nat.le_of_lt HNW.out) _) (Nat.le_refl _)
          clear hT2 HSY HSN HCH1
          go_wp2_with fail
          generalize w1.setCell ⟨n, 1, none⟩ (.string s1) = w2 at HA2 HX2 HB2 HR2 ⊢
          clear c1 f1 HA1 HX1 HB1 HR1
          rw [rounds_succ]
          go_wp2_with fail
          refine (rread_at HR2.out HLN.out At2 HAT2.out 64 (by omega)).mono ?_
          rintro e w' ⟨rfl, hw'⟩
          subst hw'
          obtain ⟨P2, hP2⟩ : ∃ P, P = partP 64 (b.drop At2) := ⟨_, rfl⟩
          rw [← hP2]
          have HPS := Lib.hid (partP_small 64 (b.drop At2))
          have HPB := Lib.hid (fun h : (partP 64 (b.drop At2)).2.2 = 0 => (part_back h).1)
          rw [← hP2] at HPS HPB
          by_cases hc2 : P2.2.2 = 0
          · have HSY := Lib.hid (fun h3 : isName (str P2.1) = true => stepR_yes (b := b) (k := 0) (i := 2) (S := (T2, At2, 0)) rfl (by show (partP 64 (b.drop At2)).2.2 = 0; rw [← hP2]; exact hc2) (by show isName (str (partP 64 (b.drop At2)).1) = true; rw [← hP2]; exact h3))
            have HSN := Lib.hid (fun h3 : isName (str P2.1) = false => stepR_name (b := b) (k := 0) (i := 2) (S := (T2, At2, 0)) rfl (by show (partP 64 (b.drop At2)).2.2 = 0; rw [← hP2]; exact hc2) (by show isName (str (partP 64 (b.drop At2)).1) = false; rw [← hP2]; exact h3))
            rw [show mostK 0 = 64 from rfl] at HSY
            simp only [← hP2] at HSY
            have hsz2 : (str P2.1).size ≤ 64 := HPB.out hc2
            have hat3 : At2 + P2.2.1 ≤ b.length := by have := HPS.out; have := HAT2.out; rw [List.length_drop] at *; omega
            rw [hc2]
            obtain ⟨s2, hs2⟩ : ∃ s, s = str P2.1 := ⟨_, rfl⟩
            obtain ⟨At3, hA3⟩ : ∃ n, n = At2 + P2.2.1 := ⟨_, rfl⟩
            rw [← hs2] at HSY HSN hsz2 ⊢
            rw [← hA3] at HSY hat3 ⊢
            have HAT3 := Lib.hid hat3
            have HSZ2 := Lib.hid hsz2
            clear hs2 hA3 hat3 hsz2 hP2 hc2 HPS HPB
            rw [show ((0 : Nat) : Int) = 0 from rfl]
            go_wp2_with fail
            refine (risName_any s2 (by have := HSZ2.out; omega) _).mono ?_
            rintro e w' ⟨rfl, hw'⟩
            subst hw'
            cases hv2 : isName s2 with
            | false =>
              have HV2 := Lib.hid hv2
              clear hv2
              have HRT : Hid (readT b A = (t0, At2, 5)) := by
                refine readT_of (S := (T2, At2, 5)) ?_ (show (5 : Nat) ≠ 0 by decide)
                rw [HCH2.out, HSN.out HV2.out]
                rw [stepR_stop (S := (T2, At2, 5)) (show (5 : Nat) ≠ 0 by decide)]
                rw [stepR_stop (S := (T2, At2, 5)) (show (5 : Nat) ≠ 0 by decide)]
                rw [stepR_stop (S := (T2, At2, 5)) (show (5 : Nat) ≠ 0 by decide)]
              clear HSY HSN
              have hA := HX2.out
              go_wp2_with ((with_reducible refine storeT (x := .tmp 4) (y := .tmp 53) (u := t0) (o := ⟨none, .store _ _ _, _, _, _, _⟩) hA ?_ ?_); exact ⟨rfl, rfl, rfl, rfl⟩)
              refine bodyPost_ret (resT2 rfl (hA.row _) rfl) rfl ⟨?_, below_row HB2.out (Nat.le_refl _) _⟩
              rw [HRT.out]; rfl
            | true =>
              have HV2 := Lib.hid hv2
              clear hv2
              obtain ⟨T3, hT3⟩ : ∃ T, T = T2.set 2 s2 := ⟨_, rfl⟩
              have HCH3 : Hid (readS b A = stepR b 2 5 (stepR b 1 4 (stepR b 0 3 ((T3, At3, 0))))) := by
                show _ = _
                rw [HCH2.out, HSY.out HV2.out, hT3]
              have HT3 := Lib.hid hT3
              have c2 := HA2.out.cell 2
              have f2 := HA2.out.free 2
              simp only [List.getElem?_cons_zero, List.getElem?_cons_succ] at c2
              have HA3 : Hid (Arr (w2.setCell ⟨n, 2, none⟩ (.string s2)) 111 n [.string s0, .string s1, .string s2, .string ⟨#[]⟩, .string ⟨#[]⟩, .string ⟨#[]⟩]) := HA2.out.set 2 (.string s2)
              have HX3 : Hid (TuAt (w2.setCell ⟨n, 2, none⟩ (.string s2)) w.heap.size t0) := HX2.out.setCell (a := ⟨n, 2, none⟩) (Nat.ne_of_lt HNW.out) _
              have HB3 : Hid (Below w.heap.size w (w2.setCell ⟨n, 2, none⟩ (.string s2))) := HB2.out.setCell (p := ⟨n, 2, none⟩) (Nat.le_of_lt HNW.out) _
              have HR3 : Hid (Rd w.heap.size (w2.setCell ⟨n, 2, none⟩ (.string s2)) (.slice qb b.length cb) b) := HR2.out.below ((Below.refl w.heap.size w2).setCell (p := ⟨n, 2, none⟩) (Nat.le_of_lt HNW.out) _) (Nat.le_refl _)
              clear hT3 HSY HSN HCH2
              go_wp2_with fail
              generalize w2.setCell ⟨n, 2, none⟩ (.string s2) = w3 at HA3 HX3 HB3 HR3 ⊢
              clear c2 f2 HA2 HX2 HB2 HR2
              rw [rounds_succ]
              go_wp2_with fail
              refine (rread_at HR3.out HLN.out At3 HAT3.out 64 (by omega)).mono ?_
              rintro e w' ⟨rfl, hw'⟩
              subst hw'
              obtain ⟨P3, hP3⟩ : ∃ P, P = partP 64 (b.drop At3) := ⟨_, rfl⟩
              rw [← hP3]
              have HPS := Lib.hid (partP_small 64 (b.drop At3))
              have HPB := Lib.hid (fun h : (partP 64 (b.drop At3)).2.2 = 0 => (part_back h).1)
              rw [← hP3] at HPS HPB
              by_cases hc3 : P3.2.2 = 0
              · have HSY := Lib.hid (fun h3 : isName (str P3.1) = true => stepR_yes (b := b) (k := 0) (i := 3) (S := (T3, At3, 0)) rfl (by show (partP 64 (b.drop At3)).2.2 = 0; rw [← hP3]; exact hc3) (by show isName (str (partP 64 (b.drop At3)).1) = true; rw [← hP3]; exact h3))
                have HSN := Lib.hid (fun h3 : isName (str P3.1) = false => stepR_name (b := b) (k := 0) (i := 3) (S := (T3, At3, 0)) rfl (by show (partP 64 (b.drop At3)).2.2 = 0; rw [← hP3]; exact hc3) (by show isName (str (partP 64 (b.drop At3)).1) = false; rw [← hP3]; exact h3))
                rw [show mostK 0 = 64 from rfl] at HSY
                simp only [← hP3] at HSY
                have hsz3 : (str P3.1).size ≤ 64 := HPB.out hc3
                have hat4 : At3 + P3.2.1 ≤ b.length := by have := HPS.out; have := HAT3.out; rw [List.length_drop] at *; omega
                rw [hc3]
                obtain ⟨s3, hs3⟩ : ∃ s, s = str P3.1 := ⟨_, rfl⟩
                obtain ⟨At4, hA4⟩ : ∃ n, n = At3 + P3.2.1 := ⟨_, rfl⟩
                rw [← hs3] at HSY HSN hsz3 ⊢
                rw [← hA4] at HSY hat4 ⊢
                have HAT4 := Lib.hid hat4
                have HSZ3 := Lib.hid hsz3
                clear hs3 hA4 hat4 hsz3 hP3 hc3 HPS HPB
                rw [show ((0 : Nat) : Int) = 0 from rfl]
                go_wp2_with fail
                refine (risName_any s3 (by have := HSZ3.out; omega) _).mono ?_
                rintro e w' ⟨rfl, hw'⟩
                subst hw'
                cases hv3 : isName s3 with
                | false =>
                  have HV3 := Lib.hid hv3
                  clear hv3
                  have HRT : Hid (readT b A = (t0, At3, 5)) := by
                    refine readT_of (S := (T3, At3, 5)) ?_ (show (5 : Nat) ≠ 0 by decide)
                    rw [HCH3.out, HSN.out HV3.out]
                    rw [stepR_stop (S := (T3, At3, 5)) (show (5 : Nat) ≠ 0 by decide)]
                    rw [stepR_stop (S := (T3, At3, 5)) (show (5 : Nat) ≠ 0 by decide)]
                  clear HSY HSN
                  have hA := HX3.out
                  go_wp2_with ((with_reducible refine storeT (x := .tmp 4) (y := .tmp 53) (u := t0) (o := ⟨none, .store _ _ _, _, _, _, _⟩) hA ?_ ?_); exact ⟨rfl, rfl, rfl, rfl⟩)
                  refine bodyPost_ret (resT2 rfl (hA.row _) rfl) rfl ⟨?_, below_row HB3.out (Nat.le_refl _) _⟩
                  rw [HRT.out]; rfl
                | true =>
                  have HV3 := Lib.hid hv3
                  clear hv3
                  obtain ⟨T4, hT4⟩ : ∃ T, T = T3.set 3 s3 := ⟨_, rfl⟩
                  have HCH4 : Hid (readS b A = stepR b 2 5 (stepR b 1 4 ((T4, At4, 0)))) := by
                    show _ = _
                    rw [HCH3.out, HSY.out HV3.out, hT4]
                  have HT4 := Lib.hid hT4
                  have c3 := HA3.out.cell 3
                  have f3 := HA3.out.free 3
                  simp only [List.getElem?_cons_zero, List.getElem?_cons_succ] at c3
                  have HA4 : Hid (Arr (w3.setCell ⟨n, 3, none⟩ (.string s3)) 111 n [.string s0, .string s1, .string s2, .string s3, .string ⟨#[]⟩, .string ⟨#[]⟩]) := HA3.out.set 3 (.string s3)
                  have HX4 : Hid (TuAt (w3.setCell ⟨n, 3, none⟩ (.string s3)) w.heap.size t0) := HX3.out.setCell (a := ⟨n, 3, none⟩) (Nat.ne_of_lt HNW.out) _
                  have HB4 : Hid (Below w.heap.size w (w3.setCell ⟨n, 3, none⟩ (.string s3))) := HB3.out.setCell (p := ⟨n, 3, none⟩) (Nat.le_of_lt HNW.out) _
                  have HR4 : Hid (Rd w.heap.size (w3.setCell ⟨n, 3, none⟩ (.string s3)) (.slice qb b.length cb) b) := HR3.out.below ((Below.refl w.heap.size w3).setCell (p := ⟨n, 3, none⟩) (Nat.le_of_lt HNW.out) _) (Nat.le_refl _)
                  clear hT4 HSY HSN HCH3
                  go_wp2_with fail
                  generalize w3.setCell ⟨n, 3, none⟩ (.string s3) = w4 at HA4 HX4 HB4 HR4 ⊢
                  clear c3 f3 HA3 HX3 HB3 HR3
                  rw [rounds_succ]
                  go_wp2_with fail
                  refine (rread_at HR4.out HLN.out At4 HAT4.out 128 (by omega)).mono ?_
                  rintro e w' ⟨rfl, hw'⟩
                  subst hw'
                  obtain ⟨P4, hP4⟩ : ∃ P, P = partP 128 (b.drop At4) := ⟨_, rfl⟩
                  rw [← hP4]
                  have HPS := Lib.hid (partP_small 128 (b.drop At4))
                  have HPB := Lib.hid (fun h : (partP 128 (b.drop At4)).2.2 = 0 => (part_back h).1)
                  rw [← hP4] at HPS HPB
                  by_cases hc4 : P4.2.2 = 0
                  · have HSY := Lib.hid (fun h3 : isId (str P4.1) = true => stepR_yes (b := b) (k := 1) (i := 4) (S := (T4, At4, 0)) rfl (by show (partP 128 (b.drop At4)).2.2 = 0; rw [← hP4]; exact hc4) (by show isId (str (partP 128 (b.drop At4)).1) = true; rw [← hP4]; exact h3))
                    have HSN := Lib.hid (fun h3 : isId (str P4.1) = false => stepR_name (b := b) (k := 1) (i := 4) (S := (T4, At4, 0)) rfl (by show (partP 128 (b.drop At4)).2.2 = 0; rw [← hP4]; exact hc4) (by show isId (str (partP 128 (b.drop At4)).1) = false; rw [← hP4]; exact h3))
                    rw [show mostK 1 = 128 from rfl] at HSY
                    simp only [← hP4] at HSY
                    have hsz4 : (str P4.1).size ≤ 128 := HPB.out hc4
                    have hat5 : At4 + P4.2.1 ≤ b.length := by have := HPS.out; have := HAT4.out; rw [List.length_drop] at *; omega
                    rw [hc4]
                    obtain ⟨s4, hs4⟩ : ∃ s, s = str P4.1 := ⟨_, rfl⟩
                    obtain ⟨At5, hA5⟩ : ∃ n, n = At4 + P4.2.1 := ⟨_, rfl⟩
                    rw [← hs4] at HSY HSN hsz4 ⊢
                    rw [← hA5] at HSY hat5 ⊢
                    have HAT5 := Lib.hid hat5
                    have HSZ4 := Lib.hid hsz4
                    clear hs4 hA5 hat5 hsz4 hP4 hc4 HPS HPB
                    rw [show ((0 : Nat) : Int) = 0 from rfl]
                    go_wp2_with fail
                    refine (risName_any s4 (by have := HSZ4.out; omega) _).mono ?_
                    rintro e w' ⟨rfl, hw'⟩
                    subst hw'
                    go_wp2_with fail
                    refine (risId_any s4 (by have := HSZ4.out; omega) _).mono ?_
                    rintro e w' ⟨rfl, hw'⟩
                    subst hw'
                    cases hv4 : isId s4 with
                    | false =>
                      have HV4 := Lib.hid hv4
                      clear hv4
                      have HRT : Hid (readT b A = (t0, At4, 5)) := by
                        refine readT_of (S := (T4, At4, 5)) ?_ (show (5 : Nat) ≠ 0 by decide)
                        rw [HCH4.out, HSN.out HV4.out]
                        rw [stepR_stop (S := (T4, At4, 5)) (show (5 : Nat) ≠ 0 by decide)]
                      clear HSY HSN
                      have hA := HX4.out
                      go_wp2_with ((with_reducible refine storeT (x := .tmp 4) (y := .tmp 53) (u := t0) (o := ⟨none, .store _ _ _, _, _, _, _⟩) hA ?_ ?_); exact ⟨rfl, rfl, rfl, rfl⟩)
                      refine bodyPost_ret (resT2 rfl (hA.row _) rfl) rfl ⟨?_, below_row HB4.out (Nat.le_refl _) _⟩
                      rw [HRT.out]; rfl
                    | true =>
                      have HV4 := Lib.hid hv4
                      clear hv4
                      obtain ⟨T5, hT5⟩ : ∃ T, T = T4.set 4 s4 := ⟨_, rfl⟩
                      have HCH5 : Hid (readS b A = stepR b 2 5 ((T5, At5, 0))) := by
                        show _ = _
                        rw [HCH4.out, HSY.out HV4.out, hT5]
                      have HT5 := Lib.hid hT5
                      have c4 := HA4.out.cell 4
                      have f4 := HA4.out.free 4
                      simp only [List.getElem?_cons_zero, List.getElem?_cons_succ] at c4
                      have HA5 : Hid (Arr (w4.setCell ⟨n, 4, none⟩ (.string s4)) 111 n [.string s0, .string s1, .string s2, .string s3, .string s4, .string ⟨#[]⟩]) := HA4.out.set 4 (.string s4)
                      have HX5 : Hid (TuAt (w4.setCell ⟨n, 4, none⟩ (.string s4)) w.heap.size t0) := HX4.out.setCell (a := ⟨n, 4, none⟩) (Nat.ne_of_lt HNW.out) _
                      have HB5 : Hid (Below w.heap.size w (w4.setCell ⟨n, 4, none⟩ (.string s4))) := HB4.out.setCell (p := ⟨n, 4, none⟩) (Nat.le_of_lt HNW.out) _
                      have HR5 : Hid (Rd w.heap.size (w4.setCell ⟨n, 4, none⟩ (.string s4)) (.slice qb b.length cb) b) := HR4.out.below ((Below.refl w.heap.size w4).setCell (p := ⟨n, 4, none⟩) (Nat.le_of_lt HNW.out) _) (Nat.le_refl _)
                      clear hT5 HSY HSN HCH4
                      go_wp2_with fail
                      generalize w4.setCell ⟨n, 4, none⟩ (.string s4) = w5 at HA5 HX5 HB5 HR5 ⊢
                      clear c4 f4 HA4 HX4 HB4 HR4
                      rw [rounds_succ]
                      go_wp2_with fail
                      refine (rread_at HR5.out HLN.out At5 HAT5.out 64 (by omega)).mono ?_
                      rintro e w' ⟨rfl, hw'⟩
                      subst hw'
                      obtain ⟨P5, hP5⟩ : ∃ P, P = partP 64 (b.drop At5) := ⟨_, rfl⟩
                      rw [← hP5]
                      have HPS := Lib.hid (partP_small 64 (b.drop At5))
                      have HPB := Lib.hid (fun h : (partP 64 (b.drop At5)).2.2 = 0 => (part_back h).1)
                      rw [← hP5] at HPS HPB
                      by_cases hc5 : P5.2.2 = 0
                      · have HSY := Lib.hid (fun h3 : isUs (str P5.1) = true => stepR_yes (b := b) (k := 2) (i := 5) (S := (T5, At5, 0)) rfl (by show (partP 64 (b.drop At5)).2.2 = 0; rw [← hP5]; exact hc5) (by show isUs (str (partP 64 (b.drop At5)).1) = true; rw [← hP5]; exact h3))
                        have HSN := Lib.hid (fun h3 : isUs (str P5.1) = false => stepR_name (b := b) (k := 2) (i := 5) (S := (T5, At5, 0)) rfl (by show (partP 64 (b.drop At5)).2.2 = 0; rw [← hP5]; exact hc5) (by show isUs (str (partP 64 (b.drop At5)).1) = false; rw [← hP5]; exact h3))
                        rw [show mostK 2 = 64 from rfl] at HSY
                        simp only [← hP5] at HSY
                        have hsz5 : (str P5.1).size ≤ 64 := HPB.out hc5
                        have hat6 : At5 + P5.2.1 ≤ b.length := by have := HPS.out; have := HAT5.out; rw [List.length_drop] at *; omega
                        rw [hc5]
                        obtain ⟨s5, hs5⟩ : ∃ s, s = str P5.1 := ⟨_, rfl⟩
                        obtain ⟨At6, hA6⟩ : ∃ n, n = At5 + P5.2.1 := ⟨_, rfl⟩
                        rw [← hs5] at HSY HSN hsz5 ⊢
                        rw [← hA6] at HSY hat6 ⊢
                        have HAT6 := Lib.hid hat6
                        have HSZ5 := Lib.hid hsz5
                        clear hs5 hA6 hat6 hsz5 hP5 hc5 HPS HPB
                        rw [show ((0 : Nat) : Int) = 0 from rfl]
                        go_wp2_with fail
                        refine (risName_any s5 (by have := HSZ5.out; omega) _).mono ?_
                        rintro e w' ⟨rfl, hw'⟩
                        subst hw'
                        by_cases he : s5 = e0
                        · have HV5 : Hid (isUs s5 = true) := by show _ = _; rw [he]; rfl
                          have hnn : isName s5 = false := by rw [he]; decide +kernel
                          rw [hnn]
                          have hempty : s5.toList.isEmpty = true := by rw [he, toList_data]; rfl
                          have hempty2 : s5.toList = [] := by rw [he, toList_data]; rfl
                          clear he hnn
                          obtain ⟨T6, hT6⟩ : ∃ T, T = T5.set 5 s5 := ⟨_, rfl⟩
                          have HCH6 : Hid (readS b A = (T6, At6, 0)) := by
                            show _ = _
                            rw [HCH5.out, HSY.out HV5.out, hT6]
                          have HT6 := Lib.hid hT6
                          have c5 := HA5.out.cell 5
                          have f5 := HA5.out.free 5
                          simp only [List.getElem?_cons_zero, List.getElem?_cons_succ] at c5
                          have HA6 : Hid (Arr (w5.setCell ⟨n, 5, none⟩ (.string s5)) 111 n [.string s0, .string s1, .string s2, .string s3, .string s4, .string s5]) := HA5.out.set 5 (.string s5)
                          have HX6 : Hid (TuAt (w5.setCell ⟨n, 5, none⟩ (.string s5)) w.heap.size t0) := HX5.out.setCell (a := ⟨n, 5, none⟩) (Nat.ne_of_lt HNW.out) _
                          have HB6 : Hid (Below w.heap.size w (w5.setCell ⟨n, 5, none⟩ (.string s5))) := HB5.out.setCell (p := ⟨n, 5, none⟩) (Nat.le_of_lt HNW.out) _
                          have HR6 : Hid (Rd w.heap.size (w5.setCell ⟨n, 5, none⟩ (.string s5)) (.slice qb b.length cb) b) := HR5.out.below ((Below.refl w.heap.size w5).setCell (p := ⟨n, 5, none⟩) (Nat.le_of_lt HNW.out) _) (Nat.le_refl _)
                          clear hT6 HSY HSN HCH5
                          go_wp2_with fail
                          generalize w5.setCell ⟨n, 5, none⟩ (.string s5) = w6 at HA6 HX6 HB6 HR6 ⊢
                          clear c5 f5 HA5 HX5 HB5 HR5
                          rw [rounds_succ]
                          have HRT : Hid (readT b A = (⟨s0, s1, s2, s3, s4, s5⟩, At6, 0)) := by
                            show _ = _
                            rw [readT_ok HCH6.out rfl, HT6.out, HT5.out, HT4.out, HT3.out, HT2.out, HT1.out, HT0.out, sets6]
                          have d0 := HA6.out.cell 0
                          have d1 := HA6.out.cell 1
                          have d2 := HA6.out.cell 2
                          have d3 := HA6.out.cell 3
                          have d4 := HA6.out.cell 4
                          have d5 := HA6.out.cell 5
                          simp only [List.getElem?_cons_zero, List.getElem?_cons_succ] at d0 d1 d2 d3 d4 d5
                          have hA := HX6.out
                          go_wp2_with ((with_reducible refine storeT (x := .tmp 4) (y := .tmp 73) (u := ⟨s0, s1, s2, s3, s4, s5⟩) (o := ⟨none, .store _ _ _, _, _, _, _⟩) hA ?_ ?_); exact ⟨rfl, rfl, rfl, rfl⟩)
                          refine bodyPost_ret (resT2 rfl (hA.row _) rfl) rfl ⟨?_, below_row HB6.out (Nat.le_refl _) _⟩
                          rw [HRT.out]; rfl
                        · obtain ⟨n1, n2⟩ := empty_ne he
                          have hie : isUs s5 = isName s5 := by unfold isUs; simp [he]
                          clear he
                          cases hv5 : isName s5 with
                          | false =>
                            have HV5 : Hid (isUs s5 = false) := by show _ = _; rw [hie, hv5]
                            clear hv5 hie
                            have HRT : Hid (readT b A = (t0, At5, 5)) := by
                              refine readT_of (S := (T5, At5, 5)) ?_ (show (5 : Nat) ≠ 0 by decide)
                              rw [HCH5.out, HSN.out HV5.out]
                            clear HSY HSN
                            have hA := HX5.out
                            go_wp2_with ((with_reducible refine storeT (x := .tmp 4) (y := .tmp 53) (u := t0) (o := ⟨none, .store _ _ _, _, _, _, _⟩) hA ?_ ?_); exact ⟨rfl, rfl, rfl, rfl⟩)
                            refine bodyPost_ret (resT2 rfl (hA.row _) rfl) rfl ⟨?_, below_row HB5.out (Nat.le_refl _) _⟩
                            rw [HRT.out]; rfl
                          | true =>
                            have HV5 : Hid (isUs s5 = true) := by show _ = _; rw [hie, hv5]
                            clear hv5 hie n1 n2
                            obtain ⟨T6, hT6⟩ : ∃ T, T = T5.set 5 s5 := ⟨_, rfl⟩
                            have HCH6 : Hid (readS b A = (T6, At6, 0)) := by
                              show _ = _
                              rw [HCH5.out, HSY.out HV5.out, hT6]
                            have HT6 := Lib.hid hT6
                            have c5 := HA5.out.cell 5
                            have f5 := HA5.out.free 5
                            simp only [List.getElem?_cons_zero, List.getElem?_cons_succ] at c5
                            have HA6 : Hid (Arr (w5.setCell ⟨n, 5, none⟩ (.string s5)) 111 n [.string s0, .string s1, .string s2, .string s3, .string s4, .string s5]) := HA5.out.set 5 (.string s5)
                            have HX6 : Hid (TuAt (w5.setCell ⟨n, 5, none⟩ (.string s5)) w.heap.size t0) := HX5.out.setCell (a := ⟨n, 5, none⟩) (Nat.ne_of_lt HNW.out) _
                            have HB6 : Hid (Below w.heap.size w (w5.setCell ⟨n, 5, none⟩ (.string s5))) := HB5.out.setCell (p := ⟨n, 5, none⟩) (Nat.le_of_lt HNW.out) _
                            have HR6 : Hid (Rd w.heap.size (w5.setCell ⟨n, 5, none⟩ (.string s5)) (.slice qb b.length cb) b) := HR5.out.below ((Below.refl w.heap.size w5).setCell (p := ⟨n, 5, none⟩) (Nat.le_of_lt HNW.out) _) (Nat.le_refl _)
                            clear hT6 HSY HSN HCH5
                            go_wp2_with fail
                            generalize w5.setCell ⟨n, 5, none⟩ (.string s5) = w6 at HA6 HX6 HB6 HR6 ⊢
                            clear c5 f5 HA5 HX5 HB5 HR5
                            rw [rounds_succ]
                            have HRT : Hid (readT b A = (⟨s0, s1, s2, s3, s4, s5⟩, At6, 0)) := by
                              show _ = _
                              rw [readT_ok HCH6.out rfl, HT6.out, HT5.out, HT4.out, HT3.out, HT2.out, HT1.out, HT0.out, sets6]
                            have d0 := HA6.out.cell 0
                            have d1 := HA6.out.cell 1
                            have d2 := HA6.out.cell 2
                            have d3 := HA6.out.cell 3
                            have d4 := HA6.out.cell 4
                            have d5 := HA6.out.cell 5
                            simp only [List.getElem?_cons_zero, List.getElem?_cons_succ] at d0 d1 d2 d3 d4 d5
                            have hA := HX6.out
                            go_wp2_with ((with_reducible refine storeT (x := .tmp 4) (y := .tmp 73) (u := ⟨s0, s1, s2, s3, s4, s5⟩) (o := ⟨none, .store _ _ _, _, _, _, _⟩) hA ?_ ?_); exact ⟨rfl, rfl, rfl, rfl⟩)
                            refine bodyPost_ret (resT2 rfl (hA.row _) rfl) rfl ⟨?_, below_row HB6.out (Nat.le_refl _) _⟩
                            rw [HRT.out]; rfl
                      · have HSB := Lib.hid (stepR_bad (b := b) (k := 2) (i := 5) (S := (T5, At5, 0)) rfl (by show (partP 64 (b.drop At5)).2.2 ≠ 0; rw [← hP5]; exact hc5))
                        rw [show mostK 2 = 64 from rfl] at HSB
                        simp only [← hP5] at HSB
                        have hb0 := partP_bad (most := 64) (r := b.drop At5) (by rw [← hP5]; exact hc5)
                        rw [← hP5] at hb0
                        rw [hb0.1, hb0.2, Nat.add_zero]
                        obtain ⟨cd, hcd⟩ : ∃ c, c = P5.2.2 := ⟨_, rfl⟩
                        rw [← hcd] at HSB hc5 ⊢
                        have HCD := Lib.hid hc5
                        have z1 : ¬ (cd : Int) = 0 := by omega
                        have z2 : ((cd : Int) != 0) = true := by rw [bne_iff_ne]; exact z1
                        clear hb0 hcd hP5 hc5 HPS HPB
                        have HRT : Hid (readT b A = (t0, At5, cd)) := by
                          refine readT_of (S := (T5, At5, cd)) ?_ HCD.out
                          rw [HCH5.out, HSB.out]
                        clear HSB
                        have hA := HX5.out
                        go_wp2_with ((with_reducible refine storeT (x := .tmp 4) (y := .tmp 34) (u := t0) (o := ⟨none, .store _ _ _, _, _, _, _⟩) hA ?_ ?_); exact ⟨rfl, rfl, rfl, rfl⟩)
                        refine bodyPost_ret (resT2 rfl (hA.row _) rfl) rfl ⟨?_, below_row HB5.out (Nat.le_refl _) _⟩
                        rw [HRT.out]; rfl
                  · have HSB := Lib.hid (stepR_bad (b := b) (k := 1) (i := 4) (S := (T4, At4, 0)) rfl (by show (partP 128 (b.drop At4)).2.2 ≠ 0; rw [← hP4]; exact hc4))
                    rw [show mostK 1 = 128 from rfl] at HSB
                    simp only [← hP4] at HSB
                    have hb0 := partP_bad (most := 128) (r := b.drop At4) (by rw [← hP4]; exact hc4)
                    rw [← hP4] at hb0
                    rw [hb0.1, hb0.2, Nat.add_zero]
                    obtain ⟨cd, hcd⟩ : ∃ c, c = P4.2.2 := ⟨_, rfl⟩
                    rw [← hcd] at HSB hc4 ⊢
                    have HCD := Lib.hid hc4
                    have z1 : ¬ (cd : Int) = 0 := by omega
                    have z2 : ((cd : Int) != 0) = true := by rw [bne_iff_ne]; exact z1
                    clear hb0 hcd hP4 hc4 HPS HPB
                    have HRT : Hid (readT b A = (t0, At4, cd)) := by
                      refine readT_of (S := (T4, At4, cd)) ?_ HCD.out
                      rw [HCH4.out, HSB.out]
                      rw [stepR_stop (S := (T4, At4, cd)) HCD.out]
                    clear HSB
                    have hA := HX4.out
                    go_wp2_with ((with_reducible refine storeT (x := .tmp 4) (y := .tmp 34) (u := t0) (o := ⟨none, .store _ _ _, _, _, _, _⟩) hA ?_ ?_); exact ⟨rfl, rfl, rfl, rfl⟩)
                    refine bodyPost_ret (resT2 rfl (hA.row _) rfl) rfl ⟨?_, below_row HB4.out (Nat.le_refl _) _⟩
                    rw [HRT.out]; rfl
              · have HSB := Lib.hid (stepR_bad (b := b) (k := 0) (i := 3) (S := (T3, At3, 0)) rfl (by show (partP 64 (b.drop At3)).2.2 ≠ 0; rw [← hP3]; exact hc3))
                rw [show mostK 0 = 64 from rfl] at HSB
                simp only [← hP3] at HSB
                have hb0 := partP_bad (most := 64) (r := b.drop At3) (by rw [← hP3]; exact hc3)
                rw [← hP3] at hb0
                rw [hb0.1, hb0.2, Nat.add_zero]
                obtain ⟨cd, hcd⟩ : ∃ c, c = P3.2.2 := ⟨_, rfl⟩
                rw [← hcd] at HSB hc3 ⊢
                have HCD := Lib.hid hc3
                have z1 : ¬ (cd : Int) = 0 := by omega
                have z2 : ((cd : Int) != 0) = true := by rw [bne_iff_ne]; exact z1
                clear hb0 hcd hP3 hc3 HPS HPB
                have HRT : Hid (readT b A = (t0, At3, cd)) := by
                  refine readT_of (S := (T3, At3, cd)) ?_ HCD.out
                  rw [HCH3.out, HSB.out]
                  rw [stepR_stop (S := (T3, At3, cd)) HCD.out]
                  rw [stepR_stop (S := (T3, At3, cd)) HCD.out]
                clear HSB
                have hA := HX3.out
                go_wp2_with ((with_reducible refine storeT (x := .tmp 4) (y := .tmp 34) (u := t0) (o := ⟨none, .store _ _ _, _, _, _, _⟩) hA ?_ ?_); exact ⟨rfl, rfl, rfl, rfl⟩)
                refine bodyPost_ret (resT2 rfl (hA.row _) rfl) rfl ⟨?_, below_row HB3.out (Nat.le_refl _) _⟩
                rw [HRT.out]; rfl
          · have HSB := Lib.hid (stepR_bad (b := b) (k := 0) (i := 2) (S := (T2, At2, 0)) rfl (by show (partP 64 (b.drop At2)).2.2 ≠ 0; rw [← hP2]; exact hc2))
            rw [show mostK 0 = 64 from rfl] at HSB
            simp only [← hP2] at HSB
            have hb0 := partP_bad (most := 64) (r := b.drop At2) (by rw [← hP2]; exact hc2)
            rw [← hP2] at hb0
            rw [hb0.1, hb0.2, Nat.add_zero]
            obtain ⟨cd, hcd⟩ : ∃ c, c = P2.2.2 := ⟨_, rfl⟩
            rw [← hcd] at HSB hc2 ⊢
            have HCD := Lib.hid hc2
            have z1 : ¬ (cd : Int) = 0 := by omega
            have z2 : ((cd : Int) != 0) = true := by rw [bne_iff_ne]; exact z1
            clear hb0 hcd hP2 hc2 HPS HPB
            have HRT : Hid (readT b A = (t0, At2, cd)) := by
              refine readT_of (S := (T2, At2, cd)) ?_ HCD.out
              rw [HCH2.out, HSB.out]
              rw [stepR_stop (S := (T2, At2, cd)) HCD.out]
              rw [stepR_stop (S := (T2, At2, cd)) HCD.out]
              rw [stepR_stop (S := (T2, At2, cd)) HCD.out]
            clear HSB
            have hA := HX2.out
            go_wp2_with ((with_reducible refine storeT (x := .tmp 4) (y := .tmp 34) (u := t0) (o := ⟨none, .store _ _ _, _, _, _, _⟩) hA ?_ ?_); exact ⟨rfl, rfl, rfl, rfl⟩)
            refine bodyPost_ret (resT2 rfl (hA.row _) rfl) rfl ⟨?_, below_row HB2.out (Nat.le_refl _) _⟩
            rw [HRT.out]; rfl
      · have HSB := Lib.hid (stepR_bad (b := b) (k := 1) (i := 1) (S := (T1, At1, 0)) rfl (by show (partP 128 (b.drop At1)).2.2 ≠ 0; rw [← hP1]; exact hc1))
        rw [show mostK 1 = 128 from rfl] at HSB
        simp only [← hP1] at HSB
        have hb0 := partP_bad (most := 128) (r := b.drop At1) (by rw [← hP1]; exact hc1)
        rw [← hP1] at hb0
        rw [hb0.1, hb0.2, Nat.add_zero]
        obtain ⟨cd, hcd⟩ : ∃ c, c = P1.2.2 := ⟨_, rfl⟩
        rw [← hcd] at HSB hc1 ⊢
        have HCD := Lib.hid hc1
        have z1 : ¬ (cd : Int) = 0 := by omega
        have z2 : ((cd : Int) != 0) = true := by rw [bne_iff_ne]; exact z1
        clear hb0 hcd hP1 hc1 HPS HPB
        have HRT : Hid (readT b A = (t0, At1, cd)) := by
          refine readT_of (S := (T1, At1, cd)) ?_ HCD.out
          rw [HCH1.out, HSB.out]
          rw [stepR_stop (S := (T1, At1, cd)) HCD.out]
          rw [stepR_stop (S := (T1, At1, cd)) HCD.out]
          rw [stepR_stop (S := (T1, At1, cd)) HCD.out]
          rw [stepR_stop (S := (T1, At1, cd)) HCD.out]
        clear HSB
        have hA := HX1.out
        go_wp2_with ((with_reducible refine storeT (x := .tmp 4) (y := .tmp 34) (u := t0) (o := ⟨none, .store _ _ _, _, _, _, _⟩) hA ?_ ?_); exact ⟨rfl, rfl, rfl, rfl⟩)
        refine bodyPost_ret (resT2 rfl (hA.row _) rfl) rfl ⟨?_, below_row HB1.out (Nat.le_refl _) _⟩
        rw [HRT.out]; rfl
  · have HSB := Lib.hid (stepR_bad (b := b) (k := 0) (i := 0) (S := (T0, At0, 0)) rfl (by show (partP 64 (b.drop At0)).2.2 ≠ 0; rw [← hP0]; exact hc0))
    rw [show mostK 0 = 64 from rfl] at HSB
    simp only [← hP0] at HSB
    have hb0 := partP_bad (most := 64) (r := b.drop At0) (by rw [← hP0]; exact hc0)
    rw [← hP0] at hb0
    rw [hb0.1, hb0.2, Nat.add_zero]
    obtain ⟨cd, hcd⟩ : ∃ c, c = P0.2.2 := ⟨_, rfl⟩
    rw [← hcd] at HSB hc0 ⊢
    have HCD := Lib.hid hc0
    have z1 : ¬ (cd : Int) = 0 := by omega
    have z2 : ((cd : Int) != 0) = true := by rw [bne_iff_ne]; exact z1
    clear hb0 hcd hP0 hc0 HPS HPB
    have HRT : Hid (readT b A = (t0, At0, cd)) := by
      refine readT_of (S := (T0, At0, cd)) ?_ HCD.out
      rw [HCH0.out, HSB.out]
      rw [stepR_stop (S := (T0, At0, cd)) HCD.out]
      rw [stepR_stop (S := (T0, At0, cd)) HCD.out]
      rw [stepR_stop (S := (T0, At0, cd)) HCD.out]
      rw [stepR_stop (S := (T0, At0, cd)) HCD.out]
      rw [stepR_stop (S := (T0, At0, cd)) HCD.out]
    clear HSB
    have hA := HX0.out
    go_wp2_with ((with_reducible refine storeT (x := .tmp 4) (y := .tmp 34) (u := t0) (o := ⟨none, .store _ _ _, _, _, _, _⟩) hA ?_ ?_); exact ⟨rfl, rfl, rfl, rfl⟩)
    refine bodyPost_ret (resT2 rfl (hA.row _) rfl) rfl ⟨?_, below_row HB0.out (Nat.le_refl _) _⟩
    rw [HRT.out]; rfl
end Go.Proofs.YtnnebfcggdbgpaaGreatDoor
/-
  vestryref18.ParseBytes.
-/
namespace Go.Proofs.YtnnebfcggdbgpaaGreatDoor
open Go.ChangeShapes Go.WideShapes Go.ChangeAt Go.RowKit
set_option linter.unusedVariables false

set_option maxRecDepth 100000 in
set_option maxHeartbeats 2000000 in
theorem rtparseB_any {B : Nat} {w : World} {vb : Value} {b : List UInt8} (hr : Rd B w vb b) (hB : B ≤ w.heap.size) (hl : b.length ≤ 1000000) :
    Calls Tryz.prog 26 #[vb] w fun e w' => e = .returned (.tuple #[tuV (parseB b).1, .int .i64 ((parseB b).2.1 : Nat), .int .i64 ((parseB b).2.2 : Nat)]) ∧ Below w.heap.size w w' := by
  obtain ⟨T, hT⟩ : ∃ T, T = readT b 0 := ⟨_, rfl⟩
  have hP : parseB b = endB b.length T := by rw [hT]; rfl
  have b0 : Below w.heap.size w (w.alloc (.cells (tc t0).toArray 25)) := (Below.refl _ _).alloc (Nat.le_refl _) _
  have HRD := Lib.hid (rtread_any (hr.below b0 hB) (Nat.le_trans hB b0.size) hl 0 (Nat.zero_le _))
  rw [← hT] at HRD
  have HAT : Hid (T.2.1 ≤ b.length) := by rw [hT]; exact (readT_at (Nat.zero_le _)).2
  have HB0 := Lib.hid b0
  have HX0 := Lib.hid (tu_new w t0)
  have HP := Lib.hid hP
  obtain ⟨qb, cb, rfl⟩ := rd_form hr
  have hbl : (b.length : Int) ≤ 1000000 := by omega
  clear hr hB hl hT hP b0
  obtain ⟨t, n, cd⟩ := T
  go_enter Tryz.func26, Tryz.ntmps26
  go_wp2_with fail
  refine HRD.out.mono ?_
  rintro e w2 ⟨rfl, b2⟩
  have HB2 := Lib.hid (HB0.out.trans (b2.mono HB0.out.size))
  have HX2 := Lib.hid (HX0.out.later b2)
  have b3 : Below w2.heap.size w2 (w2.alloc (.cells (tc t).toArray 25)) := (Below.refl _ _).alloc (Nat.le_refl _) _
  have HB3 := Lib.hid (HB2.out.trans (b3.mono HB2.out.size))
  have HX3 := Lib.hid (HX2.out.later b3)
  have HT3 := Lib.hid (tu_new w2 t)
  clear b2 b3 HRD HB0 HX0 HB2 HX2
  go_upto_region 2 with ((with_reducible refine atT w2.heap.size (x := .tmp 5) (y := .tmp 11) (u := t) (o := ⟨none, .store _ _ _, _, _, _, _⟩) ?_ ?_); exact ⟨rfl, rfl, rfl, rfl, rfl, rfl⟩)
  generalize w2.alloc (.cells (tc t).toArray 25) = w3 at HB3 HX3 HT3 ⊢
  generalize w2.heap.size = g3 at HT3 ⊢
  have hA := HX3.out
  by_cases hc : cd = 0
  · subst hc
    by_cases hlt : n < b.length
    · have HP2 : Hid (parseB b = (t0, 16, n)) := by show _ = _; rw [HP.out]; exact endB_long rfl hlt
      have h1 : (n : Int) < b.length := by omega
      clear HP hlt
      go_wp2_with ((with_reducible refine storeT (x := .tmp 2) (y := .tmp 24) (u := t0) (o := ⟨none, .store _ _ _, _, _, _, _⟩) hA ?_ ?_); exact ⟨rfl, rfl, rfl, rfl⟩)
      refine bodyPost_ret (resT2 rfl (hA.row _) rfl) rfl ⟨?_, below_row HB3.out (Nat.le_refl _) _⟩
      rw [HP2.out]; rfl
    · have HP2 : Hid (parseB b = (t, 0, 0)) := by show _ = _; rw [HP.out]; exact endB_yes rfl hlt
      have h1 : ¬ (n : Int) < b.length := by omega
      clear HP hlt
      go_wp2_with (first
        | ((with_reducible refine loadT (x := .tmp 5) (o := ⟨some 27, _, _, _, _, _⟩) HT3.out ?_ ?_); exact ⟨rfl, rfl, rfl⟩)
        | ((with_reducible refine storeT (x := .tmp 2) (y := .tmp 27) (u := t) (o := ⟨none, .store _ _ _, _, _, _, _⟩) hA ?_ ?_); exact ⟨rfl, rfl, rfl, rfl⟩))
      refine bodyPost_ret (resT2 rfl (hA.row _) rfl) rfl ⟨?_, below_row HB3.out (Nat.le_refl _) _⟩
      rw [HP2.out]; rfl
  · have HP2 : Hid (parseB b = (t0, cd, n)) := by show _ = _; rw [HP.out]; exact endB_bad hc
    have z0 : ((cd : Int) == 0) = false := by rw [beq_eq_false_iff_ne]; omega
    have z1 : ¬ (cd : Int) = 0 := by omega
    have z2 : ((cd : Int) != 0) = true := by rw [bne_iff_ne]; exact z1
    clear HP hc
    go_wp2_with ((with_reducible refine storeT (x := .tmp 2) (y := .tmp 24) (u := t0) (o := ⟨none, .store _ _ _, _, _, _, _⟩) hA ?_ ?_); exact ⟨rfl, rfl, rfl, rfl⟩)
    refine bodyPost_ret (resT2 rfl (hA.row _) rfl) rfl ⟨?_, below_row HB3.out (Nat.le_refl _) _⟩
    rw [HP2.out]; rfl
end Go.Proofs.YtnnebfcggdbgpaaGreatDoor
/-
  vestrylaw18.TupleMatchesReference: the walk.
-/
namespace Go.Proofs.YtnnebfcggdbgpaaGreatDoor
open Go.ChangeShapes Go.WideShapes Go.ChangeAt Go.RowKit
open errAs (ErrT)
set_option linter.unusedVariables false

theorem sizesT.mono {t : Tu} {n m : Nat} (h : sizesT t n) (hm : n ≤ m) : sizesT t m := ⟨Nat.le_trans h.1 hm, Nat.le_trans h.2.1 hm, Nat.le_trans h.2.2.1 hm, Nat.le_trans h.2.2.2.1 hm, Nat.le_trans h.2.2.2.2.1 hm, Nat.le_trans h.2.2.2.2.2 hm⟩
theorem rd_now {B : Nat} {w w' : World} {v : Value} {l : List UInt8} (h : Rd w.heap.size w v l) (hb : Below w.heap.size w w') : Rd w'.heap.size w' v l := (h.below hb (Nat.le_refl _)).mono hb.size
/-- What the law's region holds on to. -/
def MS (w : World) (g : Nat) (t : Tu) (W : World) : Prop := Below w.heap.size w W ∧ Env W ∧ Arr W 25 g (tc t)
theorem MS.later {w W W' : World} {g : Nat} {t : Tu} (h : MS w g t W) (b : Below W.heap.size W W') : MS w g t W' := ⟨h.1.trans (b.mono h.1.size), h.2.1.below b, h.2.2.later b⟩
theorem MS.right {w W : World} {g : Nat} {t : Tu} (h : MS w g t W) : Calls Tryz.prog 17 #[tuV t] W fun e W' => ∃ v, e = .returned v ∧ v = .bool (rightT t) ∧ MS w g t W' :=
  (right_any' t W h.2.1.1).mono fun _ _ ⟨he, hb⟩ => ⟨_, he, rfl, h.later hb⟩
theorem MS.rright {w W : World} {g : Nat} {t : Tu} (h : MS w g t W) (hs : sizesT t 1000000) : Calls Tryz.prog 18 #[tuV t] W fun e W' => ∃ v, e = .returned v ∧ v = .bool (rightT t) ∧ MS w g t W' :=
  (rrightT_any t hs W).mono fun _ _ ⟨he, hb⟩ => ⟨_, he, rfl, h.later hb⟩
theorem takeT {ops : Array Oper} {md : Region.Mode} {S : World → Prop} {Q : Exit → Act → World → Prop} {i : Nat} {o : Oper} {fuel : Nat} {listed : Array Bool} {a : Act} {w : World} {u : Tu} (hi : ops[i]? = some o) (hs : Region.noSelect ops = true) (hf : Region.free md ops listed i = true) (hr : (Region.ready md ops listed).contains i = true)
    (hQ : ∀ c a w, Q (.panic c) (a.put o.dst (tuV u)) w → Q (.panic c) a w) (hwt : Region.wanted o (yielded ops a.tmps) = true) {x : Operand} {b off : Nat} (ho : o.op = .load 25 x ∧ a.eval x = .pointer (some ⟨b, off, none⟩)) (hS : ∀ w, S w → w.rangeAt b off (tc u)) (hw : S w)
    (h : wpAnyH Tryz.prog md ops Q S fuel (listed.setIfInBounds i true) (a.put o.dst (tuV u)) w) : wpAnyH Tryz.prog md ops Q S (fuel + 1) listed a w :=
  wpAnyH_take hi hs hf hr hQ (yieldsIf_load_mid hwt _ x ho.1 b off ho.2 (tc u) _ hS Tryz.underlying25 rfl (by kernel_rfl)) hw h
theorem takeE {ops : Array Oper} {md : Region.Mode} {S : World → Prop} {Q : Exit → Act → World → Prop} {i : Nat} {o : Oper} {fuel : Nat} {listed : Array Bool} {a : Act} {w : World} {u v : Tu} (hi : ops[i]? = some o) (hs : Region.noSelect ops = true) (hf : Region.free md ops listed i = true) (hr : (Region.ready md ops listed).contains i = true)
    (hQ : ∀ c a w, Q (.panic c) (a.put o.dst (.bool (eqT u v))) w → Q (.panic c) a w) (hwt : Region.wanted o (yielded ops a.tmps) = true) {x y : Operand} {t : TypeId} (ho : o.op = .binOp .eql 25 x y t ∧ a.eval x = tuV u ∧ a.eval y = tuV v) (hw : S w)
    (h : wpAnyH Tryz.prog md ops Q S fuel (listed.setIfInBounds i true) (a.put o.dst (.bool (eqT u v))) w) : wpAnyH Tryz.prog md ops Q S (fuel + 1) listed a w :=
  wpAnyH_take hi hs hf hr hQ (.inl ⟨hwt, fun w' _ => by
    have hg : Tryz.prog.eqGuardType Tryz.prog.depth 25 = false := by kernel_rfl
    unfold execOp
    simp only [ho.1, ho.2.1, ho.2.2, Sem.run_bind, run_eqGuard_agg (hm := hg), Result.andThen_ok, eqlT, Sem.run_pure]⟩) hw h
def MS2 (w : World) (g : Nat) (t : Tu) (w0 W : World) : Prop := MS w g t W ∧ Below w0.heap.size w0 W
theorem MS2.later {w w0 W W' : World} {g : Nat} {t : Tu} (h : MS2 w g t w0 W) (b : Below W.heap.size W W') : MS2 w g t w0 W' := ⟨h.1.later b, h.2.trans (b.mono h.2.size)⟩
theorem MS2.right {w w0 W : World} {g : Nat} {t : Tu} (h : MS2 w g t w0 W) : Calls Tryz.prog 17 #[tuV t] W fun e W' => ∃ v, e = .returned v ∧ v = .bool (rightT t) ∧ MS2 w g t w0 W' :=
  (right_any' t W h.1.2.1.1).mono fun _ _ ⟨he, hb⟩ => ⟨_, he, rfl, h.later hb⟩
theorem MS2.rright {w w0 W : World} {g : Nat} {t : Tu} (h : MS2 w g t w0 W) (hs : sizesT t 1000000) : Calls Tryz.prog 18 #[tuV t] W fun e W' => ∃ v, e = .returned v ∧ v = .bool (rightT t) ∧ MS2 w g t w0 W' :=
  (rrightT_any t hs W).mono fun _ _ ⟨he, hb⟩ => ⟨_, he, rfl, h.later hb⟩
set_option maxRecDepth 100000 in
set_option maxHeartbeats 4000000 in
theorem tmatch_law (t : Tu) (hz : sizesT t 140737488355328) (w : World) (hE : Env w) : Calls Tryz.prog 3 #[tuV t] w fun e w' => e = .returned (.bool true) ∧ Below w.heap.size w w' := by
  have b0 : Below w.heap.size w (w.alloc (.cells (tc t).toArray 25)) := (Below.refl _ _).alloc (Nat.le_refl _) _
  have HB0 := Lib.hid b0
  have HE0 := Lib.hid (hE.below b0)
  have HA0 := Lib.hid (tu_new w t)
  have HAW := Lib.hid (tawake_any _ HE0.out)
  have HSH := Lib.hid (short_any t hz)
  rcases hs : shortT t with _ | _
  · have HSF := Lib.hid hs
    clear b0 hE hz hs
    go_enter Tryz.func3, Tryz.ntmps3
    go_wp2_with fail
    generalize w.alloc (.cells (tc t).toArray 25) = w0 at HB0 HE0 HA0 HAW HSH ⊢
    refine HAW.out.mono ?_
    rintro e w1 ⟨rfl, b1⟩
    have HSH1 := Lib.hid (HSH.out w1)
    have HB1 := Lib.hid (HB0.out.trans (b1.mono HB0.out.size))
    have HE1 := Lib.hid (HE0.out.below b1)
    have HA1 := Lib.hid (HA0.out.later b1)
    clear b1 HB0 HE0 HA0 HAW HSH
    go_wp2_with ((with_reducible refine loadT (x := .tmp 1) (u := t) (o := ⟨some 14, _, _, _, _, _⟩) HA1.out ?_ ?_); exact ⟨rfl, rfl, rfl⟩)
    refine HSH1.out.mono ?_
    rintro e w2 ⟨rfl, b2⟩
    have HB2 := Lib.hid (HB1.out.trans (b2.mono HB1.out.size))
    have HE2 := Lib.hid (HE1.out.below b2)
    have HA2 := Lib.hid (HA1.out.later b2)
    clear b2 HB1 HE1 HA1 HSH1
    rw [HSF.out]
    have HAW3 := Lib.hid (tawake_any w2 HE2.out)
    go_wp2_with fail
    refine HAW3.out.mono ?_
    rintro e w3 ⟨rfl, b3⟩
    have HB3 := Lib.hid (HB2.out.trans (b3.mono HB2.out.size))
    have HE3 := Lib.hid (HE2.out.below b3)
    have HA3 := Lib.hid (HA2.out.later b3)
    clear b3 HB2 HE2 HA2 
    go_wp2_with fail
    go_ret
    exact ⟨rfl, HB3.out⟩
  · have HST := Lib.hid hs
    have HS6 : Hid (sizesT t 1000000) := (shortT_sizes hs).mono (by decide)
    clear b0 hE hz hs
    rcases hr : rightT t with _ | _
    · have HR := Lib.hid hr
      clear hr
      go_enter Tryz.func3, Tryz.ntmps3
      go_wp2_with fail
      generalize w.alloc (.cells (tc t).toArray 25) = w0 at HB0 HE0 HA0 HAW HSH ⊢
      refine HAW.out.mono ?_
      rintro e w1 ⟨rfl, b1⟩
      have HSH1 := Lib.hid (HSH.out w1)
      have HB1 := Lib.hid (HB0.out.trans (b1.mono HB0.out.size))
      have HE1 := Lib.hid (HE0.out.below b1)
      have HA1 := Lib.hid (HA0.out.later b1)
      clear b1 HB0 HE0 HA0 HAW HSH
      go_wp2_with ((with_reducible refine loadT (x := .tmp 1) (u := t) (o := ⟨some 14, _, _, _, _, _⟩) HA1.out ?_ ?_); exact ⟨rfl, rfl, rfl⟩)
      refine HSH1.out.mono ?_
      rintro e w2 ⟨rfl, b2⟩
      have HB2 := Lib.hid (HB1.out.trans (b2.mono HB1.out.size))
      have HE2 := Lib.hid (HE1.out.below b2)
      have HA2 := Lib.hid (HA1.out.later b2)
      clear b2 HB1 HE1 HA1 HSH1
      rw [HST.out]
      have HTX := Lib.hid (text_no t HR.out w2 HE2.out)
      go_wp2_with ((with_reducible refine loadT (x := .tmp 1) (u := t) (o := ⟨some 20, _, _, _, _, _⟩) HA2.out ?_ ?_); exact ⟨rfl, rfl, rfl⟩)
      refine HTX.out.mono ?_
      rintro e w3 ⟨rfl, b3⟩
      have HB3 := Lib.hid (HB2.out.trans (b3.mono HB2.out.size))
      have HE3 := Lib.hid (HE2.out.below b3)
      have HA3 := Lib.hid (HA2.out.later b3)
      clear b3 HB2 HE2 HA2 HTX
      have HPU := Lib.hid (put_no t HR.out w3 HE3.out.1)
      go_wp2_with ((with_reducible refine loadT (x := .tmp 1) (u := t) (o := ⟨some 25, _, _, _, _, _⟩) HA3.out ?_ ?_); exact ⟨rfl, rfl, rfl⟩)
      refine HPU.out.mono ?_
      rintro e w4 ⟨rfl, b4⟩
      have HB4 := Lib.hid (HB3.out.trans (b4.mono HB3.out.size))
      have HE4 := Lib.hid (HE3.out.below b4)
      have HA4 := Lib.hid (HA3.out.later b4)
      clear b4 HB3 HE3 HA3 HPU
      go_wp2_with fail
      have HM : Hid (MS w w.heap.size t w4) := ⟨HB4.out, HE4.out, HA4.out⟩
      clear HB4 HE4 HA4
      refine wp_region_noPanic ?_
      refine wp_region_held_drew (S := MS w w.heap.size t) (by kernel_rfl) (HM.out.later (Below.refl _ _).drew) (fun hHeld => ?_)
      try simp only [Act.put]
      generalize w4.drew = wd at hHeld ⊢
      clear HM
      refine takeT (i := 0) (o := ⟨some 29, _, _, _, _, _⟩) (u := t) rfl (by kernel_rfl) (by kernel_rfl) (by kernel_rfl) (fun _ _ _ h => h) (by rfl) ⟨rfl, rfl⟩ (fun _ h => h.2.2.range) hHeld ?_
      try simp only [Act.put, List.setIfInBounds_toArray, List.set_cons_zero, List.set_cons_succ]
      refine takeT (i := 2) (o := ⟨some 31, _, _, _, _, _⟩) (u := t) rfl (by kernel_rfl) (by kernel_rfl) (by kernel_rfl) (fun _ _ _ h => h) (by rfl) ⟨rfl, rfl⟩ (fun _ h => h.2.2.range) hHeld ?_
      try simp only [Act.put, List.setIfInBounds_toArray, List.set_cons_zero, List.set_cons_succ]
      refine wpAnyH_ready (rs := [1]) (by kernel_rfl) (by simp) ?_
      refine AllReadyH.cons (o := ⟨some 30, _, _, _, _, _⟩) rfl (fun K' hK' => ?_) AllReadyH.nil
      refine stepw_call (by rfl) ?_ (hHeld.right) ?_
      focus go_simp
      rintro v wa ⟨rfl, hkn⟩
      refine hK'.out _ _ hkn (fun _ => ?_)
      clear hK' K' hHeld
      have hHeld := hkn
      clear hkn
      try simp only [Act.put, List.setIfInBounds_toArray, List.set_cons_zero, List.set_cons_succ]
      refine wpAnyH_ready (rs := [3]) (by kernel_rfl) (by simp) ?_
      refine AllReadyH.cons (o := ⟨some 32, _, _, _, _, _⟩) rfl (fun K' hK' => ?_) AllReadyH.nil
      refine stepw_call (by rfl) ?_ (hHeld.rright HS6.out) ?_
      focus go_simp
      rintro v wb ⟨rfl, hkn⟩
      refine hK'.out _ _ hkn (fun _ => ?_)
      clear hK' K' hHeld
      have hHeld := hkn
      clear hkn
      try simp only [Act.put, List.setIfInBounds_toArray, List.set_cons_zero, List.set_cons_succ]
      rw [HR.out]
      refine wpAnyH_take (i := 4) (oi := ⟨some 33, _, _, _, _, _⟩) (v := .bool false) rfl (by kernel_rfl) (by kernel_rfl) (by kernel_rfl) (fun _ _ _ h => h) (.inl ⟨by rfl, fun w' hSw => ?_⟩) hHeld ?_
      focus (skip; clear hHeld; go_simp)
      try simp only [Act.put, List.setIfInBounds_toArray, List.set_cons_zero, List.set_cons_succ]
      refine wpAnyH_done (by kernel_rfl) ?_ _
      refine NoPanic.normal ?_
      have HB5 := Lib.hid hHeld.1
      have HE5 := Lib.hid hHeld.2.1
      have HA5 := Lib.hid hHeld.2.2
      clear hHeld
      generalize wb = w5 at HB5 HE5 HA5 ⊢
      have HRR := Lib.hid (rrightT_any t HS6.out w5)
      rw [HR.out] at HRR
      go_wp2_with ((with_reducible refine loadT (x := .tmp 1) (u := t) (o := ⟨some 34, _, _, _, _, _⟩) HA5.out ?_ ?_); exact ⟨rfl, rfl, rfl⟩)
      refine HRR.out.mono ?_
      rintro e w6 ⟨rfl, b6⟩
      have HB6 := Lib.hid (HB5.out.trans (b6.mono HB5.out.size))
      have HE6 := Lib.hid (HE5.out.below b6)
      have HA6 := Lib.hid (HA5.out.later b6)
      clear b6 HB5 HE5 HA5 HRR
      go_wp2_with fail
      go_ret
      exact ⟨rfl, HB6.out⟩
    · have HR := Lib.hid hr
      have HS3 : Hid (sizesT t 1000) := (sizes_right hr).mono (by decide)
      clear hr
      go_enter Tryz.func3, Tryz.ntmps3
      go_wp2_with fail
      generalize w.alloc (.cells (tc t).toArray 25) = w0 at HB0 HE0 HA0 HAW HSH ⊢
      refine HAW.out.mono ?_
      rintro e w1 ⟨rfl, b1⟩
      have HSH1 := Lib.hid (HSH.out w1)
      have HB1 := Lib.hid (HB0.out.trans (b1.mono HB0.out.size))
      have HE1 := Lib.hid (HE0.out.below b1)
      have HA1 := Lib.hid (HA0.out.later b1)
      clear b1 HB0 HE0 HA0 HAW HSH
      go_wp2_with ((with_reducible refine loadT (x := .tmp 1) (u := t) (o := ⟨some 14, _, _, _, _, _⟩) HA1.out ?_ ?_); exact ⟨rfl, rfl, rfl⟩)
      refine HSH1.out.mono ?_
      rintro e w2 ⟨rfl, b2⟩
      have HB2 := Lib.hid (HB1.out.trans (b2.mono HB1.out.size))
      have HE2 := Lib.hid (HE1.out.below b2)
      have HA2 := Lib.hid (HA1.out.later b2)
      clear b2 HB1 HE1 HA1 HSH1
      rw [HST.out]
      have HTX := Lib.hid (text_yes t HR.out w2 HE2.out)
      go_wp2_with ((with_reducible refine loadT (x := .tmp 1) (u := t) (o := ⟨some 20, _, _, _, _, _⟩) HA2.out ?_ ?_); exact ⟨rfl, rfl, rfl⟩)
      refine HTX.out.mono ?_
      rintro e w3 ⟨rfl, b3⟩
      have HB3 := Lib.hid (HB2.out.trans (b3.mono HB2.out.size))
      have HE3 := Lib.hid (HE2.out.below b3)
      have HA3 := Lib.hid (HA2.out.later b3)
      clear b3 HB2 HE2 HA2 HTX
      obtain ⟨tx, htx⟩ : ∃ tx, tx = textT t := ⟨_, rfl⟩
      rw [← htx]
      have HTE := Lib.hid htx
      have HTZ : Hid (tx.size ≤ 1000000) := by show tx.size ≤ 1000000; rw [htx]; exact Nat.le_trans (textT_len HR.out) (by decide)
      clear htx
      have HPU := Lib.hid (put_yes t HR.out w3 HE3.out.1)
      go_wp2_with ((with_reducible refine loadT (x := .tmp 1) (u := t) (o := ⟨some 25, _, _, _, _, _⟩) HA3.out ?_ ?_); exact ⟨rfl, rfl, rfl⟩)
      refine HPU.out.mono ?_
      rintro e w4 ⟨v, rfl, hh, b4⟩
      have HRD : Hid (Rd w4.heap.size w4 v (putT t)) := hh.rd
      obtain ⟨pv, cv, rfl⟩ := rd_form hh.rd
      clear hh
      obtain ⟨pl, hpl⟩ : ∃ pl, pl = putT t := ⟨_, rfl⟩
      rw [← hpl] at HRD ⊢
      have HPE := Lib.hid hpl
      have HPZ : Hid (pl.length ≤ 1000000) := by show pl.length ≤ 1000000; rw [hpl]; exact Nat.le_trans (putT_len HR.out) (by decide)
      clear hpl
      have HB4 := Lib.hid (HB3.out.trans (b4.mono HB3.out.size))
      have HE4 := Lib.hid (HE3.out.below b4)
      have HA4 := Lib.hid (HA3.out.later b4)
      clear b4 HB3 HE3 HA3 HPU
      go_wp2_with fail
      have HM : Hid (MS2 w w.heap.size t w4 w4) := ⟨⟨HB4.out, HE4.out, HA4.out⟩, Below.refl _ _⟩
      clear HB4 HE4 HA4
      refine wp_region_noPanic ?_
      refine wp_region_held_drew (S := MS2 w w.heap.size t w4) (by kernel_rfl) (HM.out.later (Below.refl _ _).drew) (fun hHeld => ?_)
      try simp only [Act.put]
      generalize w4.drew = wd at hHeld ⊢
      clear HM
      refine takeT (i := 0) (o := ⟨some 29, _, _, _, _, _⟩) (u := t) rfl (by kernel_rfl) (by kernel_rfl) (by kernel_rfl) (fun _ _ _ h => h) (by rfl) ⟨rfl, rfl⟩ (fun _ h => h.1.2.2.range) hHeld ?_
      try simp only [Act.put, List.setIfInBounds_toArray, List.set_cons_zero, List.set_cons_succ]
      refine takeT (i := 2) (o := ⟨some 31, _, _, _, _, _⟩) (u := t) rfl (by kernel_rfl) (by kernel_rfl) (by kernel_rfl) (fun _ _ _ h => h) (by rfl) ⟨rfl, rfl⟩ (fun _ h => h.1.2.2.range) hHeld ?_
      try simp only [Act.put, List.setIfInBounds_toArray, List.set_cons_zero, List.set_cons_succ]
      refine wpAnyH_ready (rs := [1]) (by kernel_rfl) (by simp) ?_
      refine AllReadyH.cons (o := ⟨some 30, _, _, _, _, _⟩) rfl (fun K' hK' => ?_) AllReadyH.nil
      refine stepw_call (by rfl) ?_ (hHeld.right) ?_
      focus go_simp
      rintro v wa ⟨rfl, hkn⟩
      refine hK'.out _ _ hkn (fun _ => ?_)
      clear hK' K' hHeld
      have hHeld := hkn
      clear hkn
      try simp only [Act.put, List.setIfInBounds_toArray, List.set_cons_zero, List.set_cons_succ]
      refine wpAnyH_ready (rs := [3]) (by kernel_rfl) (by simp) ?_
      refine AllReadyH.cons (o := ⟨some 32, _, _, _, _, _⟩) rfl (fun K' hK' => ?_) AllReadyH.nil
      refine stepw_call (by rfl) ?_ (hHeld.rright HS6.out) ?_
      focus go_simp
      rintro v wb ⟨rfl, hkn⟩
      refine hK'.out _ _ hkn (fun _ => ?_)
      clear hK' K' hHeld
      have hHeld := hkn
      clear hkn
      try simp only [Act.put, List.setIfInBounds_toArray, List.set_cons_zero, List.set_cons_succ]
      rw [HR.out]
      refine wpAnyH_take (i := 4) (oi := ⟨some 33, _, _, _, _, _⟩) (v := .bool false) rfl (by kernel_rfl) (by kernel_rfl) (by kernel_rfl) (fun _ _ _ h => h) (.inl ⟨by rfl, fun w' hSw => ?_⟩) hHeld ?_
      focus (skip; clear hHeld; go_simp)
      try simp only [Act.put, List.setIfInBounds_toArray, List.set_cons_zero, List.set_cons_succ]
      refine wpAnyH_done (by kernel_rfl) ?_ _
      refine NoPanic.normal ?_
      have HB5 := Lib.hid hHeld.1.1
      have HE5 := Lib.hid hHeld.1.2.1
      have HA5 := Lib.hid hHeld.1.2.2
      have HRD5 := Lib.hid (rd_now (B := 0) HRD.out hHeld.2)
      clear HRD
      clear hHeld
      generalize wb = w5 at HB5 HE5 HA5 HRD5 ⊢
      have HRR := Lib.hid (rrightT_any t HS6.out w5)
      rw [HR.out] at HRR
      go_wp2_with ((with_reducible refine loadT (x := .tmp 1) (u := t) (o := ⟨some 34, _, _, _, _, _⟩) HA5.out ?_ ?_); exact ⟨rfl, rfl, rfl⟩)
      refine HRR.out.mono ?_
      rintro e w6 ⟨rfl, b6⟩
      have HB6 := Lib.hid (HB5.out.trans (b6.mono HB5.out.size))
      have HE6 := Lib.hid (HE5.out.below b6)
      have HA6 := Lib.hid (HA5.out.later b6)
      have HRD6 := Lib.hid (rd_now (B := 0) HRD5.out b6)
      clear b6 HB5 HE5 HA5 HRR HRD5
      have HPA : Hid (Calls Tryz.prog 19 #[.string tx] w6 fun e w' => e = .returned (.tuple #[tuV t, .nilIface]) ∧ Below w6.heap.size w6 w') := by
        have h := tparse_any tx w6 HE6.out HTZ.out
        rw [show parseT tx = (t, 0, 0) by rw [HTE.out, parse_text HR.out]] at h
        exact h
      go_wp2_with fail
      refine HPA.out.mono ?_
      rintro e w7 ⟨rfl, b7⟩
      have hb8 : Below w7.heap.size w7 (w7.alloc (.cells (tc t).toArray 25)) := (Below.refl _ _).alloc (Nat.le_refl _) _
      have HB8 := Lib.hid ((HB6.out.trans (b7.mono HB6.out.size)).trans (hb8.mono (HB6.out.trans (b7.mono HB6.out.size)).size))
      have HE8 := Lib.hid ((HE6.out.below b7).below hb8)
      have HA8 := Lib.hid ((HA6.out.later b7).later hb8)
      have HRD8 := Lib.hid (rd_now (B := 0) (rd_now (B := 0) HRD6.out b7) hb8)
      have HX8 := Lib.hid (tu_new w7 t)
      clear b7 hb8 HPA HB6 HE6 HA6 HRD6
      go_upto_region 10 with ((with_reducible refine atT w7.heap.size (x := .tmp 7) (y := .tmp 55) (u := t) (o := ⟨none, .store _ _ _, _, _, _, _⟩) ?_ ?_); exact ⟨rfl, rfl, rfl, rfl, rfl, rfl⟩)
      generalize w7.alloc (.cells (tc t).toArray 25) = w8 at HB8 HE8 HA8 HX8 HRD8 ⊢
      generalize w7.heap.size = g8 at HX8 ⊢
      have HPB : Hid (Calls Tryz.prog 20 #[.slice pv pl.length cv] w8 fun e w' => e = .returned (.tuple #[tuV t, .nilIface]) ∧ Below w8.heap.size w8 w') := by
        have h := tparseB_any HRD8.out (Nat.le_refl _) HPZ.out HE8.out
        rw [show parseB pl = (t, 0, 0) by rw [HPE.out, parseB_put HR.out]] at h
        exact h
      go_wp2_with fail
      refine HPB.out.mono ?_
      rintro e w9 ⟨rfl, b9⟩
      have hb10 : Below w9.heap.size w9 (w9.alloc (.cells (tc t).toArray 25)) := (Below.refl _ _).alloc (Nat.le_refl _) _
      have HB10 := Lib.hid ((HB8.out.trans (b9.mono HB8.out.size)).trans (hb10.mono (HB8.out.trans (b9.mono HB8.out.size)).size))
      have HE10 := Lib.hid ((HE8.out.below b9).below hb10)
      have HA10 := Lib.hid ((HA8.out.later b9).later hb10)
      have HRD10 := Lib.hid (rd_now (B := 0) (rd_now (B := 0) HRD8.out b9) hb10)
      have HX10 := Lib.hid ((HX8.out.later b9).later hb10)
      have HY10 := Lib.hid (tu_new w9 t)
      clear b9 hb10 HPB HB8 HE8 HA8 HRD8 HX8
      go_upto_region 11 with ((with_reducible refine atT w9.heap.size (x := .tmp 9) (y := .tmp 60) (u := t) (o := ⟨none, .store _ _ _, _, _, _, _⟩) ?_ ?_); exact ⟨rfl, rfl, rfl, rfl, rfl, rfl⟩)
      generalize w9.alloc (.cells (tc t).toArray 25) = w10 at HB10 HE10 HA10 HX10 HY10 HRD10 ⊢
      generalize w9.heap.size = g10 at HY10 ⊢
      have HRT := Lib.hid (rtextT_any t HS6.out w10)
      rw [← HTE.out] at HRT
      go_wp2_with ((with_reducible refine loadT (x := .tmp 1) (u := t) (o := ⟨some 68, _, _, _, _, _⟩) HA10.out ?_ ?_); exact ⟨rfl, rfl, rfl⟩)
      refine HRT.out.mono ?_
      rintro e w11 ⟨rfl, b11⟩
      have HB11 := Lib.hid (HB10.out.trans (b11.mono HB10.out.size))
      have HE11 := Lib.hid (HE10.out.below b11)
      have HA11 := Lib.hid (HA10.out.later b11)
      have HRD11 := Lib.hid (rd_now (B := 0) HRD10.out b11)
      have HX11 := Lib.hid (HX10.out.later b11)
      have HY11 := Lib.hid (HY10.out.later b11)
      clear b11 HB10 HE10 HA10 HRT HRD10 HX10 HY10
      have HRU := Lib.hid (rput_any t HS3.out w11)
      rw [← HPE.out] at HRU
      go_wp2_with ((with_reducible refine loadT (x := .tmp 1) (u := t) (o := ⟨some 74, _, _, _, _, _⟩) HA11.out ?_ ?_); exact ⟨rfl, rfl, rfl⟩)
      refine HRU.out.mono ?_
      rintro e w12 ⟨v12, rfl, hh12, b12⟩
      have HSM := Lib.hid (same_any (rd_now (B := 0) HRD11.out b12) hh12.rd)
      rw [eqB_refl] at HSM
      obtain ⟨p12, c12, rfl⟩ := rd_form hh12.rd
      clear hh12
      have HB12 := Lib.hid (HB11.out.trans (b12.mono HB11.out.size))
      have HE12 := Lib.hid (HE11.out.below b12)
      have HA12 := Lib.hid (HA11.out.later b12)
      have HX12 := Lib.hid (HX11.out.later b12)
      have HY12 := Lib.hid (HY11.out.later b12)
      clear b12 HB11 HE11 HA11 HRU HRD11 HX11 HY11
      go_wp2_with fail
      refine HSM.out.mono ?_
      rintro e w13 ⟨rfl, n13, rfl⟩
      have b13 := below_drewN (Below.refl w12.heap.size w12) n13
      generalize w12.drewN n13 = w13 at b13 ⊢
      have HB13 := Lib.hid (HB12.out.trans (b13.mono HB12.out.size))
      have HE13 := Lib.hid (HE12.out.below b13)
      have HA13 := Lib.hid (HA12.out.later b13)
      have HX13 := Lib.hid (HX12.out.later b13)
      have HY13 := Lib.hid (HY12.out.later b13)
      clear b13 HB12 HE12 HA12 HSM HX12 HY12
      have hee : Hid (eqT t t = true) := eqT_refl t
      go_wp2_with (first
        | ((with_reducible refine loadT (x := .tmp 7) (u := t) (o := ⟨some 83, _, _, _, _, _⟩) HX13.out ?_ ?_); exact ⟨rfl, rfl, rfl⟩)
        | ((with_reducible refine loadT (x := .tmp 1) (u := t) (o := ⟨some 84, _, _, _, _, _⟩) HA13.out ?_ ?_); exact ⟨rfl, rfl, rfl⟩)
        | ((with_reducible refine eqW hee.out (t := 25) (x := .tmp 83) (y := .tmp 84) (o := ⟨some 85, _, _, _, _, _⟩) ?_ ?_); exact ⟨rfl, rfl, rfl, rfl⟩)
        | ((with_reducible refine loadT (x := .tmp 9) (u := t) (o := ⟨some 92, _, _, _, _, _⟩) HY13.out ?_ ?_); exact ⟨rfl, rfl, rfl⟩)
        | ((with_reducible refine loadT (x := .tmp 1) (u := t) (o := ⟨some 93, _, _, _, _, _⟩) HA13.out ?_ ?_); exact ⟨rfl, rfl, rfl⟩)
        | ((with_reducible refine eqW hee.out (t := 25) (x := .tmp 92) (y := .tmp 93) (o := ⟨some 94, _, _, _, _, _⟩) ?_ ?_); exact ⟨rfl, rfl, rfl, rfl⟩))
      go_ret
      exact ⟨rfl, HB13.out⟩
end Go.Proofs.YtnnebfcggdbgpaaGreatDoor
/-
  Entries as values: cells, fields, equality; blocks that hold an entry.
-/
namespace Go.Proofs.YtnnebfcggdbgpaaGreatDoor
open Go.ChangeShapes Go.WideShapes Go.ChangeAt Go.RowKit
set_option linter.unusedVariables false

def chc (c : Ch) : List Value := .int .u64 c.r :: .bool c.d :: tc c.t
abbrev chV (c : Ch) : Value := .agg (chc c).toArray
theorem chc_length (c : Ch) : (chc c).length = 8 := rfl
theorem chc_one (c : Ch) : ∀ u ∈ chc c, u.oneCell' = true := by
  intro u hu
  simp only [chc, List.mem_cons] at hu
  rcases hu with rfl | rfl | hu
  · rfl
  · rfl
  · exact tc_one _ u hu
theorem sizeTu (w : World) : (sizeOf 25).run Tryz.prog w = .ok 6 w := by kernel_rfl
theorem partC0 (c : Ch) (w : World) : (part 59 (chc c).toArray 0).run Tryz.prog w = .ok (.int .u64 c.r) w := by
  simp [part, isAgg, run_underlying Tryz.underlying59, chc, tc]
theorem partC1 (c : Ch) (w : World) : (part 4 (chc c).toArray 1).run Tryz.prog w = .ok (.bool c.d) w := by
  simp [part, isAgg, run_underlying Tryz.underlying4, chc, tc]
theorem partC2 (c : Ch) (w : World) : (part 25 (chc c).toArray 2).run Tryz.prog w = .ok (tuV c.t) w := by
  simp [part, isAgg, run_underlying Tryz.underlying25, chc, tc]
theorem natEqC (a b : Nat) : ((a : Int) == (b : Int)) = (a == b) := by
  rw [Bool.eq_iff_iff]; simp only [beq_iff_eq]; omega
theorem equalC (d : Nat) (a b : Ch) (w : World) : (Op.equalIn (d + 4) 61 (.agg (chc a).toArray) (.agg (chc b).toArray)).run Tryz.prog w = .ok (eqC a b) w := by
  rw [run_equalIn_struct w (d + 3) _ _ _ (by kernel_rfl) (by kernel_rfl)]
  have h0 := run_equalIn_int (P := Tryz.prog) w (d + 2) 59 .u64 .u64 a.r b.r Tryz.underlying59
  have h1 := run_equalIn_bool (P := Tryz.prog) w (d + 2) 4 a.d b.d Tryz.underlying4
  have h2 := equalT d a.t b.t w
  rw [natEqC] at h0
  simp only [Program.fieldsOf, Tryz.underlying61, Op.eqFields, Sem.run_bind, partC0, partC1, partC2, Result.andThen_ok, h0, h1, h2, Sem.run_ite, Sem.run_pure, ne_eq]
  unfold eqC
  cases (a.r == b.r) <;> cases (a.d == b.d) <;> cases eqT a.t b.t <;> simp
theorem eqlCh (a b : Ch) (w : World) : (binOp .eql 61 (chV a) (chV b)).run Tryz.prog w = .ok (.bool (eqC a b)) w := by
  rw [run_eql_struct, equalC 9996]; rfl
theorem neqCh (a b : Ch) (w : World) : (binOp .neq 61 (chV a) (chV b)).run Tryz.prog w = .ok (.bool (!eqC a b)) w := by
  rw [run_neq_struct, equalC 9996]; rfl
/-- Block g holds, whole, the entry c. -/
abbrev ChAt (w : World) (g : Nat) (c : Ch) : Prop := Arr w 61 g (chc c)
theorem ChAt.cells {w : World} {g : Nat} {c : Ch} (h : ChAt w g c) : w.cell? ⟨g, 0, none⟩ = some (.int .u64 c.r) ∧ w.cell? ⟨g, 1, none⟩ = some (.bool c.d) := ⟨Arr.cell h 0, Arr.cell h 1⟩
theorem ch_new (w : World) (c : Ch) : ChAt (w.alloc (.cells (chc c).toArray 61)) w.heap.size c := Arr.new' w _ _ _ rfl
theorem ch_tail {w : World} {g off : Nat} {c : Ch} (h : w.rangeAt g off (chc c)) : w.rangeAt g (off + 2) (tc c.t) := fun j v hv => by
  rw [Nat.add_assoc]
  exact h (2 + j) v (by rw [Nat.add_comm]; exact hv)
section
variable {ops : Array Oper} {rest : List Oper} {o : Oper} {a : Act} {Q : Exit → Act → World → Prop} {w : World} {g b off : Nat} {x y : Operand}
/-- A tuple, an entry is loaded, anywhere, also under a guard that is met. -/
theorem loadTr {u : Tu} (hr : w.rangeAt b off (tc u)) (hs : Region.wanted o (yielded ops a.tmps) = true ∧ o.op = .load 25 x ∧ a.eval x = .pointer (some ⟨b, off, none⟩))
    (hk : wpList Tryz.prog ops Q rest (a.put o.dst (tuV u)) w) : wpList Tryz.prog ops Q (o :: rest) a w :=
  wpList_step fun K hK => by
    rw [if_pos hs.1]
    exact wp_load_mid _ x hs.2.1 b off hs.2.2 _ _ hr Tryz.underlying25 rfl (by kernel_rfl) (hK _ _ hk)
theorem loadCr {u : Ch} (hr : w.rangeAt b off (chc u)) (hs : Region.wanted o (yielded ops a.tmps) = true ∧ o.op = .load 61 x ∧ a.eval x = .pointer (some ⟨b, off, none⟩))
    (hk : wpList Tryz.prog ops Q rest (a.put o.dst (chV u)) w) : wpList Tryz.prog ops Q (o :: rest) a w :=
  wpList_step fun K hK => by
    rw [if_pos hs.1]
    exact wp_load_mid _ x hs.2.1 b off hs.2.2 _ _ hr Tryz.underlying61 rfl (by kernel_rfl) (hK _ _ hk)
theorem loadC {t : TypeId} {u : Ch} (hA : Arr w t g (chc u)) (hs : Region.wanted o (yielded ops a.tmps) = true ∧ o.op = .load 61 x ∧ a.eval x = .pointer (some ⟨g, 0, none⟩))
    (hk : wpList Tryz.prog ops Q rest (a.put o.dst (chV u)) w) : wpList Tryz.prog ops Q (o :: rest) a w := loadCr hA.range hs hk
/-- The tuple of an entry's block. -/
theorem loadCt {t : TypeId} {u : Ch} (hA : Arr w t g (chc u)) (hs : Region.wanted o (yielded ops a.tmps) = true ∧ o.op = .load 25 x ∧ a.eval x = .pointer (some ⟨g, 2, none⟩))
    (hk : wpList Tryz.prog ops Q rest (a.put o.dst (tuV u.t)) w) : wpList Tryz.prog ops Q (o :: rest) a w := loadTr (off := 2) (by have := ch_tail hA.range; rwa [Nat.zero_add] at this) hs hk
theorem storeC {t : TypeId} {u u' : Ch} (hA : Arr w t g (chc u')) (hs : o.guard = none ∧ o.op = .store 61 x y ∧ a.eval x = .pointer (some ⟨g, 0, none⟩) ∧ a.eval y = chV u)
    (hk : ∀ w', w' = w.setRow g (chc u).toArray → wpList Tryz.prog ops Q rest (a.put o.dst undef) w') : wpList Tryz.prog ops Q (o :: rest) a w :=
  store_arr hs.1 _ x y hs.2.1 hA hs.2.2.1 hs.2.2.2 (by kernel_rfl) rfl (chc_one u) (hk _ rfl)
theorem atC {t : TypeId} {u : Ch} {cs : Array Value} (n : Nat)
    (hs : o.guard = none ∧ o.op = .store 61 x y ∧ a.eval x = .pointer (some ⟨n, 0, none⟩) ∧ a.eval y = chV u ∧ cs.toList.length = 8 ∧ n = w.heap.size)
    (hk : wpList Tryz.prog ops Q rest (a.put o.dst undef) (w.alloc (.cells (chc u).toArray t))) : wpList Tryz.prog ops Q (o :: rest) a (w.alloc (.cells cs t)) := by
  obtain ⟨h1, h2, h3, h4, h5, rfl⟩ := hs
  exact store_arr h1 _ _ _ h2 (Arr.new w t cs) h3 h4 (by kernel_rfl) (by rw [h5]; rfl) (chc_one u) (by rw [World.setRow_alloc_new]; exact hk)
theorem resC {fn : Func} {p q : Tmp} {tmps : Array Value} {t : TypeId} {u : Ch} (h : fn.results = #[.cell p 61, .tmp q]) (hA : Arr w t g (chc u)) (hp : tmps.getD p undef = .pointer (some ⟨g, 0, none⟩)) :
    (results fn tmps).run Tryz.prog w = .ok (.tuple #[chV u, tmps.getD q undef]) w :=
  results_cell_tmp h tmps w g t (chc u).toArray (0, 0) _ hp hA Tryz.underlying61 rfl (by kernel_rfl)
theorem eqCW {u v : Ch} {r : Bool} {t : TypeId} (he : eqC u v = r) (hs : Region.wanted o (yielded ops a.tmps) = true ∧ o.op = .binOp .eql 61 x y t ∧ a.eval x = chV u ∧ a.eval y = chV v)
    (hk : wpList Tryz.prog ops Q rest (a.put o.dst (.bool r)) w) : wpList Tryz.prog ops Q (o :: rest) a w :=
  wpList_step fun K hK => by
    have hg : Tryz.prog.eqGuardType Tryz.prog.depth 61 = false := by kernel_rfl
    subst he
    rw [if_pos hs.1]
    unfold Oper.wp execOp
    simp only [hs.2.1, hs.2.2.1, hs.2.2.2, Sem.run_bind, run_eqGuard_agg (hm := hg), Result.andThen_ok, eqlCh, Sem.run_pure]
    exact hK _ _ hk
theorem neCW {u v : Ch} {r : Bool} {t : TypeId} (he : eqC u v = !r) (hs : Region.wanted o (yielded ops a.tmps) = true ∧ o.op = .binOp .neq 61 x y t ∧ a.eval x = chV u ∧ a.eval y = chV v)
    (hk : wpList Tryz.prog ops Q rest (a.put o.dst (.bool r)) w) : wpList Tryz.prog ops Q (o :: rest) a w :=
  wpList_step fun K hK => by
    have hg : Tryz.prog.eqGuardType Tryz.prog.depth 61 = false := by kernel_rfl
    rw [if_pos hs.1]
    unfold Oper.wp execOp
    simp only [hs.2.1, hs.2.2.1, hs.2.2.2, Sem.run_bind, run_eqGuard_agg (hm := hg), Result.andThen_ok, neqCh, he, Bool.not_not, Sem.run_pure]
    exact hK _ _ hk
end
end Go.Proofs.YtnnebfcggdbgpaaGreatDoor
/-
  change.within, change.revisions, change.number, change.Right; the reference's Right.
-/
namespace Go.Proofs.YtnnebfcggdbgpaaGreatDoor
open Go.ChangeShapes Go.WideShapes Go.ChangeAt Go.RowKit
open errAs (ErrT)
set_option linter.unusedVariables false

/-- The closure that tells whether a number lies between two. -/
abbrev witF (g1 g2 : Nat) : Value := .func (.func 119) #[] #[.pointer (some ⟨g1, 0, none⟩), .pointer (some ⟨g2, 0, none⟩)]
def inB (lo hi x : Nat) : Bool := decide (lo ≤ x) && decide (x ≤ hi)
def WitAt (w : World) (g1 g2 lo hi : Nat) : Prop := Arr w 59 g1 [.int .u64 lo] ∧ Arr w 59 g2 [.int .u64 hi]
theorem WitAt.later {w w' : World} {g1 g2 lo hi : Nat} (h : WitAt w g1 g2 lo hi) (hb : Below w.heap.size w w') : WitAt w' g1 g2 lo hi := ⟨h.1.later hb, h.2.later hb⟩
theorem WitAt.grown {w w' : World} {g1 g2 lo hi c : Nat} (h : WitAt w g1 g2 lo hi) (hg : w.grownBy w' (some c)) (h1 : g1 ≠ c) (h2 : g2 ≠ c) : WitAt w' g1 g2 lo hi := ⟨h.1.grown hg h1, h.2.grown hg h2⟩
set_option maxRecDepth 100000 in
theorem within1_any (lo hi x : Nat) {w : World} {g1 g2 : Nat} (h : WitAt w g1 g2 lo hi) :
    Calls Tryz.prog 119 #[.int .u64 x, .pointer (some ⟨g1, 0, none⟩), .pointer (some ⟨g2, 0, none⟩)] w fun e w' => e = .returned (.bool (inB lo hi x)) ∧ w' = w := by
  have c1 := h.1.cell 0
  have c2 := h.2.cell 0
  simp only [List.getElem?_cons_zero] at c1 c2
  clear h
  by_cases h1 : lo ≤ x
  · have i1 : (lo : Int) ≤ x := by omega
    have HB : Hid (inB lo hi x = decide (x ≤ hi)) := by
      show _ = _
      unfold inB
      rw [decide_eq_true h1, Bool.true_and]
    clear h1
    go_enter Tryz.func119, Tryz.ntmps119
    go_wp2_with fail
    go_ret
    exact ⟨by rw [HB.out]; rfl, rfl⟩
  · have i1 : ¬ (lo : Int) ≤ x := by omega
    have HB : Hid (inB lo hi x = false) := by
      show _ = _
      unfold inB
      rw [decide_eq_false h1, Bool.false_and]
    clear h1
    go_enter Tryz.func119, Tryz.ntmps119
    go_wp2_with fail
    go_ret
    exact ⟨by rw [HB.out]; rfl, rfl⟩
def WitPost (w : World) (lo hi : Nat) (e : Ending) (w' : World) : Prop := ∃ g1 g2, e = .returned (witF g1 g2) ∧ w.heap.size ≤ g1 ∧ w.heap.size ≤ g2 ∧ WitAt w' g1 g2 lo hi ∧ Below w.heap.size w w'
theorem within_any (lo hi : Nat) (w : World) : Calls Tryz.prog 88 #[.int .u64 lo, .int .u64 hi] w (WitPost w lo hi) := by
  have hb : Below w.heap.size w ((w.alloc (.cells #[.int .u64 lo] 59)).alloc (.cells #[.int .u64 hi] 59)) := ((Below.refl _ _).alloc (Nat.le_refl _) _).alloc (by simp) _
  have HB := Lib.hid hb
  have HA : Hid (WitAt ((w.alloc (.cells #[.int .u64 lo] 59)).alloc (.cells #[.int .u64 hi] 59)) w.heap.size (w.heap.size + 1) lo hi) := by
    refine ⟨(Arr.new' w 59 #[.int .u64 lo] [.int .u64 lo] rfl).alloc _, ?_⟩
    exact Arr.new2 w _ _ _ _ rfl
  clear hb
  go_enter Tryz.func88, Tryz.ntmps88
  go_wp2_with fail
  go_ret
  exact ⟨_, _, rfl, Nat.le_refl _, Nat.le_succ _, HA.out, HB.out⟩
theorem revisions_any (w : World) : Calls Tryz.prog 86 #[] w (WitPost w 1 9223372036854775807) := by
  have HW : Hid (Calls Tryz.prog 88 #[.int .u64 1, .int .u64 9223372036854775807] w (WitPost w 1 9223372036854775807)) := within_any 1 9223372036854775807 w
  go_enter Tryz.func86, Tryz.ntmps86
  go_wp2_with fail
  refine HW.out.mono ?_
  rintro e w1 ⟨g1, g2, rfl, h1, h2, h3, h4⟩
  have H3 := Lib.hid h3
  have H4 := Lib.hid h4
  clear h3 h4 HW
  go_wp2_with fail
  go_ret
  exact ⟨_, _, rfl, h1, h2, H3.out, H4.out⟩
theorem revB_in (x : Nat) : revB x = inB 1 9223372036854775807 x := rfl
theorem kdB_in (x : Nat) : kdB x = inB 1 2 x := rfl
set_option maxRecDepth 100000 in
set_option maxHeartbeats 1000000 in
theorem cright_any (c : Ch) (w : World) (hr : ResT w) : Calls Tryz.prog 40 #[chV c] w fun e w' => e = .returned (.bool (rightC c)) ∧ Below w.heap.size w w' := by
  have b0 : Below w.heap.size w (w.alloc (.cells (chc c).toArray 61)) := (Below.refl _ _).alloc (Nat.le_refl _) _
  have HB0 := Lib.hid b0
  have HX0 := Lib.hid (ch_new w c)
  have HR := Lib.hid hr
  have HV := Lib.hid (revisions_any (w.alloc (.cells (chc c).toArray 61)))
  clear b0 hr
  go_enter Tryz.func40, Tryz.ntmps40
  go_wp2_with fail
  refine HV.out.mono ?_
  rintro e w1 ⟨g1, g2, rfl, h1, h2, h3, b1⟩
  have HB1 := Lib.hid (HB0.out.trans (b1.mono HB0.out.size))
  have HX1 := Lib.hid (HX0.out.later b1)
  have HW1 := Lib.hid (within1_any 1 9223372036854775807 c.r h3)
  obtain ⟨c0, c1⟩ := ChAt.cells HX1.out
  clear h1 h2 h3 b1 HB0 HX0 HV
  go_wp2_with fail
  refine HW1.out.mono ?_
  rintro e w2 ⟨rfl, hw⟩
  subst hw
  rw [← revB_in]
  clear HW1 c0 c1
  rcases hv : revB c.r with _ | _
  · have HF : Hid (rightC c = false) := by show _ = _; unfold rightC; rw [hv]; rfl
    clear hv
    go_wp2_with fail
    go_ret
    exact ⟨by rw [HF.out]; rfl, HB1.out⟩
  · have HF : Hid (rightC c = rightT c.t) := by show _ = _; unfold rightC; rw [hv]; rfl
    have HT := Lib.hid (right_any' c.t w2 (HR.out.below HB1.out HR.out.lt))
    clear hv
    go_wp2_with ((with_reducible refine loadCt (x := .tmp 10) (u := c) (o := ⟨some 11, _, _, _, _, _⟩) HX1.out ?_ ?_); exact ⟨rfl, rfl, rfl⟩)
    refine HT.out.mono ?_
    rintro e w3 ⟨rfl, b3⟩
    have HB3 := Lib.hid (HB1.out.trans (b3.mono HB1.out.size))
    clear b3 HT HB1 HX1
    go_wp2_with fail
    go_ret
    exact ⟨by rw [HF.out]; rfl, HB3.out⟩
end Go.Proofs.YtnnebfcggdbgpaaGreatDoor
/-
  strconv.FormatUint at base 10; change.decimal.
-/
namespace Go.Proofs.YtnnebfcggdbgpaaGreatDoor
open Go.ChangeShapes Go.WideShapes Go.ChangeAt Go.RowKit
open errAs (ErrT)
set_option linter.unusedVariables false

/-- What the walks of texts want of the package-level variables. -/
def TabP (w : World) : Prop := Lib.TabIs Tryz.prog w "internal/strconv.uint64pow10" .u64 Lib.pow10Tab
def VarE (w : World) (n : String) : Prop := ∃ tp p, w.var? Tryz.prog n = some #[.iface tp p]
theorem var_below {w w' : World} {n : String} {cs : Array Value} (h : w.var? Tryz.prog n = some cs) (hb : Below w.heap.size w w') : w'.var? Tryz.prog n = some cs := by
  unfold World.var? at h ⊢
  obtain ⟨g, hg, h1⟩ := Option.bind_eq_some_iff.1 h
  rw [hg, Option.bind_some]
  have hlt : g < w.heap.size := by
    by_cases e : g < w.heap.size
    · exact e
    · rw [Array.getElem?_eq_none (by omega)] at h1; cases h1
  rw [hb.block g hlt]
  exact h1
theorem TabP.below {w w' : World} (h : TabP w) (hb : Below w.heap.size w w') : TabP w' := var_below h hb
theorem VarE.below {w w' : World} {n : String} (h : VarE w n) (hb : Below w.heap.size w w') : VarE w' n := by
  obtain ⟨tp, p, h⟩ := h
  exact ⟨tp, p, var_below h hb⟩
def EnvU (w : World) : Prop := Env w ∧ TabP w ∧ VarE w "strconv.ErrSyntax" ∧ VarE w "strconv.ErrRange"
theorem EnvU.below {w w' : World} (h : EnvU w) (hb : Below w.heap.size w w') : EnvU w' := ⟨h.1.below hb, h.2.1.below hb, h.2.2.1.below hb, h.2.2.2.below hb⟩
def decB (n : Nat) : ByteArray := ⟨(Lib.decDigits n).toArray⟩
theorem decB_data (n : Nat) : (decB n).data.toList = Lib.decDigits n := rfl
open Go.Sort Go.Lib in
theorem putRow_below (w : World) (o : Obj) (dk : Array UInt8) (k : Nat) : Below w.heap.size w ((putRow (fun (b : UInt8) => Value.int .u8 (b.toNat : Int)) (w.alloc o) w.heap.size 0 dk).drewN k) := by
  have h : ∃ os, (putRow (fun (b : UInt8) => Value.int .u8 (b.toNat : Int)) (w.alloc o) w.heap.size 0 dk).drewN k = grow (w.drewN k) os := by
    rw [alloc_eq_grow]
    obtain ⟨os', _, e⟩ := putRow_grow_new (fun (b : UInt8) => Value.int .u8 (b.toNat : Int)) w #[o] w.heap.size 0 dk (Nat.le_refl _)
    exact ⟨os', by rw [e]; rfl⟩
  obtain ⟨os, eo⟩ := h
  rw [eo]
  exact grow_below k os
open Go.Sort Go.Lib in
set_option maxRecDepth 100000 in
set_option maxHeartbeats 2000000 in
theorem fuint_in (u : Nat) (hu64 : u < 18446744073709551616) (w : World) (htab : TabP w) :
    Calls Tryz.prog 117 #[.int .u64 u, .int .i64 10] w fun e w' => e = .returned (.string (decB u)) ∧ Below w.heap.size w w' := by
  by_cases hs : u < 100
  · have i1 : (u : Int) < 100 := by omega
    have e1 : IntKind.i64.wrap (u : Int) = u := by rw [IntKind.wrap_i64]; omega
    have HS := Lib.hid (Tryz.internal_strconv_small u hs w)
    clear hs
    go_enter Tryz.func117, Tryz.ntmps117
    go_wp2_with fail
    refine HS.out.mono ?_
    rintro e w' ⟨rfl, hw⟩
    subst hw
    clear HS
    go_wp2_with fail
    go_ret
    exact ⟨rfl, Below.refl _ _⟩
  · have i1 : ¬ (u : Int) < 100 := by omega
    have hu1 : 1 ≤ u := by omega
    have hnd20 : Lib.nDigits u ≤ 20 := by have := Lib.numDigits_eq u hu1 hu64; split at this <;> omega
    have hb3 : Lib.nDigits u ≤ 24 := by omega
    have hal : Tryz.prog.arrayLen 172 = 24 := by kernel_rfl
    have hsl1 : ∀ W, (Instr.sliceAt 172 (.pointer (some ⟨w.heap.size, 0, none⟩)) none (some (.int .i64 (Lib.nDigits u : Int))) none).run Tryz.prog W = .ok (.slice (some ⟨w.heap.size, 0, none⟩) (Lib.nDigits u) 24) W := fun W => by
      rw [run_sliceAt_array_h W 172 ⟨w.heap.size, 0, none⟩ Tryz.underlying172 .i64 (Lib.nDigits u : Int) (by omega) (by rw [hal]; omega), hal]
      go_simp
    have hH0 := Lib.holds_zero0 w 172 (Lib.nDigits u) hb3
    have hfmt := Tryz.internal_strconv_formatBase10 w.heap.size 0 24 u (Array.replicate (Lib.nDigits u) 0) (w.alloc (.cells Lib.zeros24 172)) hH0 (by rw [Array.size_replicate]; exact Lib.lt_pow_nDigits u) hu64 (by rw [Array.size_replicate]; omega)
    rw [Array.size_replicate] at hfmt
    have HFM := Lib.hid hfmt
    have HH0 := Lib.hid hH0
    have HND := Lib.hid (Tryz.internal_strconv_numDigits u hu1 hu64 (w.alloc (.cells Lib.zeros24 172)) (Lib.tabIs_alloc htab _))
    clear hH0 hal hfmt
    go_enter Tryz.func117, Tryz.ntmps117
    go_wp2_with fail
    refine HND.out.mono ?_
    rintro e w1 ⟨rfl, hw⟩
    subst hw
    clear HND
    go_wp2_with fail
    refine HFM.out.mono ?_
    rintro e w2 ⟨rfl, k, v', dk, rfl, hF⟩
    have hsz : dk.size = Lib.nDigits u := hF.size
    have hcv : (convert 30 9 (.slice (some ⟨w.heap.size, 0, none⟩) (Lib.nDigits u) 24)).run Tryz.prog ((putRow (fun (b : UInt8) => Value.int .u8 (b.toNat : Int)) (w.alloc (.cells Lib.zeros24 172)) w.heap.size 0 dk).drewN k) = .ok (.string (decB u)) ((putRow (fun (b : UInt8) => Value.int .u8 (b.toNat : Int)) (w.alloc (.cells Lib.zeros24 172)) w.heap.size 0 dk).drewN k) := by
      have h := run_convert_bytes_back (P := Tryz.prog) ((putRow (fun (b : UInt8) => Value.int .u8 (b.toNat : Int)) (w.alloc (.cells Lib.zeros24 172)) w.heap.size 0 dk).drewN k) 30 9 5 ⟨w.heap.size, 0, none⟩ 24 (Lib.decDigits u) Tryz.underlying30 Tryz.underlying5 Tryz.underlying9 (fun j hj => by
        rw [Lib.row_is_numeral hF j hj, Lib.add_plain, World.cell?_drewN]
        exact cell?_putRow (fun (b : UInt8) => Value.int .u8 (b.toNat : Int)) _ w.heap.size 0 _ dk HH0.out (by rw [hsz, Array.size_replicate]) j (by rw [hsz]; rw [Lib.decDigits_length] at hj; exact hj))
      rw [Lib.decDigits_length] at h
      exact h
    have hB : Below w.heap.size w ((putRow (fun (b : UInt8) => Value.int .u8 (b.toNat : Int)) (w.alloc (.cells Lib.zeros24 172)) w.heap.size 0 dk).drewN k) := putRow_below w _ dk k
    have HB := Lib.hid hB
    clear hB HFM HH0 hF hsz
    generalize (putRow (fun (b : UInt8) => Value.int .u8 (b.toNat : Int)) (w.alloc (.cells Lib.zeros24 172)) w.heap.size 0 dk).drewN k = w3 at hcv HB ⊢
    go_wp2_with fail
    go_ret
    exact ⟨rfl, HB.out⟩
theorem fuint_any (u : Nat) (hu64 : u < 18446744073709551616) (w : World) (htab : TabP w) :
    Calls Tryz.prog 85 #[.int .u64 u, .int .i64 10] w fun e w' => e = .returned (.string (decB u)) ∧ Below w.heap.size w w' := by
  have H := Lib.hid (fuint_in u hu64 w htab)
  clear htab hu64
  go_enter Tryz.func85, Tryz.ntmps85
  go_wp2_with fail
  refine H.out.mono ?_
  rintro e w1 ⟨rfl, b1⟩
  have HB := Lib.hid b1
  clear b1 H
  go_wp2_with fail
  go_ret
  exact ⟨rfl, HB.out⟩
end Go.Proofs.YtnnebfcggdbgpaaGreatDoor
/-
  change.decimal.
-/
namespace Go.Proofs.YtnnebfcggdbgpaaGreatDoor
open Go.ChangeShapes Go.WideShapes Go.ChangeAt Go.RowKit
open errAs (ErrT)
set_option linter.unusedVariables false

theorem nePtr (T : TypeId) (p : Option Addr) (w : World) : (binOp BinOp.neq 34 (.iface T (.pointer p)) .nilIface).run Tryz.prog w = .ok (.bool true) w := by kernel_rfl
theorem decB_iff (x : Nat) (s : ByteArray) : decB x = s ↔ Lib.decDigits x = s.data.toList := by
  constructor
  · rintro rfl; rfl
  · intro h; exact bytes_inj h
/-- What ParseUint hands back where no number is spelt. -/
theorem parse_no {s : ByteArray} (hs : s.size ≤ 1000000) {w : World} (hE : EnvU w) (h : ∀ x, Lib.parseUintB 64 s.data.toList ≠ .ok x) :
    Calls Tryz.prog 120 #[.string s, .int .i64 10, .int .i64 64] w fun e w' => ∃ x T p, e = .returned (.tuple #[.int .u64 x, .iface T (.pointer p)]) ∧ Below w.heap.size w w' := by
  obtain ⟨_, _, ⟨t1, p1, v1⟩, ⟨t2, p2, v2⟩⟩ := hE
  cases hp : Lib.parseUintB 64 s.data.toList
  case ok x => exact absurd hp (h x)
  case range =>
    refine (Tryz.strconv_ParseUint_10_at64_range_var s (by omega) hp t2 p2 w v2).mono ?_
    rintro e w' ⟨N, rfl, _, _, hb⟩
    exact ⟨_, _, _, rfl, hb⟩
  all_goals
    refine (Tryz.strconv_ParseUint_10_at64_bad_var s (by omega) (hp.trans (by rfl)) t1 p1 w v1).mono ?_
    rintro e w' ⟨N, rfl, _, _, hb⟩
    exact ⟨_, _, _, rfl, hb⟩
theorem parse_ok {s : ByteArray} (hs : s.size ≤ 1000000) {w : World} {x : Nat} (h : Lib.parseUintB 64 s.data.toList = .ok x) :
    Calls Tryz.prog 120 #[.string s, .int .i64 10, .int .i64 64] w fun e w' => e = .returned (.tuple #[.int .u64 x, .nilIface]) ∧ Below w.heap.size w w' := by
  refine (Tryz.strconv_ParseUint_10_at64_ok s (by omega) x h w).mono ?_
  rintro e w' ⟨rfl, hw⟩
  refine ⟨rfl, ?_⟩
  rcases hw with rfl | rfl
  · exact Below.refl _ _
  · exact Lib.bytesWorld_below w _ s
def DecPost (w : World) (l : List UInt8) (e : Ending) (w' : World) : Prop := e = .returned (.tuple #[.int .u64 (numS l : Nat), .bool (decide (numS l ≠ 0))]) ∧ Below w.heap.size w w'
set_option maxRecDepth 100000 in
set_option maxHeartbeats 2000000 in
theorem cdec_any (s : ByteArray) (hs : s.size ≤ 1000000) {w : World} {g1 g2 : Nat} (hW : WitAt w g1 g2 1 9223372036854775807) (hE : EnvU w) :
    Calls Tryz.prog 89 #[.string s, witF g1 g2] w (DecPost w s.data.toList) := by
  by_cases hp : ∃ x, Lib.parseUintB 64 s.data.toList = .ok x
  · obtain ⟨x, hp⟩ := hp
    have hx64 : x < 18446744073709551616 := by
      have hpl := hp
      unfold Lib.parseUintB at hpl
      split at hpl
      · cases hpl
      · have := Lib.parseUintM_le _ _ _ _ (Nat.zero_le _) hpl
        omega
    have hd := decP_num s.data.toList
    unfold decP at hd
    rw [hp] at hd
    simp only [] at hd
    obtain ⟨n, hn⟩ : ∃ n, n = numS s.data.toList := ⟨_, rfl⟩
    unfold DecPost
    rw [← hn] at hd ⊢
    have HD := Lib.hid hd
    have HP := Lib.hid (parse_ok hs (w := w) hp)
    have HE := Lib.hid hE
    have HW := Lib.hid hW
    have HX := Lib.hid hx64
    clear hp hx64 hd hn hE hW
    go_enter Tryz.func89, Tryz.ntmps89
    go_wp2_with fail
    refine HP.out.mono ?_
    rintro e w1 ⟨rfl, b1⟩
    have HB1 := Lib.hid b1
    have HW1 := Lib.hid (HW.out.later b1)
    have HF := Lib.hid (fuint_any x HX.out w1 ((HE.out.below b1).2.1))
    clear b1 HP HE HW
    go_wp2_with fail
    refine HF.out.mono ?_
    rintro e w2 ⟨rfl, b2⟩
    have HB2 := Lib.hid (HB1.out.trans (b2.mono HB1.out.size))
    have HW2 := Lib.hid (HW1.out.later b2)
    clear b2 HF HW1 HB1
    by_cases he : decB x = s
    · have hq : ((decB x).toList == s.toList) = true := by rw [strEq]; exact decide_eq_true he
      have HWI := Lib.hid (within1_any 1 9223372036854775807 x HW2.out)
      have HDD := Lib.hid ((decB_iff x s).1 he)
      clear he
      go_wp2_with fail
      refine HWI.out.mono ?_
      rintro e w3 ⟨rfl, hw3⟩
      subst hw3
      clear HWI HW2
      rcases hi : inB 1 9223372036854775807 x with _ | _
      · have HZ : Hid (n = 0) := by
          show n = 0
          have h := HD.out
          have hnot : ¬ (Lib.decDigits x = s.data.toList ∧ 1 ≤ x ∧ x ≤ 9223372036854775807) := fun h => by
            unfold inB at hi
            rw [decide_eq_true h.2.1, decide_eq_true h.2.2] at hi; cases hi
          rw [if_neg hnot] at h
          split at h
          · assumption
          · cases h
        clear hi HD HDD
        go_wp2_with fail
        go_ret2
        exact ⟨by rw [HZ.out]; rfl, HB2.out⟩
      · have HZ : Hid (n = x ∧ n ≠ 0) := by
          show n = x ∧ n ≠ 0
          have h := HD.out
          unfold inB at hi
          simp only [Bool.and_eq_true, decide_eq_true_eq] at hi
          rw [if_pos ⟨HDD.out, hi⟩] at h
          split at h
          · cases h
          · rename_i hne
            exact ⟨(Option.some.inj h).symm, hne⟩
        clear hi HD HDD
        go_wp2_with fail
        go_ret2
        refine ⟨?_, HB2.out⟩
        rw [decide_eq_true HZ.out.2, HZ.out.1]; rfl
    · have hq : ((decB x).toList == s.toList) = false := by rw [strEq]; exact decide_eq_false he
      have HZ : Hid (n = 0) := by
        show n = 0
        have h := HD.out
        have hnot : ¬ (Lib.decDigits x = s.data.toList ∧ 1 ≤ x ∧ x ≤ 9223372036854775807) := fun h => he ((decB_iff x s).2 h.1)
        rw [if_neg hnot] at h
        split at h
        · assumption
        · cases h
      clear he HD HW2
      go_wp2_with fail
      go_ret2
      exact ⟨by rw [HZ.out]; rfl, HB2.out⟩
  · have hz : numS s.data.toList = 0 := by
      by_cases h : numS s.data.toList = 0
      · exact h
      · exact absurd ⟨_, (numS_back h).1⟩ hp
    unfold DecPost
    rw [hz]
    have HP := Lib.hid (parse_no hs hE (fun x h => hp ⟨x, h⟩))
    clear hp hz hE hW
    go_enter Tryz.func89, Tryz.ntmps89
    go_wp2_with fail
    refine HP.out.mono ?_
    rintro e w1 ⟨x, T, p, rfl, b1⟩
    have HB1 := Lib.hid b1
    have hq := nePtr T p
    clear b1 HP
    go_wp2_with fail
    go_ret2
    exact ⟨rfl, HB1.out⟩
end Go.Proofs.YtnnebfcggdbgpaaGreatDoor
/-
  Entries of changelogs and their texts; no program is spoken of.
-/
namespace Go.Proofs.YtnnebfcggdbgpaaGreatDoor
open Go.ChangeShapes Go.WideShapes Go.ChangeAt Go.RowKit
set_option linter.unusedVariables false

def smP : ByteArray := ⟨#[32, 45, 32]⟩
def spP : ByteArray := ⟨#[32, 43, 32]⟩
def signB (d : Bool) : ByteArray := if d then smP else spP
def textC (c : Ch) : ByteArray := (decB c.r ++ signB c.d) ++ textT c.t
theorem app_data (a b : ByteArray) : (a ++ b).data.toList = a.data.toList ++ b.data.toList := by simp
theorem textC_data (c : Ch) : (textC c).data.toList = Lib.decDigits c.r ++ ((signB c.d).data.toList ++ (textT c.t).data.toList) := by
  unfold textC
  rw [app_data, app_data, decB_data, List.append_assoc]
def sgnL (L : List UInt8) : Nat := if Lib.hasPrefix L smP.data.toList = true then 2 else if Lib.hasPrefix L spP.data.toList = true then 1 else 0
theorem pre_iff (L p : List UInt8) : Lib.hasPrefix L p = true ↔ p <+: L := by
  unfold Lib.hasPrefix
  exact List.isPrefixOf_iff_prefix
theorem sgnL_two {L : List UInt8} : sgnL L = 2 ↔ Lib.hasPrefix L smP.data.toList = true := by
  unfold sgnL
  split
  · simp_all
  · split <;> simp_all
theorem sgnL_one {L : List UInt8} (h : sgnL L = 1) : Lib.hasPrefix L spP.data.toList = true ∧ Lib.hasPrefix L smP.data.toList = false := by
  unfold sgnL at h
  split at h
  · cases h
  · split at h
    · rename_i h1 h2; exact ⟨h2, by simpa using h1⟩
    · cases h
theorem sgnL_zero {L : List UInt8} (h : sgnL L = 0) : Lib.hasPrefix L spP.data.toList = false ∧ Lib.hasPrefix L smP.data.toList = false := by
  unfold sgnL at h
  split at h
  · cases h
  · split at h
    · cases h
    · rename_i h1 h2; exact ⟨by simpa using h2, by simpa using h1⟩
theorem sgnL_cases (L : List UInt8) : sgnL L = 0 ∨ sgnL L = 1 ∨ sgnL L = 2 := by
  unfold sgnL
  split
  · exact .inr (.inr rfl)
  · split
    · exact .inr (.inl rfl)
    · exact .inl rfl
theorem sgnL_sign (d : Bool) (r : List UInt8) : sgnL ((signB d).data.toList ++ r) = if d then 2 else 1 := by
  cases d with
  | true => exact sgnL_two.2 ((pre_iff _ _).2 (List.prefix_append _ _))
  | false =>
    have h1 : Lib.hasPrefix ((signB false).data.toList ++ r) smP.data.toList = false := by
      rw [Bool.eq_false_iff]
      intro h
      obtain ⟨t, ht⟩ := (pre_iff _ _).1 h
      simp [signB, smP, spP] at ht
    have h2 : Lib.hasPrefix ((signB false).data.toList ++ r) spP.data.toList = true := (pre_iff _ _).2 (List.prefix_append _ _)
    unfold sgnL
    rw [if_neg (by rw [h1]; simp), if_pos h2]; rfl
theorem sgnL_back {L : List UInt8} (h : sgnL L ≠ 0) : (signB (sgnL L == 2)).data.toList ++ L.drop 3 = L := by
  rcases sgnL_cases L with e | e | e
  · exact absurd e h
  · obtain ⟨t, ht⟩ := (pre_iff _ _).1 (sgnL_one e).1
    rw [e, ← ht]; rfl
  · obtain ⟨t, ht⟩ := (pre_iff _ _).1 (sgnL_two.1 e)
    rw [e, ← ht]; rfl
def finT (x n sg : Nat) (T : Tu × Nat × Nat) : Ch × Nat × Nat := if T.2.1 ≠ 0 then (c0, T.2.1, T.2.2 + (n + 3)) else (⟨x, sg == 2, T.1⟩, 0, 0)
theorem finT_bad {x n sg : Nat} {T : Tu × Nat × Nat} (h : T.2.1 ≠ 0) : finT x n sg T = (c0, T.2.1, T.2.2 + (n + 3)) := by unfold finT; rw [if_pos h]
theorem finT_yes {x n sg : Nat} {T : Tu × Nat × Nat} (h : T.2.1 = 0) : finT x n sg T = (⟨x, sg == 2, T.1⟩, 0, 0) := by unfold finT; rw [if_neg (by omega)]
/-- The entry that a text is, the code of the error, its offset; n: where the first space is, or the end. -/
def parseN (s : ByteArray) (n x sg : Nat) : Ch × Nat × Nat := if x = 0 then (c0, 6, 0) else if sg = 0 then (c0, 6, n) else finT x n sg (parseT (s.extract (n + 3) s.size))
theorem parseN_0 {s : ByteArray} {n x sg : Nat} (h : x = 0) : parseN s n x sg = (c0, 6, 0) := by unfold parseN; rw [if_pos h]
theorem parseN_1 {s : ByteArray} {n x sg : Nat} (h : x ≠ 0) (h2 : sg = 0) : parseN s n x sg = (c0, 6, n) := by unfold parseN; rw [if_neg h, if_pos h2]
theorem parseN_2 {s : ByteArray} {n x sg : Nat} (h : x ≠ 0) (h2 : sg ≠ 0) : parseN s n x sg = finT x n sg (parseT (s.extract (n + 3) s.size)) := by unfold parseN; rw [if_neg h, if_neg h2]
def spaceN (s : ByteArray) : Nat := fnd s.data.toList 32
theorem spaceN_le (s : ByteArray) : spaceN s ≤ s.size := by
  have h := List.findIdx_le_length (p := fun x => x == (32 : UInt8)) (xs := s.data.toList)
  rw [size_len] at h
  exact h
def parseCT (s : ByteArray) : Ch × Nat × Nat := parseN s (spaceN s) (numS (s.data.toList.take (spaceN s))) (sgnL (s.data.toList.drop (spaceN s)))
theorem parseCT_back {s : ByteArray} (h : (parseCT s).2.1 = 0) : rightC (parseCT s).1 = true ∧ textC (parseCT s).1 = s ∧ (parseCT s).2.2 = 0 := by
  unfold parseCT at h ⊢
  have hn := spaceN_le s
  generalize spaceN s = n at h hn ⊢
  by_cases h1 : numS (s.data.toList.take n) = 0
  · rw [parseN_0 h1] at h; cases h
  · by_cases h2 : sgnL (s.data.toList.drop n) = 0
    · rw [parseN_1 h1 h2] at h; cases h
    · rw [parseN_2 h1 h2] at h ⊢
      by_cases h3 : (parseT (s.extract (n + 3) s.size)).2.1 = 0
      · rw [finT_yes h3]
        obtain ⟨r1, r2, _⟩ := parseT_back h3
        obtain ⟨a1, a2, a3, a4⟩ := numS_back h1
        have b1 := sgnL_back h2
        generalize numS (s.data.toList.take n) = x at a1 a2 a3 a4 ⊢
        generalize sgnL (s.data.toList.drop n) = sg at b1 ⊢
        generalize (parseT (s.extract (n + 3) s.size)).1 = t at r1 r2 ⊢
        refine ⟨rightC_mk ?_ r1, bytes_inj ?_, rfl⟩
        · unfold revB
          rw [decide_eq_true a3, decide_eq_true a4]; rfl
        · rw [textC_data]
          show Lib.decDigits x ++ ((signB (sg == 2)).data.toList ++ (textT t).data.toList) = _
          rw [a2, r2]
          have e : (s.extract (n + 3) s.size).data.toList = (s.data.toList.drop n).drop 3 := by
            rw [ext_mid, bstr_data, ← size_len s, List.take_length, List.drop_drop]
          rw [e, b1, List.take_append_drop]
      · rw [finT_bad h3] at h; dsimp only at h; exact absurd h h3
theorem parseCT_fail {s : ByteArray} (h : (parseCT s).2.1 ≠ 0) : (parseCT s).1 = c0 := by
  unfold parseCT at h ⊢
  generalize spaceN s = n at h ⊢
  by_cases h1 : numS (s.data.toList.take n) = 0
  · rw [parseN_0 h1]
  · by_cases h2 : sgnL (s.data.toList.drop n) = 0
    · rw [parseN_1 h1 h2]
    · rw [parseN_2 h1 h2] at h ⊢
      generalize parseT (s.extract (n + 3) s.size) = T at h ⊢
      by_cases h3 : T.2.1 = 0
      · rw [finT_yes h3] at h; exact absurd rfl h
      · rw [finT_bad h3]
theorem parseCT_text {c : Ch} (h : rightC c = true) : parseCT (textC c) = (c, 0, 0) := by
  obtain ⟨h1, h2, h3⟩ := rightC_all h
  have hd := textC_data c
  have hsp : spaceN (textC c) = (Lib.decDigits c.r).length := by
    have hs : ∃ r, (signB c.d).data.toList ++ (textT c.t).data.toList = 32 :: r := by cases c.d <;> exact ⟨_, rfl⟩
    obtain ⟨r, hr⟩ := hs
    unfold spaceN fnd
    rw [hd, hr]
    rw [List.findIdx_eq (by simp)]
    refine ⟨by simp, fun j hj => ?_⟩
    rw [List.getElem_append_left hj]
    have := dec_digits c.r _ (List.getElem_mem hj)
    simp only [beq_eq_false_iff_ne]
    intro e
    rw [e] at this
    exact absurd this.1 (by decide)
  have ht : (textC c).data.toList.take (Lib.decDigits c.r).length = Lib.decDigits c.r := by rw [hd, List.take_left' rfl]
  have hr : (textC c).data.toList.drop (Lib.decDigits c.r).length = (signB c.d).data.toList ++ (textT c.t).data.toList := by rw [hd, List.drop_left' rfl]
  have he : (textC c).extract ((Lib.decDigits c.r).length + 3) (textC c).size = textT c.t := by
    apply bytes_inj
    rw [ext_mid, bstr_data, ← size_len (textC c), List.take_length, ← List.drop_drop, hr]
    cases c.d <;> rfl
  unfold parseCT
  rw [hsp, ht, hr, numS_dec h1 h2, sgnL_sign, parseN_2 (by omega) (by cases c.d <;> simp), he, parse_text h3, finT_yes rfl]
  cases c with
  | mk r d t => cases d <;> rfl
theorem decB_len {n : Nat} (h : n ≤ 9223372036854775807) : (decB n).size ≤ 19 := by
  show (Lib.decDigits n).toArray.size ≤ 19
  rw [List.size_toArray, Lib.decDigits_length]
  exact nDigits_le 18 n (by omega)
theorem textC_len {c : Ch} (h : rightC c = true) : (textC c).size ≤ 560 := by
  obtain ⟨h1, h2, h3⟩ := rightC_all h
  have a := decB_len h2
  have b := textT_len h3
  have e : (signB c.d).size = 3 := by cases c.d <;> rfl
  unfold textC
  rw [ByteArray.size_append, ByteArray.size_append]
  omega
end Go.Proofs.YtnnebfcggdbgpaaGreatDoor
/-
  The reference's Right and Put.
-/
namespace Go.Proofs.YtnnebfcggdbgpaaGreatDoor
open Go.ChangeShapes Go.WideShapes Go.ChangeAt Go.RowKit
open errAs (ErrT)
set_option linter.unusedVariables false

set_option maxRecDepth 100000 in
set_option maxHeartbeats 1000000 in
theorem rrightC_any (c : Ch) (hz : sizesT c.t 1000000) (w : World) : Calls Tryz.prog 41 #[chV c] w fun e w' => e = .returned (.bool (rightC c)) ∧ Below w.heap.size w w' := by
  have b0 : Below w.heap.size w (w.alloc (.cells (chc c).toArray 61)) := (Below.refl _ _).alloc (Nat.le_refl _) _
  have HB0 := Lib.hid b0
  have HX0 := Lib.hid (ch_new w c)
  have HZ := Lib.hid hz
  obtain ⟨q0, q1⟩ := ChAt.cells HX0.out
  have HRC : Hid (rightC c = (decide (1 ≤ c.r) && (decide (c.r < 9223372036854775808) && rightT c.t))) := by
    show _ = _
    unfold rightC revB
    rw [show decide (c.r ≤ 9223372036854775807) = decide (c.r < 9223372036854775808) from decide_eq_decide.2 (by omega), Bool.and_assoc]
  clear b0 hz
  obtain ⟨r, hr⟩ : ∃ r, r = c.r := ⟨_, rfl⟩
  rw [← hr] at q0 HRC
  clear hr
  by_cases h1 : 1 ≤ r
  · have i1 : (1 : Int) ≤ r := by omega
    by_cases h2 : r < 9223372036854775808
    · have i2 : (r : Int) < 9223372036854775808 := by omega
      have HF : Hid (rightC c = rightT c.t) := by show _ = _; rw [HRC.out, decide_eq_true h1, decide_eq_true h2]; rfl
      have HRT := Lib.hid (rrightT_any c.t HZ.out (w.alloc (.cells (chc c).toArray 61)))
      clear h1 h2 HRC
      go_enter Tryz.func41, Tryz.ntmps41
      go_wp2_with ((with_reducible refine loadCt (x := .tmp 12) (u := c) (o := ⟨some 13, _, _, _, _, _⟩) HX0.out ?_ ?_); exact ⟨rfl, rfl, rfl⟩)
      refine HRT.out.mono ?_
      rintro e w1 ⟨rfl, b1⟩
      have HB1 := Lib.hid (HB0.out.trans (b1.mono HB0.out.size))
      clear b1 HRT
      go_wp2_with fail
      go_ret
      exact ⟨by rw [HF.out]; rfl, HB1.out⟩
    · have i2 : ¬ (r : Int) < 9223372036854775808 := by omega
      have HF : Hid (rightC c = false) := by show _ = _; rw [HRC.out, decide_eq_false h2, Bool.false_and, Bool.and_false]
      clear h1 h2 HRC
      go_enter Tryz.func41, Tryz.ntmps41
      go_wp2_with fail
      go_ret
      exact ⟨by rw [HF.out]; rfl, HB0.out⟩
  · have i1 : ¬ (1 : Int) ≤ r := by omega
    have HF : Hid (rightC c = false) := by show _ = _; rw [HRC.out, decide_eq_false h1, Bool.false_and]
    clear h1 HRC
    go_enter Tryz.func41, Tryz.ntmps41
    go_wp2_with fail
    go_ret
    exact ⟨by rw [HF.out]; rfl, HB0.out⟩
section
variable {P : Program} {ops : Array Oper} {o : Oper} {a : Act} {w : World} {K : Act → World → Prop} {Q : Exit → Act → World → Prop} {E : Prop}
/-- append to a slice of the call's own, in a region that draws. -/
theorem stepw_app (hw : Region.wanted o (yielded ops a.tmps) = true) (s x : Operand)
    (ho : o.op = .call { callee := .builtin .append, args := #[s, x], argTypes := #[30, 30] })
    {base C : Nat} {v vx : Value} {l m : List UInt8} (hs : a.eval s = v) (hh : Held base w v l) (hx : a.eval x = vx) (hr : Rd C w vx m) (hlen : l.length + m.length ≤ 140737488355328) (hbase : base ≤ w.heap.size)
    (hK : ∀ v' w', Held base w' v' (l ++ m) → Below base w w' → K (a.put o.dst v') w') : if Region.wanted o (yielded ops a.tmps) = true then Oper.wp Tryz.prog o a w K Q else E := by
  rw [if_pos hw]
  obtain ⟨v', w', hrun, r1, r2⟩ := run_held hh hr hlen hbase o.type
  unfold Oper.wp
  simp [execOp, ho, resolve, invoke, builtin, hs, hx, hrun, Result.andThen]
  exact hK v' w' r1 r2
end
def RS (w : World) (c : Ch) (W : World) : Prop := Below w.heap.size w W ∧ ChAt W w.heap.size c ∧ w.heap.size + 1 ≤ W.heap.size
theorem RS.later {w W W' : World} {c : Ch} (h : RS w c W) (b : Below W.heap.size W W') : RS w c W' := ⟨h.1.trans (b.mono h.1.size), h.2.1.later b, Nat.le_trans h.2.2 b.size⟩
theorem RS.under {w W W' : World} {c : Ch} (h : RS w c W) (b : Below (w.heap.size + 1) W W') : RS w c W' := ⟨h.1.trans (b.mono (Nat.le_succ _)), h.2.1.below b (Nat.lt_succ_self _), Nat.le_trans h.2.2 b.size⟩
theorem ch_tail' {w : World} {g : Nat} {c : Ch} (h : ChAt w g c) : w.rangeAt g 2 (tc c.t) := by have := ch_tail h.range; rwa [Nat.zero_add] at this
theorem put_kind (d : Bool) : put (kindC d) = [if d then 2 else 1] := by
  cases d <;> decide +kernel
theorem rd_kind (w : World) (d : Bool) : Rd (w.alloc (.cells #[.int .u8 (if d then 2 else 1)] 5)).heap.size (w.alloc (.cells #[.int .u8 (if d then 2 else 1)] 5)) (.slice (some ⟨w.heap.size, 0, none⟩) 1 1) (put (kindC d)) := by
  rw [put_kind]
  refine .inr ⟨w.heap.size, 0, 1, rfl, Nat.le_refl _, by decide, by simp, fun i hi => ?_⟩
  obtain rfl : i = 0 := by simpa using hi
  have h := (Arr.new' w 5 #[.int .u8 (if d then 2 else 1)] [.int .u8 (if d then 2 else 1)] rfl).cell 0
  cases d <;> exact h
theorem putC_small (c : Ch) (hr : c.r < lim64) (hz : sizesT c.t 1000) : (putC c).length ≤ 1000000 := by
  obtain ⟨z1, z2, z3, z4, z5, z6⟩ := hz
  have h1 := put_len10 hr
  have h2 := put_len_small (n := kindC c.d) (by have := kd_lim (kdB_kind c.d); omega)
  have a1 := putS_small _ z1
  have a2 := putS_small _ z2
  have a3 := putS_small _ z3
  have a4 := putS_small _ z4
  have a5 := putS_small _ z5
  have a6 := putS_small _ z6
  unfold putC putT
  simp only [List.length_append]
  omega
set_option maxRecDepth 100000 in
set_option maxHeartbeats 4000000 in
theorem rputC_any (c : Ch) (hr : c.r < lim64) (hz : sizesT c.t 1000) (w : World) : Calls Tryz.prog 44 #[chV c] w fun e w' => ∃ v, e = .returned v ∧ Held w.heap.size w' v (putC c) ∧ Below w.heap.size w w' := by
  have b0 : Below w.heap.size w (w.alloc (.cells (chc c).toArray 61)) := (Below.refl _ _).alloc (Nat.le_refl _) _
  have HB0 := Lib.hid b0
  have HX0 := Lib.hid (ch_new w c)
  have HR : Hid (c.r < lim64) := hr
  have HZ := Lib.hid hz
  have HL : Hid ((put c.r ++ put (kindC c.d) ++ putT c.t).length ≤ 1000000) := by
    show _ ≤ _
    have h1 := putC_small c hr hz
    unfold putC at h1
    rw [List.append_assoc]; exact h1
  clear hr hz
  rcases hd : c.d with _ | _
  · rw [hd] at HL
    have HD : Hid (c.d = false) := hd
    have q1 : (w.alloc (.cells (chc c).toArray 61)).cell? ⟨w.heap.size, 1, none⟩ = some (.bool false) := by have := (ChAt.cells HX0.out).2; rwa [hd] at this
    have HS0 : Hid (RS w c (w.alloc (.cells (chc c).toArray 61))) := ⟨HB0.out, HX0.out, by simp⟩
    clear hd b0
    go_enter Tryz.func44, Tryz.ntmps44
    go_upto_region 4 with fail
    generalize w.alloc (.cells (chc c).toArray 61) = w1 at HS0 ⊢
    clear q1 HB0 HX0
    refine wp_region_noPanic ?_
    refine wp_region_held_drew (S := RS w c) (by kernel_rfl) (HS0.out.later (Below.refl _ _).drew) (fun hHeld => ?_)
    try simp only [Act.put]
    generalize w1.drew = wd at hHeld ⊢
    clear HS0
    refine wpAnyH_take (i := 0) (oi := ⟨some 6, _, _, _, _, _⟩) (v := .pointer (some ⟨w.heap.size, 0, none⟩)) rfl (by kernel_rfl) (by kernel_rfl) (by kernel_rfl) (fun _ _ _ h => h) (.inl ⟨by rfl, fun w' hSw => ?_⟩) hHeld ?_
    focus (skip; clear hHeld; go_simp)
    try simp only [Act.put, List.setIfInBounds_toArray, List.set_cons_zero, List.set_cons_succ]
    refine wpAnyH_take (i := 1) (oi := ⟨some 7, _, _, _, _, _⟩) (v := .int .u64 c.r) rfl (by kernel_rfl) (by kernel_rfl) (by kernel_rfl) (fun _ _ _ h => h) (.inl ⟨by rfl, fun w' hSw => ?_⟩) hHeld ?_
    focus (have q0 := (ChAt.cells hSw.2.1).1; clear hHeld; go_simp)
    try simp only [Act.put, List.setIfInBounds_toArray, List.set_cons_zero, List.set_cons_succ]
    refine wpAnyH_take (i := 3) (oi := ⟨some 9, _, _, _, _, _⟩) (v := .int .u8 1) rfl (by kernel_rfl) (by kernel_rfl) (by kernel_rfl) (fun _ _ _ h => h) (.inl ⟨by rfl, fun w' hSw => ?_⟩) hHeld ?_
    focus (skip; clear hHeld; go_simp)
    try simp only [Act.put, List.setIfInBounds_toArray, List.set_cons_zero, List.set_cons_succ]
    refine wpAnyH_take (i := 6) (oi := ⟨some 12, _, _, _, _, _⟩) (v := .pointer (some ⟨w.heap.size, 2, none⟩)) rfl (by kernel_rfl) (by kernel_rfl) (by kernel_rfl) (fun _ _ _ h => h) (.inl ⟨by rfl, fun w' hSw => ?_⟩) hHeld ?_
    focus (skip; clear hHeld; go_simp)
    try simp only [Act.put, List.setIfInBounds_toArray, List.set_cons_zero, List.set_cons_succ]
    refine takeT (i := 7) (o := ⟨some 13, _, _, _, _, _⟩) (u := c.t) rfl (by kernel_rfl) (by kernel_rfl) (by kernel_rfl) (fun _ _ _ h => h) (by rfl) ⟨rfl, rfl⟩ (fun _ h => ch_tail' h.2.1) hHeld ?_
    try simp only [Act.put, List.setIfInBounds_toArray, List.set_cons_zero, List.set_cons_succ]
    refine wpAnyH_ready (rs := [2, 4]) (by kernel_rfl) (by simp) ?_
    refine AllReadyH.cons (o := ⟨some 8, _, _, _, _, _⟩) rfl (fun K' hK' => ?_) (AllReadyH.cons (o := ⟨some 10, _, _, _, _, _⟩) rfl (fun K' hK' => ?_) AllReadyH.nil)
    · refine stepw_call (R := fun v W' => Held (w.heap.size + 1) W' v (put c.r) ∧ Below wd.heap.size wd W') (by rfl) ?_ ((rput c.r HR.out _).mono fun e W' ⟨v, he, ho, hb⟩ => ⟨v, he, (Held.of_own ho).mono hHeld.2.2, hb⟩) ?_
      focus go_simp
      rintro v8 wa ⟨o8, b8⟩
      have hkn := hHeld.later b8
      refine hK'.out _ _ hkn (fun _ => ?_)
      clear hK' K' hHeld
      have hHeld := hkn
      clear hkn
      try simp only [Act.put, List.setIfInBounds_toArray, List.set_cons_zero, List.set_cons_succ]
      refine wpAnyH_ready (rs := [4]) (by kernel_rfl) (by simp) ?_
      refine AllReadyH.cons (o := ⟨some 10, _, _, _, _, _⟩) rfl (fun K' hK' => ?_) AllReadyH.nil
      go_simp
      have b10 : Below wa.heap.size wa (wa.alloc (.cells #[.int .u8 1] 5)) := (Below.refl _ _).alloc (Nat.le_refl _) _
      have hkn := hHeld.later b10
      have r10 : Rd (wa.alloc (.cells #[.int .u8 1] 5)).heap.size (wa.alloc (.cells #[.int .u8 1] 5)) (.slice (some ⟨wa.heap.size, 0, none⟩) 1 1) (put (kindC false)) := rd_kind wa false
      have o8' := o8.later b10
      generalize wa.alloc (.cells #[.int .u8 1] 5) = wb at hkn r10 o8' ⊢
      obtain ⟨g10, hg10⟩ : ∃ x, x = wa.heap.size := ⟨_, rfl⟩
      rw [← hg10] at r10 ⊢
      clear hg10 b10
      refine hK'.out _ _ hkn (fun _ => ?_)
      clear hK' K' hHeld
      have hHeld := hkn
      clear hkn
      try simp only [Act.put, List.setIfInBounds_toArray, List.set_cons_zero, List.set_cons_succ]
      clear o8
      have o8 := o8'
      clear o8'
      refine wpAnyH_ready (rs := [5]) (by kernel_rfl) (by simp) ?_
      refine AllReadyH.cons (o := ⟨some 11, _, _, _, _, _⟩) rfl (fun K' hK' => ?_) AllReadyH.nil
      refine stepw_app (by rfl) (.tmp 8) (.tmp 10) rfl rfl o8 rfl r10 (by have := HL.out; simp only [List.length_append] at this ⊢; omega) hHeld.2.2 ?_
      intro v11 wc o11 b11
      have hkn : RS w c wc := hHeld.under b11
      refine hK'.out _ _ hkn (fun _ => ?_)
      clear hK' K' hHeld
      have hHeld := hkn
      clear hkn
      try simp only [Act.put, List.setIfInBounds_toArray, List.set_cons_zero, List.set_cons_succ]
      clear r10 b11
      refine wpAnyH_ready (rs := [8]) (by kernel_rfl) (by simp) ?_
      refine AllReadyH.cons (o := ⟨some 14, _, _, _, _, _⟩) rfl (fun K' hK' => ?_) AllReadyH.nil
      refine stepw_call (R := fun v W' => Held wc.heap.size W' v (putT c.t) ∧ Below wc.heap.size wc W') (by rfl) ?_ ((rput_any c.t HZ.out wc).mono fun e W' ⟨v, he, ho, hb⟩ => ⟨v, he, ho, hb⟩) ?_
      focus go_simp
      rintro v14 wd2 ⟨o14, b14⟩
      have hkn := hHeld.later b14
      have o11' := o11.later b14
      refine hK'.out _ _ hkn (fun _ => ?_)
      clear hK' K' hHeld
      have hHeld := hkn
      clear hkn
      try simp only [Act.put, List.setIfInBounds_toArray, List.set_cons_zero, List.set_cons_succ]
      clear o11 b14
      refine wpAnyH_ready (rs := [9]) (by kernel_rfl) (by simp) ?_
      refine AllReadyH.cons (o := ⟨some 15, _, _, _, _, _⟩) rfl (fun K' hK' => ?_) AllReadyH.nil
      refine stepw_app (by rfl) (.tmp 11) (.tmp 14) rfl rfl o11' rfl o14.rd (by have := HL.out; simp only [List.length_append] at this ⊢; omega) hHeld.2.2 ?_
      intro v15 we o15 b15
      have hkn : RS w c we := hHeld.under b15
      refine hK'.out _ _ hkn (fun _ => ?_)
      clear hK' K' hHeld
      have hHeld := hkn
      clear hkn
      try simp only [Act.put, List.setIfInBounds_toArray, List.set_cons_zero, List.set_cons_succ]
      clear o11' o14 b15
      refine wpAnyH_take (i := 10) (oi := ⟨some 2, _, _, _, _, _⟩) (v := v15) rfl (by kernel_rfl) (by kernel_rfl) (by kernel_rfl) (fun _ _ _ h => h) (.inl ⟨by rfl, fun w' hSw => ?_⟩) hHeld ?_
      focus (skip; clear hHeld; go_simp)
      try simp only [Act.put, List.setIfInBounds_toArray, List.set_cons_zero, List.set_cons_succ]
      refine wpAnyH_done (by kernel_rfl) ?_ _
      refine NoPanic.normal ?_
      have HBZ := Lib.hid hHeld.1
      have HOZ := Lib.hid o15
      clear hHeld o15
      go_wp2_with fail
      go_ret
      refine ⟨_, rfl, ?_, HBZ.out⟩
      have h := HOZ.out.mono (Nat.le_succ _)
      rw [List.append_assoc, ← HD.out] at h
      exact h
    · go_simp
      have b10 : Below wd.heap.size wd (wd.alloc (.cells #[.int .u8 1] 5)) := (Below.refl _ _).alloc (Nat.le_refl _) _
      have hkn := hHeld.later b10
      have r10 : Rd (wd.alloc (.cells #[.int .u8 1] 5)).heap.size (wd.alloc (.cells #[.int .u8 1] 5)) (.slice (some ⟨wd.heap.size, 0, none⟩) 1 1) (put (kindC false)) := rd_kind wd false
      generalize wd.alloc (.cells #[.int .u8 1] 5) = wa at hkn r10 ⊢
      obtain ⟨g10, hg10⟩ : ∃ x, x = wd.heap.size := ⟨_, rfl⟩
      rw [← hg10] at r10 ⊢
      clear hg10 b10
      refine hK'.out _ _ hkn (fun _ => ?_)
      clear hK' K' hHeld
      have hHeld := hkn
      clear hkn
      try simp only [Act.put, List.setIfInBounds_toArray, List.set_cons_zero, List.set_cons_succ]
      refine wpAnyH_ready (rs := [2]) (by kernel_rfl) (by simp) ?_
      refine AllReadyH.cons (o := ⟨some 8, _, _, _, _, _⟩) rfl (fun K' hK' => ?_) AllReadyH.nil
      refine stepw_call (R := fun v W' => Held (w.heap.size + 1) W' v (put c.r) ∧ Below wa.heap.size wa W') (by rfl) ?_ ((rput c.r HR.out _).mono fun e W' ⟨v, he, ho, hb⟩ => ⟨v, he, (Held.of_own ho).mono hHeld.2.2, hb⟩) ?_
      focus go_simp
      rintro v8 wb ⟨o8, b8⟩
      have hkn := hHeld.later b8
      have r10' : Rd wb.heap.size wb (.slice (some ⟨g10, 0, none⟩) 1 1) (put (kindC false)) := rd_now (B := 0) r10 b8
      refine hK'.out _ _ hkn (fun _ => ?_)
      clear hK' K' hHeld
      have hHeld := hkn
      clear hkn
      try simp only [Act.put, List.setIfInBounds_toArray, List.set_cons_zero, List.set_cons_succ]
      clear r10
      have r10 := r10'
      clear r10'
      refine wpAnyH_ready (rs := [5]) (by kernel_rfl) (by simp) ?_
      refine AllReadyH.cons (o := ⟨some 11, _, _, _, _, _⟩) rfl (fun K' hK' => ?_) AllReadyH.nil
      refine stepw_app (by rfl) (.tmp 8) (.tmp 10) rfl rfl o8 rfl r10 (by have := HL.out; simp only [List.length_append] at this ⊢; omega) hHeld.2.2 ?_
      intro v11 wc o11 b11
      have hkn : RS w c wc := hHeld.under b11
      refine hK'.out _ _ hkn (fun _ => ?_)
      clear hK' K' hHeld
      have hHeld := hkn
      clear hkn
      try simp only [Act.put, List.setIfInBounds_toArray, List.set_cons_zero, List.set_cons_succ]
      clear r10 b11
      refine wpAnyH_ready (rs := [8]) (by kernel_rfl) (by simp) ?_
      refine AllReadyH.cons (o := ⟨some 14, _, _, _, _, _⟩) rfl (fun K' hK' => ?_) AllReadyH.nil
      refine stepw_call (R := fun v W' => Held wc.heap.size W' v (putT c.t) ∧ Below wc.heap.size wc W') (by rfl) ?_ ((rput_any c.t HZ.out wc).mono fun e W' ⟨v, he, ho, hb⟩ => ⟨v, he, ho, hb⟩) ?_
      focus go_simp
      rintro v14 wd2 ⟨o14, b14⟩
      have hkn := hHeld.later b14
      have o11' := o11.later b14
      refine hK'.out _ _ hkn (fun _ => ?_)
      clear hK' K' hHeld
      have hHeld := hkn
      clear hkn
      try simp only [Act.put, List.setIfInBounds_toArray, List.set_cons_zero, List.set_cons_succ]
      clear o11 b14
      refine wpAnyH_ready (rs := [9]) (by kernel_rfl) (by simp) ?_
      refine AllReadyH.cons (o := ⟨some 15, _, _, _, _, _⟩) rfl (fun K' hK' => ?_) AllReadyH.nil
      refine stepw_app (by rfl) (.tmp 11) (.tmp 14) rfl rfl o11' rfl o14.rd (by have := HL.out; simp only [List.length_append] at this ⊢; omega) hHeld.2.2 ?_
      intro v15 we o15 b15
      have hkn : RS w c we := hHeld.under b15
      refine hK'.out _ _ hkn (fun _ => ?_)
      clear hK' K' hHeld
      have hHeld := hkn
      clear hkn
      try simp only [Act.put, List.setIfInBounds_toArray, List.set_cons_zero, List.set_cons_succ]
      clear o11' o14 b15
      refine wpAnyH_take (i := 10) (oi := ⟨some 2, _, _, _, _, _⟩) (v := v15) rfl (by kernel_rfl) (by kernel_rfl) (by kernel_rfl) (fun _ _ _ h => h) (.inl ⟨by rfl, fun w' hSw => ?_⟩) hHeld ?_
      focus (skip; clear hHeld; go_simp)
      try simp only [Act.put, List.setIfInBounds_toArray, List.set_cons_zero, List.set_cons_succ]
      refine wpAnyH_done (by kernel_rfl) ?_ _
      refine NoPanic.normal ?_
      have HBZ := Lib.hid hHeld.1
      have HOZ := Lib.hid o15
      clear hHeld o15
      go_wp2_with fail
      go_ret
      refine ⟨_, rfl, ?_, HBZ.out⟩
      have h := HOZ.out.mono (Nat.le_succ _)
      rw [List.append_assoc, ← HD.out] at h
      exact h
  · rw [hd] at HL
    have HD : Hid (c.d = true) := hd
    have q1 : (w.alloc (.cells (chc c).toArray 61)).cell? ⟨w.heap.size, 1, none⟩ = some (.bool true) := by have := (ChAt.cells HX0.out).2; rwa [hd] at this
    have HS0 : Hid (RS w c (w.alloc (.cells (chc c).toArray 61))) := ⟨HB0.out, HX0.out, by simp⟩
    clear hd b0
    go_enter Tryz.func44, Tryz.ntmps44
    go_upto_region 4 with fail
    generalize w.alloc (.cells (chc c).toArray 61) = w1 at HS0 ⊢
    clear q1 HB0 HX0
    refine wp_region_noPanic ?_
    refine wp_region_held_drew (S := RS w c) (by kernel_rfl) (HS0.out.later (Below.refl _ _).drew) (fun hHeld => ?_)
    try simp only [Act.put]
    generalize w1.drew = wd at hHeld ⊢
    clear HS0
    refine wpAnyH_take (i := 0) (oi := ⟨some 6, _, _, _, _, _⟩) (v := .pointer (some ⟨w.heap.size, 0, none⟩)) rfl (by kernel_rfl) (by kernel_rfl) (by kernel_rfl) (fun _ _ _ h => h) (.inl ⟨by rfl, fun w' hSw => ?_⟩) hHeld ?_
    focus (skip; clear hHeld; go_simp)
    try simp only [Act.put, List.setIfInBounds_toArray, List.set_cons_zero, List.set_cons_succ]
    refine wpAnyH_take (i := 1) (oi := ⟨some 7, _, _, _, _, _⟩) (v := .int .u64 c.r) rfl (by kernel_rfl) (by kernel_rfl) (by kernel_rfl) (fun _ _ _ h => h) (.inl ⟨by rfl, fun w' hSw => ?_⟩) hHeld ?_
    focus (have q0 := (ChAt.cells hSw.2.1).1; clear hHeld; go_simp)
    try simp only [Act.put, List.setIfInBounds_toArray, List.set_cons_zero, List.set_cons_succ]
    refine wpAnyH_take (i := 3) (oi := ⟨some 9, _, _, _, _, _⟩) (v := .int .u8 2) rfl (by kernel_rfl) (by kernel_rfl) (by kernel_rfl) (fun _ _ _ h => h) (.inl ⟨by rfl, fun w' hSw => ?_⟩) hHeld ?_
    focus (skip; clear hHeld; go_simp)
    try simp only [Act.put, List.setIfInBounds_toArray, List.set_cons_zero, List.set_cons_succ]
    refine wpAnyH_take (i := 6) (oi := ⟨some 12, _, _, _, _, _⟩) (v := .pointer (some ⟨w.heap.size, 2, none⟩)) rfl (by kernel_rfl) (by kernel_rfl) (by kernel_rfl) (fun _ _ _ h => h) (.inl ⟨by rfl, fun w' hSw => ?_⟩) hHeld ?_
    focus (skip; clear hHeld; go_simp)
    try simp only [Act.put, List.setIfInBounds_toArray, List.set_cons_zero, List.set_cons_succ]
    refine takeT (i := 7) (o := ⟨some 13, _, _, _, _, _⟩) (u := c.t) rfl (by kernel_rfl) (by kernel_rfl) (by kernel_rfl) (fun _ _ _ h => h) (by rfl) ⟨rfl, rfl⟩ (fun _ h => ch_tail' h.2.1) hHeld ?_
    try simp only [Act.put, List.setIfInBounds_toArray, List.set_cons_zero, List.set_cons_succ]
    refine wpAnyH_ready (rs := [2, 4]) (by kernel_rfl) (by simp) ?_
    refine AllReadyH.cons (o := ⟨some 8, _, _, _, _, _⟩) rfl (fun K' hK' => ?_) (AllReadyH.cons (o := ⟨some 10, _, _, _, _, _⟩) rfl (fun K' hK' => ?_) AllReadyH.nil)
    · refine stepw_call (R := fun v W' => Held (w.heap.size + 1) W' v (put c.r) ∧ Below wd.heap.size wd W') (by rfl) ?_ ((rput c.r HR.out _).mono fun e W' ⟨v, he, ho, hb⟩ => ⟨v, he, (Held.of_own ho).mono hHeld.2.2, hb⟩) ?_
      focus go_simp
      rintro v8 wa ⟨o8, b8⟩
      have hkn := hHeld.later b8
      refine hK'.out _ _ hkn (fun _ => ?_)
      clear hK' K' hHeld
      have hHeld := hkn
      clear hkn
      try simp only [Act.put, List.setIfInBounds_toArray, List.set_cons_zero, List.set_cons_succ]
      refine wpAnyH_ready (rs := [4]) (by kernel_rfl) (by simp) ?_
      refine AllReadyH.cons (o := ⟨some 10, _, _, _, _, _⟩) rfl (fun K' hK' => ?_) AllReadyH.nil
      go_simp
      have b10 : Below wa.heap.size wa (wa.alloc (.cells #[.int .u8 2] 5)) := (Below.refl _ _).alloc (Nat.le_refl _) _
      have hkn := hHeld.later b10
      have r10 : Rd (wa.alloc (.cells #[.int .u8 2] 5)).heap.size (wa.alloc (.cells #[.int .u8 2] 5)) (.slice (some ⟨wa.heap.size, 0, none⟩) 1 1) (put (kindC true)) := rd_kind wa true
      have o8' := o8.later b10
      generalize wa.alloc (.cells #[.int .u8 2] 5) = wb at hkn r10 o8' ⊢
      obtain ⟨g10, hg10⟩ : ∃ x, x = wa.heap.size := ⟨_, rfl⟩
      rw [← hg10] at r10 ⊢
      clear hg10 b10
      refine hK'.out _ _ hkn (fun _ => ?_)
      clear hK' K' hHeld
      have hHeld := hkn
      clear hkn
      try simp only [Act.put, List.setIfInBounds_toArray, List.set_cons_zero, List.set_cons_succ]
      clear o8
      have o8 := o8'
      clear o8'
      refine wpAnyH_ready (rs := [5]) (by kernel_rfl) (by simp) ?_
      refine AllReadyH.cons (o := ⟨some 11, _, _, _, _, _⟩) rfl (fun K' hK' => ?_) AllReadyH.nil
      refine stepw_app (by rfl) (.tmp 8) (.tmp 10) rfl rfl o8 rfl r10 (by have := HL.out; simp only [List.length_append] at this ⊢; omega) hHeld.2.2 ?_
      intro v11 wc o11 b11
      have hkn : RS w c wc := hHeld.under b11
      refine hK'.out _ _ hkn (fun _ => ?_)
      clear hK' K' hHeld
      have hHeld := hkn
      clear hkn
      try simp only [Act.put, List.setIfInBounds_toArray, List.set_cons_zero, List.set_cons_succ]
      clear r10 b11
      refine wpAnyH_ready (rs := [8]) (by kernel_rfl) (by simp) ?_
      refine AllReadyH.cons (o := ⟨some 14, _, _, _, _, _⟩) rfl (fun K' hK' => ?_) AllReadyH.nil
      refine stepw_call (R := fun v W' => Held wc.heap.size W' v (putT c.t) ∧ Below wc.heap.size wc W') (by rfl) ?_ ((rput_any c.t HZ.out wc).mono fun e W' ⟨v, he, ho, hb⟩ => ⟨v, he, ho, hb⟩) ?_
      focus go_simp
      rintro v14 wd2 ⟨o14, b14⟩
      have hkn := hHeld.later b14
      have o11' := o11.later b14
      refine hK'.out _ _ hkn (fun _ => ?_)
      clear hK' K' hHeld
      have hHeld := hkn
      clear hkn
      try simp only [Act.put, List.setIfInBounds_toArray, List.set_cons_zero, List.set_cons_succ]
      clear o11 b14
      refine wpAnyH_ready (rs := [9]) (by kernel_rfl) (by simp) ?_
      refine AllReadyH.cons (o := ⟨some 15, _, _, _, _, _⟩) rfl (fun K' hK' => ?_) AllReadyH.nil
      refine stepw_app (by rfl) (.tmp 11) (.tmp 14) rfl rfl o11' rfl o14.rd (by have := HL.out; simp only [List.length_append] at this ⊢; omega) hHeld.2.2 ?_
      intro v15 we o15 b15
      have hkn : RS w c we := hHeld.under b15
      refine hK'.out _ _ hkn (fun _ => ?_)
      clear hK' K' hHeld
      have hHeld := hkn
      clear hkn
      try simp only [Act.put, List.setIfInBounds_toArray, List.set_cons_zero, List.set_cons_succ]
      clear o11' o14 b15
      refine wpAnyH_take (i := 10) (oi := ⟨some 2, _, _, _, _, _⟩) (v := v15) rfl (by kernel_rfl) (by kernel_rfl) (by kernel_rfl) (fun _ _ _ h => h) (.inl ⟨by rfl, fun w' hSw => ?_⟩) hHeld ?_
      focus (skip; clear hHeld; go_simp)
      try simp only [Act.put, List.setIfInBounds_toArray, List.set_cons_zero, List.set_cons_succ]
      refine wpAnyH_done (by kernel_rfl) ?_ _
      refine NoPanic.normal ?_
      have HBZ := Lib.hid hHeld.1
      have HOZ := Lib.hid o15
      clear hHeld o15
      go_wp2_with fail
      go_ret
      refine ⟨_, rfl, ?_, HBZ.out⟩
      have h := HOZ.out.mono (Nat.le_succ _)
      rw [List.append_assoc, ← HD.out] at h
      exact h
    · go_simp
      have b10 : Below wd.heap.size wd (wd.alloc (.cells #[.int .u8 2] 5)) := (Below.refl _ _).alloc (Nat.le_refl _) _
      have hkn := hHeld.later b10
      have r10 : Rd (wd.alloc (.cells #[.int .u8 2] 5)).heap.size (wd.alloc (.cells #[.int .u8 2] 5)) (.slice (some ⟨wd.heap.size, 0, none⟩) 1 1) (put (kindC true)) := rd_kind wd true
      generalize wd.alloc (.cells #[.int .u8 2] 5) = wa at hkn r10 ⊢
      obtain ⟨g10, hg10⟩ : ∃ x, x = wd.heap.size := ⟨_, rfl⟩
      rw [← hg10] at r10 ⊢
      clear hg10 b10
      refine hK'.out _ _ hkn (fun _ => ?_)
      clear hK' K' hHeld
      have hHeld := hkn
      clear hkn
      try simp only [Act.put, List.setIfInBounds_toArray, List.set_cons_zero, List.set_cons_succ]
      refine wpAnyH_ready (rs := [2]) (by kernel_rfl) (by simp) ?_
      refine AllReadyH.cons (o := ⟨some 8, _, _, _, _, _⟩) rfl (fun K' hK' => ?_) AllReadyH.nil
      refine stepw_call (R := fun v W' => Held (w.heap.size + 1) W' v (put c.r) ∧ Below wa.heap.size wa W') (by rfl) ?_ ((rput c.r HR.out _).mono fun e W' ⟨v, he, ho, hb⟩ => ⟨v, he, (Held.of_own ho).mono hHeld.2.2, hb⟩) ?_
      focus go_simp
      rintro v8 wb ⟨o8, b8⟩
      have hkn := hHeld.later b8
      have r10' : Rd wb.heap.size wb (.slice (some ⟨g10, 0, none⟩) 1 1) (put (kindC true)) := rd_now (B := 0) r10 b8
      refine hK'.out _ _ hkn (fun _ => ?_)
      clear hK' K' hHeld
      have hHeld := hkn
      clear hkn
      try simp only [Act.put, List.setIfInBounds_toArray, List.set_cons_zero, List.set_cons_succ]
      clear r10
      have r10 := r10'
      clear r10'
      refine wpAnyH_ready (rs := [5]) (by kernel_rfl) (by simp) ?_
      refine AllReadyH.cons (o := ⟨some 11, _, _, _, _, _⟩) rfl (fun K' hK' => ?_) AllReadyH.nil
      refine stepw_app (by rfl) (.tmp 8) (.tmp 10) rfl rfl o8 rfl r10 (by have := HL.out; simp only [List.length_append] at this ⊢; omega) hHeld.2.2 ?_
      intro v11 wc o11 b11
      have hkn : RS w c wc := hHeld.under b11
      refine hK'.out _ _ hkn (fun _ => ?_)
      clear hK' K' hHeld
      have hHeld := hkn
      clear hkn
      try simp only [Act.put, List.setIfInBounds_toArray, List.set_cons_zero, List.set_cons_succ]
      clear r10 b11
      refine wpAnyH_ready (rs := [8]) (by kernel_rfl) (by simp) ?_
      refine AllReadyH.cons (o := ⟨some 14, _, _, _, _, _⟩) rfl (fun K' hK' => ?_) AllReadyH.nil
      refine stepw_call (R := fun v W' => Held wc.heap.size W' v (putT c.t) ∧ Below wc.heap.size wc W') (by rfl) ?_ ((rput_any c.t HZ.out wc).mono fun e W' ⟨v, he, ho, hb⟩ => ⟨v, he, ho, hb⟩) ?_
      focus go_simp
      rintro v14 wd2 ⟨o14, b14⟩
      have hkn := hHeld.later b14
      have o11' := o11.later b14
      refine hK'.out _ _ hkn (fun _ => ?_)
      clear hK' K' hHeld
      have hHeld := hkn
      clear hkn
      try simp only [Act.put, List.setIfInBounds_toArray, List.set_cons_zero, List.set_cons_succ]
      clear o11 b14
      refine wpAnyH_ready (rs := [9]) (by kernel_rfl) (by simp) ?_
      refine AllReadyH.cons (o := ⟨some 15, _, _, _, _, _⟩) rfl (fun K' hK' => ?_) AllReadyH.nil
      refine stepw_app (by rfl) (.tmp 11) (.tmp 14) rfl rfl o11' rfl o14.rd (by have := HL.out; simp only [List.length_append] at this ⊢; omega) hHeld.2.2 ?_
      intro v15 we o15 b15
      have hkn : RS w c we := hHeld.under b15
      refine hK'.out _ _ hkn (fun _ => ?_)
      clear hK' K' hHeld
      have hHeld := hkn
      clear hkn
      try simp only [Act.put, List.setIfInBounds_toArray, List.set_cons_zero, List.set_cons_succ]
      clear o11' o14 b15
      refine wpAnyH_take (i := 10) (oi := ⟨some 2, _, _, _, _, _⟩) (v := v15) rfl (by kernel_rfl) (by kernel_rfl) (by kernel_rfl) (fun _ _ _ h => h) (.inl ⟨by rfl, fun w' hSw => ?_⟩) hHeld ?_
      focus (skip; clear hHeld; go_simp)
      try simp only [Act.put, List.setIfInBounds_toArray, List.set_cons_zero, List.set_cons_succ]
      refine wpAnyH_done (by kernel_rfl) ?_ _
      refine NoPanic.normal ?_
      have HBZ := Lib.hid hHeld.1
      have HOZ := Lib.hid o15
      clear hHeld o15
      go_wp2_with fail
      go_ret
      refine ⟨_, rfl, ?_, HBZ.out⟩
      have h := HOZ.out.mono (Nat.le_succ _)
      rw [List.append_assoc, ← HD.out] at h
      exact h
end Go.Proofs.YtnnebfcggdbgpaaGreatDoor
/-
  vestryref02.Decimal is the decimal numeral.
-/
namespace Go.Proofs.YtnnebfcggdbgpaaGreatDoor
open Go.ChangeShapes Go.WideShapes Go.ChangeAt Go.RowKit
set_option linter.unusedVariables false

def dec (n : Int) : ByteArray := ⟨(Lib.itoa n).toArray⟩
def digitsS : ByteArray := ⟨#[48, 49, 50, 51, 52, 53, 54, 55, 56, 57]⟩
theorem dec_low {n : Int} (h : n < -9) : dec n = dec (n.tdiv 10) ++ dec (-(n.tmod 10)) := by
  obtain ⟨m, rfl⟩ : ∃ m : Nat, n = -(m : Int) := ⟨n.natAbs, by omega⟩
  have hm : ¬ m < 10 := by omega
  have e1 : (-(m : Int)).tdiv 10 = -((m / 10 : Nat) : Int) := by rw [Int.neg_tdiv]; rfl
  have e2 : -((-(m : Int)).tmod 10) = ((m % 10 : Nat) : Int) := by rw [Int.neg_tmod]; simp; rfl
  rw [e1, e2]
  unfold dec Lib.itoa
  rw [if_pos (by omega), if_pos (by omega), if_neg (by omega)]
  have a1 : (-(m : Int)).natAbs = m := by omega
  have a2 : (-((m / 10 : Nat) : Int)).natAbs = m / 10 := by omega
  rw [a1, a2, Int.toNat_natCast]
  rw [Lib.decDigits, dif_neg hm]
  have a3 : Lib.decDigits (m % 10) = [UInt8.ofNat (48 + m % 10)] := by rw [Lib.decDigits, dif_pos (by omega)]
  rw [a3]
  apply ByteArray.ext
  simp
theorem dec_neg {n : Int} (h1 : n < 0) : dec n = ⟨#[45]⟩ ++ dec (-n) := by
  unfold dec Lib.itoa
  rw [if_pos h1, if_neg (by omega)]
  have a1 : (-n).toNat = n.natAbs := by omega
  rw [a1]
  apply ByteArray.ext
  simp
theorem dec_digit {n : Nat} (h : n < 10) : dec n = ⟨#[UInt8.ofNat (48 + n)]⟩ := by
  unfold dec Lib.itoa
  rw [if_neg (by omega), Int.toNat_natCast, Lib.decDigits, dif_pos h]
theorem dec_big {n : Nat} (h : ¬ n < 10) : dec n = dec ((n / 10 : Nat) : Int) ++ ⟨#[UInt8.ofNat (48 + n % 10)]⟩ := by
  unfold dec Lib.itoa
  rw [if_neg (by omega), if_neg (by omega), Int.toNat_natCast, Int.toNat_natCast, Lib.decDigits, dif_neg h]
  apply ByteArray.ext
  simp
theorem digit_cut {n : Nat} (h : n < 10) : digitsS.extract n (n + 1) = ⟨#[UInt8.ofNat (48 + n)]⟩ := by
  have : ∀ k : Fin 10, digitsS.extract k.val (k.val + 1) = ⟨#[UInt8.ofNat (48 + k.val)]⟩ := by decide +kernel
  exact this ⟨n, h⟩

theorem dig_len : ∀ (k u : Nat), u < 10 ^ (k + 1) → (Lib.decDigits u).length ≤ k + 1
  | 0, u, h => by rw [Lib.decDigits, dif_pos (by omega)]; simp
  | k + 1, u, h => by
    by_cases hu : u < 10
    · rw [Lib.decDigits, dif_pos hu]; simp
    · rw [Lib.decDigits, dif_neg hu, List.length_append]
      have := dig_len k (u / 10) (by rw [Nat.div_lt_iff_lt_mul (by omega), ← Nat.pow_succ]; exact h)
      simp; omega
theorem dec_size {n : Int} (hl : -9223372036854775808 ≤ n) (hh : n ≤ 9223372036854775807) : (dec n).size ≤ 20 := by
  show (Lib.itoa n).toArray.size ≤ 20
  rw [List.size_toArray]
  unfold Lib.itoa
  split
  · have := dig_len 18 n.natAbs (by omega)
    rw [List.length_cons]; omega
  · have := dig_len 18 n.toNat (by omega)
    omega
theorem cat_ok {a b : Nat} (ha : a ≤ 20) (hb : b ≤ 20) : ¬ 9223372036854775807 < a + b := by omega

theorem tdiv_neg (p : Nat) : (-(p : Int)).tdiv 10 = -((p / 10 : Nat) : Int) := by rw [Int.neg_tdiv]; rfl
theorem tmod_neg (p : Nat) : -((-(p : Int)).tmod 10) = ((p % 10 : Nat) : Int) := by rw [Int.neg_tmod]; simp; rfl
theorem tdiv_pos (p : Nat) : (p : Int).tdiv 10 = ((p / 10 : Nat) : Int) := rfl
theorem tmod_pos (p : Nat) : (p : Int).tmod 10 = ((p % 10 : Nat) : Int) := rfl

set_option maxRecDepth 100000 in
set_option maxHeartbeats 1000000 in
theorem decimal_digit (k : Nat) (hk : k < 10) (w : World) : Calls Tryz.prog 92 #[.int .i64 k] w fun e w' => e = .returned (.string (dec k)) ∧ w = w' := by
  have HD := Lib.hid (dec_digit hk)
  have HC := Lib.hid (digit_cut hk)
  have c1 : ¬ (k : Int) < -9 := by omega
  have c2 : ¬ (k : Int) < 0 := by omega
  have c3 : (k : Int) < 10 := by omega
  go_enter Tryz.func92, Tryz.ntmps92
  go_wp2_with fail
  go_ret
  exact ⟨by rw [HD.out, ← HC.out]; rfl, rfl⟩

set_option maxRecDepth 100000 in
set_option maxHeartbeats 1000000 in
theorem decimal_any : ∀ (m : Nat) (n : Int), n.natAbs < m → -9223372036854775808 ≤ n → n ≤ 9223372036854775807 → ∀ (w : World),
    Calls Tryz.prog 92 #[.int .i64 n] w fun e w' => e = .returned (.string (dec n)) ∧ ∃ d, w' = w.drewN d
  | 0, n, h, _, _, w => absurd h (Nat.not_lt_zero _)
  | m + 1, n, h, hl, hh, w => by
    by_cases c1 : n < -9
    · have HD := Lib.hid (dec_low c1)
      obtain ⟨p, rfl⟩ : ∃ p : Nat, n = -(p : Int) := ⟨n.natAbs, by omega⟩
      have hd : dec (-(p : Int)) = dec (-((p : Int) / 10)) ++ dec ((p : Int) % 10) := by
        have := HD.out
        rw [tdiv_neg, tmod_neg] at this
        exact this
      have H1 := Lib.hid (decimal_any m (-((p : Int) / 10)) (by omega) (by omega) (by omega))
      have H2 : Hid (∀ w : World, Calls Tryz.prog 92 #[.int .i64 ((p : Int) % 10)] w fun e w' => e = .returned (.string (dec ((p : Int) % 10))) ∧ w = w') := decimal_digit (p % 10) (by omega)
      have HX := Lib.hid hd
      have z1 := cat_ok (dec_size (n := -((p : Int) / 10)) (by omega) (by omega)) (dec_size (n := (p : Int) % 10) (by omega) (by omega))
      clear hd HD
      go_enter Tryz.func92, Tryz.ntmps92
      go_wp2_with fail
      refine (H1.out _).mono ?_
      rintro e w1 ⟨rfl, d, rfl⟩
      go_wp2_with fail
      refine (H2.out _).mono ?_
      rintro e w1 ⟨rfl, rfl⟩
      go_wp2_with fail
      go_ret
      exact ⟨by rw [HX.out]; rfl, d, rfl⟩
    · by_cases c2 : n < 0
      · obtain ⟨p, rfl⟩ : ∃ p : Nat, n = -(p : Int) := ⟨n.natAbs, by omega⟩
        have H1 := Lib.hid (decimal_digit p (by omega))
        have HD := Lib.hid (dec_neg c2)
        have E1 : Hid (-(-(p : Int)) = (p : Int)) := Int.neg_neg _
        have z1 := cat_ok (a := 1) (by omega) (dec_size (n := (p : Int)) (by omega) (by omega))
        go_enter Tryz.func92, Tryz.ntmps92
        go_wp2_with fail
        refine (H1.out _).mono ?_
        rintro e w1 ⟨rfl, rfl⟩
        have HX := HD.out
        rw [E1.out] at HX
        have HY := Lib.hid HX
        clear HX
        go_wp2_with fail
        go_ret
        exact ⟨by rw [HY.out]; rfl, 0, rfl⟩
      · obtain ⟨k, rfl⟩ : ∃ k : Nat, n = k := ⟨n.toNat, by omega⟩
        by_cases c3 : k < 10
        · exact (decimal_digit k c3 w).mono fun e w' ⟨h1, h2⟩ => ⟨h1, 0, h2.symm⟩
        · have H1 : Hid (∀ w : World, Calls Tryz.prog 92 #[.int .i64 ((k : Int) / 10)] w fun e w' => e = .returned (.string (dec ((k : Int) / 10))) ∧ ∃ d, w' = w.drewN d) := decimal_any m ((k / 10 : Nat) : Int) (by omega) (by omega) (by omega)
          have HD := Lib.hid (dec_big c3)
          have HC := Lib.hid (digit_cut (n := k % 10) (by omega))
          have c4 : ¬ (k : Int) < 10 := by omega
          have z1 := cat_ok (b := 1) (dec_size (n := (k : Int) / 10) (by omega) (by omega)) (by omega)
          have g1 : (0 : Int) ≤ (k : Int) % 10 := by omega
          have g2 : (k : Int) % 10 + 1 ≤ 10 := by omega
          go_enter Tryz.func92, Tryz.ntmps92
          go_wp2_with fail
          go_quiet ((go_at_call 92; exact Calls.quiet_of (H1.out _)))
          go_wp2_with fail
          go_ret
          refine ⟨?_, nq, rfl⟩
          have e : dec (k : Int) = dec ((k : Int) / 10) ++ digitsS.extract (k % 10) (k % 10 + 1) := by rw [HC.out]; exact HD.out
          rw [e]; rfl
end Go.Proofs.YtnnebfcggdbgpaaGreatDoor
/-
  change.Text; the reference's Text, Right.
-/
namespace Go.Proofs.YtnnebfcggdbgpaaGreatDoor
open Go.ChangeShapes Go.WideShapes Go.ChangeAt Go.RowKit
open errAs (ErrT)
set_option linter.unusedVariables false

set_option maxRecDepth 100000 in
set_option maxHeartbeats 1000000 in
theorem ctextC_no (c : Ch) (ht : rightC c = false) (w : World) (hE : EnvU w) : Calls Tryz.prog 39 #[chV c] w fun e w' => e = .returned (.tuple #[.string ByteArray.empty, .bool false]) ∧ Below w.heap.size w w' := by
  have b0 : Below w.heap.size w (w.alloc (.cells (chc c).toArray 61)) := (Below.refl _ _).alloc (Nat.le_refl _) _
  have HB0 := Lib.hid b0
  have HX0 := Lib.hid (ch_new w c)
  have HE0 := Lib.hid (hE.below b0)
  have HRT := Lib.hid (cright_any c _ HE0.out.1.1)
  rw [ht] at HRT
  have HT := Lib.hid ht
  clear b0 hE ht
  go_enter Tryz.func39, Tryz.ntmps39
  go_wp2_with ((with_reducible refine loadC (x := .tmp 1) (u := c) (o := ⟨some 7, _, _, _, _, _⟩) HX0.out ?_ ?_); exact ⟨rfl, rfl, rfl⟩)
  refine HRT.out.mono ?_
  rintro e w1 ⟨rfl, b1⟩
  have HB1 := Lib.hid (HB0.out.trans (b1.mono HB0.out.size))
  have HE1 := Lib.hid (HE0.out.below b1)
  have HX1 := Lib.hid (HX0.out.later b1)
  clear b1 HB0 HE0 HX0 HRT
  go_wp2_with fail
  go_ret2
  exact ⟨rfl, HB1.out⟩
set_option maxRecDepth 100000 in
set_option maxHeartbeats 2000000 in
theorem ctextC_yes (c : Ch) (ht : rightC c = true) (w : World) (hE : EnvU w) : Calls Tryz.prog 39 #[chV c] w fun e w' => e = .returned (.tuple #[.string (textC c), .bool true]) ∧ Below w.heap.size w w' := by
  have b0 : Below w.heap.size w (w.alloc (.cells (chc c).toArray 61)) := (Below.refl _ _).alloc (Nat.le_refl _) _
  have HB0 := Lib.hid b0
  have HX0 := Lib.hid (ch_new w c)
  have HE0 := Lib.hid (hE.below b0)
  have HRT := Lib.hid (cright_any c _ HE0.out.1.1)
  rw [ht] at HRT
  have HT := Lib.hid ht
  clear b0 hE ht
  go_enter Tryz.func39, Tryz.ntmps39
  go_wp2_with ((with_reducible refine loadC (x := .tmp 1) (u := c) (o := ⟨some 7, _, _, _, _, _⟩) HX0.out ?_ ?_); exact ⟨rfl, rfl, rfl⟩)
  refine HRT.out.mono ?_
  rintro e w1 ⟨rfl, b1⟩
  have HB1 := Lib.hid (HB0.out.trans (b1.mono HB0.out.size))
  have HE1 := Lib.hid (HE0.out.below b1)
  have HX1 := Lib.hid (HX0.out.later b1)
  clear b1 HB0 HE0 HX0 HRT
  rcases hd : c.d with _ | _
  · have c1 : w1.cell? ⟨w.heap.size, 1, none⟩ = some (.bool false) := by have := (ChAt.cells HX1.out).2; rwa [hd] at this
    have HD : Hid (c.d = false) := hd
    have HTX := Lib.hid (text_yes c.t (rightC_all HT.out).2.2 w1 HE1.out.1)
    clear hd
    go_wp2_with ((with_reducible refine loadCt (x := .tmp 13) (u := c) (o := ⟨some 14, _, _, _, _, _⟩) HX1.out ?_ ?_); exact ⟨rfl, rfl, rfl⟩)
    refine HTX.out.mono ?_
    rintro e w2 ⟨rfl, b2⟩
    have HB2 := Lib.hid (HB1.out.trans (b2.mono HB1.out.size))
    have HE2 := Lib.hid (HE1.out.below b2)
    have HX2 := Lib.hid (HX1.out.later b2)
    clear b2 HB1 HE1 HX1 HTX c1
    have c0 := (ChAt.cells HX2.out).1
    have HFU := Lib.hid (fuint_any c.r (by have := (rightC_all HT.out).2.1; omega) w2 HE2.out.2.1)
    have HS1 : Hid ((decB c.r).size ≤ 19) := decB_len (rightC_all HT.out).2.1
    have HS2 : Hid ((textT c.t).size ≤ 520) := textT_len (rightC_all HT.out).2.2
    have HTC : Hid (textC c = (decB c.r ++ spP) ++ textT c.t) := by show _ = _; unfold textC; rw [HD.out]; rfl
    obtain ⟨da, hda⟩ : ∃ x, x = decB c.r := ⟨_, rfl⟩
    obtain ⟨tb, htb⟩ : ∃ x, x = textT c.t := ⟨_, rfl⟩
    rw [← hda] at HFU HS1 HTC
    rw [← htb] at HS2 HTC ⊢
    clear hda htb
    go_wp2_with fail
    refine HFU.out.mono ?_
    rintro e w3 ⟨rfl, b3⟩
    have HB3 := Lib.hid (HB2.out.trans (b3.mono HB2.out.size))
    have HE3 := Lib.hid (HE2.out.below b3)
    clear b3 HB2 HE2 HFU c0
    have i1 : (da.size : Int) ≤ 19 := by have := HS1.out; omega
    have i2 : (tb.size : Int) ≤ 520 := by have := HS2.out; omega
    go_wp2_with fail
    go_ret2
    exact ⟨by rw [HTC.out]; rfl, HB3.out⟩
  · have c1 : w1.cell? ⟨w.heap.size, 1, none⟩ = some (.bool true) := by have := (ChAt.cells HX1.out).2; rwa [hd] at this
    have HD : Hid (c.d = true) := hd
    have HTX := Lib.hid (text_yes c.t (rightC_all HT.out).2.2 w1 HE1.out.1)
    clear hd
    go_wp2_with ((with_reducible refine loadCt (x := .tmp 13) (u := c) (o := ⟨some 14, _, _, _, _, _⟩) HX1.out ?_ ?_); exact ⟨rfl, rfl, rfl⟩)
    refine HTX.out.mono ?_
    rintro e w2 ⟨rfl, b2⟩
    have HB2 := Lib.hid (HB1.out.trans (b2.mono HB1.out.size))
    have HE2 := Lib.hid (HE1.out.below b2)
    have HX2 := Lib.hid (HX1.out.later b2)
    clear b2 HB1 HE1 HX1 HTX c1
    have c0 := (ChAt.cells HX2.out).1
    have HFU := Lib.hid (fuint_any c.r (by have := (rightC_all HT.out).2.1; omega) w2 HE2.out.2.1)
    have HS1 : Hid ((decB c.r).size ≤ 19) := decB_len (rightC_all HT.out).2.1
    have HS2 : Hid ((textT c.t).size ≤ 520) := textT_len (rightC_all HT.out).2.2
    have HTC : Hid (textC c = (decB c.r ++ smP) ++ textT c.t) := by show _ = _; unfold textC; rw [HD.out]; rfl
    obtain ⟨da, hda⟩ : ∃ x, x = decB c.r := ⟨_, rfl⟩
    obtain ⟨tb, htb⟩ : ∃ x, x = textT c.t := ⟨_, rfl⟩
    rw [← hda] at HFU HS1 HTC
    rw [← htb] at HS2 HTC ⊢
    clear hda htb
    go_wp2_with fail
    refine HFU.out.mono ?_
    rintro e w3 ⟨rfl, b3⟩
    have HB3 := Lib.hid (HB2.out.trans (b3.mono HB2.out.size))
    have HE3 := Lib.hid (HE2.out.below b3)
    clear b3 HB2 HE2 HFU c0
    have i1 : (da.size : Int) ≤ 19 := by have := HS1.out; omega
    have i2 : (tb.size : Int) ≤ 520 := by have := HS2.out; omega
    go_wp2_with fail
    go_ret2
    exact ⟨by rw [HTC.out]; rfl, HB3.out⟩
end Go.Proofs.YtnnebfcggdbgpaaGreatDoor
/-
  change.Put; the reference's Text.
-/
namespace Go.Proofs.YtnnebfcggdbgpaaGreatDoor
open Go.ChangeShapes Go.WideShapes Go.ChangeAt Go.RowKit
open errAs (ErrT)
set_option linter.unusedVariables false

theorem rd_three {B : Nat} {w : World} {t : TypeId} {v0 v1 v2 : Value} {l0 l1 l2 : List UInt8} (h0 : Rd B w v0 l0) (h1 : Rd B w v1 l1) (h2 : Rd B w v2 l2) (hB : B ≤ w.heap.size) :
    RdAll (w.heap.size + 1) (w.alloc (.cells #[v0, v1, v2] t)) (some ⟨w.heap.size, 0, none⟩) [l0, l1, l2] := by
  intro _
  have hb : Below w.heap.size w (w.alloc (.cells #[v0, v1, v2] t)) := (Below.refl _ _).alloc (Nat.le_refl _) _
  refine ⟨w.heap.size, 0, rfl, by omega, fun i hi => ?_⟩
  have hi2 : i < 3 := by simpa using hi
  match i, hi2 with
  | 0, _ =>
    refine ⟨v0, ?_, (h0.below hb hB).mono (by omega)⟩
    rw [cell_of_row _ _ _ #[v0, v1, v2] t (0, 0) (heap_alloc_new w _)]; rfl
  | 1, _ =>
    refine ⟨v1, ?_, (h1.below hb hB).mono (by omega)⟩
    rw [cell_of_row _ _ _ #[v0, v1, v2] t (0, 0) (heap_alloc_new w _)]; rfl
  | 2, _ =>
    refine ⟨v2, ?_, (h2.below hb hB).mono (by omega)⟩
    rw [cell_of_row _ _ _ #[v0, v1, v2] t (0, 0) (heap_alloc_new w _)]; rfl
theorem total3 (a b c : List UInt8) : total [a, b, c] = a.length + b.length + c.length := by simp [total]; omega
set_option maxRecDepth 100000 in
set_option maxHeartbeats 1000000 in
theorem cputC_no (c : Ch) (ht : rightC c = false) (w : World) (hr : ResT w) : Calls Tryz.prog 38 #[chV c] w fun e w' => e = .returned (.tuple #[.slice none 0 0, .bool false]) ∧ Below w.heap.size w w' := by
  have b0 : Below w.heap.size w (w.alloc (.cells (chc c).toArray 61)) := (Below.refl _ _).alloc (Nat.le_refl _) _
  have HB0 := Lib.hid b0
  have HX0 := Lib.hid (ch_new w c)
  have HE0 := Lib.hid (ResT.below hr b0 hr.lt)
  have HRT := Lib.hid (cright_any c _ HE0.out)
  rw [ht] at HRT
  have HT := Lib.hid ht
  clear b0 hr ht
  go_enter Tryz.func38, Tryz.ntmps38
  go_wp2_with ((with_reducible refine loadC (x := .tmp 1) (u := c) (o := ⟨some 7, _, _, _, _, _⟩) HX0.out ?_ ?_); exact ⟨rfl, rfl, rfl⟩)
  refine HRT.out.mono ?_
  rintro e w1 ⟨rfl, b1⟩
  have HB1 := Lib.hid (HB0.out.trans (b1.mono HB0.out.size))
  have HX1 := Lib.hid (HX0.out.later b1)
  have HE1 := Lib.hid (ResT.below HE0.out b1 HE0.out.lt)
  clear b1 HB0 HX0 HE0 HRT
  go_wp2_with fail
  go_ret2
  exact ⟨rfl, HB1.out⟩
set_option maxRecDepth 100000 in
set_option maxHeartbeats 2000000 in
theorem cputC_yes (c : Ch) (ht : rightC c = true) (w : World) (hr : ResT w) : Calls Tryz.prog 38 #[chV c] w fun e w' => ∃ v, e = .returned (.tuple #[v, .bool true]) ∧ Held w.heap.size w' v (putC c) ∧ Below w.heap.size w w' := by
  have b0 : Below w.heap.size w (w.alloc (.cells (chc c).toArray 61)) := (Below.refl _ _).alloc (Nat.le_refl _) _
  have HB0 := Lib.hid b0
  have HX0 := Lib.hid (ch_new w c)
  have HE0 := Lib.hid (ResT.below hr b0 hr.lt)
  have HRT := Lib.hid (cright_any c _ HE0.out)
  rw [ht] at HRT
  have HT := Lib.hid ht
  clear b0 hr ht
  go_enter Tryz.func38, Tryz.ntmps38
  go_wp2_with ((with_reducible refine loadC (x := .tmp 1) (u := c) (o := ⟨some 7, _, _, _, _, _⟩) HX0.out ?_ ?_); exact ⟨rfl, rfl, rfl⟩)
  refine HRT.out.mono ?_
  rintro e w1 ⟨rfl, b1⟩
  have HB1 := Lib.hid (HB0.out.trans (b1.mono HB0.out.size))
  have HX1 := Lib.hid (HX0.out.later b1)
  have HE1 := Lib.hid (ResT.below HE0.out b1 HE0.out.lt)
  clear b1 HB0 HX0 HE0 HRT
  rcases hd : c.d with _ | _
  · have c1 : w1.cell? ⟨w.heap.size, 1, none⟩ = some (.bool false) := by have := (ChAt.cells HX1.out).2; rwa [hd] at this
    have HD : Hid (c.d = false) := hd
    have HTX := Lib.hid (put_yes c.t (rightC_all HT.out).2.2 w1 HE1.out)
    clear hd
    go_wp2_with ((with_reducible refine loadCt (x := .tmp 13) (u := c) (o := ⟨some 14, _, _, _, _, _⟩) HX1.out ?_ ?_); exact ⟨rfl, rfl, rfl⟩)
    refine HTX.out.mono ?_
    rintro e w2 ⟨v2, rfl, h2, b2⟩
    obtain ⟨q2, n2, m2, rfl⟩ := held_sl h2
    have HB2 := Lib.hid (HB1.out.trans (b2.mono HB1.out.size))
    have HX2 := Lib.hid (HX1.out.later b2)
    have HE2 := Lib.hid (ResT.below HE1.out b2 HE1.out.lt)
    have HH2 := Lib.hid h2
    clear b2 HB1 HX1 HE1 HTX c1 h2
    have c0 := (ChAt.cells HX2.out).1
    have HP3 := Lib.hid (wput c.r (by have := (rightC_all HT.out).2.1; unfold lim64; omega) w2)
    go_wp2_with fail
    refine HP3.out.mono ?_
    rintro e w3 ⟨v3, rfl, o3, b3⟩
    obtain ⟨q3, n3, m3, rfl⟩ := held_sl (Held.of_own o3)
    have HB3 := Lib.hid (HB2.out.trans (b3.mono HB2.out.size))
    have HE3 := Lib.hid (ResT.below HE2.out b3 HE2.out.lt)
    have HH3 := Lib.hid (HH2.out.later b3)
    have HO3 : Hid (Rd w3.heap.size w3 (.slice q3 n3 m3) (put c.r)) := Rd.of_own o3
    clear b3 HB2 HE2 HP3 c0 HH2 o3
    have HP4 : Hid (Calls Tryz.prog 84 #[.int .u64 1] w3 (Owned w3 (put (kindC false)))) := wput (kindC false) (by decide) w3
    go_wp2_with fail
    refine HP4.out.mono ?_
    rintro e w4 ⟨v4, rfl, o4, b4⟩
    obtain ⟨q4, n4, m4, rfl⟩ := held_sl (Held.of_own o4)
    have HB4 := Lib.hid (HB3.out.trans (b4.mono HB3.out.size))
    have HE4 := Lib.hid (ResT.below HE3.out b4 HE3.out.lt)
    have HH4 := Lib.hid (HH3.out.later b4)
    have HO4 := Lib.hid (rd_now (B := 0) HO3.out b4)
    have HQ4 : Hid (Rd w4.heap.size w4 (.slice q4 n4 m4) (put (kindC false))) := Rd.of_own o4
    clear b4 HB3 HE3 HP4 HH3 HO3 o4
    have ba : Below w4.heap.size w4 (w4.alloc (.cells #[.slice q3 n3 m3, .slice q4 n4 m4, .slice q2 n2 m2] 30)) := (Below.refl _ _).alloc (Nat.le_refl _) _
    have HBA := Lib.hid (HB4.out.trans (ba.mono HB4.out.size))
    have HJ := Lib.hid (join_any (cap := 3) (rd_three (t := 30) HO4.out HQ4.out HH4.out.rd (Nat.le_refl _)) (by simp) (by simp) (by have := putC_len HT.out; unfold putC at this; rw [HD.out] at this; simp only [total3, List.length_append] at this ⊢; omega))
    clear ba HB4 HE4 HO4 HQ4
    go_wp2_with fail
    refine HJ.out.mono ?_
    rintro e w5 ⟨v5, rfl, o5, b5⟩
    have HB5 := Lib.hid (HBA.out.trans (b5.mono HBA.out.size))
    have HO5 : Hid (Held w.heap.size w5 v5 (putC c)) := by
      have h := (Held.of_own o5).mono HBA.out.size
      rw [show [put c.r, put (kindC false), putT c.t].flatten = putC c by unfold putC; rw [HD.out]; simp] at h
      exact h
    clear b5 o5 HJ HBA HH4
    go_wp2_with fail
    go_ret2
    exact ⟨v5, rfl, HO5.out, HB5.out⟩
  · have c1 : w1.cell? ⟨w.heap.size, 1, none⟩ = some (.bool true) := by have := (ChAt.cells HX1.out).2; rwa [hd] at this
    have HD : Hid (c.d = true) := hd
    have HTX := Lib.hid (put_yes c.t (rightC_all HT.out).2.2 w1 HE1.out)
    clear hd
    go_wp2_with ((with_reducible refine loadCt (x := .tmp 13) (u := c) (o := ⟨some 14, _, _, _, _, _⟩) HX1.out ?_ ?_); exact ⟨rfl, rfl, rfl⟩)
    refine HTX.out.mono ?_
    rintro e w2 ⟨v2, rfl, h2, b2⟩
    obtain ⟨q2, n2, m2, rfl⟩ := held_sl h2
    have HB2 := Lib.hid (HB1.out.trans (b2.mono HB1.out.size))
    have HX2 := Lib.hid (HX1.out.later b2)
    have HE2 := Lib.hid (ResT.below HE1.out b2 HE1.out.lt)
    have HH2 := Lib.hid h2
    clear b2 HB1 HX1 HE1 HTX c1 h2
    have c0 := (ChAt.cells HX2.out).1
    have HP3 := Lib.hid (wput c.r (by have := (rightC_all HT.out).2.1; unfold lim64; omega) w2)
    go_wp2_with fail
    refine HP3.out.mono ?_
    rintro e w3 ⟨v3, rfl, o3, b3⟩
    obtain ⟨q3, n3, m3, rfl⟩ := held_sl (Held.of_own o3)
    have HB3 := Lib.hid (HB2.out.trans (b3.mono HB2.out.size))
    have HE3 := Lib.hid (ResT.below HE2.out b3 HE2.out.lt)
    have HH3 := Lib.hid (HH2.out.later b3)
    have HO3 : Hid (Rd w3.heap.size w3 (.slice q3 n3 m3) (put c.r)) := Rd.of_own o3
    clear b3 HB2 HE2 HP3 c0 HH2 o3
    have HP4 : Hid (Calls Tryz.prog 84 #[.int .u64 2] w3 (Owned w3 (put (kindC true)))) := wput (kindC true) (by decide) w3
    go_wp2_with fail
    refine HP4.out.mono ?_
    rintro e w4 ⟨v4, rfl, o4, b4⟩
    obtain ⟨q4, n4, m4, rfl⟩ := held_sl (Held.of_own o4)
    have HB4 := Lib.hid (HB3.out.trans (b4.mono HB3.out.size))
    have HE4 := Lib.hid (ResT.below HE3.out b4 HE3.out.lt)
    have HH4 := Lib.hid (HH3.out.later b4)
    have HO4 := Lib.hid (rd_now (B := 0) HO3.out b4)
    have HQ4 : Hid (Rd w4.heap.size w4 (.slice q4 n4 m4) (put (kindC true))) := Rd.of_own o4
    clear b4 HB3 HE3 HP4 HH3 HO3 o4
    have ba : Below w4.heap.size w4 (w4.alloc (.cells #[.slice q3 n3 m3, .slice q4 n4 m4, .slice q2 n2 m2] 30)) := (Below.refl _ _).alloc (Nat.le_refl _) _
    have HBA := Lib.hid (HB4.out.trans (ba.mono HB4.out.size))
    have HJ := Lib.hid (join_any (cap := 3) (rd_three (t := 30) HO4.out HQ4.out HH4.out.rd (Nat.le_refl _)) (by simp) (by simp) (by have := putC_len HT.out; unfold putC at this; rw [HD.out] at this; simp only [total3, List.length_append] at this ⊢; omega))
    clear ba HB4 HE4 HO4 HQ4
    go_wp2_with fail
    refine HJ.out.mono ?_
    rintro e w5 ⟨v5, rfl, o5, b5⟩
    have HB5 := Lib.hid (HBA.out.trans (b5.mono HBA.out.size))
    have HO5 : Hid (Held w.heap.size w5 v5 (putC c)) := by
      have h := (Held.of_own o5).mono HBA.out.size
      rw [show [put c.r, put (kindC true), putT c.t].flatten = putC c by unfold putC; rw [HD.out]; simp] at h
      exact h
    clear b5 o5 HJ HBA HH4
    go_wp2_with fail
    go_ret2
    exact ⟨v5, rfl, HO5.out, HB5.out⟩
theorem rdec_any (n : Nat) (hn : n ≤ 9223372036854775807) (w : World) : Calls Tryz.prog 92 #[.int .i64 n] w fun e w' => e = .returned (.string (decB n)) ∧ Below w.heap.size w w' := by
  refine (decimal_any (n + 1) (n : Int) (by omega) (by omega) (by omega) w).mono ?_
  rintro e w' ⟨rfl, d, rfl⟩
  refine ⟨?_, below_drewN (Below.refl _ _) d⟩
  rw [show dec (n : Int) = decB n by unfold dec decB; rw [Lib.itoa_nonneg]]
theorem textT_small {t : Tu} (hz : sizesT t 1000) : (textT t).size ≤ 1000000 := by
  obtain ⟨z1, z2, z3, z4, z5, z6⟩ := hz
  have hu : (usL t.us).length ≤ t.us.size + 1 := by
    unfold usL
    split
    · simp
    · rw [List.length_cons, size_len]; exact Nat.le_refl _
  rw [← size_len (textT t)]
  show (textL t).length ≤ _
  unfold textL frontL backL
  simp only [List.length_append, List.length_cons, size_len]
  omega
set_option maxRecDepth 100000 in
set_option maxHeartbeats 4000000 in
theorem rtextC_any (c : Ch) (hr : c.r ≤ 9223372036854775807) (hz : sizesT c.t 1000) (w : World) : Calls Tryz.prog 45 #[chV c] w fun e w' => e = .returned (.string (textC c)) ∧ Below w.heap.size w w' := by
  have b0 : Below w.heap.size w (w.alloc (.cells (chc c).toArray 61)) := (Below.refl _ _).alloc (Nat.le_refl _) _
  have HB0 := Lib.hid b0
  have HX0 := Lib.hid (ch_new w c)
  have HR : Hid (c.r ≤ 9223372036854775807) := hr
  have HW : Hid (IntKind.i64.wrap (c.r : Int) = c.r) := by show _ = _; rw [IntKind.wrap_i64]; omega
  have HZ : Hid (sizesT c.t 1000000) := hz.mono (by decide)
  have HL : Hid ((textT c.t).size ≤ 1000000) := textT_small hz
  clear hr hz
  rcases hd : c.d with _ | _
  · have HD : Hid (c.d = false) := hd
    have q1 : (w.alloc (.cells (chc c).toArray 61)).cell? ⟨w.heap.size, 1, none⟩ = some (.bool false) := by have := (ChAt.cells HX0.out).2; rwa [hd] at this
    have HS0 : Hid (RS w c (w.alloc (.cells (chc c).toArray 61))) := ⟨HB0.out, HX0.out, by simp⟩
    have HTC : Hid (textC c = (decB c.r ++ (⟨#[32, 43, 32]⟩ : ByteArray)) ++ textT c.t) := by show _ = _; unfold textC; rw [HD.out]; rfl
    have HS1 : Hid ((decB c.r).size ≤ 19) := decB_len HR.out
    obtain ⟨da, hda⟩ : ∃ x, x = decB c.r := ⟨_, rfl⟩
    obtain ⟨tb, htb⟩ : ∃ x, x = textT c.t := ⟨_, rfl⟩
    have HDA : Hid (∀ W, Calls Tryz.prog 92 #[.int .i64 c.r] W fun e W' => e = .returned (.string da) ∧ Below W.heap.size W W') := by rw [hda]; exact fun W => rdec_any c.r HR.out W
    have HTB : Hid (∀ W, Calls Tryz.prog 21 #[tuV c.t] W fun e W' => e = .returned (.string tb) ∧ Below W.heap.size W W') := by rw [htb]; exact fun W => rtextT_any c.t HZ.out W
    have HS2 : Hid (tb.size ≤ 1000000) := by rw [htb]; exact HL.out
    rw [← hda] at HS1 HTC
    rw [← htb] at HTC
    clear hda htb hd b0
    have i1 : (da.size : Int) ≤ 19 := by have := HS1.out; omega
    have i2 : (tb.size : Int) ≤ 1000000 := by have := HS2.out; omega
    go_enter Tryz.func45, Tryz.ntmps45
    go_upto_region 4 with fail
    generalize w.alloc (.cells (chc c).toArray 61) = w1 at HS0 ⊢
    clear q1 HB0 HX0
    refine wp_region_noPanic ?_
    refine wp_region_held_drew (S := RS w c) (by kernel_rfl) (HS0.out.later (Below.refl _ _).drew) (fun hHeld => ?_)
    try simp only [Act.put]
    generalize w1.drew = wd at hHeld ⊢
    clear HS0
    refine wpAnyH_take (i := 0) (oi := ⟨some 6, _, _, _, _, _⟩) (v := .pointer (some ⟨w.heap.size, 0, none⟩)) rfl (by kernel_rfl) (by kernel_rfl) (by kernel_rfl) (fun _ _ _ h => h) (.inl ⟨by rfl, fun w' hSw => ?_⟩) hHeld ?_
    focus (skip; clear hHeld; go_simp)
    try simp only [Act.put, List.setIfInBounds_toArray, List.set_cons_zero, List.set_cons_succ]
    refine wpAnyH_take (i := 1) (oi := ⟨some 7, _, _, _, _, _⟩) (v := .int .u64 c.r) rfl (by kernel_rfl) (by kernel_rfl) (by kernel_rfl) (fun _ _ _ h => h) (.inl ⟨by rfl, fun w' hSw => ?_⟩) hHeld ?_
    focus (have q0 := (ChAt.cells hSw.2.1).1; clear hHeld; go_simp)
    try simp only [Act.put, List.setIfInBounds_toArray, List.set_cons_zero, List.set_cons_succ]
    refine wpAnyH_take (i := 2) (oi := ⟨some 8, _, _, _, _, _⟩) (v := .int .i64 c.r) rfl (by kernel_rfl) (by kernel_rfl) (by kernel_rfl) (fun _ _ _ h => h) (.inl ⟨by rfl, fun w' hSw => ?_⟩) hHeld ?_
    focus (have hq := HW.out; clear hHeld; go_simp)
    try simp only [Act.put, List.setIfInBounds_toArray, List.set_cons_zero, List.set_cons_succ]
    refine wpAnyH_take (i := 4) (oi := ⟨some 10, _, _, _, _, _⟩) (v := .string (⟨#[32, 43, 32]⟩ : ByteArray)) rfl (by kernel_rfl) (by kernel_rfl) (by kernel_rfl) (fun _ _ _ h => h) (.inl ⟨by rfl, fun w' hSw => ?_⟩) hHeld ?_
    focus (skip; clear hHeld; go_simp)
    try simp only [Act.put, List.setIfInBounds_toArray, List.set_cons_zero, List.set_cons_succ]
    refine wpAnyH_take (i := 6) (oi := ⟨some 12, _, _, _, _, _⟩) (v := .pointer (some ⟨w.heap.size, 2, none⟩)) rfl (by kernel_rfl) (by kernel_rfl) (by kernel_rfl) (fun _ _ _ h => h) (.inl ⟨by rfl, fun w' hSw => ?_⟩) hHeld ?_
    focus (skip; clear hHeld; go_simp)
    try simp only [Act.put, List.setIfInBounds_toArray, List.set_cons_zero, List.set_cons_succ]
    refine takeT (i := 7) (o := ⟨some 13, _, _, _, _, _⟩) (u := c.t) rfl (by kernel_rfl) (by kernel_rfl) (by kernel_rfl) (fun _ _ _ h => h) (by rfl) ⟨rfl, rfl⟩ (fun _ h => ch_tail' h.2.1) hHeld ?_
    try simp only [Act.put, List.setIfInBounds_toArray, List.set_cons_zero, List.set_cons_succ]
    refine wpAnyH_ready (rs := [3]) (by kernel_rfl) (by simp) ?_
    refine AllReadyH.cons (o := ⟨some 9, _, _, _, _, _⟩) rfl (fun K' hK' => ?_) AllReadyH.nil
    refine stepw_call (R := fun v W' => v = .string da ∧ Below wd.heap.size wd W') (by rfl) ?_ ((HDA.out wd).mono fun e W' ⟨he, hb⟩ => ⟨_, he, rfl, hb⟩) ?_
    focus go_simp
    rintro v9 wa ⟨rfl, b9⟩
    have hkn := hHeld.later b9
    clear b9
    refine hK'.out _ _ hkn (fun _ => ?_)
    clear hK' K' hHeld
    have hHeld := hkn
    clear hkn
    try simp only [Act.put, List.setIfInBounds_toArray, List.set_cons_zero, List.set_cons_succ]
    refine wpAnyH_take (i := 5) (oi := ⟨some 11, _, _, _, _, _⟩) (v := .string (da ++ (⟨#[32, 43, 32]⟩ : ByteArray))) rfl (by kernel_rfl) (by kernel_rfl) (by kernel_rfl) (fun _ _ _ h => h) (.inl ⟨by rfl, fun w' hSw => ?_⟩) hHeld ?_
    focus (skip; clear hHeld; go_simp; omega)
    try simp only [Act.put, List.setIfInBounds_toArray, List.set_cons_zero, List.set_cons_succ]
    refine wpAnyH_ready (rs := [8]) (by kernel_rfl) (by simp) ?_
    refine AllReadyH.cons (o := ⟨some 14, _, _, _, _, _⟩) rfl (fun K' hK' => ?_) AllReadyH.nil
    refine stepw_call (R := fun v W' => v = .string tb ∧ Below wa.heap.size wa W') (by rfl) ?_ ((HTB.out wa).mono fun e W' ⟨he, hb⟩ => ⟨_, he, rfl, hb⟩) ?_
    focus go_simp
    rintro v14 wb ⟨rfl, b14⟩
    have hkn := hHeld.later b14
    clear b14
    refine hK'.out _ _ hkn (fun _ => ?_)
    clear hK' K' hHeld
    have hHeld := hkn
    clear hkn
    try simp only [Act.put, List.setIfInBounds_toArray, List.set_cons_zero, List.set_cons_succ]
    refine wpAnyH_take (i := 9) (oi := ⟨some 15, _, _, _, _, _⟩) (v := .string (da ++ (⟨#[32, 43, 32]⟩ : ByteArray) ++ tb)) rfl (by kernel_rfl) (by kernel_rfl) (by kernel_rfl) (fun _ _ _ h => h) (.inl ⟨by rfl, fun w' hSw => ?_⟩) hHeld ?_
    focus (have i3 : (da ++ (⟨#[32, 43, 32]⟩ : ByteArray)).size = da.size + 3 := (by rw [ByteArray.size_append]; rfl); clear hHeld; go_simp; omega)
    try simp only [Act.put, List.setIfInBounds_toArray, List.set_cons_zero, List.set_cons_succ]
    refine wpAnyH_take (i := 10) (oi := ⟨some 2, _, _, _, _, _⟩) (v := .string (da ++ (⟨#[32, 43, 32]⟩ : ByteArray) ++ tb)) rfl (by kernel_rfl) (by kernel_rfl) (by kernel_rfl) (fun _ _ _ h => h) (.inl ⟨by rfl, fun w' hSw => ?_⟩) hHeld ?_
    focus (skip; clear hHeld; go_simp)
    try simp only [Act.put, List.setIfInBounds_toArray, List.set_cons_zero, List.set_cons_succ]
    refine wpAnyH_done (by kernel_rfl) ?_ _
    refine NoPanic.normal ?_
    have HBZ := Lib.hid hHeld.1
    clear hHeld
    go_wp2_with fail
    go_ret
    exact ⟨by rw [HTC.out]; rfl, HBZ.out⟩
  · have HD : Hid (c.d = true) := hd
    have q1 : (w.alloc (.cells (chc c).toArray 61)).cell? ⟨w.heap.size, 1, none⟩ = some (.bool true) := by have := (ChAt.cells HX0.out).2; rwa [hd] at this
    have HS0 : Hid (RS w c (w.alloc (.cells (chc c).toArray 61))) := ⟨HB0.out, HX0.out, by simp⟩
    have HTC : Hid (textC c = (decB c.r ++ (⟨#[32, 45, 32]⟩ : ByteArray)) ++ textT c.t) := by show _ = _; unfold textC; rw [HD.out]; rfl
    have HS1 : Hid ((decB c.r).size ≤ 19) := decB_len HR.out
    obtain ⟨da, hda⟩ : ∃ x, x = decB c.r := ⟨_, rfl⟩
    obtain ⟨tb, htb⟩ : ∃ x, x = textT c.t := ⟨_, rfl⟩
    have HDA : Hid (∀ W, Calls Tryz.prog 92 #[.int .i64 c.r] W fun e W' => e = .returned (.string da) ∧ Below W.heap.size W W') := by rw [hda]; exact fun W => rdec_any c.r HR.out W
    have HTB : Hid (∀ W, Calls Tryz.prog 21 #[tuV c.t] W fun e W' => e = .returned (.string tb) ∧ Below W.heap.size W W') := by rw [htb]; exact fun W => rtextT_any c.t HZ.out W
    have HS2 : Hid (tb.size ≤ 1000000) := by rw [htb]; exact HL.out
    rw [← hda] at HS1 HTC
    rw [← htb] at HTC
    clear hda htb hd b0
    have i1 : (da.size : Int) ≤ 19 := by have := HS1.out; omega
    have i2 : (tb.size : Int) ≤ 1000000 := by have := HS2.out; omega
    go_enter Tryz.func45, Tryz.ntmps45
    go_upto_region 4 with fail
    generalize w.alloc (.cells (chc c).toArray 61) = w1 at HS0 ⊢
    clear q1 HB0 HX0
    refine wp_region_noPanic ?_
    refine wp_region_held_drew (S := RS w c) (by kernel_rfl) (HS0.out.later (Below.refl _ _).drew) (fun hHeld => ?_)
    try simp only [Act.put]
    generalize w1.drew = wd at hHeld ⊢
    clear HS0
    refine wpAnyH_take (i := 0) (oi := ⟨some 6, _, _, _, _, _⟩) (v := .pointer (some ⟨w.heap.size, 0, none⟩)) rfl (by kernel_rfl) (by kernel_rfl) (by kernel_rfl) (fun _ _ _ h => h) (.inl ⟨by rfl, fun w' hSw => ?_⟩) hHeld ?_
    focus (skip; clear hHeld; go_simp)
    try simp only [Act.put, List.setIfInBounds_toArray, List.set_cons_zero, List.set_cons_succ]
    refine wpAnyH_take (i := 1) (oi := ⟨some 7, _, _, _, _, _⟩) (v := .int .u64 c.r) rfl (by kernel_rfl) (by kernel_rfl) (by kernel_rfl) (fun _ _ _ h => h) (.inl ⟨by rfl, fun w' hSw => ?_⟩) hHeld ?_
    focus (have q0 := (ChAt.cells hSw.2.1).1; clear hHeld; go_simp)
    try simp only [Act.put, List.setIfInBounds_toArray, List.set_cons_zero, List.set_cons_succ]
    refine wpAnyH_take (i := 2) (oi := ⟨some 8, _, _, _, _, _⟩) (v := .int .i64 c.r) rfl (by kernel_rfl) (by kernel_rfl) (by kernel_rfl) (fun _ _ _ h => h) (.inl ⟨by rfl, fun w' hSw => ?_⟩) hHeld ?_
    focus (have hq := HW.out; clear hHeld; go_simp)
    try simp only [Act.put, List.setIfInBounds_toArray, List.set_cons_zero, List.set_cons_succ]
    refine wpAnyH_take (i := 4) (oi := ⟨some 10, _, _, _, _, _⟩) (v := .string (⟨#[32, 45, 32]⟩ : ByteArray)) rfl (by kernel_rfl) (by kernel_rfl) (by kernel_rfl) (fun _ _ _ h => h) (.inl ⟨by rfl, fun w' hSw => ?_⟩) hHeld ?_
    focus (skip; clear hHeld; go_simp)
    try simp only [Act.put, List.setIfInBounds_toArray, List.set_cons_zero, List.set_cons_succ]
    refine wpAnyH_take (i := 6) (oi := ⟨some 12, _, _, _, _, _⟩) (v := .pointer (some ⟨w.heap.size, 2, none⟩)) rfl (by kernel_rfl) (by kernel_rfl) (by kernel_rfl) (fun _ _ _ h => h) (.inl ⟨by rfl, fun w' hSw => ?_⟩) hHeld ?_
    focus (skip; clear hHeld; go_simp)
    try simp only [Act.put, List.setIfInBounds_toArray, List.set_cons_zero, List.set_cons_succ]
    refine takeT (i := 7) (o := ⟨some 13, _, _, _, _, _⟩) (u := c.t) rfl (by kernel_rfl) (by kernel_rfl) (by kernel_rfl) (fun _ _ _ h => h) (by rfl) ⟨rfl, rfl⟩ (fun _ h => ch_tail' h.2.1) hHeld ?_
    try simp only [Act.put, List.setIfInBounds_toArray, List.set_cons_zero, List.set_cons_succ]
    refine wpAnyH_ready (rs := [3]) (by kernel_rfl) (by simp) ?_
    refine AllReadyH.cons (o := ⟨some 9, _, _, _, _, _⟩) rfl (fun K' hK' => ?_) AllReadyH.nil
    refine stepw_call (R := fun v W' => v = .string da ∧ Below wd.heap.size wd W') (by rfl) ?_ ((HDA.out wd).mono fun e W' ⟨he, hb⟩ => ⟨_, he, rfl, hb⟩) ?_
    focus go_simp
    rintro v9 wa ⟨rfl, b9⟩
    have hkn := hHeld.later b9
    clear b9
    refine hK'.out _ _ hkn (fun _ => ?_)
    clear hK' K' hHeld
    have hHeld := hkn
    clear hkn
    try simp only [Act.put, List.setIfInBounds_toArray, List.set_cons_zero, List.set_cons_succ]
    refine wpAnyH_take (i := 5) (oi := ⟨some 11, _, _, _, _, _⟩) (v := .string (da ++ (⟨#[32, 45, 32]⟩ : ByteArray))) rfl (by kernel_rfl) (by kernel_rfl) (by kernel_rfl) (fun _ _ _ h => h) (.inl ⟨by rfl, fun w' hSw => ?_⟩) hHeld ?_
    focus (skip; clear hHeld; go_simp; omega)
    try simp only [Act.put, List.setIfInBounds_toArray, List.set_cons_zero, List.set_cons_succ]
    refine wpAnyH_ready (rs := [8]) (by kernel_rfl) (by simp) ?_
    refine AllReadyH.cons (o := ⟨some 14, _, _, _, _, _⟩) rfl (fun K' hK' => ?_) AllReadyH.nil
    refine stepw_call (R := fun v W' => v = .string tb ∧ Below wa.heap.size wa W') (by rfl) ?_ ((HTB.out wa).mono fun e W' ⟨he, hb⟩ => ⟨_, he, rfl, hb⟩) ?_
    focus go_simp
    rintro v14 wb ⟨rfl, b14⟩
    have hkn := hHeld.later b14
    clear b14
    refine hK'.out _ _ hkn (fun _ => ?_)
    clear hK' K' hHeld
    have hHeld := hkn
    clear hkn
    try simp only [Act.put, List.setIfInBounds_toArray, List.set_cons_zero, List.set_cons_succ]
    refine wpAnyH_take (i := 9) (oi := ⟨some 15, _, _, _, _, _⟩) (v := .string (da ++ (⟨#[32, 45, 32]⟩ : ByteArray) ++ tb)) rfl (by kernel_rfl) (by kernel_rfl) (by kernel_rfl) (fun _ _ _ h => h) (.inl ⟨by rfl, fun w' hSw => ?_⟩) hHeld ?_
    focus (have i3 : (da ++ (⟨#[32, 45, 32]⟩ : ByteArray)).size = da.size + 3 := (by rw [ByteArray.size_append]; rfl); clear hHeld; go_simp; omega)
    try simp only [Act.put, List.setIfInBounds_toArray, List.set_cons_zero, List.set_cons_succ]
    refine wpAnyH_take (i := 10) (oi := ⟨some 2, _, _, _, _, _⟩) (v := .string (da ++ (⟨#[32, 45, 32]⟩ : ByteArray) ++ tb)) rfl (by kernel_rfl) (by kernel_rfl) (by kernel_rfl) (fun _ _ _ h => h) (.inl ⟨by rfl, fun w' hSw => ?_⟩) hHeld ?_
    focus (skip; clear hHeld; go_simp)
    try simp only [Act.put, List.setIfInBounds_toArray, List.set_cons_zero, List.set_cons_succ]
    refine wpAnyH_done (by kernel_rfl) ?_ _
    refine NoPanic.normal ?_
    have HBZ := Lib.hid hHeld.1
    clear hHeld
    go_wp2_with fail
    go_ret
    exact ⟨by rw [HTC.out]; rfl, HBZ.out⟩
end Go.Proofs.YtnnebfcggdbgpaaGreatDoor
/-
  The register of CRC-32 on natural numbers: it is linear, it loses nothing, and eight bits at once are one byte; no program is spoken of.
-/
namespace Go.Proofs.YtnnebfcggdbgpaaGreatDoor

def lim32 : Nat := 4294967296
def gen : Nat := 3988292384
/-- One step of the register, without a bit. -/
def tt (y : Nat) : Nat := (y / 2) ^^^ (if y % 2 = 1 then gen else 0)
def tn : Nat → Nat → Nat
  | 0, y => y
  | n + 1, y => tn n (tt y)
theorem xor_lt32 {a b : Nat} (ha : a < lim32) (hb : b < lim32) : a ^^^ b < lim32 := Nat.xor_lt_two_pow (n := 32) ha hb
theorem gen_lt : gen < lim32 := by decide
theorem tt_lt {y : Nat} (h : y < lim32) : tt y < lim32 := by
  unfold tt
  apply xor_lt32
  · unfold lim32 at *; omega
  · split
    · exact gen_lt
    · decide
theorem xor_mod2 (a b : Nat) : (a ^^^ b) % 2 = (a % 2 + b % 2) % 2 := by
  have h := Nat.testBit_xor a b 0
  simp only [Nat.testBit_zero] at h
  rcases Nat.mod_two_eq_zero_or_one a with ha | ha <;> rcases Nat.mod_two_eq_zero_or_one b with hb | hb <;> rcases Nat.mod_two_eq_zero_or_one (a ^^^ b) with hc | hc <;> simp [ha, hb, hc] at h ⊢
theorem xor_div2 (a b : Nat) : (a ^^^ b) / 2 = (a / 2) ^^^ (b / 2) := by
  have := Nat.shiftRight_xor_distrib (a := a) (b := b) (i := 1)
  simpa [Nat.shiftRight_eq_div_pow] using this
theorem tt_xor (a b : Nat) : tt (a ^^^ b) = tt a ^^^ tt b := by
  unfold tt
  rw [xor_div2, xor_mod2]
  rcases Nat.mod_two_eq_zero_or_one a with ha | ha <;> rcases Nat.mod_two_eq_zero_or_one b with hb | hb <;> simp [ha, hb]
  · rw [Nat.xor_assoc]
  · rw [Nat.xor_assoc, Nat.xor_assoc, Nat.xor_comm gen]
  · rw [Nat.xor_assoc, ← Nat.xor_assoc gen, Nat.xor_comm gen, Nat.xor_assoc (b / 2), Nat.xor_self, Nat.xor_zero]
theorem tn_xor : ∀ (n a b : Nat), tn n (a ^^^ b) = tn n a ^^^ tn n b
  | 0, _, _ => rfl
  | n + 1, a, b => by show tn n (tt (a ^^^ b)) = _; rw [tt_xor, tn_xor n]; rfl
theorem tt_double (y : Nat) : tt (2 * y) = y := by
  unfold tt
  have h1 : 2 * y / 2 = y := by omega
  have h2 : ¬ 2 * y % 2 = 1 := by omega
  rw [h1, if_neg h2, Nat.xor_zero]
theorem tn_shift : ∀ (n y : Nat), tn n (2 ^ n * y) = y
  | 0, y => by simp [tn]
  | n + 1, y => by
    show tn n (tt (2 ^ (n + 1) * y)) = y
    rw [Nat.pow_succ, Nat.mul_comm (2 ^ n) 2, Nat.mul_assoc, tt_double, tn_shift n]
theorem tt_zero : tt 0 = 0 := by decide
theorem tn_zero : ∀ n, tn n 0 = 0
  | 0 => rfl
  | n + 1 => by show tn n (tt 0) = 0; rw [tt_zero, tn_zero n]
theorem tt_ne {y : Nat} (h : y < lim32) (h0 : y ≠ 0) : tt y ≠ 0 := by
  unfold tt
  intro e
  split at e
  · have e2 : y / 2 = gen := by
      have := congrArg (· ^^^ gen) e
      simpa [Nat.xor_assoc] using this
    unfold lim32 at h; unfold gen at e2; omega
  · rw [Nat.xor_zero] at e; omega
theorem tn_lt : ∀ (n : Nat) {y : Nat}, y < lim32 → tn n y < lim32
  | 0, _, h => h
  | n + 1, _, h => tn_lt n (tt_lt h)
theorem tn_ne : ∀ (n : Nat) {y : Nat}, y < lim32 → y ≠ 0 → tn n y ≠ 0
  | 0, _, _, h0 => h0
  | n + 1, _, h, h0 => tn_ne n (tt_lt h) (tt_ne h h0)
theorem tn_inj {n a b : Nat} (ha : a < lim32) (hb : b < lim32) (h : tn n a = tn n b) : a = b := by
  apply Classical.byContradiction
  intro hne
  refine tn_ne n (xor_lt32 ha hb) ?_ (by rw [tn_xor, h, Nat.xor_self])
  intro e
  apply hne
  have := congrArg (· ^^^ b) e
  simpa [Nat.xor_assoc] using this
theorem tn_add : ∀ (m n y : Nat), tn (m + n) y = tn n (tn m y)
  | 0, n, y => by rw [Nat.zero_add]; rfl
  | m + 1, n, y => by rw [Nat.add_right_comm]; show tn (m + n) (tt y) = tn n (tn m (tt y)); exact tn_add m n (tt y)

/-- The register takes a bit in. -/
def stp (r b : Nat) : Nat := tt (r ^^^ b)
def run (r : Nat) (bs : List Nat) : Nat := bs.foldl stp r
/-- The lowest n bits, the lowest first. -/
def lowb : Nat → Nat → List Nat
  | 0, _ => []
  | n + 1, v => v % 2 :: lowb n (v / 2)
theorem lowb_len : ∀ n v, (lowb n v).length = n
  | 0, _ => rfl
  | n + 1, v => by simp [lowb, lowb_len n]
theorem split2 (x : Nat) : x = (x % 2) ^^^ (2 * (x / 2)) := by
  have h := Nat.two_pow_add_eq_or_of_lt (i := 1) (b := x % 2) (by omega) (x / 2)
  apply Nat.eq_of_testBit_eq
  intro i
  rw [Nat.testBit_xor]
  cases i with
  | zero =>
    simp only [Nat.testBit_zero]
    rcases Nat.mod_two_eq_zero_or_one x with hx | hx <;> simp [hx]
  | succ i =>
    rw [Nat.testBit_succ, Nat.testBit_succ, Nat.testBit_succ]
    have h1 : x % 2 / 2 = 0 := by omega
    have h2 : 2 * (x / 2) / 2 = x / 2 := by omega
    rw [h1, h2]; simp
theorem run_lowb : ∀ (n x r : Nat), x < 2 ^ n → run r (lowb n x) = tn n (r ^^^ x)
  | 0, x, r, h => by
    have : x = 0 := by simpa using h
    subst this; simp [run, lowb, tn]
  | n + 1, x, r, h => by
    show run (tt (r ^^^ (x % 2))) (lowb n (x / 2)) = tn n (tt (r ^^^ x))
    rw [run_lowb n (x / 2) _ (by rw [Nat.pow_succ] at h; omega)]
    congr 1
    conv => rhs; rw [split2 x, ← Nat.xor_assoc, tt_xor, tt_double]
theorem run_append (r : Nat) (a b : List Nat) : run r (a ++ b) = run (run r a) b := List.foldl_append
theorem run_lt : ∀ (bs : List Nat) {r : Nat}, r < lim32 → (∀ b ∈ bs, b < 2) → run r bs < lim32
  | [], _, h, _ => h
  | b :: bs, r, h, hb => run_lt bs (tt_lt (xor_lt32 h (Nat.lt_of_lt_of_le (hb b (by simp)) (by decide)))) (fun c hc => hb c (by simp [hc]))
theorem lowb_lt : ∀ (n v : Nat), ∀ b ∈ lowb n v, b < 2
  | 0, _, b, h => by cases h
  | n + 1, v, b, h => by
    rcases List.mem_cons.1 h with h | h
    · omega
    · exact lowb_lt n _ b h
/-- The bits of bytes, in the order of the checksum. -/
def bitl (l : List UInt8) : List Nat := l.flatMap fun x => lowb 8 x.toNat
theorem bitl_append (a b : List UInt8) : bitl (a ++ b) = bitl a ++ bitl b := by simp [bitl]
theorem bitl_len (l : List UInt8) : (bitl l).length = 8 * l.length := by
  induction l with
  | nil => rfl
  | cons x l ih => simp only [bitl, List.flatMap_cons, List.length_append, lowb_len, List.length_cons] at ih ⊢; omega
theorem bitl_lt (l : List UInt8) : ∀ b ∈ bitl l, b < 2 := by
  intro b h
  simp only [bitl, List.mem_flatMap] at h
  obtain ⟨x, _, hx⟩ := h
  exact lowb_lt 8 _ b hx
/-- The register after bytes. -/
def reg (r : Nat) (l : List UInt8) : Nat := run r (bitl l)
theorem reg_nil (r : Nat) : reg r [] = r := rfl
theorem reg_append (r : Nat) (a b : List UInt8) : reg r (a ++ b) = reg (reg r a) b := by unfold reg; rw [bitl_append, run_append]
theorem reg_snoc (r : Nat) (a : List UInt8) (x : UInt8) : reg r (a ++ [x]) = tn 8 (reg r a ^^^ x.toNat) := by
  rw [reg_append]
  show run (reg r a) (lowb 8 x.toNat ++ []) = _
  rw [List.append_nil, run_lowb 8 _ _ (by have := x.toNat_lt; omega)]
theorem reg_lt (r : Nat) (l : List UInt8) (h : r < lim32) : reg r l < lim32 := run_lt _ h (bitl_lt l)
def ones : Nat := 4294967295
theorem ones_lt : ones < lim32 := by decide
/-- The checksum. -/
def crc (l : List UInt8) : Nat := ones - reg ones l
theorem crc_lt (l : List UInt8) : crc l < lim32 := by unfold crc; have := ones_lt; omega

theorem ones_xor (c : Nat) (hc : c < lim32) : ones ^^^ c = ones - c := by
  apply Nat.eq_of_testBit_eq
  intro i
  have h1 : ones = 2 ^ 32 - 1 := by decide
  have h2 : ones - c = 2 ^ 32 - (c + 1) := by unfold lim32 at hc; unfold ones; omega
  rw [Nat.testBit_xor, h2, Nat.testBit_two_pow_sub_succ (by exact hc), h1, Nat.testBit_two_pow_sub_one]
  by_cases hi : i < 32
  · simp [hi]
  · have : c.testBit i = false := Nat.testBit_lt_two_pow (Nat.lt_of_lt_of_le hc (Nat.pow_le_pow_right (n := 2) (by decide) (show 32 ≤ i by omega)))
    simp [hi, this]
theorem ones_sub {c : Nat} (hc : c < lim32) : ones - (ones - c) = c := by unfold lim32 at hc; unfold ones; omega
/-- A byte at once, as the program does it. -/
theorem byte_step (r x : Nat) : tn 8 (r ^^^ x) = (r / 256) ^^^ tn 8 ((r % 256) ^^^ x) := by
  have e : r = (2 ^ 8 * (r / 256)) ^^^ (r % 256) := by
    have h1 := Nat.two_pow_add_eq_or_of_lt (i := 8) (b := r % 256) (by omega) (r / 256)
    have h2 : (2 ^ 8 * (r / 256)) ||| (r % 256) = (2 ^ 8 * (r / 256)) ^^^ (r % 256) := by
      apply Nat.eq_of_testBit_eq
      intro i
      rw [Nat.testBit_or, Nat.testBit_xor, Nat.testBit_two_pow_mul]
      by_cases hi : 8 ≤ i
      · have : (r % 256).testBit i = false := Nat.testBit_lt_two_pow (Nat.lt_of_lt_of_le (show r % 256 < 2 ^ 8 by omega) (Nat.pow_le_pow_right (by decide) hi))
        simp [this]
      · simp [hi]
    rw [← h2, ← h1]; omega
  conv => lhs; rw [e, Nat.xor_assoc, tn_xor, tn_shift]

/-- A step bit by bit, as the reference does it. -/
theorem stp_bit (r b : Nat) (hb : b < 2) : stp r b = if (r % 2) ^^^ b = 1 then (r / 2) ^^^ gen else r / 2 := by
  unfold stp tt
  rw [xor_div2, xor_mod2]
  have h1 : b / 2 = 0 := by omega
  have hb2 : b = 0 ∨ b = 1 := by omega
  rw [h1, Nat.xor_zero]
  rcases Nat.mod_two_eq_zero_or_one r with h | h <;> rcases hb2 with rfl | rfl <;> simp [h]
end Go.Proofs.YtnnebfcggdbgpaaGreatDoor
/-
  crc.remainder, follow, Sum: the register.
-/
namespace Go.Proofs.YtnnebfcggdbgpaaGreatDoor
open Go.ChangeShapes Go.WideShapes Go.ChangeAt Go.RowKit

theorem rem_step (r : Nat) (h : r < 4294967296) : bits .xor .u32 ((r : Int) / 2) (3988292384 * bits .and .u32 (r : Int) 1 % 4294967296) = ((tt r : Nat) : Int) := by
  have e1 : bits .and .u32 (r : Int) 1 = ((r % 2 : Nat) : Int) := by
    have := u32_and_nat r 1 h (by decide)
    rw [nat_mask1] at this
    exact this
  rw [e1]
  have e2 : 3988292384 * ((r % 2 : Nat) : Int) % 4294967296 = ((if r % 2 = 1 then gen else 0 : Nat) : Int) := by
    rcases Nat.mod_two_eq_zero_or_one r with h | h <;> rw [h] <;> rfl
  rw [e2]
  have e3 : (r : Int) / 2 = ((r / 2 : Nat) : Int) := by omega
  rw [e3, u32_xor_nat _ _ (by omega) (by split <;> decide)]
  rfl

set_option maxRecDepth 100000 in
theorem rem_any (x : Nat) (hx : x < 256) (w : World) : Calls Tryz.prog 185 #[.int .u8 x] w fun e w' => e = .returned (.int .u32 (tn 8 x)) ∧ w = w' := by
  go_enter Tryz.func185, Tryz.ntmps185
  go_wp2_with fail
  go_loop [3, 6] (fun v iv => ∃ (k r : Nat), k ≤ 8 ∧ iv = .int .i64 k ∧ r < lim32 ∧ v = .int .u32 r ∧ Hid (tn (8 - k) r = tn 8 x)) (fun _ iv => 8 - (intOf iv).toNat)
  case atStart => exact ⟨0, x, by omega, rfl, by unfold lim32; omega, by rfl, rfl⟩
  case round =>
    obtain ⟨k, r, hk, rfl, hr, rfl, HT⟩ := hrel
    by_cases hlt : k < 8
    · have HS := Lib.hid (rem_step r hr)
      go_wp2_with fail
      go_round
      case rel => exact ⟨k + 1, tt r, by omega, by go_num, tt_lt hr, by rw [HS.out], by show tn (8 - (k + 1)) (tt r) = _; rw [← HT.out, show 8 - k = (8 - (k + 1)) + 1 from by omega]; rfl⟩
      case measure => simp [intOf]; omega
    · obtain rfl : k = 8 := by omega
      go_wp2_with fail
      go_ret
      exact ⟨by rw [← HT.out]; rfl, rfl⟩

theorem compl (c : Nat) (hc : c < lim32) : bits .xor .u32 IntKind.u32.max (c : Int) = ((ones - c : Nat) : Int) := by
  have e : IntKind.u32.max = ((ones : Nat) : Int) := by decide
  rw [e, u32_xor_nat _ _ (by decide) hc, ones_xor c hc]
theorem byte_arg (r : Nat) (x : UInt8) : bits .xor .u8 ((r : Int) % 256) (x.toNat : Int) = (((r % 256) ^^^ x.toNat : Nat) : Int) := by
  have e : (r : Int) % 256 = ((r % 256 : Nat) : Int) := by omega
  rw [e, u8_xor_nat _ _ (by omega) x.toNat_lt]
theorem xor_lt8 {a b : Nat} (ha : a < 256) (hb : b < 256) : a ^^^ b < 256 := Nat.xor_lt_two_pow (n := 8) ha hb
theorem byte_res (r : Nat) (x : UInt8) (hr : r < lim32) : bits .xor .u32 ((r : Int) / 256) ((tn 8 ((r % 256) ^^^ x.toNat) : Nat) : Int) = ((tn 8 (r ^^^ x.toNat) : Nat) : Int) := by
  have e : (r : Int) / 256 = ((r / 256 : Nat) : Int) := by omega
  have h8 := xor_lt8 (show r % 256 < 256 by omega) x.toNat_lt
  rw [e, u32_xor_nat _ _ (by unfold lim32 at hr; omega) (tn_lt 8 (by unfold lim32; omega)), ← byte_step]

theorem take_next (l : List UInt8) (k : Nat) (h : k < l.length) : l.take (k + 1) = l.take k ++ [l.getD k 0] := by
  rw [List.take_succ_eq_append_getElem h]
  simp [List.getD_eq_getElem?_getD, List.getElem?_eq_getElem h]

set_option maxRecDepth 100000 in
theorem follow_any {B : Nat} {w : World} {vb : Value} {l : List UInt8} (hr : Rd B w vb l) (c : Nat) (hc : c < lim32) :
    Calls Tryz.prog 173 #[.int .u32 c, vb] w fun e w' => e = .returned (.int .u32 (ones - reg (ones - c) l : Nat)) ∧ w = w' := by
  obtain ⟨ov, cv, rfl, hmx, hcell⟩ := hr.form
  unfold maxLen at hmx
  have HC := Lib.hid (compl c hc)
  have hoc : ones - c < lim32 := by have := ones_lt; omega
  go_enter Tryz.func173, Tryz.ntmps173
  go_wp2_with fail
  go_loop [5, 12] (fun v iv => ∃ (k r : Nat), k ≤ l.length ∧ iv = .int .i64 k ∧ r < lim32 ∧ v = .int .u32 r ∧ Hid (r = reg (ones - c) (l.take k))) (fun _ iv => l.length - (intOf iv).toNat)
  case atStart => exact ⟨0, ones - c, by omega, rfl, hoc, by rw [HC.out], rfl⟩
  case round =>
    obtain ⟨k, r, hk, rfl, hrl, rfl, HT⟩ := hrel
    by_cases hlt : k < l.length
    · obtain ⟨b, off, rfl, _, _, hbB, hcc⟩ := hcell (by omega)
      obtain ⟨x, HX, hx⟩ : ∃ x : UInt8, Hid (l.take (k + 1) = l.take k ++ [x]) ∧ w.cell? ⟨b, off + k, none⟩ = some (.int .u8 x.toNat) := ⟨l.getD k 0, take_next l k hlt, hcc k hlt⟩
      have HA := Lib.hid (byte_arg r x)
      have HR := Lib.hid (byte_res r x hrl)
      have hi0 : (0 : Int) ≤ k := by omega
      have hi1 : (k : Int) < l.length := by omega
      clear hcell hcc
      go_wp2_with fail
      rw [HA.out]
      refine (rem_any _ (xor_lt8 (by omega) x.toNat_lt) _).mono ?_
      rintro e w1 ⟨rfl, rfl⟩
      go_wp2_with fail
      go_round
      case rel => exact ⟨k + 1, tn 8 (r ^^^ x.toNat), by omega, by go_num, tn_lt 8 (xor_lt32 hrl (by have := x.toNat_lt; unfold lim32; omega)), by rw [HR.out], by show _ = reg (ones - c) (l.take (k + 1)); rw [HX.out, reg_snoc, ← HT.out]⟩
      case measure => simp [intOf]; omega
    · obtain rfl : k = l.length := by omega
      have HD := Lib.hid (compl r hrl)
      go_wp2_with fail
      go_ret
      refine ⟨?_, rfl⟩
      rw [HD.out]
      have := HT.out
      rw [List.take_length] at this
      rw [← this]; rfl

set_option maxRecDepth 100000 in
theorem csum_any {B : Nat} {w : World} {oa : Option Addr} {cap : Nat} {ls : List (List UInt8)} (hr : RdAll B w oa ls) (hn : ls.length ≤ 140737488355328) :
    Calls Tryz.prog 148 #[.slice oa ls.length cap] w fun e w' => e = .returned (.int .u32 (crc ls.flatten)) ∧ w = w' := by
  go_enter Tryz.func148, Tryz.ntmps148
  go_wp2_with fail
  go_loop [3, 8] (fun v iv => ∃ (k r : Nat), k ≤ ls.length ∧ iv = .int .i64 k ∧ r < lim32 ∧ v = .int .u32 r ∧ Hid (r = ones - reg ones (ls.take k).flatten)) (fun _ iv => ls.length - (intOf iv).toNat)
  case atStart => exact ⟨0, 0, by omega, rfl, by decide, rfl, by show 0 = ones - reg ones []; rw [reg_nil, Nat.sub_self]⟩
  case round =>
    obtain ⟨k, r, hk, rfl, hrl, rfl, HT⟩ := hrel
    by_cases hlt : k < ls.length
    · obtain ⟨b, off, rfl, _, hc⟩ := hr (by omega)
      obtain ⟨u, hu, hru⟩ := hc k hlt
      obtain ⟨p, HX⟩ : ∃ p, Hid (p = ls.getD k [] ∧ (ls.take (k + 1)).flatten = (ls.take k).flatten ++ ls.getD k []) := ⟨_, rfl, total_take ls k hlt⟩
      rw [← HX.out.1] at hru
      have hi0 : (0 : Int) ≤ k := by omega
      have hi1 : (k : Int) < ls.length := by omega
      clear hr hc
      go_wp2_with fail
      refine (follow_any hru r hrl).mono ?_
      rintro e w1 ⟨rfl, rfl⟩
      go_wp2_with fail
      go_round
      case rel =>
        refine ⟨k + 1, _, by omega, by go_num, ?_, rfl, ?_⟩
        · have := ones_lt; omega
        · show _ = ones - reg ones (ls.take (k + 1)).flatten
          have h1 : ones - r = reg ones (ls.take k).flatten := by rw [HT.out, ones_sub (reg_lt _ _ ones_lt)]
          rw [HX.out.2, reg_append, h1, HX.out.1]
      case measure => simp [intOf]; omega
    · obtain rfl : k = ls.length := by omega
      go_wp2_with fail
      go_ret
      refine ⟨?_, rfl⟩
      have h := HT.out
      rw [List.take_length] at h
      have h2 : r = crc ls.flatten := by unfold crc; exact h
      rw [← h2]; rfl

/-- One part. -/
theorem csum_one {B : Nat} {w : World} {n : Nat} {t : TypeId} {v : Value} {l : List UInt8} (hr : Rd B w v l) (hB : B ≤ w.heap.size) :
    Calls Tryz.prog 148 #[.slice (some ⟨w.heap.size, 0, none⟩) 1 n] (w.alloc (.cells #[v] t)) fun e w' => e = .returned (.int .u32 (crc l)) ∧ w.alloc (.cells #[v] t) = w' := by
  have h := csum_any (B := w.heap.size + 1) (w := w.alloc (.cells #[v] t)) (oa := some ⟨w.heap.size, 0, none⟩) (cap := n) (ls := [l]) (by
    intro _
    refine ⟨_, 0, rfl, by omega, fun i hi => ?_⟩
    obtain rfl : i = 0 := by simpa using hi
    refine ⟨v, ?_, ?_⟩
    · rw [cell_of_row _ _ _ #[v] t (0, 0) (heap_alloc_new w _)]; rfl
    · exact ((hr.mono hB).below ((Below.refl _ _).alloc (Nat.le_refl _) _) (Nat.le_refl _)).mono (by omega)) (by simp)
  simpa using h
end Go.Proofs.YtnnebfcggdbgpaaGreatDoor
