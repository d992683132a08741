/-
  vestrylaw22.awake.
-/
import Derived.Test.YtaikdbbakdicgaaDoorMg6
namespace Go.Proofs.YtaikdbbakdicgaaDoor
open Go.ChangeShapes Go.WideShapes Go.ChangeAt Go.RowKit
open errAs (ErrT)
set_option linter.unusedVariables false

/-- A zookie is loaded, under a guard that is met. -/
theorem loadZw {ops : Array Oper} {rest : List Oper} {o : Oper} {a : Act} {Q : Exit → Act → World → Prop} {w : World} {g v r : Nat} {d : List UInt8} {t : TypeId} {x : Operand} (hA : Arr w t g (zc v r d)) (hd : d.length = 32)
    (hs : Region.wanted o (yielded ops a.tmps) = true ∧ o.op = .load 26 x ∧ a.eval x = .pointer (some ⟨g, 0, none⟩))
    (hk : wpList Tryd.prog ops Q rest (a.put o.dst (zkV v r d)) w) : wpList Tryd.prog ops Q (o :: rest) a w :=
  wpList_step fun K hK => by
    rw [if_pos hs.1]
    exact wp_load_mid _ x hs.2.1 g 0 hs.2.2 _ _ hA.range Tryd.underlying26 rfl (by rw [zc_length hd]; kernel_rfl) (hK _ _ hk)
theorem eqlCC (c d : Int) (w : World) : (binOp BinOp.eql 31 (.iface 35 (.int .i64 c)) (.iface 35 (.int .i64 d))).run Tryd.prog w = .ok (.bool (decide (c = d))) w := by kernel_rfl
theorem convK (w : World) : (convert 22 22 (.slice (some ⟨w.heap.size, 0, none⟩) 1 1)).run Tryd.prog (w.alloc (.cells #[.int .u8 107] 5)) = .ok (.slice (some ⟨w.heap.size, 0, none⟩) 1 1) (w.alloc (.cells #[.int .u8 107] 5 (1, 2))) :=
  Joins.run_convert_bytes_const_at w 22 5 #[.int .u8 107] 1 1 _ rfl Tryd.underlying22 Tryd.underlying5
theorem decA : dec [65] = ([], 0) := by decide +kernel
theorem verA : verZ [] [65] = badZ 6 0 := by
  have h := verZ_bad (k := []) (s := [65]) (by rw [decA]; decide)
  rw [decA] at h
  exact h
theorem rd_byteK (w : World) : Rd (w.alloc (.cells #[.int .u8 107] 5 (1, 2))).heap.size (w.alloc (.cells #[.int .u8 107] 5 (1, 2))) (.slice (some ⟨w.heap.size, 0, none⟩) 1 1) [107] := by
  refine .inr ⟨w.heap.size, 0, 1, rfl, Nat.le_refl _, by unfold maxLen; omega, by simp, fun i hi => ?_⟩
  obtain rfl : i = 0 := by simpa using hi
  rw [Nat.zero_add, cell_of_row _ _ _ #[.int .u8 107] 5 (1, 2) (heap_alloc_new w _)]; rfl
set_option maxRecDepth 100000 in
set_option maxHeartbeats 2000000 in
theorem zawake_any (w : World) (hE : ErrT w) (he : Env w) : Calls Tryd.prog 8 #[] w fun e w' => e = .returned (.bool true) ∧ Below w.heap.size w w' := by
  have hcv := convK
  have HE := Lib.hid hE
  have HV := Lib.hid he
  have HV1 : Hid (Calls Tryd.prog 13 #[.slice none 0 0, .string ⟨#[65]⟩] w fun e w' => e = .returned (.tuple #[zkV 0 0 z32, faultN 6 0]) ∧ Below w.heap.size w w') := by
    have h := zverify_any (w := w) (vk := .slice none 0 0) (k := []) ⟨#[65]⟩ (.inl ⟨none, rfl, rfl⟩) (by simp) (by decide) he hE
    rw [show (⟨#[65]⟩ : ByteArray).data.toList = [65] from rfl, verA] at h
    exact h
  clear hE he
  go_enter Tryd.func8, Tryd.ntmps8
  go_wp2_with fail
  refine HV1.out.mono ?_
  rintro e w1 ⟨rfl, b1⟩
  have hs1 : (w1.alloc (.cells (zc 0 0 z32).toArray 26)).heap.size = w1.heap.size + 1 := by simp
  have hb2 : Below w1.heap.size w1 ((w1.alloc (.cells (zc 0 0 z32).toArray 26)).alloc (.cells (zc 1 7 z32).toArray 26)) := ((Below.refl _ _).alloc (Nat.le_refl _) _).alloc (by simp) _
  have HB2 := Lib.hid (b1.trans (hb2.mono b1.size))
  have HA2 := Lib.hid (Arr.new2 w1 (.cells (zc 0 0 z32).toArray 26) 26 (zc 1 7 z32).toArray _ rfl)
  have HS1 := Lib.hid hs1
  clear b1 HV1 hs1 hb2
  go_upto_region 3 with (first
    | ((with_reducible refine atZ w1.heap.size (x := .tmp 1) (y := .tmp 12) (v := 0) (r := 0) (d := z32) (o := ⟨none, .store _ _ _, _, _, _, _⟩) z32_length ?_ ?_); exact ⟨rfl, rfl, rfl, rfl, rfl, rfl⟩)
    | ((with_reducible refine atZ (w1.heap.size + 1) (x := .tmp 3) (y := .tmp 14) (v := 1) (r := 7) (d := z32) (o := ⟨none, .store _ _ _, _, _, _, _⟩) z32_length ?_ ?_); exact ⟨rfl, rfl, rfl, rfl, rfl, HS1.out.symm⟩))
  generalize ((w1.alloc (.cells (zc 0 0 z32).toArray 26)).alloc (.cells (zc 1 7 z32).toArray 26)) = w2 at HB2 HA2 ⊢
  generalize w1.heap.size + 1 = g at HA2 ⊢
  generalize w1.heap.size = g1
  have hb3 : Below w2.heap.size w2 (w2.alloc (.cells #[.int .u8 107] 5 (1, 2))) := (Below.refl _ _).alloc (Nat.le_refl _) _
  have HB3 := Lib.hid (HB2.out.trans (hb3.mono HB2.out.size))
  have HA3 := Lib.hid (HA2.out.later hb3)
  obtain ⟨S, hS⟩ : ∃ S, S = signZ [107] (payZ 7 z32) := ⟨_, rfl⟩
  have HM3 : Hid (Calls Tryd.prog 10 #[.slice (some ⟨w2.heap.size, 0, none⟩) 1 1, zkV 1 7 z32] (w2.alloc (.cells #[.int .u8 107] 5 (1, 2))) fun e w' => e = .returned (.tuple #[.string (str S), .nilIface]) ∧ Below (w2.alloc (.cells #[.int .u8 107] 5 (1, 2))).heap.size (w2.alloc (.cells #[.int .u8 107] 5 (1, 2))) w') := by
    rw [hS]
    exact zmint_yes 7 z32 (rd_byteK w2) (by simp) (by decide) rfl (HV.out.below HB3.out)
  have HSD : Hid (str S = str S ∧ (str S).data.toList = S) := ⟨rfl, rfl⟩
  have HSS : Hid ((str S).size ≤ 1000) := by
    have h1 := signZ_len (k := [107]) (b := payZ 7 z32)
    have h2 := payZ_len (r := 7) (d := z32) (by decide) rfl
    rw [← hS] at h1
    show (str S).size ≤ 1000
    rw [show (str S).size = S.length from rfl]
    omega
  have HVS : Hid (verZ [107] S = (1, 7, z32, 0, 0)) := by
    show _ = _
    rw [hS, verZ_sign, parseZ_pay (by decide) rfl]
  obtain ⟨T, hT⟩ : ∃ T, T = str S := ⟨_, rfl⟩
  rw [← hT] at HM3 HSD HSS
  clear hb3 HA2 HB2 hS hT
  go_wp2_with ((with_reducible refine loadZ (x := .tmp 3) (o := ⟨some 18, _, _, _, _, _⟩) HA3.out z32_length ?_ ?_); exact ⟨rfl, rfl, rfl⟩)
  refine HM3.out.mono ?_
  rintro e w4 ⟨rfl, b4⟩
  have hb5 : Below w4.heap.size w4 (w4.alloc (.cells #[.int .u8 107] 5 (1, 2))) := (Below.refl _ _).alloc (Nat.le_refl _) _
  have HB5 := Lib.hid ((HB3.out.trans (b4.mono HB3.out.size)).trans (hb5.mono (HB3.out.trans (b4.mono HB3.out.size)).size))
  have HA5 := Lib.hid ((HA3.out.later b4).later hb5)
  have HV5 : Hid (Calls Tryd.prog 13 #[.slice (some ⟨w4.heap.size, 0, none⟩) 1 1, .string T] (w4.alloc (.cells #[.int .u8 107] 5 (1, 2))) fun e w' => e = .returned (.tuple #[zkV 1 7 z32, .nilIface]) ∧ Below (w4.alloc (.cells #[.int .u8 107] 5 (1, 2))).heap.size (w4.alloc (.cells #[.int .u8 107] 5 (1, 2))) w') := by
    have h := zverify_any (vk := .slice (some ⟨w4.heap.size, 0, none⟩) 1 1) T (rd_byteK w4) (by simp) (by have := HSS.out; omega) (HV.out.below HB5.out) (errT_below HE.out HB5.out)
    rw [HSD.out.2, HVS.out] at h
    exact h
  clear b4 hb5 HM3 HB3 HA3
  go_wp2_with fail
  refine HV5.out.mono ?_
  rintro e w5 ⟨rfl, b5⟩
  have hb6 : Below w5.heap.size w5 (w5.alloc (.cells (zc 1 7 z32).toArray 26)) := (Below.refl _ _).alloc (Nat.le_refl _) _
  have HB6 := Lib.hid ((HB5.out.trans (b5.mono HB5.out.size)).trans (hb6.mono (HB5.out.trans (b5.mono HB5.out.size)).size))
  have HA6 := Lib.hid ((HA5.out.later b5).later hb6)
  have HX6 := Lib.hid (Arr.new' w5 26 (zc 1 7 z32).toArray _ rfl)
  clear b5 hb6 HV5 HB5 HA5
  go_upto_region 5 with ((with_reducible refine atZ w5.heap.size (x := .tmp 6) (y := .tmp 27) (v := 1) (r := 7) (d := z32) (o := ⟨none, .store _ _ _, _, _, _, _⟩) z32_length ?_ ?_); exact ⟨rfl, rfl, rfl, rfl, rfl, rfl⟩)
  all_goals
    generalize w5.alloc (.cells (zc 1 7 z32).toArray 26) = w6 at HB6 HA6 HX6 ⊢
    generalize w5.heap.size = g6 at HX6 ⊢
    go_wp2_with fail
    refine (zmint_no 0 0 z32 (.slice none 0 0) rfl (by decide) _).mono ?_
    rintro e w7 ⟨rfl, b7⟩
    have HB7 := Lib.hid (HB6.out.trans (b7.mono HB6.out.size))
    have HA7 := Lib.hid (HA6.out.later b7)
    have HX7 := Lib.hid (HX6.out.later b7)
    rw [show ((checkZ 0 0 : Nat) : Int) = 13 from rfl]
    have HTO := Lib.hid (told_fault 6 0 (by decide) w7 (errT_below HE.out HB7.out))
    clear b7 HB6 HA6 HX6
    go_wp2_with fail
    refine HTO.out.mono ?_
    rintro e w8 ⟨rfl, b8⟩
    have HB8 := Lib.hid (HB7.out.trans (b8.mono HB7.out.size))
    have HA8 := Lib.hid (HA7.out.later b8)
    have HX8 := Lib.hid (HX7.out.later b8)
    have hq1 := eqlCC
    have hq2 := fun w => equalZ (v := 1) (r := 7) (v' := 1) (r' := 7) (d := z32) (d' := z32) rfl rfl w
    rw [eqZ_refl] at hq2
    clear b8 HTO HB7 HA7 HX7
    go_wp2_with (first
      | ((with_reducible refine loadZw (x := .tmp 6) (o := ⟨some 41, _, _, _, _, _⟩) HX8.out z32_length ?_ ?_); exact ⟨rfl, rfl, rfl⟩)
      | ((with_reducible refine loadZw (x := .tmp 3) (o := ⟨some 42, _, _, _, _, _⟩) HA8.out z32_length ?_ ?_); exact ⟨rfl, rfl, rfl⟩)
      | ((with_reducible refine loadZw (x := .tmp 3) (o := ⟨some 55, _, _, _, _, _⟩) HA8.out z32_length ?_ ?_); exact ⟨rfl, rfl, rfl⟩))
    refine (znewer_any 1 7 1 0 z32 z32 rfl rfl _).mono ?_
    rintro e w9 ⟨rfl, b9⟩
    rw [show newerZ 1 7 z32 1 0 z32 = true from by decide]
    have HB9 := Lib.hid (HB8.out.trans (b9.mono HB8.out.size))
    have HA9 := Lib.hid (HA8.out.later b9)
    clear b9 HB8 HA8 HX8
    go_wp2_with (first
      | ((with_reducible refine loadZw (x := .tmp 3) (o := ⟨some 60, _, _, _, _, _⟩) HA9.out z32_length ?_ ?_); exact ⟨rfl, rfl, rfl⟩)
      | ((with_reducible refine loadZw (x := .tmp 3) (o := ⟨some 61, _, _, _, _, _⟩) HA9.out z32_length ?_ ?_); exact ⟨rfl, rfl, rfl⟩))
    refine (znewer_any 1 7 1 7 z32 z32 rfl rfl _).mono ?_
    rintro e w10 ⟨rfl, b10⟩
    rw [show newerZ 1 7 z32 1 7 z32 = false from by decide]
    have HB10 := Lib.hid (HB9.out.trans (b10.mono HB9.out.size))
    clear b10 HB9 HA9
    go_wp2_with fail
    go_ret
    exact ⟨rfl, HB10.out⟩
end Go.Proofs.YtaikdbbakdicgaaDoor
/-
  vestrylaw22.ZookieNewer: the walk.
-/
namespace Go.Proofs.YtaikdbbakdicgaaDoor
open Go.ChangeShapes Go.WideShapes Go.ChangeAt Go.RowKit
open errAs (ErrT)
set_option linter.unusedVariables false

set_option maxRecDepth 100000 in
set_option maxHeartbeats 2000000 in
theorem newer_walk1 (v r v' r' : Nat) (d d' : List UInt8) (hd : d.length = 32) (hd' : d'.length = 32) (hv : ((v : Int) == (v' : Int)) = false) (HE1 : Hid (newerZ v r d v' r' d' = false)) (w : World) (hE : ErrT w) (he : Env w) :
    Calls Tryd.prog 7 #[zkV v r d, zkV v' r' d'] w fun e w' => e = .returned (.bool true) ∧ Below w.heap.size w w' := by
  have HE := Lib.hid hE
  have HV := Lib.hid he
  have HD := Lib.hid hd
  have HD' := Lib.hid hd'
  obtain ⟨a1, a2, hb⟩ := twoZ v r v' r' d d' w 26
  have HA1 := Lib.hid a1
  have HA2 := Lib.hid a2
  have HB := Lib.hid hb
  have HAW := Lib.hid (zawake_any _ (errT_below hE hb) (he.below hb))
  clear hE he hd hd' a1 a2 hb
  go_enter Tryd.func7, Tryd.ntmps7
  go_wp2_with fail
  refine HAW.out.mono ?_
  rintro e w1 ⟨rfl, b1⟩
  have HB1 := Lib.hid (HB.out.trans (b1.mono HB.out.size))
  have HG1 := Lib.hid (And.intro (HA1.out.later b1) (HA2.out.later b1))
  clear b1 HA1 HA2 HB HAW
  go_upto_region 3 with fail
  obtain ⟨g, hg⟩ : ∃ g, g = w.heap.size := ⟨_, rfl⟩
  rw [← hg] at HG1 ⊢
  clear hg
  obtain ⟨h, hh⟩ : ∃ h, h = g + 1 := ⟨_, rfl⟩
  rw [← hh] at HG1 ⊢
  clear hh
  refine wp_region_noPanic ?_
  refine wp_region_held_drew (S := fun W' => Arr W' 26 g (zc v r d) ∧ Arr W' 26 h (zc v' r' d')) (by kernel_rfl) (⟨HG1.out.1.later (Below.refl _ _).drew, HG1.out.2.later (Below.refl _ _).drew⟩) (fun hHeld => ?_)
  try simp only [Act.put]
  have HB2 := Lib.hid (HB1.out.drew)
  generalize w1.drew = W2 at hHeld HB2 ⊢
  clear HB1 HG1
  refine wpAnyH_take (i := 0) (oi := ⟨some 7, _, _, _, _, _⟩) (v := zkV v r d) rfl (by kernel_rfl) (by kernel_rfl) (by kernel_rfl) (fun _ _ _ h => h) (yieldsIf_load_mid (by rfl) 26 (.tmp 2) rfl g 0 rfl _ _ (fun W' hW' => hW'.1.range) Tryd.underlying26 rfl (by rw [zc_length HD.out]; kernel_rfl)) hHeld ?_
  try simp only [Act.put, List.setIfInBounds_toArray, List.set_cons_zero, List.set_cons_succ]
  refine wpAnyH_take (i := 1) (oi := ⟨some 8, _, _, _, _, _⟩) (v := zkV v' r' d') rfl (by kernel_rfl) (by kernel_rfl) (by kernel_rfl) (fun _ _ _ h => h) (yieldsIf_load_mid (by rfl) 26 (.tmp 3) rfl h 0 rfl _ _ (fun W' hW' => hW'.2.range) Tryd.underlying26 rfl (by rw [zc_length HD'.out]; kernel_rfl)) hHeld ?_
  try simp only [Act.put, List.setIfInBounds_toArray, List.set_cons_zero, List.set_cons_succ]
  refine wpAnyH_take (i := 3) (oi := ⟨some 10, _, _, _, _, _⟩) (v := .pointer (some ⟨g, 0, none⟩)) rfl (by kernel_rfl) (by kernel_rfl) (by kernel_rfl) (fun _ _ _ h => h) (.inl ⟨by rfl, fun w' hSw => ?_⟩) hHeld ?_
  focus (skip; clear hHeld; go_simp)
  try simp only [Act.put, List.setIfInBounds_toArray, List.set_cons_zero, List.set_cons_succ]
  refine wpAnyH_take (i := 4) (oi := ⟨some 11, _, _, _, _, _⟩) (v := .int .u8 v) rfl (by kernel_rfl) (by kernel_rfl) (by kernel_rfl) (fun _ _ _ h => h) (.inl ⟨by rfl, fun w' hSw => ?_⟩) hHeld ?_
  focus ((have q0 := hSw.1.cell 0; have q1 := hSw.1.cell 1; have p0 := hSw.2.cell 0; have p1 := hSw.2.cell 1; simp only [zc, List.getElem?_cons_zero, List.getElem?_cons_succ] at q0 q1 p0 p1); clear hHeld; go_simp)
  try simp only [Act.put, List.setIfInBounds_toArray, List.set_cons_zero, List.set_cons_succ]
  refine wpAnyH_take (i := 5) (oi := ⟨some 12, _, _, _, _, _⟩) (v := .pointer (some ⟨h, 0, none⟩)) rfl (by kernel_rfl) (by kernel_rfl) (by kernel_rfl) (fun _ _ _ h => h) (.inl ⟨by rfl, fun w' hSw => ?_⟩) hHeld ?_
  focus (skip; clear hHeld; go_simp)
  try simp only [Act.put, List.setIfInBounds_toArray, List.set_cons_zero, List.set_cons_succ]
  refine wpAnyH_take (i := 6) (oi := ⟨some 13, _, _, _, _, _⟩) (v := .int .u8 v') rfl (by kernel_rfl) (by kernel_rfl) (by kernel_rfl) (fun _ _ _ h => h) (.inl ⟨by rfl, fun w' hSw => ?_⟩) hHeld ?_
  focus ((have q0 := hSw.1.cell 0; have q1 := hSw.1.cell 1; have p0 := hSw.2.cell 0; have p1 := hSw.2.cell 1; simp only [zc, List.getElem?_cons_zero, List.getElem?_cons_succ] at q0 q1 p0 p1); clear hHeld; go_simp)
  try simp only [Act.put, List.setIfInBounds_toArray, List.set_cons_zero, List.set_cons_succ]
  refine wpAnyH_take (i := 7) (oi := ⟨some 14, _, _, _, _, _⟩) (v := .bool false) rfl (by kernel_rfl) (by kernel_rfl) (by kernel_rfl) (fun _ _ _ h => h) (.inl ⟨by rfl, fun w' hSw => ?_⟩) hHeld ?_
  focus (skip; clear hHeld; go_simp)
  try simp only [Act.put, List.setIfInBounds_toArray, List.set_cons_zero, List.set_cons_succ]
  refine wpAnyH_ready (rs := [2]) (by kernel_rfl) (by simp) ?_
  refine AllReadyH.cons (o := ⟨some 9, _, _, _, _, _⟩) rfl (fun K' hK' => ?_) AllReadyH.nil
  refine stepw_call (R := fun u w'' => u = .bool false ∧ Below W2.heap.size W2 w'') (by rfl) ?_ ((znewer_any v r v' r' d d' HD.out HD'.out _).mono fun e w'' ⟨h1, h3⟩ => ⟨_, h1, by rw [HE1.out], h3⟩) ?_
  focus go_simp
  rintro u W3 ⟨rfl, b⟩
  have hkn : Arr W3 26 g (zc v r d) ∧ Arr W3 26 h (zc v' r' d') := ⟨hHeld.1.later b, hHeld.2.later b⟩
  refine hK'.out _ _ hkn (fun _ => ?_)
  clear hK' K' hHeld
  have hHeld := hkn
  clear hkn
  have HB3 := Lib.hid (HB2.out.trans (b.mono HB2.out.size))
  clear b HB2
  try simp only [Act.put, List.setIfInBounds_toArray, List.set_cons_zero, List.set_cons_succ]
  refine wpAnyH_take (i := 8) (oi := ⟨some 15, _, _, _, _, _⟩) (v := .bool false) rfl (by kernel_rfl) (by kernel_rfl) (by kernel_rfl) (fun _ _ _ h => h) (.inl ⟨by rfl, fun w' hSw => ?_⟩) hHeld ?_
  focus (skip; clear hHeld; go_simp)
  try simp only [Act.put, List.setIfInBounds_toArray, List.set_cons_zero, List.set_cons_succ]
  refine wpAnyH_take (i := 9) (oi := ⟨some 16, _, _, _, _, _⟩) (v := undef) rfl (by kernel_rfl) (by kernel_rfl) (by kernel_rfl) (fun _ _ _ h => h) (.inr ⟨by rfl, by rfl⟩) hHeld ?_
  try simp only [Act.put, List.setIfInBounds_toArray, List.set_cons_zero, List.set_cons_succ]
  refine wpAnyH_take (i := 10) (oi := ⟨some 17, _, _, _, _, _⟩) (v := undef) rfl (by kernel_rfl) (by kernel_rfl) (by kernel_rfl) (fun _ _ _ h => h) (.inr ⟨by rfl, by rfl⟩) hHeld ?_
  try simp only [Act.put, List.setIfInBounds_toArray, List.set_cons_zero, List.set_cons_succ]
  refine wpAnyH_take (i := 11) (oi := ⟨some 18, _, _, _, _, _⟩) (v := undef) rfl (by kernel_rfl) (by kernel_rfl) (by kernel_rfl) (fun _ _ _ h => h) (.inr ⟨by rfl, by rfl⟩) hHeld ?_
  try simp only [Act.put, List.setIfInBounds_toArray, List.set_cons_zero, List.set_cons_succ]
  refine wpAnyH_take (i := 12) (oi := ⟨some 19, _, _, _, _, _⟩) (v := undef) rfl (by kernel_rfl) (by kernel_rfl) (by kernel_rfl) (fun _ _ _ h => h) (.inr ⟨by rfl, by rfl⟩) hHeld ?_
  try simp only [Act.put, List.setIfInBounds_toArray, List.set_cons_zero, List.set_cons_succ]
  refine wpAnyH_take (i := 13) (oi := ⟨some 20, _, _, _, _, _⟩) (v := undef) rfl (by kernel_rfl) (by kernel_rfl) (by kernel_rfl) (fun _ _ _ h => h) (.inr ⟨by rfl, by rfl⟩) hHeld ?_
  try simp only [Act.put, List.setIfInBounds_toArray, List.set_cons_zero, List.set_cons_succ]
  refine wpAnyH_take (i := 14) (oi := ⟨some 21, _, _, _, _, _⟩) (v := .bool false) rfl (by kernel_rfl) (by kernel_rfl) (by kernel_rfl) (fun _ _ _ h => h) (.inl ⟨by rfl, fun w' hSw => ?_⟩) hHeld ?_
  focus (skip; clear hHeld; go_simp)
  try simp only [Act.put, List.setIfInBounds_toArray, List.set_cons_zero, List.set_cons_succ]
  refine wpAnyH_take (i := 15) (oi := ⟨some 22, _, _, _, _, _⟩) (v := .bool false) rfl (by kernel_rfl) (by kernel_rfl) (by kernel_rfl) (fun _ _ _ h => h) (.inl ⟨by rfl, fun w' hSw => ?_⟩) hHeld ?_
  focus (skip; clear hHeld; go_simp)
  try simp only [Act.put, List.setIfInBounds_toArray, List.set_cons_zero, List.set_cons_succ]
  refine wpAnyH_take (i := 16) (oi := ⟨some 23, _, _, _, _, _⟩) (v := undef) rfl (by kernel_rfl) (by kernel_rfl) (by kernel_rfl) (fun _ _ _ h => h) (.inr ⟨by rfl, by rfl⟩) hHeld ?_
  try simp only [Act.put, List.setIfInBounds_toArray, List.set_cons_zero, List.set_cons_succ]
  refine wpAnyH_take (i := 17) (oi := ⟨some 24, _, _, _, _, _⟩) (v := undef) rfl (by kernel_rfl) (by kernel_rfl) (by kernel_rfl) (fun _ _ _ h => h) (.inr ⟨by rfl, by rfl⟩) hHeld ?_
  try simp only [Act.put, List.setIfInBounds_toArray, List.set_cons_zero, List.set_cons_succ]
  refine wpAnyH_take (i := 18) (oi := ⟨some 25, _, _, _, _, _⟩) (v := undef) rfl (by kernel_rfl) (by kernel_rfl) (by kernel_rfl) (fun _ _ _ h => h) (.inr ⟨by rfl, by rfl⟩) hHeld ?_
  try simp only [Act.put, List.setIfInBounds_toArray, List.set_cons_zero, List.set_cons_succ]
  refine wpAnyH_take (i := 19) (oi := ⟨some 26, _, _, _, _, _⟩) (v := undef) rfl (by kernel_rfl) (by kernel_rfl) (by kernel_rfl) (fun _ _ _ h => h) (.inr ⟨by rfl, by rfl⟩) hHeld ?_
  try simp only [Act.put, List.setIfInBounds_toArray, List.set_cons_zero, List.set_cons_succ]
  refine wpAnyH_take (i := 20) (oi := ⟨some 27, _, _, _, _, _⟩) (v := undef) rfl (by kernel_rfl) (by kernel_rfl) (by kernel_rfl) (fun _ _ _ h => h) (.inr ⟨by rfl, by rfl⟩) hHeld ?_
  try simp only [Act.put, List.setIfInBounds_toArray, List.set_cons_zero, List.set_cons_succ]
  refine wpAnyH_take (i := 21) (oi := ⟨some 28, _, _, _, _, _⟩) (v := .bool false) rfl (by kernel_rfl) (by kernel_rfl) (by kernel_rfl) (fun _ _ _ h => h) (.inl ⟨by rfl, fun w' hSw => ?_⟩) hHeld ?_
  focus (skip; clear hHeld; go_simp)
  try simp only [Act.put, List.setIfInBounds_toArray, List.set_cons_zero, List.set_cons_succ]
  refine wpAnyH_take (i := 22) (oi := ⟨some 29, _, _, _, _, _⟩) (v := .bool true) rfl (by kernel_rfl) (by kernel_rfl) (by kernel_rfl) (fun _ _ _ h => h) (.inl ⟨by rfl, fun w' hSw => ?_⟩) hHeld ?_
  focus (skip; clear hHeld; go_simp)
  try simp only [Act.put, List.setIfInBounds_toArray, List.set_cons_zero, List.set_cons_succ]
  refine wpAnyH_take (i := 23) (oi := ⟨some 30, _, _, _, _, _⟩) (v := .bool true) rfl (by kernel_rfl) (by kernel_rfl) (by kernel_rfl) (fun _ _ _ h => h) (.inl ⟨by rfl, fun w' hSw => ?_⟩) hHeld ?_
  focus (skip; clear hHeld; go_simp)
  try simp only [Act.put, List.setIfInBounds_toArray, List.set_cons_zero, List.set_cons_succ]
  refine wpAnyH_take (i := 24) (oi := ⟨some 31, _, _, _, _, _⟩) (v := zkV v r d) rfl (by kernel_rfl) (by kernel_rfl) (by kernel_rfl) (fun _ _ _ h => h) (yieldsIf_load_mid (by rfl) 26 (.tmp 2) rfl g 0 rfl _ _ (fun W' hW' => hW'.1.range) Tryd.underlying26 rfl (by rw [zc_length HD.out]; kernel_rfl)) hHeld ?_
  try simp only [Act.put, List.setIfInBounds_toArray, List.set_cons_zero, List.set_cons_succ]
  refine wpAnyH_take (i := 25) (oi := ⟨some 32, _, _, _, _, _⟩) (v := zkV v' r' d') rfl (by kernel_rfl) (by kernel_rfl) (by kernel_rfl) (fun _ _ _ h => h) (yieldsIf_load_mid (by rfl) 26 (.tmp 3) rfl h 0 rfl _ _ (fun W' hW' => hW'.2.range) Tryd.underlying26 rfl (by rw [zc_length HD'.out]; kernel_rfl)) hHeld ?_
  try simp only [Act.put, List.setIfInBounds_toArray, List.set_cons_zero, List.set_cons_succ]
  refine wpAnyH_ready (rs := [26]) (by kernel_rfl) (by simp) ?_
  refine AllReadyH.cons (o := ⟨some 33, _, _, _, _, _⟩) rfl (fun K' hK' => ?_) AllReadyH.nil
  refine stepw_call (R := fun u w'' => u = .bool false ∧ Below W3.heap.size W3 w'') (by rfl) ?_ ((znewer_any v r v' r' d d' HD.out HD'.out _).mono fun e w'' ⟨h1, h3⟩ => ⟨_, h1, by rw [HE1.out], h3⟩) ?_
  focus go_simp
  rintro u W4 ⟨rfl, b⟩
  have hkn : Arr W4 26 g (zc v r d) ∧ Arr W4 26 h (zc v' r' d') := ⟨hHeld.1.later b, hHeld.2.later b⟩
  refine hK'.out _ _ hkn (fun _ => ?_)
  clear hK' K' hHeld
  have hHeld := hkn
  clear hkn
  have HB4 := Lib.hid (HB3.out.trans (b.mono HB3.out.size))
  clear b HB3
  try simp only [Act.put, List.setIfInBounds_toArray, List.set_cons_zero, List.set_cons_succ]
  refine wpAnyH_take (i := 27) (oi := ⟨some 34, _, _, _, _, _⟩) (v := .bool false) rfl (by kernel_rfl) (by kernel_rfl) (by kernel_rfl) (fun _ _ _ h => h) (.inl ⟨by rfl, fun w' hSw => ?_⟩) hHeld ?_
  focus (skip; clear hHeld; go_simp)
  try simp only [Act.put, List.setIfInBounds_toArray, List.set_cons_zero, List.set_cons_succ]
  refine wpAnyH_take (i := 28) (oi := ⟨some 35, _, _, _, _, _⟩) (v := undef) rfl (by kernel_rfl) (by kernel_rfl) (by kernel_rfl) (fun _ _ _ h => h) (.inr ⟨by rfl, by rfl⟩) hHeld ?_
  try simp only [Act.put, List.setIfInBounds_toArray, List.set_cons_zero, List.set_cons_succ]
  refine wpAnyH_take (i := 29) (oi := ⟨some 36, _, _, _, _, _⟩) (v := undef) rfl (by kernel_rfl) (by kernel_rfl) (by kernel_rfl) (fun _ _ _ h => h) (.inr ⟨by rfl, by rfl⟩) hHeld ?_
  try simp only [Act.put, List.setIfInBounds_toArray, List.set_cons_zero, List.set_cons_succ]
  refine wpAnyH_take (i := 30) (oi := ⟨some 37, _, _, _, _, _⟩) (v := undef) rfl (by kernel_rfl) (by kernel_rfl) (by kernel_rfl) (fun _ _ _ h => h) (.inr ⟨by rfl, by rfl⟩) hHeld ?_
  try simp only [Act.put, List.setIfInBounds_toArray, List.set_cons_zero, List.set_cons_succ]
  refine wpAnyH_take (i := 31) (oi := ⟨some 38, _, _, _, _, _⟩) (v := .bool false) rfl (by kernel_rfl) (by kernel_rfl) (by kernel_rfl) (fun _ _ _ h => h) (.inl ⟨by rfl, fun w' hSw => ?_⟩) hHeld ?_
  focus (skip; clear hHeld; go_simp)
  try simp only [Act.put, List.setIfInBounds_toArray, List.set_cons_zero, List.set_cons_succ]
  refine wpAnyH_take (i := 32) (oi := ⟨some 39, _, _, _, _, _⟩) (v := .bool true) rfl (by kernel_rfl) (by kernel_rfl) (by kernel_rfl) (fun _ _ _ h => h) (.inl ⟨by rfl, fun w' hSw => ?_⟩) hHeld ?_
  focus (skip; clear hHeld; go_simp)
  try simp only [Act.put, List.setIfInBounds_toArray, List.set_cons_zero, List.set_cons_succ]
  refine wpAnyH_take (i := 33) (oi := ⟨some 40, _, _, _, _, _⟩) (v := .bool true) rfl (by kernel_rfl) (by kernel_rfl) (by kernel_rfl) (fun _ _ _ h => h) (.inl ⟨by rfl, fun w' hSw => ?_⟩) hHeld ?_
  focus (skip; clear hHeld; go_simp)
  try simp only [Act.put, List.setIfInBounds_toArray, List.set_cons_zero, List.set_cons_succ]
  refine wpAnyH_take (i := 34) (oi := ⟨some 4, _, _, _, _, _⟩) (v := .bool true) rfl (by kernel_rfl) (by kernel_rfl) (by kernel_rfl) (fun _ _ _ h => h) (.inl ⟨by rfl, fun w' hSw => ?_⟩) hHeld ?_
  focus (skip; clear hHeld; go_simp)
  try simp only [Act.put, List.setIfInBounds_toArray, List.set_cons_zero, List.set_cons_succ]
  refine wpAnyH_done (by kernel_rfl) ?_ _
  refine NoPanic.normal ?_
  clear hHeld
  go_wp2_with fail
  go_ret
  exact ⟨rfl, HB4.out⟩
set_option maxRecDepth 100000 in
set_option maxHeartbeats 2000000 in
theorem newer_walk2 (v r v' r' : Nat) (d d' : List UInt8) (hd : d.length = 32) (hd' : d'.length = 32) (hv : ((v : Int) == (v' : Int)) = true) (hq : ∀ w, (Op.equalIn 10000 24 (.agg (bvs d).toArray) (.agg (bvs d').toArray)).run Tryd.prog w = .ok false w) (HE1 : Hid (newerZ v r d v' r' d' = false)) (w : World) (hE : ErrT w) (he : Env w) :
    Calls Tryd.prog 7 #[zkV v r d, zkV v' r' d'] w fun e w' => e = .returned (.bool true) ∧ Below w.heap.size w w' := by
  have HE := Lib.hid hE
  have HV := Lib.hid he
  have HD := Lib.hid hd
  have HD' := Lib.hid hd'
  obtain ⟨a1, a2, hb⟩ := twoZ v r v' r' d d' w 26
  have HA1 := Lib.hid a1
  have HA2 := Lib.hid a2
  have HB := Lib.hid hb
  have HAW := Lib.hid (zawake_any _ (errT_below hE hb) (he.below hb))
  clear hE he hd hd' a1 a2 hb
  go_enter Tryd.func7, Tryd.ntmps7
  go_wp2_with fail
  refine HAW.out.mono ?_
  rintro e w1 ⟨rfl, b1⟩
  have HB1 := Lib.hid (HB.out.trans (b1.mono HB.out.size))
  have HG1 := Lib.hid (And.intro (HA1.out.later b1) (HA2.out.later b1))
  clear b1 HA1 HA2 HB HAW
  go_upto_region 3 with fail
  obtain ⟨g, hg⟩ : ∃ g, g = w.heap.size := ⟨_, rfl⟩
  rw [← hg] at HG1 ⊢
  clear hg
  obtain ⟨h, hh⟩ : ∃ h, h = g + 1 := ⟨_, rfl⟩
  rw [← hh] at HG1 ⊢
  clear hh
  refine wp_region_noPanic ?_
  refine wp_region_held_drew (S := fun W' => Arr W' 26 g (zc v r d) ∧ Arr W' 26 h (zc v' r' d')) (by kernel_rfl) (⟨HG1.out.1.later (Below.refl _ _).drew, HG1.out.2.later (Below.refl _ _).drew⟩) (fun hHeld => ?_)
  try simp only [Act.put]
  have HB2 := Lib.hid (HB1.out.drew)
  generalize w1.drew = W2 at hHeld HB2 ⊢
  clear HB1 HG1
  refine wpAnyH_take (i := 0) (oi := ⟨some 7, _, _, _, _, _⟩) (v := zkV v r d) rfl (by kernel_rfl) (by kernel_rfl) (by kernel_rfl) (fun _ _ _ h => h) (yieldsIf_load_mid (by rfl) 26 (.tmp 2) rfl g 0 rfl _ _ (fun W' hW' => hW'.1.range) Tryd.underlying26 rfl (by rw [zc_length HD.out]; kernel_rfl)) hHeld ?_
  try simp only [Act.put, List.setIfInBounds_toArray, List.set_cons_zero, List.set_cons_succ]
  refine wpAnyH_take (i := 1) (oi := ⟨some 8, _, _, _, _, _⟩) (v := zkV v' r' d') rfl (by kernel_rfl) (by kernel_rfl) (by kernel_rfl) (fun _ _ _ h => h) (yieldsIf_load_mid (by rfl) 26 (.tmp 3) rfl h 0 rfl _ _ (fun W' hW' => hW'.2.range) Tryd.underlying26 rfl (by rw [zc_length HD'.out]; kernel_rfl)) hHeld ?_
  try simp only [Act.put, List.setIfInBounds_toArray, List.set_cons_zero, List.set_cons_succ]
  refine wpAnyH_take (i := 3) (oi := ⟨some 10, _, _, _, _, _⟩) (v := .pointer (some ⟨g, 0, none⟩)) rfl (by kernel_rfl) (by kernel_rfl) (by kernel_rfl) (fun _ _ _ h => h) (.inl ⟨by rfl, fun w' hSw => ?_⟩) hHeld ?_
  focus (skip; clear hHeld; go_simp)
  try simp only [Act.put, List.setIfInBounds_toArray, List.set_cons_zero, List.set_cons_succ]
  refine wpAnyH_take (i := 4) (oi := ⟨some 11, _, _, _, _, _⟩) (v := .int .u8 v) rfl (by kernel_rfl) (by kernel_rfl) (by kernel_rfl) (fun _ _ _ h => h) (.inl ⟨by rfl, fun w' hSw => ?_⟩) hHeld ?_
  focus ((have q0 := hSw.1.cell 0; have q1 := hSw.1.cell 1; have p0 := hSw.2.cell 0; have p1 := hSw.2.cell 1; simp only [zc, List.getElem?_cons_zero, List.getElem?_cons_succ] at q0 q1 p0 p1); clear hHeld; go_simp)
  try simp only [Act.put, List.setIfInBounds_toArray, List.set_cons_zero, List.set_cons_succ]
  refine wpAnyH_take (i := 5) (oi := ⟨some 12, _, _, _, _, _⟩) (v := .pointer (some ⟨h, 0, none⟩)) rfl (by kernel_rfl) (by kernel_rfl) (by kernel_rfl) (fun _ _ _ h => h) (.inl ⟨by rfl, fun w' hSw => ?_⟩) hHeld ?_
  focus (skip; clear hHeld; go_simp)
  try simp only [Act.put, List.setIfInBounds_toArray, List.set_cons_zero, List.set_cons_succ]
  refine wpAnyH_take (i := 6) (oi := ⟨some 13, _, _, _, _, _⟩) (v := .int .u8 v') rfl (by kernel_rfl) (by kernel_rfl) (by kernel_rfl) (fun _ _ _ h => h) (.inl ⟨by rfl, fun w' hSw => ?_⟩) hHeld ?_
  focus ((have q0 := hSw.1.cell 0; have q1 := hSw.1.cell 1; have p0 := hSw.2.cell 0; have p1 := hSw.2.cell 1; simp only [zc, List.getElem?_cons_zero, List.getElem?_cons_succ] at q0 q1 p0 p1); clear hHeld; go_simp)
  try simp only [Act.put, List.setIfInBounds_toArray, List.set_cons_zero, List.set_cons_succ]
  refine wpAnyH_take (i := 7) (oi := ⟨some 14, _, _, _, _, _⟩) (v := .bool true) rfl (by kernel_rfl) (by kernel_rfl) (by kernel_rfl) (fun _ _ _ h => h) (.inl ⟨by rfl, fun w' hSw => ?_⟩) hHeld ?_
  focus (skip; clear hHeld; go_simp)
  try simp only [Act.put, List.setIfInBounds_toArray, List.set_cons_zero, List.set_cons_succ]
  refine wpAnyH_ready (rs := [2]) (by kernel_rfl) (by simp) ?_
  refine AllReadyH.cons (o := ⟨some 9, _, _, _, _, _⟩) rfl (fun K' hK' => ?_) AllReadyH.nil
  refine stepw_call (R := fun u w'' => u = .bool false ∧ Below W2.heap.size W2 w'') (by rfl) ?_ ((znewer_any v r v' r' d d' HD.out HD'.out _).mono fun e w'' ⟨h1, h3⟩ => ⟨_, h1, by rw [HE1.out], h3⟩) ?_
  focus go_simp
  rintro u W3 ⟨rfl, b⟩
  have hkn : Arr W3 26 g (zc v r d) ∧ Arr W3 26 h (zc v' r' d') := ⟨hHeld.1.later b, hHeld.2.later b⟩
  refine hK'.out _ _ hkn (fun _ => ?_)
  clear hK' K' hHeld
  have hHeld := hkn
  clear hkn
  have HB3 := Lib.hid (HB2.out.trans (b.mono HB2.out.size))
  clear b HB2
  try simp only [Act.put, List.setIfInBounds_toArray, List.set_cons_zero, List.set_cons_succ]
  refine wpAnyH_take (i := 8) (oi := ⟨some 15, _, _, _, _, _⟩) (v := .bool true) rfl (by kernel_rfl) (by kernel_rfl) (by kernel_rfl) (fun _ _ _ h => h) (.inl ⟨by rfl, fun w' hSw => ?_⟩) hHeld ?_
  focus (skip; clear hHeld; go_simp)
  try simp only [Act.put, List.setIfInBounds_toArray, List.set_cons_zero, List.set_cons_succ]
  refine wpAnyH_take (i := 9) (oi := ⟨some 16, _, _, _, _, _⟩) (v := .pointer (some ⟨g, 2, none⟩)) rfl (by kernel_rfl) (by kernel_rfl) (by kernel_rfl) (fun _ _ _ h => h) (.inl ⟨by rfl, fun w' hSw => ?_⟩) hHeld ?_
  focus (skip; clear hHeld; go_simp)
  try simp only [Act.put, List.setIfInBounds_toArray, List.set_cons_zero, List.set_cons_succ]
  refine wpAnyH_take (i := 10) (oi := ⟨some 17, _, _, _, _, _⟩) (v := .agg (bvs d).toArray) rfl (by kernel_rfl) (by kernel_rfl) (by kernel_rfl) (fun _ _ _ h => h) (yieldsIf_load_mid (by rfl) 24 (.tmp 16) rfl g 2 rfl _ _ (fun W' hW' => rangeZ hW'.1) Tryd.underlying24 rfl (by rw [bvs_length, HD.out]; kernel_rfl)) hHeld ?_
  try simp only [Act.put, List.setIfInBounds_toArray, List.set_cons_zero, List.set_cons_succ]
  refine wpAnyH_take (i := 11) (oi := ⟨some 18, _, _, _, _, _⟩) (v := .pointer (some ⟨h, 2, none⟩)) rfl (by kernel_rfl) (by kernel_rfl) (by kernel_rfl) (fun _ _ _ h => h) (.inl ⟨by rfl, fun w' hSw => ?_⟩) hHeld ?_
  focus (skip; clear hHeld; go_simp)
  try simp only [Act.put, List.setIfInBounds_toArray, List.set_cons_zero, List.set_cons_succ]
  refine wpAnyH_take (i := 12) (oi := ⟨some 19, _, _, _, _, _⟩) (v := .agg (bvs d').toArray) rfl (by kernel_rfl) (by kernel_rfl) (by kernel_rfl) (fun _ _ _ h => h) (yieldsIf_load_mid (by rfl) 24 (.tmp 18) rfl h 2 rfl _ _ (fun W' hW' => rangeZ hW'.2) Tryd.underlying24 rfl (by rw [bvs_length, HD'.out]; kernel_rfl)) hHeld ?_
  try simp only [Act.put, List.setIfInBounds_toArray, List.set_cons_zero, List.set_cons_succ]
  refine wpAnyH_take (i := 13) (oi := ⟨some 20, _, _, _, _, _⟩) (v := .bool false) rfl (by kernel_rfl) (by kernel_rfl) (by kernel_rfl) (fun _ _ _ h => h) (.inl ⟨by rfl, fun w' hSw => ?_⟩) hHeld ?_
  focus (skip; clear hHeld; go_simp)
  try simp only [Act.put, List.setIfInBounds_toArray, List.set_cons_zero, List.set_cons_succ]
  refine wpAnyH_take (i := 14) (oi := ⟨some 21, _, _, _, _, _⟩) (v := .bool false) rfl (by kernel_rfl) (by kernel_rfl) (by kernel_rfl) (fun _ _ _ h => h) (.inl ⟨by rfl, fun w' hSw => ?_⟩) hHeld ?_
  focus (skip; clear hHeld; go_simp)
  try simp only [Act.put, List.setIfInBounds_toArray, List.set_cons_zero, List.set_cons_succ]
  refine wpAnyH_take (i := 15) (oi := ⟨some 22, _, _, _, _, _⟩) (v := .bool false) rfl (by kernel_rfl) (by kernel_rfl) (by kernel_rfl) (fun _ _ _ h => h) (.inl ⟨by rfl, fun w' hSw => ?_⟩) hHeld ?_
  focus (skip; clear hHeld; go_simp)
  try simp only [Act.put, List.setIfInBounds_toArray, List.set_cons_zero, List.set_cons_succ]
  refine wpAnyH_take (i := 16) (oi := ⟨some 23, _, _, _, _, _⟩) (v := undef) rfl (by kernel_rfl) (by kernel_rfl) (by kernel_rfl) (fun _ _ _ h => h) (.inr ⟨by rfl, by rfl⟩) hHeld ?_
  try simp only [Act.put, List.setIfInBounds_toArray, List.set_cons_zero, List.set_cons_succ]
  refine wpAnyH_take (i := 17) (oi := ⟨some 24, _, _, _, _, _⟩) (v := undef) rfl (by kernel_rfl) (by kernel_rfl) (by kernel_rfl) (fun _ _ _ h => h) (.inr ⟨by rfl, by rfl⟩) hHeld ?_
  try simp only [Act.put, List.setIfInBounds_toArray, List.set_cons_zero, List.set_cons_succ]
  refine wpAnyH_take (i := 18) (oi := ⟨some 25, _, _, _, _, _⟩) (v := undef) rfl (by kernel_rfl) (by kernel_rfl) (by kernel_rfl) (fun _ _ _ h => h) (.inr ⟨by rfl, by rfl⟩) hHeld ?_
  try simp only [Act.put, List.setIfInBounds_toArray, List.set_cons_zero, List.set_cons_succ]
  refine wpAnyH_take (i := 19) (oi := ⟨some 26, _, _, _, _, _⟩) (v := undef) rfl (by kernel_rfl) (by kernel_rfl) (by kernel_rfl) (fun _ _ _ h => h) (.inr ⟨by rfl, by rfl⟩) hHeld ?_
  try simp only [Act.put, List.setIfInBounds_toArray, List.set_cons_zero, List.set_cons_succ]
  refine wpAnyH_take (i := 20) (oi := ⟨some 27, _, _, _, _, _⟩) (v := undef) rfl (by kernel_rfl) (by kernel_rfl) (by kernel_rfl) (fun _ _ _ h => h) (.inr ⟨by rfl, by rfl⟩) hHeld ?_
  try simp only [Act.put, List.setIfInBounds_toArray, List.set_cons_zero, List.set_cons_succ]
  refine wpAnyH_take (i := 21) (oi := ⟨some 28, _, _, _, _, _⟩) (v := .bool false) rfl (by kernel_rfl) (by kernel_rfl) (by kernel_rfl) (fun _ _ _ h => h) (.inl ⟨by rfl, fun w' hSw => ?_⟩) hHeld ?_
  focus (skip; clear hHeld; go_simp)
  try simp only [Act.put, List.setIfInBounds_toArray, List.set_cons_zero, List.set_cons_succ]
  refine wpAnyH_take (i := 22) (oi := ⟨some 29, _, _, _, _, _⟩) (v := .bool true) rfl (by kernel_rfl) (by kernel_rfl) (by kernel_rfl) (fun _ _ _ h => h) (.inl ⟨by rfl, fun w' hSw => ?_⟩) hHeld ?_
  focus (skip; clear hHeld; go_simp)
  try simp only [Act.put, List.setIfInBounds_toArray, List.set_cons_zero, List.set_cons_succ]
  refine wpAnyH_take (i := 23) (oi := ⟨some 30, _, _, _, _, _⟩) (v := .bool true) rfl (by kernel_rfl) (by kernel_rfl) (by kernel_rfl) (fun _ _ _ h => h) (.inl ⟨by rfl, fun w' hSw => ?_⟩) hHeld ?_
  focus (skip; clear hHeld; go_simp)
  try simp only [Act.put, List.setIfInBounds_toArray, List.set_cons_zero, List.set_cons_succ]
  refine wpAnyH_take (i := 24) (oi := ⟨some 31, _, _, _, _, _⟩) (v := zkV v r d) rfl (by kernel_rfl) (by kernel_rfl) (by kernel_rfl) (fun _ _ _ h => h) (yieldsIf_load_mid (by rfl) 26 (.tmp 2) rfl g 0 rfl _ _ (fun W' hW' => hW'.1.range) Tryd.underlying26 rfl (by rw [zc_length HD.out]; kernel_rfl)) hHeld ?_
  try simp only [Act.put, List.setIfInBounds_toArray, List.set_cons_zero, List.set_cons_succ]
  refine wpAnyH_take (i := 25) (oi := ⟨some 32, _, _, _, _, _⟩) (v := zkV v' r' d') rfl (by kernel_rfl) (by kernel_rfl) (by kernel_rfl) (fun _ _ _ h => h) (yieldsIf_load_mid (by rfl) 26 (.tmp 3) rfl h 0 rfl _ _ (fun W' hW' => hW'.2.range) Tryd.underlying26 rfl (by rw [zc_length HD'.out]; kernel_rfl)) hHeld ?_
  try simp only [Act.put, List.setIfInBounds_toArray, List.set_cons_zero, List.set_cons_succ]
  refine wpAnyH_ready (rs := [26]) (by kernel_rfl) (by simp) ?_
  refine AllReadyH.cons (o := ⟨some 33, _, _, _, _, _⟩) rfl (fun K' hK' => ?_) AllReadyH.nil
  refine stepw_call (R := fun u w'' => u = .bool false ∧ Below W3.heap.size W3 w'') (by rfl) ?_ ((znewer_any v r v' r' d d' HD.out HD'.out _).mono fun e w'' ⟨h1, h3⟩ => ⟨_, h1, by rw [HE1.out], h3⟩) ?_
  focus go_simp
  rintro u W4 ⟨rfl, b⟩
  have hkn : Arr W4 26 g (zc v r d) ∧ Arr W4 26 h (zc v' r' d') := ⟨hHeld.1.later b, hHeld.2.later b⟩
  refine hK'.out _ _ hkn (fun _ => ?_)
  clear hK' K' hHeld
  have hHeld := hkn
  clear hkn
  have HB4 := Lib.hid (HB3.out.trans (b.mono HB3.out.size))
  clear b HB3
  try simp only [Act.put, List.setIfInBounds_toArray, List.set_cons_zero, List.set_cons_succ]
  refine wpAnyH_take (i := 27) (oi := ⟨some 34, _, _, _, _, _⟩) (v := .bool false) rfl (by kernel_rfl) (by kernel_rfl) (by kernel_rfl) (fun _ _ _ h => h) (.inl ⟨by rfl, fun w' hSw => ?_⟩) hHeld ?_
  focus (skip; clear hHeld; go_simp)
  try simp only [Act.put, List.setIfInBounds_toArray, List.set_cons_zero, List.set_cons_succ]
  refine wpAnyH_take (i := 28) (oi := ⟨some 35, _, _, _, _, _⟩) (v := undef) rfl (by kernel_rfl) (by kernel_rfl) (by kernel_rfl) (fun _ _ _ h => h) (.inr ⟨by rfl, by rfl⟩) hHeld ?_
  try simp only [Act.put, List.setIfInBounds_toArray, List.set_cons_zero, List.set_cons_succ]
  refine wpAnyH_take (i := 29) (oi := ⟨some 36, _, _, _, _, _⟩) (v := undef) rfl (by kernel_rfl) (by kernel_rfl) (by kernel_rfl) (fun _ _ _ h => h) (.inr ⟨by rfl, by rfl⟩) hHeld ?_
  try simp only [Act.put, List.setIfInBounds_toArray, List.set_cons_zero, List.set_cons_succ]
  refine wpAnyH_take (i := 30) (oi := ⟨some 37, _, _, _, _, _⟩) (v := undef) rfl (by kernel_rfl) (by kernel_rfl) (by kernel_rfl) (fun _ _ _ h => h) (.inr ⟨by rfl, by rfl⟩) hHeld ?_
  try simp only [Act.put, List.setIfInBounds_toArray, List.set_cons_zero, List.set_cons_succ]
  refine wpAnyH_take (i := 31) (oi := ⟨some 38, _, _, _, _, _⟩) (v := .bool false) rfl (by kernel_rfl) (by kernel_rfl) (by kernel_rfl) (fun _ _ _ h => h) (.inl ⟨by rfl, fun w' hSw => ?_⟩) hHeld ?_
  focus (skip; clear hHeld; go_simp)
  try simp only [Act.put, List.setIfInBounds_toArray, List.set_cons_zero, List.set_cons_succ]
  refine wpAnyH_take (i := 32) (oi := ⟨some 39, _, _, _, _, _⟩) (v := .bool true) rfl (by kernel_rfl) (by kernel_rfl) (by kernel_rfl) (fun _ _ _ h => h) (.inl ⟨by rfl, fun w' hSw => ?_⟩) hHeld ?_
  focus (skip; clear hHeld; go_simp)
  try simp only [Act.put, List.setIfInBounds_toArray, List.set_cons_zero, List.set_cons_succ]
  refine wpAnyH_take (i := 33) (oi := ⟨some 40, _, _, _, _, _⟩) (v := .bool true) rfl (by kernel_rfl) (by kernel_rfl) (by kernel_rfl) (fun _ _ _ h => h) (.inl ⟨by rfl, fun w' hSw => ?_⟩) hHeld ?_
  focus (skip; clear hHeld; go_simp)
  try simp only [Act.put, List.setIfInBounds_toArray, List.set_cons_zero, List.set_cons_succ]
  refine wpAnyH_take (i := 34) (oi := ⟨some 4, _, _, _, _, _⟩) (v := .bool true) rfl (by kernel_rfl) (by kernel_rfl) (by kernel_rfl) (fun _ _ _ h => h) (.inl ⟨by rfl, fun w' hSw => ?_⟩) hHeld ?_
  focus (skip; clear hHeld; go_simp)
  try simp only [Act.put, List.setIfInBounds_toArray, List.set_cons_zero, List.set_cons_succ]
  refine wpAnyH_done (by kernel_rfl) ?_ _
  refine NoPanic.normal ?_
  clear hHeld
  go_wp2_with fail
  go_ret
  exact ⟨rfl, HB4.out⟩
set_option maxRecDepth 100000 in
set_option maxHeartbeats 2000000 in
theorem newer_walk3 (v r v' r' : Nat) (d d' : List UInt8) (hd : d.length = 32) (hd' : d'.length = 32) (hv : ((v : Int) == (v' : Int)) = true) (hq : ∀ w, (Op.equalIn 10000 24 (.agg (bvs d).toArray) (.agg (bvs d').toArray)).run Tryd.prog w = .ok true w) (hr : (r' : Int) < r) (HE1 : Hid (newerZ v r d v' r' d' = true)) (HE2 : Hid (newerZ v' r' d' v r d = false)) (w : World) (hE : ErrT w) (he : Env w) :
    Calls Tryd.prog 7 #[zkV v r d, zkV v' r' d'] w fun e w' => e = .returned (.bool true) ∧ Below w.heap.size w w' := by
  have HE := Lib.hid hE
  have HV := Lib.hid he
  have HD := Lib.hid hd
  have HD' := Lib.hid hd'
  obtain ⟨a1, a2, hb⟩ := twoZ v r v' r' d d' w 26
  have HA1 := Lib.hid a1
  have HA2 := Lib.hid a2
  have HB := Lib.hid hb
  have HAW := Lib.hid (zawake_any _ (errT_below hE hb) (he.below hb))
  clear hE he hd hd' a1 a2 hb
  go_enter Tryd.func7, Tryd.ntmps7
  go_wp2_with fail
  refine HAW.out.mono ?_
  rintro e w1 ⟨rfl, b1⟩
  have HB1 := Lib.hid (HB.out.trans (b1.mono HB.out.size))
  have HG1 := Lib.hid (And.intro (HA1.out.later b1) (HA2.out.later b1))
  clear b1 HA1 HA2 HB HAW
  go_upto_region 3 with fail
  obtain ⟨g, hg⟩ : ∃ g, g = w.heap.size := ⟨_, rfl⟩
  rw [← hg] at HG1 ⊢
  clear hg
  obtain ⟨h, hh⟩ : ∃ h, h = g + 1 := ⟨_, rfl⟩
  rw [← hh] at HG1 ⊢
  clear hh
  refine wp_region_noPanic ?_
  refine wp_region_held_drew (S := fun W' => Arr W' 26 g (zc v r d) ∧ Arr W' 26 h (zc v' r' d')) (by kernel_rfl) (⟨HG1.out.1.later (Below.refl _ _).drew, HG1.out.2.later (Below.refl _ _).drew⟩) (fun hHeld => ?_)
  try simp only [Act.put]
  have HB2 := Lib.hid (HB1.out.drew)
  generalize w1.drew = W2 at hHeld HB2 ⊢
  clear HB1 HG1
  refine wpAnyH_take (i := 0) (oi := ⟨some 7, _, _, _, _, _⟩) (v := zkV v r d) rfl (by kernel_rfl) (by kernel_rfl) (by kernel_rfl) (fun _ _ _ h => h) (yieldsIf_load_mid (by rfl) 26 (.tmp 2) rfl g 0 rfl _ _ (fun W' hW' => hW'.1.range) Tryd.underlying26 rfl (by rw [zc_length HD.out]; kernel_rfl)) hHeld ?_
  try simp only [Act.put, List.setIfInBounds_toArray, List.set_cons_zero, List.set_cons_succ]
  refine wpAnyH_take (i := 1) (oi := ⟨some 8, _, _, _, _, _⟩) (v := zkV v' r' d') rfl (by kernel_rfl) (by kernel_rfl) (by kernel_rfl) (fun _ _ _ h => h) (yieldsIf_load_mid (by rfl) 26 (.tmp 3) rfl h 0 rfl _ _ (fun W' hW' => hW'.2.range) Tryd.underlying26 rfl (by rw [zc_length HD'.out]; kernel_rfl)) hHeld ?_
  try simp only [Act.put, List.setIfInBounds_toArray, List.set_cons_zero, List.set_cons_succ]
  refine wpAnyH_take (i := 3) (oi := ⟨some 10, _, _, _, _, _⟩) (v := .pointer (some ⟨g, 0, none⟩)) rfl (by kernel_rfl) (by kernel_rfl) (by kernel_rfl) (fun _ _ _ h => h) (.inl ⟨by rfl, fun w' hSw => ?_⟩) hHeld ?_
  focus (skip; clear hHeld; go_simp)
  try simp only [Act.put, List.setIfInBounds_toArray, List.set_cons_zero, List.set_cons_succ]
  refine wpAnyH_take (i := 4) (oi := ⟨some 11, _, _, _, _, _⟩) (v := .int .u8 v) rfl (by kernel_rfl) (by kernel_rfl) (by kernel_rfl) (fun _ _ _ h => h) (.inl ⟨by rfl, fun w' hSw => ?_⟩) hHeld ?_
  focus ((have q0 := hSw.1.cell 0; have q1 := hSw.1.cell 1; have p0 := hSw.2.cell 0; have p1 := hSw.2.cell 1; simp only [zc, List.getElem?_cons_zero, List.getElem?_cons_succ] at q0 q1 p0 p1); clear hHeld; go_simp)
  try simp only [Act.put, List.setIfInBounds_toArray, List.set_cons_zero, List.set_cons_succ]
  refine wpAnyH_take (i := 5) (oi := ⟨some 12, _, _, _, _, _⟩) (v := .pointer (some ⟨h, 0, none⟩)) rfl (by kernel_rfl) (by kernel_rfl) (by kernel_rfl) (fun _ _ _ h => h) (.inl ⟨by rfl, fun w' hSw => ?_⟩) hHeld ?_
  focus (skip; clear hHeld; go_simp)
  try simp only [Act.put, List.setIfInBounds_toArray, List.set_cons_zero, List.set_cons_succ]
  refine wpAnyH_take (i := 6) (oi := ⟨some 13, _, _, _, _, _⟩) (v := .int .u8 v') rfl (by kernel_rfl) (by kernel_rfl) (by kernel_rfl) (fun _ _ _ h => h) (.inl ⟨by rfl, fun w' hSw => ?_⟩) hHeld ?_
  focus ((have q0 := hSw.1.cell 0; have q1 := hSw.1.cell 1; have p0 := hSw.2.cell 0; have p1 := hSw.2.cell 1; simp only [zc, List.getElem?_cons_zero, List.getElem?_cons_succ] at q0 q1 p0 p1); clear hHeld; go_simp)
  try simp only [Act.put, List.setIfInBounds_toArray, List.set_cons_zero, List.set_cons_succ]
  refine wpAnyH_take (i := 7) (oi := ⟨some 14, _, _, _, _, _⟩) (v := .bool true) rfl (by kernel_rfl) (by kernel_rfl) (by kernel_rfl) (fun _ _ _ h => h) (.inl ⟨by rfl, fun w' hSw => ?_⟩) hHeld ?_
  focus (skip; clear hHeld; go_simp)
  try simp only [Act.put, List.setIfInBounds_toArray, List.set_cons_zero, List.set_cons_succ]
  refine wpAnyH_ready (rs := [2]) (by kernel_rfl) (by simp) ?_
  refine AllReadyH.cons (o := ⟨some 9, _, _, _, _, _⟩) rfl (fun K' hK' => ?_) AllReadyH.nil
  refine stepw_call (R := fun u w'' => u = .bool true ∧ Below W2.heap.size W2 w'') (by rfl) ?_ ((znewer_any v r v' r' d d' HD.out HD'.out _).mono fun e w'' ⟨h1, h3⟩ => ⟨_, h1, by rw [HE1.out], h3⟩) ?_
  focus go_simp
  rintro u W3 ⟨rfl, b⟩
  have hkn : Arr W3 26 g (zc v r d) ∧ Arr W3 26 h (zc v' r' d') := ⟨hHeld.1.later b, hHeld.2.later b⟩
  refine hK'.out _ _ hkn (fun _ => ?_)
  clear hK' K' hHeld
  have hHeld := hkn
  clear hkn
  have HB3 := Lib.hid (HB2.out.trans (b.mono HB2.out.size))
  clear b HB2
  try simp only [Act.put, List.setIfInBounds_toArray, List.set_cons_zero, List.set_cons_succ]
  refine wpAnyH_take (i := 8) (oi := ⟨some 15, _, _, _, _, _⟩) (v := .bool true) rfl (by kernel_rfl) (by kernel_rfl) (by kernel_rfl) (fun _ _ _ h => h) (.inl ⟨by rfl, fun w' hSw => ?_⟩) hHeld ?_
  focus (skip; clear hHeld; go_simp)
  try simp only [Act.put, List.setIfInBounds_toArray, List.set_cons_zero, List.set_cons_succ]
  refine wpAnyH_take (i := 9) (oi := ⟨some 16, _, _, _, _, _⟩) (v := .pointer (some ⟨g, 2, none⟩)) rfl (by kernel_rfl) (by kernel_rfl) (by kernel_rfl) (fun _ _ _ h => h) (.inl ⟨by rfl, fun w' hSw => ?_⟩) hHeld ?_
  focus (skip; clear hHeld; go_simp)
  try simp only [Act.put, List.setIfInBounds_toArray, List.set_cons_zero, List.set_cons_succ]
  refine wpAnyH_take (i := 10) (oi := ⟨some 17, _, _, _, _, _⟩) (v := .agg (bvs d).toArray) rfl (by kernel_rfl) (by kernel_rfl) (by kernel_rfl) (fun _ _ _ h => h) (yieldsIf_load_mid (by rfl) 24 (.tmp 16) rfl g 2 rfl _ _ (fun W' hW' => rangeZ hW'.1) Tryd.underlying24 rfl (by rw [bvs_length, HD.out]; kernel_rfl)) hHeld ?_
  try simp only [Act.put, List.setIfInBounds_toArray, List.set_cons_zero, List.set_cons_succ]
  refine wpAnyH_take (i := 11) (oi := ⟨some 18, _, _, _, _, _⟩) (v := .pointer (some ⟨h, 2, none⟩)) rfl (by kernel_rfl) (by kernel_rfl) (by kernel_rfl) (fun _ _ _ h => h) (.inl ⟨by rfl, fun w' hSw => ?_⟩) hHeld ?_
  focus (skip; clear hHeld; go_simp)
  try simp only [Act.put, List.setIfInBounds_toArray, List.set_cons_zero, List.set_cons_succ]
  refine wpAnyH_take (i := 12) (oi := ⟨some 19, _, _, _, _, _⟩) (v := .agg (bvs d').toArray) rfl (by kernel_rfl) (by kernel_rfl) (by kernel_rfl) (fun _ _ _ h => h) (yieldsIf_load_mid (by rfl) 24 (.tmp 18) rfl h 2 rfl _ _ (fun W' hW' => rangeZ hW'.2) Tryd.underlying24 rfl (by rw [bvs_length, HD'.out]; kernel_rfl)) hHeld ?_
  try simp only [Act.put, List.setIfInBounds_toArray, List.set_cons_zero, List.set_cons_succ]
  refine wpAnyH_take (i := 13) (oi := ⟨some 20, _, _, _, _, _⟩) (v := .bool true) rfl (by kernel_rfl) (by kernel_rfl) (by kernel_rfl) (fun _ _ _ h => h) (.inl ⟨by rfl, fun w' hSw => ?_⟩) hHeld ?_
  focus (skip; clear hHeld; go_simp)
  try simp only [Act.put, List.setIfInBounds_toArray, List.set_cons_zero, List.set_cons_succ]
  refine wpAnyH_take (i := 14) (oi := ⟨some 21, _, _, _, _, _⟩) (v := .bool true) rfl (by kernel_rfl) (by kernel_rfl) (by kernel_rfl) (fun _ _ _ h => h) (.inl ⟨by rfl, fun w' hSw => ?_⟩) hHeld ?_
  focus (skip; clear hHeld; go_simp)
  try simp only [Act.put, List.setIfInBounds_toArray, List.set_cons_zero, List.set_cons_succ]
  refine wpAnyH_take (i := 15) (oi := ⟨some 22, _, _, _, _, _⟩) (v := .bool true) rfl (by kernel_rfl) (by kernel_rfl) (by kernel_rfl) (fun _ _ _ h => h) (.inl ⟨by rfl, fun w' hSw => ?_⟩) hHeld ?_
  focus (skip; clear hHeld; go_simp)
  try simp only [Act.put, List.setIfInBounds_toArray, List.set_cons_zero, List.set_cons_succ]
  refine wpAnyH_take (i := 16) (oi := ⟨some 23, _, _, _, _, _⟩) (v := .pointer (some ⟨g, 1, none⟩)) rfl (by kernel_rfl) (by kernel_rfl) (by kernel_rfl) (fun _ _ _ h => h) (.inl ⟨by rfl, fun w' hSw => ?_⟩) hHeld ?_
  focus (skip; clear hHeld; go_simp)
  try simp only [Act.put, List.setIfInBounds_toArray, List.set_cons_zero, List.set_cons_succ]
  refine wpAnyH_take (i := 17) (oi := ⟨some 24, _, _, _, _, _⟩) (v := .int .u64 r) rfl (by kernel_rfl) (by kernel_rfl) (by kernel_rfl) (fun _ _ _ h => h) (.inl ⟨by rfl, fun w' hSw => ?_⟩) hHeld ?_
  focus ((have q0 := hSw.1.cell 0; have q1 := hSw.1.cell 1; have p0 := hSw.2.cell 0; have p1 := hSw.2.cell 1; simp only [zc, List.getElem?_cons_zero, List.getElem?_cons_succ] at q0 q1 p0 p1); clear hHeld; go_simp)
  try simp only [Act.put, List.setIfInBounds_toArray, List.set_cons_zero, List.set_cons_succ]
  refine wpAnyH_take (i := 18) (oi := ⟨some 25, _, _, _, _, _⟩) (v := .pointer (some ⟨h, 1, none⟩)) rfl (by kernel_rfl) (by kernel_rfl) (by kernel_rfl) (fun _ _ _ h => h) (.inl ⟨by rfl, fun w' hSw => ?_⟩) hHeld ?_
  focus (skip; clear hHeld; go_simp)
  try simp only [Act.put, List.setIfInBounds_toArray, List.set_cons_zero, List.set_cons_succ]
  refine wpAnyH_take (i := 19) (oi := ⟨some 26, _, _, _, _, _⟩) (v := .int .u64 r') rfl (by kernel_rfl) (by kernel_rfl) (by kernel_rfl) (fun _ _ _ h => h) (.inl ⟨by rfl, fun w' hSw => ?_⟩) hHeld ?_
  focus ((have q0 := hSw.1.cell 0; have q1 := hSw.1.cell 1; have p0 := hSw.2.cell 0; have p1 := hSw.2.cell 1; simp only [zc, List.getElem?_cons_zero, List.getElem?_cons_succ] at q0 q1 p0 p1); clear hHeld; go_simp)
  try simp only [Act.put, List.setIfInBounds_toArray, List.set_cons_zero, List.set_cons_succ]
  refine wpAnyH_take (i := 20) (oi := ⟨some 27, _, _, _, _, _⟩) (v := .bool true) rfl (by kernel_rfl) (by kernel_rfl) (by kernel_rfl) (fun _ _ _ h => h) (.inl ⟨by rfl, fun w' hSw => ?_⟩) hHeld ?_
  focus (skip; clear hHeld; go_simp)
  try simp only [Act.put, List.setIfInBounds_toArray, List.set_cons_zero, List.set_cons_succ]
  refine wpAnyH_take (i := 21) (oi := ⟨some 28, _, _, _, _, _⟩) (v := .bool true) rfl (by kernel_rfl) (by kernel_rfl) (by kernel_rfl) (fun _ _ _ h => h) (.inl ⟨by rfl, fun w' hSw => ?_⟩) hHeld ?_
  focus (skip; clear hHeld; go_simp)
  try simp only [Act.put, List.setIfInBounds_toArray, List.set_cons_zero, List.set_cons_succ]
  refine wpAnyH_take (i := 22) (oi := ⟨some 29, _, _, _, _, _⟩) (v := .bool true) rfl (by kernel_rfl) (by kernel_rfl) (by kernel_rfl) (fun _ _ _ h => h) (.inl ⟨by rfl, fun w' hSw => ?_⟩) hHeld ?_
  focus (skip; clear hHeld; go_simp)
  try simp only [Act.put, List.setIfInBounds_toArray, List.set_cons_zero, List.set_cons_succ]
  refine wpAnyH_take (i := 23) (oi := ⟨some 30, _, _, _, _, _⟩) (v := .bool true) rfl (by kernel_rfl) (by kernel_rfl) (by kernel_rfl) (fun _ _ _ h => h) (.inl ⟨by rfl, fun w' hSw => ?_⟩) hHeld ?_
  focus (skip; clear hHeld; go_simp)
  try simp only [Act.put, List.setIfInBounds_toArray, List.set_cons_zero, List.set_cons_succ]
  refine wpAnyH_take (i := 24) (oi := ⟨some 31, _, _, _, _, _⟩) (v := zkV v r d) rfl (by kernel_rfl) (by kernel_rfl) (by kernel_rfl) (fun _ _ _ h => h) (yieldsIf_load_mid (by rfl) 26 (.tmp 2) rfl g 0 rfl _ _ (fun W' hW' => hW'.1.range) Tryd.underlying26 rfl (by rw [zc_length HD.out]; kernel_rfl)) hHeld ?_
  try simp only [Act.put, List.setIfInBounds_toArray, List.set_cons_zero, List.set_cons_succ]
  refine wpAnyH_take (i := 25) (oi := ⟨some 32, _, _, _, _, _⟩) (v := zkV v' r' d') rfl (by kernel_rfl) (by kernel_rfl) (by kernel_rfl) (fun _ _ _ h => h) (yieldsIf_load_mid (by rfl) 26 (.tmp 3) rfl h 0 rfl _ _ (fun W' hW' => hW'.2.range) Tryd.underlying26 rfl (by rw [zc_length HD'.out]; kernel_rfl)) hHeld ?_
  try simp only [Act.put, List.setIfInBounds_toArray, List.set_cons_zero, List.set_cons_succ]
  refine wpAnyH_ready (rs := [26]) (by kernel_rfl) (by simp) ?_
  refine AllReadyH.cons (o := ⟨some 33, _, _, _, _, _⟩) rfl (fun K' hK' => ?_) AllReadyH.nil
  refine stepw_call (R := fun u w'' => u = .bool true ∧ Below W3.heap.size W3 w'') (by rfl) ?_ ((znewer_any v r v' r' d d' HD.out HD'.out _).mono fun e w'' ⟨h1, h3⟩ => ⟨_, h1, by rw [HE1.out], h3⟩) ?_
  focus go_simp
  rintro u W4 ⟨rfl, b⟩
  have hkn : Arr W4 26 g (zc v r d) ∧ Arr W4 26 h (zc v' r' d') := ⟨hHeld.1.later b, hHeld.2.later b⟩
  refine hK'.out _ _ hkn (fun _ => ?_)
  clear hK' K' hHeld
  have hHeld := hkn
  clear hkn
  have HB4 := Lib.hid (HB3.out.trans (b.mono HB3.out.size))
  clear b HB3
  try simp only [Act.put, List.setIfInBounds_toArray, List.set_cons_zero, List.set_cons_succ]
  refine wpAnyH_take (i := 27) (oi := ⟨some 34, _, _, _, _, _⟩) (v := .bool true) rfl (by kernel_rfl) (by kernel_rfl) (by kernel_rfl) (fun _ _ _ h => h) (.inl ⟨by rfl, fun w' hSw => ?_⟩) hHeld ?_
  focus (skip; clear hHeld; go_simp)
  try simp only [Act.put, List.setIfInBounds_toArray, List.set_cons_zero, List.set_cons_succ]
  refine wpAnyH_take (i := 28) (oi := ⟨some 35, _, _, _, _, _⟩) (v := zkV v' r' d') rfl (by kernel_rfl) (by kernel_rfl) (by kernel_rfl) (fun _ _ _ h => h) (yieldsIf_load_mid (by rfl) 26 (.tmp 3) rfl h 0 rfl _ _ (fun W' hW' => hW'.2.range) Tryd.underlying26 rfl (by rw [zc_length HD'.out]; kernel_rfl)) hHeld ?_
  try simp only [Act.put, List.setIfInBounds_toArray, List.set_cons_zero, List.set_cons_succ]
  refine wpAnyH_take (i := 29) (oi := ⟨some 36, _, _, _, _, _⟩) (v := zkV v r d) rfl (by kernel_rfl) (by kernel_rfl) (by kernel_rfl) (fun _ _ _ h => h) (yieldsIf_load_mid (by rfl) 26 (.tmp 2) rfl g 0 rfl _ _ (fun W' hW' => hW'.1.range) Tryd.underlying26 rfl (by rw [zc_length HD.out]; kernel_rfl)) hHeld ?_
  try simp only [Act.put, List.setIfInBounds_toArray, List.set_cons_zero, List.set_cons_succ]
  refine wpAnyH_ready (rs := [30]) (by kernel_rfl) (by simp) ?_
  refine AllReadyH.cons (o := ⟨some 37, _, _, _, _, _⟩) rfl (fun K' hK' => ?_) AllReadyH.nil
  refine stepw_call (R := fun u w'' => u = .bool false ∧ Below W4.heap.size W4 w'') (by rfl) ?_ ((znewer_any v' r' v r d' d HD'.out HD.out _).mono fun e w'' ⟨h1, h3⟩ => ⟨_, h1, by rw [HE2.out], h3⟩) ?_
  focus go_simp
  rintro u W5 ⟨rfl, b⟩
  have hkn : Arr W5 26 g (zc v r d) ∧ Arr W5 26 h (zc v' r' d') := ⟨hHeld.1.later b, hHeld.2.later b⟩
  refine hK'.out _ _ hkn (fun _ => ?_)
  clear hK' K' hHeld
  have hHeld := hkn
  clear hkn
  have HB5 := Lib.hid (HB4.out.trans (b.mono HB4.out.size))
  clear b HB4
  try simp only [Act.put, List.setIfInBounds_toArray, List.set_cons_zero, List.set_cons_succ]
  refine wpAnyH_take (i := 31) (oi := ⟨some 38, _, _, _, _, _⟩) (v := .bool false) rfl (by kernel_rfl) (by kernel_rfl) (by kernel_rfl) (fun _ _ _ h => h) (.inl ⟨by rfl, fun w' hSw => ?_⟩) hHeld ?_
  focus (skip; clear hHeld; go_simp)
  try simp only [Act.put, List.setIfInBounds_toArray, List.set_cons_zero, List.set_cons_succ]
  refine wpAnyH_take (i := 32) (oi := ⟨some 39, _, _, _, _, _⟩) (v := .bool true) rfl (by kernel_rfl) (by kernel_rfl) (by kernel_rfl) (fun _ _ _ h => h) (.inl ⟨by rfl, fun w' hSw => ?_⟩) hHeld ?_
  focus (skip; clear hHeld; go_simp)
  try simp only [Act.put, List.setIfInBounds_toArray, List.set_cons_zero, List.set_cons_succ]
  refine wpAnyH_take (i := 33) (oi := ⟨some 40, _, _, _, _, _⟩) (v := .bool true) rfl (by kernel_rfl) (by kernel_rfl) (by kernel_rfl) (fun _ _ _ h => h) (.inl ⟨by rfl, fun w' hSw => ?_⟩) hHeld ?_
  focus (skip; clear hHeld; go_simp)
  try simp only [Act.put, List.setIfInBounds_toArray, List.set_cons_zero, List.set_cons_succ]
  refine wpAnyH_take (i := 34) (oi := ⟨some 4, _, _, _, _, _⟩) (v := .bool true) rfl (by kernel_rfl) (by kernel_rfl) (by kernel_rfl) (fun _ _ _ h => h) (.inl ⟨by rfl, fun w' hSw => ?_⟩) hHeld ?_
  focus (skip; clear hHeld; go_simp)
  try simp only [Act.put, List.setIfInBounds_toArray, List.set_cons_zero, List.set_cons_succ]
  refine wpAnyH_done (by kernel_rfl) ?_ _
  refine NoPanic.normal ?_
  clear hHeld
  go_wp2_with fail
  go_ret
  exact ⟨rfl, HB5.out⟩
set_option maxRecDepth 100000 in
set_option maxHeartbeats 2000000 in
theorem newer_walk4 (v r v' r' : Nat) (d d' : List UInt8) (hd : d.length = 32) (hd' : d'.length = 32) (hv : ((v : Int) == (v' : Int)) = true) (hq : ∀ w, (Op.equalIn 10000 24 (.agg (bvs d).toArray) (.agg (bvs d').toArray)).run Tryd.prog w = .ok true w) (hr : ¬ (r' : Int) < r) (hrn : r ≤ r') (HE1 : Hid (newerZ v r d v' r' d' = false)) (w : World) (hE : ErrT w) (he : Env w) :
    Calls Tryd.prog 7 #[zkV v r d, zkV v' r' d'] w fun e w' => e = .returned (.bool true) ∧ Below w.heap.size w w' := by
  have HE := Lib.hid hE
  have HV := Lib.hid he
  have HD := Lib.hid hd
  have HD' := Lib.hid hd'
  obtain ⟨a1, a2, hb⟩ := twoZ v r v' r' d d' w 26
  have HA1 := Lib.hid a1
  have HA2 := Lib.hid a2
  have HB := Lib.hid hb
  have HAW := Lib.hid (zawake_any _ (errT_below hE hb) (he.below hb))
  clear hE he hd hd' a1 a2 hb
  go_enter Tryd.func7, Tryd.ntmps7
  go_wp2_with fail
  refine HAW.out.mono ?_
  rintro e w1 ⟨rfl, b1⟩
  have HB1 := Lib.hid (HB.out.trans (b1.mono HB.out.size))
  have HG1 := Lib.hid (And.intro (HA1.out.later b1) (HA2.out.later b1))
  clear b1 HA1 HA2 HB HAW
  go_upto_region 3 with fail
  obtain ⟨g, hg⟩ : ∃ g, g = w.heap.size := ⟨_, rfl⟩
  rw [← hg] at HG1 ⊢
  clear hg
  obtain ⟨h, hh⟩ : ∃ h, h = g + 1 := ⟨_, rfl⟩
  rw [← hh] at HG1 ⊢
  clear hh
  refine wp_region_noPanic ?_
  refine wp_region_held_drew (S := fun W' => Arr W' 26 g (zc v r d) ∧ Arr W' 26 h (zc v' r' d')) (by kernel_rfl) (⟨HG1.out.1.later (Below.refl _ _).drew, HG1.out.2.later (Below.refl _ _).drew⟩) (fun hHeld => ?_)
  try simp only [Act.put]
  have HB2 := Lib.hid (HB1.out.drew)
  generalize w1.drew = W2 at hHeld HB2 ⊢
  clear HB1 HG1
  refine wpAnyH_take (i := 0) (oi := ⟨some 7, _, _, _, _, _⟩) (v := zkV v r d) rfl (by kernel_rfl) (by kernel_rfl) (by kernel_rfl) (fun _ _ _ h => h) (yieldsIf_load_mid (by rfl) 26 (.tmp 2) rfl g 0 rfl _ _ (fun W' hW' => hW'.1.range) Tryd.underlying26 rfl (by rw [zc_length HD.out]; kernel_rfl)) hHeld ?_
  try simp only [Act.put, List.setIfInBounds_toArray, List.set_cons_zero, List.set_cons_succ]
  refine wpAnyH_take (i := 1) (oi := ⟨some 8, _, _, _, _, _⟩) (v := zkV v' r' d') rfl (by kernel_rfl) (by kernel_rfl) (by kernel_rfl) (fun _ _ _ h => h) (yieldsIf_load_mid (by rfl) 26 (.tmp 3) rfl h 0 rfl _ _ (fun W' hW' => hW'.2.range) Tryd.underlying26 rfl (by rw [zc_length HD'.out]; kernel_rfl)) hHeld ?_
  try simp only [Act.put, List.setIfInBounds_toArray, List.set_cons_zero, List.set_cons_succ]
  refine wpAnyH_take (i := 3) (oi := ⟨some 10, _, _, _, _, _⟩) (v := .pointer (some ⟨g, 0, none⟩)) rfl (by kernel_rfl) (by kernel_rfl) (by kernel_rfl) (fun _ _ _ h => h) (.inl ⟨by rfl, fun w' hSw => ?_⟩) hHeld ?_
  focus (skip; clear hHeld; go_simp)
  try simp only [Act.put, List.setIfInBounds_toArray, List.set_cons_zero, List.set_cons_succ]
  refine wpAnyH_take (i := 4) (oi := ⟨some 11, _, _, _, _, _⟩) (v := .int .u8 v) rfl (by kernel_rfl) (by kernel_rfl) (by kernel_rfl) (fun _ _ _ h => h) (.inl ⟨by rfl, fun w' hSw => ?_⟩) hHeld ?_
  focus ((have q0 := hSw.1.cell 0; have q1 := hSw.1.cell 1; have p0 := hSw.2.cell 0; have p1 := hSw.2.cell 1; simp only [zc, List.getElem?_cons_zero, List.getElem?_cons_succ] at q0 q1 p0 p1); clear hHeld; go_simp)
  try simp only [Act.put, List.setIfInBounds_toArray, List.set_cons_zero, List.set_cons_succ]
  refine wpAnyH_take (i := 5) (oi := ⟨some 12, _, _, _, _, _⟩) (v := .pointer (some ⟨h, 0, none⟩)) rfl (by kernel_rfl) (by kernel_rfl) (by kernel_rfl) (fun _ _ _ h => h) (.inl ⟨by rfl, fun w' hSw => ?_⟩) hHeld ?_
  focus (skip; clear hHeld; go_simp)
  try simp only [Act.put, List.setIfInBounds_toArray, List.set_cons_zero, List.set_cons_succ]
  refine wpAnyH_take (i := 6) (oi := ⟨some 13, _, _, _, _, _⟩) (v := .int .u8 v') rfl (by kernel_rfl) (by kernel_rfl) (by kernel_rfl) (fun _ _ _ h => h) (.inl ⟨by rfl, fun w' hSw => ?_⟩) hHeld ?_
  focus ((have q0 := hSw.1.cell 0; have q1 := hSw.1.cell 1; have p0 := hSw.2.cell 0; have p1 := hSw.2.cell 1; simp only [zc, List.getElem?_cons_zero, List.getElem?_cons_succ] at q0 q1 p0 p1); clear hHeld; go_simp)
  try simp only [Act.put, List.setIfInBounds_toArray, List.set_cons_zero, List.set_cons_succ]
  refine wpAnyH_take (i := 7) (oi := ⟨some 14, _, _, _, _, _⟩) (v := .bool true) rfl (by kernel_rfl) (by kernel_rfl) (by kernel_rfl) (fun _ _ _ h => h) (.inl ⟨by rfl, fun w' hSw => ?_⟩) hHeld ?_
  focus (skip; clear hHeld; go_simp)
  try simp only [Act.put, List.setIfInBounds_toArray, List.set_cons_zero, List.set_cons_succ]
  refine wpAnyH_ready (rs := [2]) (by kernel_rfl) (by simp) ?_
  refine AllReadyH.cons (o := ⟨some 9, _, _, _, _, _⟩) rfl (fun K' hK' => ?_) AllReadyH.nil
  refine stepw_call (R := fun u w'' => u = .bool false ∧ Below W2.heap.size W2 w'') (by rfl) ?_ ((znewer_any v r v' r' d d' HD.out HD'.out _).mono fun e w'' ⟨h1, h3⟩ => ⟨_, h1, by rw [HE1.out], h3⟩) ?_
  focus go_simp
  rintro u W3 ⟨rfl, b⟩
  have hkn : Arr W3 26 g (zc v r d) ∧ Arr W3 26 h (zc v' r' d') := ⟨hHeld.1.later b, hHeld.2.later b⟩
  refine hK'.out _ _ hkn (fun _ => ?_)
  clear hK' K' hHeld
  have hHeld := hkn
  clear hkn
  have HB3 := Lib.hid (HB2.out.trans (b.mono HB2.out.size))
  clear b HB2
  try simp only [Act.put, List.setIfInBounds_toArray, List.set_cons_zero, List.set_cons_succ]
  refine wpAnyH_take (i := 8) (oi := ⟨some 15, _, _, _, _, _⟩) (v := .bool true) rfl (by kernel_rfl) (by kernel_rfl) (by kernel_rfl) (fun _ _ _ h => h) (.inl ⟨by rfl, fun w' hSw => ?_⟩) hHeld ?_
  focus (skip; clear hHeld; go_simp)
  try simp only [Act.put, List.setIfInBounds_toArray, List.set_cons_zero, List.set_cons_succ]
  refine wpAnyH_take (i := 9) (oi := ⟨some 16, _, _, _, _, _⟩) (v := .pointer (some ⟨g, 2, none⟩)) rfl (by kernel_rfl) (by kernel_rfl) (by kernel_rfl) (fun _ _ _ h => h) (.inl ⟨by rfl, fun w' hSw => ?_⟩) hHeld ?_
  focus (skip; clear hHeld; go_simp)
  try simp only [Act.put, List.setIfInBounds_toArray, List.set_cons_zero, List.set_cons_succ]
  refine wpAnyH_take (i := 10) (oi := ⟨some 17, _, _, _, _, _⟩) (v := .agg (bvs d).toArray) rfl (by kernel_rfl) (by kernel_rfl) (by kernel_rfl) (fun _ _ _ h => h) (yieldsIf_load_mid (by rfl) 24 (.tmp 16) rfl g 2 rfl _ _ (fun W' hW' => rangeZ hW'.1) Tryd.underlying24 rfl (by rw [bvs_length, HD.out]; kernel_rfl)) hHeld ?_
  try simp only [Act.put, List.setIfInBounds_toArray, List.set_cons_zero, List.set_cons_succ]
  refine wpAnyH_take (i := 11) (oi := ⟨some 18, _, _, _, _, _⟩) (v := .pointer (some ⟨h, 2, none⟩)) rfl (by kernel_rfl) (by kernel_rfl) (by kernel_rfl) (fun _ _ _ h => h) (.inl ⟨by rfl, fun w' hSw => ?_⟩) hHeld ?_
  focus (skip; clear hHeld; go_simp)
  try simp only [Act.put, List.setIfInBounds_toArray, List.set_cons_zero, List.set_cons_succ]
  refine wpAnyH_take (i := 12) (oi := ⟨some 19, _, _, _, _, _⟩) (v := .agg (bvs d').toArray) rfl (by kernel_rfl) (by kernel_rfl) (by kernel_rfl) (fun _ _ _ h => h) (yieldsIf_load_mid (by rfl) 24 (.tmp 18) rfl h 2 rfl _ _ (fun W' hW' => rangeZ hW'.2) Tryd.underlying24 rfl (by rw [bvs_length, HD'.out]; kernel_rfl)) hHeld ?_
  try simp only [Act.put, List.setIfInBounds_toArray, List.set_cons_zero, List.set_cons_succ]
  refine wpAnyH_take (i := 13) (oi := ⟨some 20, _, _, _, _, _⟩) (v := .bool true) rfl (by kernel_rfl) (by kernel_rfl) (by kernel_rfl) (fun _ _ _ h => h) (.inl ⟨by rfl, fun w' hSw => ?_⟩) hHeld ?_
  focus (skip; clear hHeld; go_simp)
  try simp only [Act.put, List.setIfInBounds_toArray, List.set_cons_zero, List.set_cons_succ]
  refine wpAnyH_take (i := 14) (oi := ⟨some 21, _, _, _, _, _⟩) (v := .bool true) rfl (by kernel_rfl) (by kernel_rfl) (by kernel_rfl) (fun _ _ _ h => h) (.inl ⟨by rfl, fun w' hSw => ?_⟩) hHeld ?_
  focus (skip; clear hHeld; go_simp)
  try simp only [Act.put, List.setIfInBounds_toArray, List.set_cons_zero, List.set_cons_succ]
  refine wpAnyH_take (i := 15) (oi := ⟨some 22, _, _, _, _, _⟩) (v := .bool true) rfl (by kernel_rfl) (by kernel_rfl) (by kernel_rfl) (fun _ _ _ h => h) (.inl ⟨by rfl, fun w' hSw => ?_⟩) hHeld ?_
  focus (skip; clear hHeld; go_simp)
  try simp only [Act.put, List.setIfInBounds_toArray, List.set_cons_zero, List.set_cons_succ]
  refine wpAnyH_take (i := 16) (oi := ⟨some 23, _, _, _, _, _⟩) (v := .pointer (some ⟨g, 1, none⟩)) rfl (by kernel_rfl) (by kernel_rfl) (by kernel_rfl) (fun _ _ _ h => h) (.inl ⟨by rfl, fun w' hSw => ?_⟩) hHeld ?_
  focus (skip; clear hHeld; go_simp)
  try simp only [Act.put, List.setIfInBounds_toArray, List.set_cons_zero, List.set_cons_succ]
  refine wpAnyH_take (i := 17) (oi := ⟨some 24, _, _, _, _, _⟩) (v := .int .u64 r) rfl (by kernel_rfl) (by kernel_rfl) (by kernel_rfl) (fun _ _ _ h => h) (.inl ⟨by rfl, fun w' hSw => ?_⟩) hHeld ?_
  focus ((have q0 := hSw.1.cell 0; have q1 := hSw.1.cell 1; have p0 := hSw.2.cell 0; have p1 := hSw.2.cell 1; simp only [zc, List.getElem?_cons_zero, List.getElem?_cons_succ] at q0 q1 p0 p1); clear hHeld; go_simp)
  try simp only [Act.put, List.setIfInBounds_toArray, List.set_cons_zero, List.set_cons_succ]
  refine wpAnyH_take (i := 18) (oi := ⟨some 25, _, _, _, _, _⟩) (v := .pointer (some ⟨h, 1, none⟩)) rfl (by kernel_rfl) (by kernel_rfl) (by kernel_rfl) (fun _ _ _ h => h) (.inl ⟨by rfl, fun w' hSw => ?_⟩) hHeld ?_
  focus (skip; clear hHeld; go_simp)
  try simp only [Act.put, List.setIfInBounds_toArray, List.set_cons_zero, List.set_cons_succ]
  refine wpAnyH_take (i := 19) (oi := ⟨some 26, _, _, _, _, _⟩) (v := .int .u64 r') rfl (by kernel_rfl) (by kernel_rfl) (by kernel_rfl) (fun _ _ _ h => h) (.inl ⟨by rfl, fun w' hSw => ?_⟩) hHeld ?_
  focus ((have q0 := hSw.1.cell 0; have q1 := hSw.1.cell 1; have p0 := hSw.2.cell 0; have p1 := hSw.2.cell 1; simp only [zc, List.getElem?_cons_zero, List.getElem?_cons_succ] at q0 q1 p0 p1); clear hHeld; go_simp)
  try simp only [Act.put, List.setIfInBounds_toArray, List.set_cons_zero, List.set_cons_succ]
  refine wpAnyH_take (i := 20) (oi := ⟨some 27, _, _, _, _, _⟩) (v := .bool false) rfl (by kernel_rfl) (by kernel_rfl) (by kernel_rfl) (fun _ _ _ h => h) (.inl ⟨by rfl, fun w' hSw => ?_⟩) hHeld ?_
  focus (skip; clear hHeld; go_simp)
  try simp only [Act.put, List.setIfInBounds_toArray, List.set_cons_zero, List.set_cons_succ]
  refine wpAnyH_take (i := 21) (oi := ⟨some 28, _, _, _, _, _⟩) (v := .bool false) rfl (by kernel_rfl) (by kernel_rfl) (by kernel_rfl) (fun _ _ _ h => h) (.inl ⟨by rfl, fun w' hSw => ?_⟩) hHeld ?_
  focus (skip; clear hHeld; go_simp)
  try simp only [Act.put, List.setIfInBounds_toArray, List.set_cons_zero, List.set_cons_succ]
  refine wpAnyH_take (i := 22) (oi := ⟨some 29, _, _, _, _, _⟩) (v := .bool true) rfl (by kernel_rfl) (by kernel_rfl) (by kernel_rfl) (fun _ _ _ h => h) (.inl ⟨by rfl, fun w' hSw => ?_⟩) hHeld ?_
  focus (skip; clear hHeld; go_simp)
  try simp only [Act.put, List.setIfInBounds_toArray, List.set_cons_zero, List.set_cons_succ]
  refine wpAnyH_take (i := 23) (oi := ⟨some 30, _, _, _, _, _⟩) (v := .bool true) rfl (by kernel_rfl) (by kernel_rfl) (by kernel_rfl) (fun _ _ _ h => h) (.inl ⟨by rfl, fun w' hSw => ?_⟩) hHeld ?_
  focus (skip; clear hHeld; go_simp)
  try simp only [Act.put, List.setIfInBounds_toArray, List.set_cons_zero, List.set_cons_succ]
  refine wpAnyH_take (i := 24) (oi := ⟨some 31, _, _, _, _, _⟩) (v := zkV v r d) rfl (by kernel_rfl) (by kernel_rfl) (by kernel_rfl) (fun _ _ _ h => h) (yieldsIf_load_mid (by rfl) 26 (.tmp 2) rfl g 0 rfl _ _ (fun W' hW' => hW'.1.range) Tryd.underlying26 rfl (by rw [zc_length HD.out]; kernel_rfl)) hHeld ?_
  try simp only [Act.put, List.setIfInBounds_toArray, List.set_cons_zero, List.set_cons_succ]
  refine wpAnyH_take (i := 25) (oi := ⟨some 32, _, _, _, _, _⟩) (v := zkV v' r' d') rfl (by kernel_rfl) (by kernel_rfl) (by kernel_rfl) (fun _ _ _ h => h) (yieldsIf_load_mid (by rfl) 26 (.tmp 3) rfl h 0 rfl _ _ (fun W' hW' => hW'.2.range) Tryd.underlying26 rfl (by rw [zc_length HD'.out]; kernel_rfl)) hHeld ?_
  try simp only [Act.put, List.setIfInBounds_toArray, List.set_cons_zero, List.set_cons_succ]
  refine wpAnyH_ready (rs := [26]) (by kernel_rfl) (by simp) ?_
  refine AllReadyH.cons (o := ⟨some 33, _, _, _, _, _⟩) rfl (fun K' hK' => ?_) AllReadyH.nil
  refine stepw_call (R := fun u w'' => u = .bool false ∧ Below W3.heap.size W3 w'') (by rfl) ?_ ((znewer_any v r v' r' d d' HD.out HD'.out _).mono fun e w'' ⟨h1, h3⟩ => ⟨_, h1, by rw [HE1.out], h3⟩) ?_
  focus go_simp
  rintro u W4 ⟨rfl, b⟩
  have hkn : Arr W4 26 g (zc v r d) ∧ Arr W4 26 h (zc v' r' d') := ⟨hHeld.1.later b, hHeld.2.later b⟩
  refine hK'.out _ _ hkn (fun _ => ?_)
  clear hK' K' hHeld
  have hHeld := hkn
  clear hkn
  have HB4 := Lib.hid (HB3.out.trans (b.mono HB3.out.size))
  clear b HB3
  try simp only [Act.put, List.setIfInBounds_toArray, List.set_cons_zero, List.set_cons_succ]
  refine wpAnyH_take (i := 27) (oi := ⟨some 34, _, _, _, _, _⟩) (v := .bool false) rfl (by kernel_rfl) (by kernel_rfl) (by kernel_rfl) (fun _ _ _ h => h) (.inl ⟨by rfl, fun w' hSw => ?_⟩) hHeld ?_
  focus (skip; clear hHeld; go_simp)
  try simp only [Act.put, List.setIfInBounds_toArray, List.set_cons_zero, List.set_cons_succ]
  refine wpAnyH_take (i := 28) (oi := ⟨some 35, _, _, _, _, _⟩) (v := undef) rfl (by kernel_rfl) (by kernel_rfl) (by kernel_rfl) (fun _ _ _ h => h) (.inr ⟨by rfl, by rfl⟩) hHeld ?_
  try simp only [Act.put, List.setIfInBounds_toArray, List.set_cons_zero, List.set_cons_succ]
  refine wpAnyH_take (i := 29) (oi := ⟨some 36, _, _, _, _, _⟩) (v := undef) rfl (by kernel_rfl) (by kernel_rfl) (by kernel_rfl) (fun _ _ _ h => h) (.inr ⟨by rfl, by rfl⟩) hHeld ?_
  try simp only [Act.put, List.setIfInBounds_toArray, List.set_cons_zero, List.set_cons_succ]
  refine wpAnyH_take (i := 30) (oi := ⟨some 37, _, _, _, _, _⟩) (v := undef) rfl (by kernel_rfl) (by kernel_rfl) (by kernel_rfl) (fun _ _ _ h => h) (.inr ⟨by rfl, by rfl⟩) hHeld ?_
  try simp only [Act.put, List.setIfInBounds_toArray, List.set_cons_zero, List.set_cons_succ]
  refine wpAnyH_take (i := 31) (oi := ⟨some 38, _, _, _, _, _⟩) (v := .bool false) rfl (by kernel_rfl) (by kernel_rfl) (by kernel_rfl) (fun _ _ _ h => h) (.inl ⟨by rfl, fun w' hSw => ?_⟩) hHeld ?_
  focus (skip; clear hHeld; go_simp)
  try simp only [Act.put, List.setIfInBounds_toArray, List.set_cons_zero, List.set_cons_succ]
  refine wpAnyH_take (i := 32) (oi := ⟨some 39, _, _, _, _, _⟩) (v := .bool true) rfl (by kernel_rfl) (by kernel_rfl) (by kernel_rfl) (fun _ _ _ h => h) (.inl ⟨by rfl, fun w' hSw => ?_⟩) hHeld ?_
  focus (skip; clear hHeld; go_simp)
  try simp only [Act.put, List.setIfInBounds_toArray, List.set_cons_zero, List.set_cons_succ]
  refine wpAnyH_take (i := 33) (oi := ⟨some 40, _, _, _, _, _⟩) (v := .bool true) rfl (by kernel_rfl) (by kernel_rfl) (by kernel_rfl) (fun _ _ _ h => h) (.inl ⟨by rfl, fun w' hSw => ?_⟩) hHeld ?_
  focus (skip; clear hHeld; go_simp)
  try simp only [Act.put, List.setIfInBounds_toArray, List.set_cons_zero, List.set_cons_succ]
  refine wpAnyH_take (i := 34) (oi := ⟨some 4, _, _, _, _, _⟩) (v := .bool true) rfl (by kernel_rfl) (by kernel_rfl) (by kernel_rfl) (fun _ _ _ h => h) (.inl ⟨by rfl, fun w' hSw => ?_⟩) hHeld ?_
  focus (skip; clear hHeld; go_simp)
  try simp only [Act.put, List.setIfInBounds_toArray, List.set_cons_zero, List.set_cons_succ]
  refine wpAnyH_done (by kernel_rfl) ?_ _
  refine NoPanic.normal ?_
  clear hHeld
  go_wp2_with fail
  go_ret
  exact ⟨rfl, HB4.out⟩
theorem newer_walk (v r v' r' : Nat) (d d' : List UInt8) (hd : d.length = 32) (hd' : d'.length = 32) (w : World) (hE : ErrT w) (he : Env w) :
    Calls Tryd.prog 7 #[zkV v r d, zkV v' r' d'] w fun e w' => e = .returned (.bool true) ∧ Below w.heap.size w w' := by
  have hq := eqInD hd hd'
  by_cases a : v = v'
  · have a' : ((v : Int) == (v' : Int)) = true := by rw [beq_iff_eq]; omega
    by_cases b : d = d'
    · have hdd : (d == d') = true := by simpa using b
      rw [hdd] at hq
      by_cases c : r' < r
      · exact newer_walk3 v r v' r' d d' hd hd' a' hq (by omega) (show _ = _ by unfold newerZ; simp [a, b, c]) (show _ = _ by unfold newerZ; simp [a, b]; omega) w hE he
      · exact newer_walk4 v r v' r' d d' hd hd' a' hq (by omega) (by omega) (show _ = _ by unfold newerZ; simp [a, b]; omega) w hE he
    · have hdd : (d == d') = false := by simpa using b
      rw [hdd] at hq
      exact newer_walk2 v r v' r' d d' hd hd' a' hq (show _ = _ by unfold newerZ; simp [b]) w hE he
  · have a' : ((v : Int) == (v' : Int)) = false := by rw [beq_eq_false_iff_ne]; omega
    exact newer_walk1 v r v' r' d d' hd hd' a' (show _ = _ by unfold newerZ; simp [a]) w hE he
theorem newer_law (n0 r0 : Nat) (d0 : List UInt8) (n1 r1 : Nat) (d1 : List UInt8) (w : World) (hl0 : d0.length = 32) (hb0 : n0 < 256) (hw0 : r0 < lim64) (hl1 : d1.length = 32) (hb1 : n1 < 256) (hw1 : r1 < lim64) (hE : ErrT w) (he : Env w) :
    Calls Tryd.prog 7 #[zkV n0 r0 d0, zkV n1 r1 d1] w fun e w' => e = .returned (.bool true) ∧ Below w.heap.size w w' :=
  newer_walk n0 r0 n1 r1 d0 d1 hl0 hl1 w hE he
end Go.Proofs.YtaikdbbakdicgaaDoor
/-
  vestrylaw22.ZookieMatchesReference: the walk.
-/
namespace Go.Proofs.YtaikdbbakdicgaaDoor
open Go.ChangeShapes Go.WideShapes Go.ChangeAt Go.RowKit
open errAs (ErrT)
set_option linter.unusedVariables false

set_option maxRecDepth 100000 in
set_option maxHeartbeats 4000000 in
theorem matches_law (v0 : Value) (k : List UInt8) (v r : Nat) (d : List UInt8) (w : World) (hr : Rd w.heap.size w v0 k) (hd : d.length = 32) (hvb : v < 256) (hrb : r < lim64) (hE : ErrT w) (he : Env w) :
    Calls Tryd.prog 3 #[v0, zkV v r d] w fun e w' => e = .returned (.bool true) ∧ Below w.heap.size w w' := by
  have HE := Lib.hid hE
  have HV := Lib.hid he
  have HD := Lib.hid hd
  have hb0 : Below w.heap.size w (w.alloc (.cells (zc v r d).toArray 26)) := (Below.refl _ _).alloc (Nat.le_refl _) _
  have HB0 := Lib.hid hb0
  have HA0 := Lib.hid (Arr.new' w 26 (zc v r d).toArray _ rfl)
  have HR0 := Lib.hid (rd_now (B := 0) hr hb0)
  have HAW := Lib.hid (zawake_any _ (errT_below hE hb0) (he.below hb0))
  obtain ⟨qk, ck, rfl⟩ := rd_form hr
  clear hE he hr hb0 hd
  by_cases hbig : 200 < k.length
  · have h1 : (200 : Int) < k.length := by omega
    go_enter Tryd.func3, Tryd.ntmps3
    go_wp2_with fail
    refine HAW.out.mono ?_
    rintro e w1 ⟨rfl, b1⟩
    have HB1 := Lib.hid (HB0.out.trans (b1.mono HB0.out.size))
    have HAW2 := Lib.hid (zawake_any _ (errT_below HE.out HB1.out) (HV.out.below HB1.out))
    clear b1
    go_wp2_with fail
    refine HAW2.out.mono ?_
    rintro e w2 ⟨rfl, b2⟩
    have HB2 := Lib.hid (HB1.out.trans (b2.mono HB1.out.size))
    clear b2
    go_wp2_with fail
    go_ret
    exact ⟨rfl, HB2.out⟩
  · have h1 : ¬ (200 : Int) < k.length := by omega
    have HKL : Hid (k.length ≤ 200) := Nat.le_of_not_lt hbig
    clear hbig
    by_cases hc : checkZ v r = 0
    · obtain ⟨rfl, hrl⟩ : v = 1 ∧ r < lim63 := by
        unfold checkZ at hc
        split at hc
        · cases hc
        · split at hc
          · cases hc
          · rename_i a b
            exact ⟨Classical.not_not.1 a, by omega⟩
      have HRL := Lib.hid hrl
      have HC0 := Lib.hid hc
      clear hrl hc
      go_enter Tryd.func3, Tryd.ntmps3
      go_wp2_with fail
      refine HAW.out.mono ?_
      rintro e w1 ⟨rfl, b1⟩
      have HB1 := Lib.hid (HB0.out.trans (b1.mono HB0.out.size))
      have HR1 := Lib.hid (rd_now (B := 0) HR0.out b1)
      have HA1 := Lib.hid (HA0.out.later b1)
      clear b1 HR0 HA0 HB0 HAW
      go_wp2_with ((with_reducible refine loadZw (x := .tmp 3) (o := ⟨some 23, _, _, _, _, _⟩) HA1.out HD.out ?_ ?_); exact ⟨rfl, rfl, rfl⟩)
      refine (zpay_yes r d HRL.out HD.out _).mono ?_
      rintro e w2 ⟨v2, rfl, p2, b2⟩
      have HB2 := Lib.hid (HB1.out.trans (b2.mono HB1.out.size))
      have HR2 := Lib.hid (rd_now (B := 0) HR1.out b2)
      have HA2 := Lib.hid (HA1.out.later b2)
      have HP2 := Lib.hid p2
      clear b2 HR1 HA1 HB1
      obtain ⟨p, hp⟩ : ∃ p, p = payZ r d := ⟨_, rfl⟩
      have hplen := payZ_len HRL.out HD.out
      rw [← hp] at HP2 hplen
      have HPE := Lib.hid hp
      have HPN := Lib.hid hplen
      obtain ⟨q2, c2, rfl⟩ := rd_form HP2.out
      clear hp hplen p2
      go_wp2_with ((with_reducible refine loadZw (x := .tmp 3) (o := ⟨some 29, _, _, _, _, _⟩) HA2.out HD.out ?_ ?_); exact ⟨rfl, rfl, rfl⟩)
      refine (zmint_yes r d HR2.out (by have := HKL.out; omega) HRL.out HD.out (HV.out.below HB2.out)).mono ?_
      rintro e w3 ⟨rfl, b3⟩
      obtain ⟨S, hS⟩ : ∃ S, S = signZ k p := ⟨_, rfl⟩
      obtain ⟨T, hT⟩ : ∃ T, T = str S := ⟨_, rfl⟩
      rw [← HPE.out, ← hS, ← hT]
      have HS : Hid (str (signZ k (payZ r d)) = T ∧ T.data.toList = S ∧ verZ k S = (1, r, d, 0, 0) ∧ T.size ≤ 1000) := by
        refine ⟨by rw [hT, hS, HPE.out], by rw [hT]; rfl, by rw [hS, HPE.out, verZ_sign, parseZ_pay HRL.out HD.out], ?_⟩
        have h1 := signZ_len (k := k) (b := p)
        have := HPN.out
        rw [hT, show (str S).size = S.length from rfl, hS]
        omega
      clear hS hT
      have HP3 := Lib.hid (rd_now (B := 0) HP2.out b3)
      have HB3 := Lib.hid (HB2.out.trans (b3.mono HB2.out.size))
      have HR3 := Lib.hid (rd_now (B := 0) HR2.out b3)
      have HA3 := Lib.hid (HA2.out.later b3)
      clear b3 HR2 HA2 HB2
      clear HP2
      go_wp2_with ((with_reducible refine loadZw (x := .tmp 3) (o := ⟨some 33, _, _, _, _, _⟩) HA3.out HD.out ?_ ?_); exact ⟨rfl, rfl, rfl⟩)
      refine (rzcheck_any 1 r d HD.out _).mono ?_
      rintro e w4 ⟨rfl, b4⟩
      rw [HC0.out]
      have HP4 := Lib.hid (rd_now (B := 0) HP3.out b4)
      have HB4 := Lib.hid (HB3.out.trans (b4.mono HB3.out.size))
      have HR4 := Lib.hid (rd_now (B := 0) HR3.out b4)
      have HA4 := Lib.hid (HA3.out.later b4)
      clear b4 HR3 HA3 HB3
      clear HP3
      have HPA : Hid (Calls Tryd.prog 12 #[.slice q2 p.length c2] w4 fun e w' => e = .returned (.tuple #[zkV 1 r d, .nilIface]) ∧ Below w4.heap.size w4 w') := by
        have h := zparse_any HP4.out (Nat.le_refl _) (by have := HPN.out; omega) (errT_below HE.out HB4.out)
        rw [show parseZ p = (1, r, d, 0, 0) by rw [HPE.out, parseZ_pay HRL.out HD.out]] at h
        exact h
      go_wp2_with fail
      refine HPA.out.mono ?_
      rintro e w5 ⟨rfl, b5⟩
      have HP5 := Lib.hid (rd_now (B := 0) HP4.out b5)
      have HB5 := Lib.hid (HB4.out.trans (b5.mono HB4.out.size))
      have HR5 := Lib.hid (rd_now (B := 0) HR4.out b5)
      have HA5 := Lib.hid (HA4.out.later b5)
      clear b5 HR4 HA4 HB4
      clear HP4 HPA
      have b6 : Below w5.heap.size w5 (w5.alloc (.cells (zc 1 r d).toArray 26)) := (Below.refl _ _).alloc (Nat.le_refl _) _
      have HX6 := Lib.hid (Arr.new' w5 26 (zc 1 r d).toArray _ rfl)
      have HP6 := Lib.hid (rd_now (B := 0) HP5.out b6)
      have HB6 := Lib.hid (HB5.out.trans (b6.mono HB5.out.size))
      have HR6 := Lib.hid (rd_now (B := 0) HR5.out b6)
      have HA6 := Lib.hid (HA5.out.later b6)
      clear b6 HR5 HA5 HB5
      clear HP5
      go_upto_region 9 with ((with_reducible refine atZ w5.heap.size (x := .tmp 10) (y := .tmp 57) (v := 1) (r := r) (d := d) (o := ⟨none, .store _ _ _, _, _, _, _⟩) HD.out ?_ ?_); exact ⟨rfl, rfl, rfl, rfl, rfl, rfl⟩)
      generalize w5.alloc (.cells (zc 1 r d).toArray 26) = w6 at HB6 HR6 HA6 HP6 HX6 ⊢
      generalize w5.heap.size = g6 at HX6 ⊢
      have HVE : Hid (Calls Tryd.prog 13 #[.slice qk k.length ck, .string T] w6 fun e w' => e = .returned (.tuple #[zkV 1 r d, .nilIface]) ∧ Below w6.heap.size w6 w') := by
        have h := zverify_any T HR6.out (by have := HKL.out; omega) (by have := HS.out.2.2.2; omega) (HV.out.below HB6.out) (errT_below HE.out HB6.out)
        rw [HS.out.2.1, HS.out.2.2.1] at h
        exact h
      go_wp2_with fail
      refine HVE.out.mono ?_
      rintro e w7 ⟨rfl, b7⟩
      have HP7 := Lib.hid (rd_now (B := 0) HP6.out b7)
      have HX7 := Lib.hid (HX6.out.later b7)
      have HB7 := Lib.hid (HB6.out.trans (b7.mono HB6.out.size))
      have HR7 := Lib.hid (rd_now (B := 0) HR6.out b7)
      have HA7 := Lib.hid (HA6.out.later b7)
      clear b7 HR6 HA6 HB6
      clear HP6 HX6 HVE
      have b8 : Below w7.heap.size w7 (w7.alloc (.cells (zc 1 r d).toArray 26)) := (Below.refl _ _).alloc (Nat.le_refl _) _
      have HY8 := Lib.hid (Arr.new' w7 26 (zc 1 r d).toArray _ rfl)
      have HP8 := Lib.hid (rd_now (B := 0) HP7.out b8)
      have HX8 := Lib.hid (HX7.out.later b8)
      have HB8 := Lib.hid (HB7.out.trans (b8.mono HB7.out.size))
      have HR8 := Lib.hid (rd_now (B := 0) HR7.out b8)
      have HA8 := Lib.hid (HA7.out.later b8)
      clear b8 HR7 HA7 HB7
      clear HP7 HX7
      go_upto_region 10 with ((with_reducible refine atZ w7.heap.size (x := .tmp 12) (y := .tmp 63) (v := 1) (r := r) (d := d) (o := ⟨none, .store _ _ _, _, _, _, _⟩) HD.out ?_ ?_); exact ⟨rfl, rfl, rfl, rfl, rfl, rfl⟩)
      generalize w7.alloc (.cells (zc 1 r d).toArray 26) = w8 at HB8 HR8 HA8 HP8 HX8 HY8 ⊢
      generalize w7.heap.size = g8 at HY8 ⊢
      have hq2 := fun w => equalZ (v := 1) (r := r) (v' := 1) (r' := r) HD.out HD.out w
      rw [eqZ_refl] at hq2
      go_wp2_with ((with_reducible refine loadZw (x := .tmp 3) (o := ⟨some 68, _, _, _, _, _⟩) HA8.out HD.out ?_ ?_); exact ⟨rfl, rfl, rfl⟩)
      refine (rpay_any r d HRL.out HD.out _).mono ?_
      rintro e w9 ⟨v9, rfl, p9, b9⟩
      rw [← HPE.out] at p9
      have HX9 := Lib.hid (HX8.out.later b9)
      have HY9 := Lib.hid (HY8.out.later b9)
      have HSM := Lib.hid (same_any (rd_now (B := 0) HP8.out b9) p9)
      rw [eqB_refl] at HSM
      obtain ⟨q9, c9, rfl⟩ := rd_form p9
      have HB9 := Lib.hid (HB8.out.trans (b9.mono HB8.out.size))
      have HR9 := Lib.hid (rd_now (B := 0) HR8.out b9)
      have HA9 := Lib.hid (HA8.out.later b9)
      clear b9 HR8 HA8 HB8
      clear HX8 HY8 HP8 p9
      go_wp2_with fail
      refine HSM.out.mono ?_
      rintro e w10 ⟨rfl, n10, rfl⟩
      have b10 := Joins.below_draws w9.heap.size w9 n10
      generalize w9.drewN n10 = w10 at b10 ⊢
      have HX10 := Lib.hid (HX9.out.later b10)
      have HY10 := Lib.hid (HY9.out.later b10)
      have HB10 := Lib.hid (HB9.out.trans (b10.mono HB9.out.size))
      have HR10 := Lib.hid (rd_now (B := 0) HR9.out b10)
      have HA10 := Lib.hid (HA9.out.later b10)
      clear b10 HR9 HA9 HB9
      clear HX9 HY9 HSM
      go_wp2_with ((with_reducible refine loadZw (x := .tmp 3) (o := ⟨some 79, _, _, _, _, _⟩) HA10.out HD.out ?_ ?_); exact ⟨rfl, rfl, rfl⟩)
      refine (rmint_any r d HR10.out (by have := HKL.out; omega) HRL.out HD.out).mono ?_
      rintro e w11 ⟨rfl, b11⟩
      rw [HS.out.1]
      have HX11 := Lib.hid (HX10.out.later b11)
      have HY11 := Lib.hid (HY10.out.later b11)
      have HB11 := Lib.hid (HB10.out.trans (b11.mono HB10.out.size))
      have HR11 := Lib.hid (rd_now (B := 0) HR10.out b11)
      have HA11 := Lib.hid (HA10.out.later b11)
      clear b11 HR10 HA10 HB10
      clear HX10 HY10
      go_wp2_with (first
        | ((with_reducible refine loadZw (x := .tmp 10) (o := ⟨some 88, _, _, _, _, _⟩) HX11.out HD.out ?_ ?_); exact ⟨rfl, rfl, rfl⟩)
        | ((with_reducible refine loadZw (x := .tmp 3) (o := ⟨some 89, _, _, _, _, _⟩) HA11.out HD.out ?_ ?_); exact ⟨rfl, rfl, rfl⟩)
        | ((with_reducible refine loadZw (x := .tmp 12) (o := ⟨some 97, _, _, _, _, _⟩) HY11.out HD.out ?_ ?_); exact ⟨rfl, rfl, rfl⟩)
        | ((with_reducible refine loadZw (x := .tmp 3) (o := ⟨some 98, _, _, _, _, _⟩) HA11.out HD.out ?_ ?_); exact ⟨rfl, rfl, rfl⟩))
      go_ret
      exact ⟨rfl, HB11.out⟩
    · have HC := Lib.hid hc
      clear hc
      go_enter Tryd.func3, Tryd.ntmps3
      go_wp2_with fail
      refine HAW.out.mono ?_
      rintro e w1 ⟨rfl, b1⟩
      have HB1 := Lib.hid (HB0.out.trans (b1.mono HB0.out.size))
      have HR1 := Lib.hid (rd_now (B := 0) HR0.out b1)
      have HA1 := Lib.hid (HA0.out.later b1)
      clear b1 HR0 HA0 HB0 HAW
      have hq := eqlCC
      go_wp2_with ((with_reducible refine loadZw (x := .tmp 3) (o := ⟨some 23, _, _, _, _, _⟩) HA1.out HD.out ?_ ?_); exact ⟨rfl, rfl, rfl⟩)
      refine (zpay_no v r d HD.out HC.out _).mono ?_
      rintro e w2 ⟨rfl, b2⟩
      have HB2 := Lib.hid (HB1.out.trans (b2.mono HB1.out.size))
      have HR2 := Lib.hid (rd_now (B := 0) HR1.out b2)
      have HA2 := Lib.hid (HA1.out.later b2)
      clear b2 HR1 HA1 HB1
      go_wp2_with ((with_reducible refine loadZw (x := .tmp 3) (o := ⟨some 29, _, _, _, _, _⟩) HA2.out HD.out ?_ ?_); exact ⟨rfl, rfl, rfl⟩)
      refine (zmint_no v r d _ HD.out HC.out _).mono ?_
      rintro e w3 ⟨rfl, b3⟩
      rw [show ByteArray.empty = (⟨#[]⟩ : ByteArray) from rfl]
      have HB3 := Lib.hid (HB2.out.trans (b3.mono HB2.out.size))
      have HR3 := Lib.hid (rd_now (B := 0) HR2.out b3)
      have HA3 := Lib.hid (HA2.out.later b3)
      clear b3 HR2 HA2 HB2
      go_wp2_with ((with_reducible refine loadZw (x := .tmp 3) (o := ⟨some 33, _, _, _, _, _⟩) HA3.out HD.out ?_ ?_); exact ⟨rfl, rfl, rfl⟩)
      refine (rzcheck_any v r d HD.out _).mono ?_
      rintro e w4 ⟨rfl, b4⟩
      have HB4 := Lib.hid (HB3.out.trans (b4.mono HB3.out.size))
      have HR4 := Lib.hid (rd_now (B := 0) HR3.out b4)
      have HA4 := Lib.hid (HA3.out.later b4)
      clear b4 HR3 HA3 HB3
      have hc0 := HC.out
      obtain ⟨c, hc⟩ : ∃ c, c = checkZ v r := ⟨_, rfl⟩
      rw [← hc] at hc0 ⊢
      have hc1 : ¬ (c : Int) = 0 := by omega
      have hc2 : ((c : Int) != 0) = true := by rw [bne_iff_ne]; exact hc1
      clear hc
      go_wp2_with fail
      go_ret
      exact ⟨rfl, HB4.out⟩
end Go.Proofs.YtaikdbbakdicgaaDoor
/-
  vestrylaw22.ZookieParses: the walk.
-/
namespace Go.Proofs.YtaikdbbakdicgaaDoor
open Go.ChangeShapes Go.WideShapes Go.ChangeAt Go.RowKit
open errAs (ErrT)
set_option linter.unusedVariables false

set_option maxRecDepth 100000 in
set_option maxHeartbeats 2000000 in
theorem parses_law (v0 : Value) (l : List UInt8) (w : World) (hr : Rd w.heap.size w v0 l) (hE : ErrT w) (he : Env w) :
    Calls Tryd.prog 4 #[v0] w fun e w' => e = .returned (.bool true) ∧ Below w.heap.size w w' := by
  have HE := Lib.hid hE
  have HV := Lib.hid he
  have HR := Lib.hid hr
  have HAW := Lib.hid (zawake_any w hE he)
  obtain ⟨q, cp, rfl⟩ := rd_form hr
  clear hE he hr
  by_cases hbig : 500 < l.length
  · have h1 : (500 : Int) < l.length := by omega
    go_enter Tryd.func4, Tryd.ntmps4
    go_wp2_with fail
    refine HAW.out.mono ?_
    rintro e w1 ⟨rfl, b1⟩
    have HB1 := Lib.hid b1
    have HAW2 := Lib.hid (zawake_any _ (errT_below HE.out b1) (HV.out.below b1))
    clear b1
    go_wp2_with fail
    refine HAW2.out.mono ?_
    rintro e w2 ⟨rfl, b2⟩
    have HB2 := Lib.hid (HB1.out.trans (b2.mono HB1.out.size))
    clear b2
    go_wp2_with fail
    go_ret
    exact ⟨rfl, HB2.out⟩
  · have h1 : ¬ (500 : Int) < l.length := by omega
    rcases parseZ_cases l with ⟨c, n, hc, hpz⟩ | ⟨r, d, hr, hd, hl, hpz⟩
    · have HC := Lib.hid hc
      have HPZ := Lib.hid hpz
      clear hc hpz
      go_enter Tryd.func4, Tryd.ntmps4
      go_wp2_with fail
      refine HAW.out.mono ?_
      rintro e w1 ⟨rfl, b1⟩
      have HB1 := Lib.hid b1
      have HR1 := Lib.hid (rd_now (B := 0) HR.out b1)
      have HPA : Hid (Calls Tryd.prog 12 #[.slice q l.length cp] w1 fun e w' => e = .returned (.tuple #[zkV 0 0 z32, faultN c n]) ∧ Below w1.heap.size w1 w') := by
        have h := zparse_any HR1.out (Nat.le_refl _) (by omega) (errT_below HE.out b1)
        rw [HPZ.out, zkE_bad _ _ HC.out] at h
        exact h
      clear b1 HR HAW
      go_wp2_with fail
      refine HPA.out.mono ?_
      rintro e w2 ⟨rfl, b2⟩
      have hb3 : Below w2.heap.size w2 (w2.alloc (.cells (zc 0 0 z32).toArray 26)) := (Below.refl _ _).alloc (Nat.le_refl _) _
      have HB3 := Lib.hid ((HB1.out.trans (b2.mono HB1.out.size)).trans (hb3.mono (HB1.out.trans (b2.mono HB1.out.size)).size))
      have HR3 := Lib.hid (rd_now (B := 0) (rd_now (B := 0) HR1.out b2) hb3)
      have HA3 := Lib.hid (Arr.new' w2 26 (zc 0 0 z32).toArray _ rfl)
      clear b2 hb3 HPA HB1 HR1
      go_upto_region 4 with ((with_reducible refine atZ w2.heap.size (x := .tmp 3) (y := .tmp 21) (v := 0) (r := 0) (d := z32) (o := ⟨none, .store _ _ _, _, _, _, _⟩) z32_length ?_ ?_); exact ⟨rfl, rfl, rfl, rfl, rfl, rfl⟩)
      generalize w2.alloc (.cells (zc 0 0 z32).toArray 26) = w3 at HB3 HR3 HA3 ⊢
      generalize w2.heap.size = g3 at HA3 ⊢
      have HRP : Hid (Calls Tryd.prog 17 #[.slice q l.length cp] w3 fun e w' => e = .returned (.tuple #[zkV 0 0 z32, .int .i64 (c : Nat), .int .i64 (n : Nat)]) ∧ Below w3.heap.size w3 w') := by
        have h := rparse_any HR3.out (by omega)
        rw [HPZ.out] at h
        exact h
      go_wp2_with fail
      refine HRP.out.mono ?_
      rintro e w4 ⟨rfl, b4⟩
      have hb5 : Below w4.heap.size w4 (w4.alloc (.cells (zc 0 0 z32).toArray 26)) := (Below.refl _ _).alloc (Nat.le_refl _) _
      have HB5 := Lib.hid ((HB3.out.trans (b4.mono HB3.out.size)).trans (hb5.mono (HB3.out.trans (b4.mono HB3.out.size)).size))
      have HR5 := Lib.hid (rd_now (B := 0) (rd_now (B := 0) HR3.out b4) hb5)
      have HA5 := Lib.hid ((HA3.out.later b4).later hb5)
      have HX5 := Lib.hid (Arr.new' w4 26 (zc 0 0 z32).toArray _ rfl)
      clear b4 hb5 HRP HB3 HR3 HA3
      go_upto_region 5 with ((with_reducible refine atZ w4.heap.size (x := .tmp 5) (y := .tmp 26) (v := 0) (r := 0) (d := z32) (o := ⟨none, .store _ _ _, _, _, _, _⟩) z32_length ?_ ?_); exact ⟨rfl, rfl, rfl, rfl, rfl, rfl⟩)
      generalize w4.alloc (.cells (zc 0 0 z32).toArray 26) = w5 at HB5 HR5 HA5 HX5 ⊢
      generalize w4.heap.size = g5 at HX5 ⊢
      have hq2 := fun w => equalZ (v := 0) (r := 0) (v' := 0) (r' := 0) z32_length z32_length w
      rw [eqZ_refl] at hq2
      have HTO : Hid (Calls Tryd.prog 18 #[faultN c n, .int .i64 (c : Nat), .int .i64 (n : Nat)] w5 fun e w' => e = .returned (.bool true) ∧ Below w5.heap.size w5 w') := told_fault c n HC.out w5 (errT_below HE.out HB5.out)
      go_wp2_with (first
        | ((with_reducible refine loadZw (x := .tmp 3) (o := ⟨some 29, _, _, _, _, _⟩) HA5.out z32_length ?_ ?_); exact ⟨rfl, rfl, rfl⟩)
        | ((with_reducible refine loadZw (x := .tmp 5) (o := ⟨some 30, _, _, _, _, _⟩) HX5.out z32_length ?_ ?_); exact ⟨rfl, rfl, rfl⟩))
      refine HTO.out.mono ?_
      rintro e w6 ⟨rfl, b6⟩
      have HB6 := Lib.hid (HB5.out.trans (b6.mono HB5.out.size))
      have HR6 := Lib.hid (rd_now (B := 0) HR5.out b6)
      have HA6 := Lib.hid (HA5.out.later b6)
      clear b6 HTO HB5 HR5 HA5 HX5 hq2
      go_wp2_with ((with_reducible refine loadZw (x := .tmp 3) (o := ⟨some 40, _, _, _, _, _⟩) HA6.out z32_length ?_ ?_); exact ⟨rfl, rfl, rfl⟩)
      refine (zpay_no 0 0 z32 rfl (by decide) _).mono ?_
      rintro e w7 ⟨rfl, b7⟩
      have HB7 := Lib.hid (HB6.out.trans (b7.mono HB6.out.size))
      have hc0 : ¬ (c : Int) = 0 := by have := HC.out; omega
      have hc1 : ((c : Int) != 0) = true := by rw [bne_iff_ne]; exact hc0
      clear b7 HB6 HR6 HA6
      go_wp2_with fail
      go_ret
      exact ⟨rfl, HB7.out⟩
    · have HRL := Lib.hid hr
      have HD := Lib.hid hd
      have HPL := Lib.hid hl
      have HPZ := Lib.hid hpz
      clear hr hd hl hpz
      go_enter Tryd.func4, Tryd.ntmps4
      go_wp2_with fail
      refine HAW.out.mono ?_
      rintro e w1 ⟨rfl, b1⟩
      have HB1 := Lib.hid b1
      have HR1 := Lib.hid (rd_now (B := 0) HR.out b1)
      have HPA : Hid (Calls Tryd.prog 12 #[.slice q l.length cp] w1 fun e w' => e = .returned (.tuple #[zkV 1 r d, .nilIface]) ∧ Below w1.heap.size w1 w') := by
        have h := zparse_any HR1.out (Nat.le_refl _) (by omega) (errT_below HE.out b1)
        rw [HPZ.out] at h
        exact h
      clear b1 HR HAW
      go_wp2_with fail
      refine HPA.out.mono ?_
      rintro e w2 ⟨rfl, b2⟩
      have hb3 : Below w2.heap.size w2 (w2.alloc (.cells (zc 1 r d).toArray 26)) := (Below.refl _ _).alloc (Nat.le_refl _) _
      have HB3 := Lib.hid ((HB1.out.trans (b2.mono HB1.out.size)).trans (hb3.mono (HB1.out.trans (b2.mono HB1.out.size)).size))
      have HR3 := Lib.hid (rd_now (B := 0) (rd_now (B := 0) HR1.out b2) hb3)
      have HA3 := Lib.hid (Arr.new' w2 26 (zc 1 r d).toArray _ rfl)
      clear b2 hb3 HPA HB1 HR1
      go_upto_region 4 with ((with_reducible refine atZ w2.heap.size (x := .tmp 3) (y := .tmp 21) (v := 1) (r := r) (d := d) (o := ⟨none, .store _ _ _, _, _, _, _⟩) HD.out ?_ ?_); exact ⟨rfl, rfl, rfl, rfl, rfl, rfl⟩)
      generalize w2.alloc (.cells (zc 1 r d).toArray 26) = w3 at HB3 HR3 HA3 ⊢
      generalize w2.heap.size = g3 at HA3 ⊢
      have HRP : Hid (Calls Tryd.prog 17 #[.slice q l.length cp] w3 fun e w' => e = .returned (.tuple #[zkV 1 r d, .int .i64 (0 : Nat), .int .i64 (0 : Nat)]) ∧ Below w3.heap.size w3 w') := by
        have h := rparse_any HR3.out (by omega)
        rw [HPZ.out] at h
        exact h
      go_wp2_with fail
      refine HRP.out.mono ?_
      rintro e w4 ⟨rfl, b4⟩
      have hb5 : Below w4.heap.size w4 (w4.alloc (.cells (zc 1 r d).toArray 26)) := (Below.refl _ _).alloc (Nat.le_refl _) _
      have HB5 := Lib.hid ((HB3.out.trans (b4.mono HB3.out.size)).trans (hb5.mono (HB3.out.trans (b4.mono HB3.out.size)).size))
      have HR5 := Lib.hid (rd_now (B := 0) (rd_now (B := 0) HR3.out b4) hb5)
      have HA5 := Lib.hid ((HA3.out.later b4).later hb5)
      have HX5 := Lib.hid (Arr.new' w4 26 (zc 1 r d).toArray _ rfl)
      clear b4 hb5 HRP HB3 HR3 HA3
      go_upto_region 5 with ((with_reducible refine atZ w4.heap.size (x := .tmp 5) (y := .tmp 26) (v := 1) (r := r) (d := d) (o := ⟨none, .store _ _ _, _, _, _, _⟩) HD.out ?_ ?_); exact ⟨rfl, rfl, rfl, rfl, rfl, rfl⟩)
      generalize w4.alloc (.cells (zc 1 r d).toArray 26) = w5 at HB5 HR5 HA5 HX5 ⊢
      generalize w4.heap.size = g5 at HX5 ⊢
      have hq2 := fun w => equalZ (v := 1) (r := r) (v' := 1) (r' := r) HD.out HD.out w
      rw [eqZ_refl] at hq2
      have HTO : Hid (Calls Tryd.prog 18 #[.nilIface, .int .i64 (0 : Nat), .int .i64 (0 : Nat)] w5 fun e w' => e = .returned (.bool true) ∧ Below w5.heap.size w5 w') := (told_none 0 w5).mono fun e w' ⟨h1, h2⟩ => ⟨h1, h2 ▸ Below.refl _ _⟩
      go_wp2_with (first
        | ((with_reducible refine loadZw (x := .tmp 3) (o := ⟨some 29, _, _, _, _, _⟩) HA5.out HD.out ?_ ?_); exact ⟨rfl, rfl, rfl⟩)
        | ((with_reducible refine loadZw (x := .tmp 5) (o := ⟨some 30, _, _, _, _, _⟩) HX5.out HD.out ?_ ?_); exact ⟨rfl, rfl, rfl⟩))
      refine HTO.out.mono ?_
      rintro e w6 ⟨rfl, b6⟩
      have HB6 := Lib.hid (HB5.out.trans (b6.mono HB5.out.size))
      have HR6 := Lib.hid (rd_now (B := 0) HR5.out b6)
      have HA6 := Lib.hid (HA5.out.later b6)
      clear b6 HTO HB5 HR5 HA5 HX5 hq2
      go_wp2_with ((with_reducible refine loadZw (x := .tmp 3) (o := ⟨some 40, _, _, _, _, _⟩) HA6.out HD.out ?_ ?_); exact ⟨rfl, rfl, rfl⟩)
      refine (zpay_yes r d HRL.out HD.out _).mono ?_
      rintro e w7 ⟨v7, rfl, r7, b7⟩
      rw [← HPL.out] at r7
      have HB7 := Lib.hid (HB6.out.trans (b7.mono HB6.out.size))
      have HSM := Lib.hid (same_any r7 (rd_now (B := 0) HR6.out b7))
      rw [eqB_refl] at HSM
      obtain ⟨q7, c7, rfl⟩ := rd_form r7
      clear b7 r7 HB6 HR6 HA6
      go_wp2_with fail
      refine HSM.out.mono ?_
      rintro e w8 ⟨rfl, n8, rfl⟩
      have HB8 := Lib.hid (below_drewN HB7.out n8)
      clear HSM HB7
      go_wp2_with fail
      go_ret
      exact ⟨rfl, HB8.out⟩
end Go.Proofs.YtaikdbbakdicgaaDoor
/-
  vestrylaw22.ZookieVerifies: the walk.
-/
namespace Go.Proofs.YtaikdbbakdicgaaDoor
open Go.ChangeShapes Go.WideShapes Go.ChangeAt Go.RowKit
open errAs (ErrT)
set_option linter.unusedVariables false

theorem str_back (s : ByteArray) : str s.data.toList = s := by
  cases s
  simp [str]
set_option maxRecDepth 100000 in
set_option maxHeartbeats 2000000 in
theorem verifies_law (v0 : Value) (k : List UInt8) (s : ByteArray) (w : World) (hr : Rd w.heap.size w v0 k) (hs : s.size ≤ maxLen) (hE : ErrT w) (he : Env w) :
    Calls Tryd.prog 5 #[v0, .string s] w fun e w' => e = .returned (.bool true) ∧ Below w.heap.size w w' := by
  have HE := Lib.hid hE
  have HV := Lib.hid he
  have HR := Lib.hid hr
  have HAW := Lib.hid (zawake_any w hE he)
  obtain ⟨qk, ck, rfl⟩ := rd_form hr
  clear hE he hr
  by_cases hbig : 200 < k.length
  · have h1 : (200 : Int) < k.length := by omega
    go_enter Tryd.func5, Tryd.ntmps5
    go_wp2_with fail
    refine HAW.out.mono ?_
    rintro e w1 ⟨rfl, b1⟩
    have HB1 := Lib.hid b1
    have HAW2 := Lib.hid (zawake_any _ (errT_below HE.out b1) (HV.out.below b1))
    clear b1
    go_wp2_with fail
    refine HAW2.out.mono ?_
    rintro e w2 ⟨rfl, b2⟩
    have HB2 := Lib.hid (HB1.out.trans (b2.mono HB1.out.size))
    clear b2
    go_wp2_with fail
    go_ret
    exact ⟨rfl, HB2.out⟩
  · have h1 : ¬ (200 : Int) < k.length := by omega
    by_cases hbs : 500 < s.size
    · have h2 : (500 : Int) < s.size := by omega
      go_enter Tryd.func5, Tryd.ntmps5
      go_wp2_with fail
      refine HAW.out.mono ?_
      rintro e w1 ⟨rfl, b1⟩
      have HB1 := Lib.hid b1
      have HAW2 := Lib.hid (zawake_any _ (errT_below HE.out b1) (HV.out.below b1))
      clear b1
      go_wp2_with fail
      refine HAW2.out.mono ?_
      rintro e w2 ⟨rfl, b2⟩
      have HB2 := Lib.hid (HB1.out.trans (b2.mono HB1.out.size))
      clear b2
      go_wp2_with fail
      go_ret
      exact ⟨rfl, HB2.out⟩
    · have h2 : ¬ (500 : Int) < s.size := by omega
      have HKL : Hid (k.length ≤ 200) := Nat.le_of_not_lt hbig
      have HSL : Hid (s.size ≤ 500) := Nat.le_of_not_lt hbs
      clear hbig hbs
      rcases verZ_cases k s.data.toList with ⟨c, n, hc, hpz⟩ | ⟨r, d, hr, hd, hl, hpz⟩
      · have HC := Lib.hid hc
        have HPZ := Lib.hid hpz
        clear hc hpz
        go_enter Tryd.func5, Tryd.ntmps5
        go_wp2_with fail
        refine HAW.out.mono ?_
        rintro e w1 ⟨rfl, b1⟩
        have HB1 := Lib.hid b1
        have HR1 := Lib.hid (rd_now (B := 0) HR.out b1)
        have HPA : Hid (Calls Tryd.prog 13 #[.slice qk k.length ck, .string s] w1 fun e w' => e = .returned (.tuple #[zkV 0 0 z32, faultN c n]) ∧ Below w1.heap.size w1 w') := by
          have h := zverify_any s HR1.out (by have := HKL.out; omega) (by have := HSL.out; omega) (HV.out.below b1) (errT_below HE.out b1)
          rw [HPZ.out, zkE_bad _ _ HC.out] at h
          exact h
        clear b1 HR HAW
        go_wp2_with fail
        refine HPA.out.mono ?_
        rintro e w2 ⟨rfl, b2⟩
        have hb3 : Below w2.heap.size w2 (w2.alloc (.cells (zc 0 0 z32).toArray 26)) := (Below.refl _ _).alloc (Nat.le_refl _) _
        have HB3 := Lib.hid ((HB1.out.trans (b2.mono HB1.out.size)).trans (hb3.mono (HB1.out.trans (b2.mono HB1.out.size)).size))
        have HR3 := Lib.hid (rd_now (B := 0) (rd_now (B := 0) HR1.out b2) hb3)
        have HA3 := Lib.hid (Arr.new' w2 26 (zc 0 0 z32).toArray _ rfl)
        clear b2 hb3 HPA HB1 HR1
        go_upto_region 4 with ((with_reducible refine atZ w2.heap.size (x := .tmp 5) (y := .tmp 29) (v := 0) (r := 0) (d := z32) (o := ⟨none, .store _ _ _, _, _, _, _⟩) z32_length ?_ ?_); exact ⟨rfl, rfl, rfl, rfl, rfl, rfl⟩)
        generalize w2.alloc (.cells (zc 0 0 z32).toArray 26) = w3 at HB3 HR3 HA3 ⊢
        generalize w2.heap.size = g3 at HA3 ⊢
        have HRP : Hid (Calls Tryd.prog 19 #[.slice qk k.length ck, .string s] w3 fun e w' => e = .returned (.tuple #[zkV 0 0 z32, .int .i64 (c : Nat), .int .i64 (n : Nat)]) ∧ Below w3.heap.size w3 w') := by
          have h := rverify_any s HR3.out (by have := HKL.out; omega) (by have := HSL.out; omega)
          rw [HPZ.out] at h
          exact h
        go_wp2_with fail
        refine HRP.out.mono ?_
        rintro e w4 ⟨rfl, b4⟩
        have hb5 : Below w4.heap.size w4 (w4.alloc (.cells (zc 0 0 z32).toArray 26)) := (Below.refl _ _).alloc (Nat.le_refl _) _
        have HB5 := Lib.hid ((HB3.out.trans (b4.mono HB3.out.size)).trans (hb5.mono (HB3.out.trans (b4.mono HB3.out.size)).size))
        have HR5 := Lib.hid (rd_now (B := 0) (rd_now (B := 0) HR3.out b4) hb5)
        have HA5 := Lib.hid ((HA3.out.later b4).later hb5)
        have HX5 := Lib.hid (Arr.new' w4 26 (zc 0 0 z32).toArray _ rfl)
        clear b4 hb5 HRP HB3 HR3 HA3
        go_upto_region 5 with ((with_reducible refine atZ w4.heap.size (x := .tmp 7) (y := .tmp 35) (v := 0) (r := 0) (d := z32) (o := ⟨none, .store _ _ _, _, _, _, _⟩) z32_length ?_ ?_); exact ⟨rfl, rfl, rfl, rfl, rfl, rfl⟩)
        generalize w4.alloc (.cells (zc 0 0 z32).toArray 26) = w5 at HB5 HR5 HA5 HX5 ⊢
        generalize w4.heap.size = g5 at HX5 ⊢
        have hq2 := fun w => equalZ (v := 0) (r := 0) (v' := 0) (r' := 0) z32_length z32_length w
        rw [eqZ_refl] at hq2
        have HTO : Hid (Calls Tryd.prog 18 #[faultN c n, .int .i64 (c : Nat), .int .i64 (n : Nat)] w5 fun e w' => e = .returned (.bool true) ∧ Below w5.heap.size w5 w') := told_fault c n HC.out w5 (errT_below HE.out HB5.out)
        go_wp2_with (first
          | ((with_reducible refine loadZw (x := .tmp 5) (o := ⟨some 38, _, _, _, _, _⟩) HA5.out z32_length ?_ ?_); exact ⟨rfl, rfl, rfl⟩)
          | ((with_reducible refine loadZw (x := .tmp 7) (o := ⟨some 39, _, _, _, _, _⟩) HX5.out z32_length ?_ ?_); exact ⟨rfl, rfl, rfl⟩))
        refine HTO.out.mono ?_
        rintro e w6 ⟨rfl, b6⟩
        have HB6 := Lib.hid (HB5.out.trans (b6.mono HB5.out.size))
        have HR6 := Lib.hid (rd_now (B := 0) HR5.out b6)
        have HA6 := Lib.hid (HA5.out.later b6)
        clear b6 HTO HB5 HR5 HA5 HX5 hq2
        go_wp2_with ((with_reducible refine loadZw (x := .tmp 5) (o := ⟨some 50, _, _, _, _, _⟩) HA6.out z32_length ?_ ?_); exact ⟨rfl, rfl, rfl⟩)
        refine (zmint_no 0 0 z32 _ rfl (by decide) _).mono ?_
        rintro e w7 ⟨rfl, b7⟩
        have HB7 := Lib.hid (HB6.out.trans (b7.mono HB6.out.size))
        have hc0 : ¬ (c : Int) = 0 := by have := HC.out; omega
        have hc1 : ((c : Int) != 0) = true := by rw [bne_iff_ne]; exact hc0
        clear b7 HB6 HR6 HA6
        go_wp2_with fail
        go_ret
        exact ⟨rfl, HB7.out⟩
      · have HRL := Lib.hid hr
        have HD := Lib.hid hd
        have HPL : Hid (str (signZ k (payZ r d)) = s) := by show _ = _; rw [← hl]; exact str_back s
        have HPZ := Lib.hid hpz
        clear hr hd hl hpz
        go_enter Tryd.func5, Tryd.ntmps5
        go_wp2_with fail
        refine HAW.out.mono ?_
        rintro e w1 ⟨rfl, b1⟩
        have HB1 := Lib.hid b1
        have HR1 := Lib.hid (rd_now (B := 0) HR.out b1)
        have HPA : Hid (Calls Tryd.prog 13 #[.slice qk k.length ck, .string s] w1 fun e w' => e = .returned (.tuple #[zkV 1 r d, .nilIface]) ∧ Below w1.heap.size w1 w') := by
          have h := zverify_any s HR1.out (by have := HKL.out; omega) (by have := HSL.out; omega) (HV.out.below b1) (errT_below HE.out b1)
          rw [HPZ.out] at h
          exact h
        clear b1 HR HAW
        go_wp2_with fail
        refine HPA.out.mono ?_
        rintro e w2 ⟨rfl, b2⟩
        have hb3 : Below w2.heap.size w2 (w2.alloc (.cells (zc 1 r d).toArray 26)) := (Below.refl _ _).alloc (Nat.le_refl _) _
        have HB3 := Lib.hid ((HB1.out.trans (b2.mono HB1.out.size)).trans (hb3.mono (HB1.out.trans (b2.mono HB1.out.size)).size))
        have HR3 := Lib.hid (rd_now (B := 0) (rd_now (B := 0) HR1.out b2) hb3)
        have HA3 := Lib.hid (Arr.new' w2 26 (zc 1 r d).toArray _ rfl)
        clear b2 hb3 HPA HB1 HR1
        go_upto_region 4 with ((with_reducible refine atZ w2.heap.size (x := .tmp 5) (y := .tmp 29) (v := 1) (r := r) (d := d) (o := ⟨none, .store _ _ _, _, _, _, _⟩) HD.out ?_ ?_); exact ⟨rfl, rfl, rfl, rfl, rfl, rfl⟩)
        generalize w2.alloc (.cells (zc 1 r d).toArray 26) = w3 at HB3 HR3 HA3 ⊢
        generalize w2.heap.size = g3 at HA3 ⊢
        have HRP : Hid (Calls Tryd.prog 19 #[.slice qk k.length ck, .string s] w3 fun e w' => e = .returned (.tuple #[zkV 1 r d, .int .i64 (0 : Nat), .int .i64 (0 : Nat)]) ∧ Below w3.heap.size w3 w') := by
          have h := rverify_any s HR3.out (by have := HKL.out; omega) (by have := HSL.out; omega)
          rw [HPZ.out] at h
          exact h
        go_wp2_with fail
        refine HRP.out.mono ?_
        rintro e w4 ⟨rfl, b4⟩
        have hb5 : Below w4.heap.size w4 (w4.alloc (.cells (zc 1 r d).toArray 26)) := (Below.refl _ _).alloc (Nat.le_refl _) _
        have HB5 := Lib.hid ((HB3.out.trans (b4.mono HB3.out.size)).trans (hb5.mono (HB3.out.trans (b4.mono HB3.out.size)).size))
        have HR5 := Lib.hid (rd_now (B := 0) (rd_now (B := 0) HR3.out b4) hb5)
        have HA5 := Lib.hid ((HA3.out.later b4).later hb5)
        have HX5 := Lib.hid (Arr.new' w4 26 (zc 1 r d).toArray _ rfl)
        clear b4 hb5 HRP HB3 HR3 HA3
        go_upto_region 5 with ((with_reducible refine atZ w4.heap.size (x := .tmp 7) (y := .tmp 35) (v := 1) (r := r) (d := d) (o := ⟨none, .store _ _ _, _, _, _, _⟩) HD.out ?_ ?_); exact ⟨rfl, rfl, rfl, rfl, rfl, rfl⟩)
        generalize w4.alloc (.cells (zc 1 r d).toArray 26) = w5 at HB5 HR5 HA5 HX5 ⊢
        generalize w4.heap.size = g5 at HX5 ⊢
        have hq2 := fun w => equalZ (v := 1) (r := r) (v' := 1) (r' := r) HD.out HD.out w
        rw [eqZ_refl] at hq2
        have HTO : Hid (Calls Tryd.prog 18 #[.nilIface, .int .i64 (0 : Nat), .int .i64 (0 : Nat)] w5 fun e w' => e = .returned (.bool true) ∧ Below w5.heap.size w5 w') := (told_none 0 w5).mono fun e w' ⟨h1, h2⟩ => ⟨h1, h2 ▸ Below.refl _ _⟩
        go_wp2_with (first
          | ((with_reducible refine loadZw (x := .tmp 5) (o := ⟨some 38, _, _, _, _, _⟩) HA5.out HD.out ?_ ?_); exact ⟨rfl, rfl, rfl⟩)
          | ((with_reducible refine loadZw (x := .tmp 7) (o := ⟨some 39, _, _, _, _, _⟩) HX5.out HD.out ?_ ?_); exact ⟨rfl, rfl, rfl⟩))
        refine HTO.out.mono ?_
        rintro e w6 ⟨rfl, b6⟩
        have HB6 := Lib.hid (HB5.out.trans (b6.mono HB5.out.size))
        have HR6 := Lib.hid (rd_now (B := 0) HR5.out b6)
        have HA6 := Lib.hid (HA5.out.later b6)
        clear b6 HTO HB5 HR5 HA5 HX5 hq2
        go_wp2_with ((with_reducible refine loadZw (x := .tmp 5) (o := ⟨some 50, _, _, _, _, _⟩) HA6.out HD.out ?_ ?_); exact ⟨rfl, rfl, rfl⟩)
        refine (zmint_yes r d HR6.out (by have := HKL.out; omega) HRL.out HD.out (HV.out.below HB6.out)).mono ?_
        rintro e w7 ⟨rfl, b7⟩
        rw [HPL.out]
        have HB7 := Lib.hid (HB6.out.trans (b7.mono HB6.out.size))
        clear b7 HB6 HR6 HA6
        go_wp2_with fail
        go_ret
        exact ⟨rfl, HB7.out⟩
end Go.Proofs.YtaikdbbakdicgaaDoor
