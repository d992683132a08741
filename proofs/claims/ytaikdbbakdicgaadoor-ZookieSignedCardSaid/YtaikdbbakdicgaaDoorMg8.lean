/-
  vestrylaw22.ZookieSigned: the walk.
-/
import Derived.Test.YtaikdbbakdicgaaDoorMg7
import Derived.Test.YtaikdbbakdicgaaDoorMg0
import Derived.Deep.Fields
import Derived.ChangeSame
import Derived.SizedLaws
import Derived.HandedShaped
import Derived.OpenShut
namespace Go.Proofs.YtaikdbbakdicgaaDoor
open Go.ChangeShapes Go.WideShapes Go.ChangeAt Go.RowKit
open errAs (ErrT)
set_option linter.unusedVariables false

theorem toList_ne {a b : ByteArray} (h : a ≠ b) : a.toList ≠ b.toList := fun e => h (by
  rw [ByteArray.toList_eq, ByteArray.toList_eq] at e
  cases a; cases b
  exact congrArg _ (Array.toList_inj.1 e))
theorem conv_str2 (w : World) (s : ByteArray) (hs : s.size ≤ maxLen) : ∃ c w', (convert 9 22 (.string s)).run Tryd.prog w = .ok (.slice (some ⟨w.heap.size, 0, none⟩) s.size c) w' ∧ Rd w'.heap.size w' (.slice (some ⟨w.heap.size, 0, none⟩) s.size c) s.data.toList ∧ Below w.heap.size w w' ∧ ∀ i, i < s.size → w'.frozen? ⟨w.heap.size, i, none⟩ = false := by
  refine ⟨_, _, Lib.run_convert_string_bytes w 9 22 5 s Tryd.underlying9 Tryd.underlying22 Tryd.underlying5, ?_, ?_, ?_⟩
  · refine .inr ⟨w.heap.size, 0, _, by rw [str_length], by rw [str_length]; exact grownCap_ge _ _ _ _, grownCap_le_maxLen _ _ _ _ hs, by rw [Lib.bytesWorld_size]; omega, fun i hi => ?_⟩
    rw [Nat.zero_add, Lib.bytesWorld_cell w _ s i (by rw [← str_length]; exact hi)]
    rfl
  · refine ⟨?_, ?_, ?_, by rw [Lib.bytesWorld_size]; omega, fun k hk => Lib.bytesWorld_at_old w _ s k hk⟩
    all_goals (unfold Lib.bytesWorld World.freeze; split <;> rfl)
  · intro i hi
    have hn := Lib.bytesWorld_at_new w 5 s
    have hc := Lib.bytesWorld_cell w 5 s i hi
    simp only [World.cell?, hn] at hc
    have hlt := (Array.getElem?_eq_some_iff.1 hc).1
    simp [World.frozen?, hn]
    omega
theorem index_alpha (x : Nat) (w : World) : (Instr.index 9 (.string ⟨#[65, 66, 67, 68, 69, 70, 71, 72, 73, 74, 75, 76, 77, 78, 79, 80, 81, 82, 83, 84, 85, 86, 87, 88, 89, 90, 97, 98, 99, 100, 101, 102, 103, 104, 105, 106, 107, 108, 109, 110, 111, 112, 113, 114, 115, 116, 117, 118, 119, 120, 121, 122, 48, 49, 50, 51, 52, 53, 54, 55, 56, 57, 45, 95]⟩) (.int .i64 ((x : Int) % 64))).run Tryd.prog w = .ok (.int .u8 (sgn (x % 64)).toNat) w := by
  have hj : x % 64 < 64 := Nat.mod_lt _ (by decide)
  rw [show ((x : Int) % 64) = ((x % 64 : Nat) : Int) by omega]
  generalize x % 64 = j at hj ⊢
  have hg : (⟨#[65, 66, 67, 68, 69, 70, 71, 72, 73, 74, 75, 76, 77, 78, 79, 80, 81, 82, 83, 84, 85, 86, 87, 88, 89, 90, 97, 98, 99, 100, 101, 102, 103, 104, 105, 106, 107, 108, 109, 110, 111, 112, 113, 114, 115, 116, 117, 118, 119, 120, 121, 122, 48, 49, 50, 51, 52, 53, 54, 55, 56, 57, 45, 95]⟩ : ByteArray)[j]? = some (sgn j) := by
    have hh : ∀ n : Fin 64, (alpha[n.val]? == some (sgn n.val)) = true := by decide +kernel
    exact eq_of_beq (hh ⟨j, hj⟩)
  simp only [Instr.index, asIntOf, Sem.run_bind, run_underlying Tryd.underlying9, Sem.run_pure, Result.andThen_ok, Int.toNat_natCast, hg]
  rw [if_pos (by omega)]
  rfl
set_option maxRecDepth 100000 in
set_option maxHeartbeats 4000000 in
theorem signed_law (v0 : Value) (k : List UInt8) (v1 : Value) (b : List UInt8) (a0 x0 : Int) (w : World) (hk : Rd w.heap.size w v0 k) (hr : Rd w.heap.size w v1 b) (ha : (Lit.int .u8 a0).wf = true) (hx : (Lit.int .u8 x0).wf = true) (hE : ErrT w) (he : Env w) :
    Calls Tryd.prog 6 #[v0, v1, .int .u8 a0, .int .u8 x0] w fun e w' => e = .returned (.bool true) ∧ Below w.heap.size w w' := by
  have HE := Lib.hid hE
  have HV := Lib.hid he
  have HK := Lib.hid hk
  have HR := Lib.hid hr
  have HAW := Lib.hid (zawake_any w hE he)
  obtain ⟨a, rfl⟩ : ∃ a : Nat, a0 = a := by
    have hb : 0 ≤ a0 ∧ a0 ≤ 255 := by simpa [Lit.wf, IntKind.min, IntKind.max, IntKind.signed, IntKind.bits] using ha
    exact ⟨a0.toNat, by omega⟩
  obtain ⟨x, rfl⟩ : ∃ x : Nat, x0 = x := by
    have hb : 0 ≤ x0 ∧ x0 ≤ 255 := by simpa [Lit.wf, IntKind.min, IntKind.max, IntKind.signed, IntKind.bits] using hx
    exact ⟨x0.toNat, by omega⟩
  have ha1 : a < 256 := by
    have hb : 0 ≤ (a : Int) ∧ (a : Int) ≤ 255 := by simpa [Lit.wf, IntKind.min, IntKind.max, IntKind.signed, IntKind.bits] using ha
    omega
  have hx1 : x < 256 := by
    have hb : 0 ≤ (x : Int) ∧ (x : Int) ≤ 255 := by simpa [Lit.wf, IntKind.min, IntKind.max, IntKind.signed, IntKind.bits] using hx
    omega
  obtain ⟨qk, ck, rfl⟩ := rd_form hk
  obtain ⟨qb, cb, rfl⟩ := rd_form hr
  clear hE he hr hk ha hx
  by_cases hbig : 200 < k.length
  · have h1 : (200 : Int) < k.length := by omega
    go_enter Tryd.func6, Tryd.ntmps6
    go_wp2_with fail
    refine HAW.out.mono ?_
    rintro e w1 ⟨rfl, b1⟩
    have HB1 := Lib.hid b1
    have HAW2 := Lib.hid (zawake_any _ (errT_below HE.out b1) (HV.out.below b1))
    clear b1
    go_wp2_with fail
    refine HAW2.out.mono ?_
    rintro e w2 ⟨rfl, b2⟩
    have HB2 := Lib.hid (HB1.out.trans (b2.mono HB1.out.size))
    clear b2
    go_wp2_with fail
    go_ret
    exact ⟨rfl, HB2.out⟩
  · have h1 : ¬ (200 : Int) < k.length := by omega
    by_cases hbs : 300 < b.length
    · have h2 : (300 : Int) < b.length := by omega
      go_enter Tryd.func6, Tryd.ntmps6
      go_wp2_with fail
      refine HAW.out.mono ?_
      rintro e w1 ⟨rfl, b1⟩
      have HB1 := Lib.hid b1
      have HAW2 := Lib.hid (zawake_any _ (errT_below HE.out b1) (HV.out.below b1))
      clear b1
      go_wp2_with fail
      refine HAW2.out.mono ?_
      rintro e w2 ⟨rfl, b2⟩
      have HB2 := Lib.hid (HB1.out.trans (b2.mono HB1.out.size))
      clear b2
      go_wp2_with fail
      go_ret
      exact ⟨rfl, HB2.out⟩
    · have h2 : ¬ (300 : Int) < b.length := by omega
      have HKL : Hid (k.length ≤ 200) := Nat.le_of_not_lt hbig
      have HBL : Hid (b.length ≤ 300) := Nat.le_of_not_lt hbs
      clear hbig hbs
      obtain ⟨S, hS⟩ : ∃ S, S = signZ k b := ⟨_, rfl⟩
      obtain ⟨T, hT⟩ : ∃ T, T = str S := ⟨_, rfl⟩
      have HS : Hid (str (signZ k b) = T ∧ T.data.toList = S ∧ T.size = S.length ∧ T.size = (8 * (b.length + 32) + 5) / 6 ∧ verZ k S = parseZ b) := by
        refine ⟨by rw [hT, hS], by rw [hT]; rfl, by rw [hT]; rfl, ?_, by rw [hS, verZ_sign]⟩
        rw [hT, show (str S).size = S.length from rfl, hS, signZ, enc_len, List.length_append, hmac_length]
      have HSG := Lib.hid hS
      clear hS hT
      rcases parseZ_cases b with ⟨c, n, hc, hpz⟩ | ⟨r, d, hr, hd, hl, hpz⟩
      · have HC := Lib.hid hc
        have HPZ := Lib.hid hpz
        clear hc hpz
        go_enter Tryd.func6, Tryd.ntmps6
        go_wp2_with fail
        refine HAW.out.mono ?_
        rintro e w1 ⟨rfl, b1⟩
        have HB1 := Lib.hid b1
        have HK1 := Lib.hid (rd_now (B := 0) HK.out b1)
        have HR1 := Lib.hid (rd_now (B := 0) HR.out b1)
        clear b1 HR HK HAW
        go_wp2_with fail
        refine (rsign_any HK1.out (by have := HKL.out; omega) HR1.out (by have := HBL.out; omega)).mono ?_
        rintro e w2 ⟨rfl, b2⟩
        rw [HS.out.1]
        have HB2 := Lib.hid (HB1.out.trans (b2.mono HB1.out.size))
        have HK2 := Lib.hid (rd_now (B := 0) HK1.out b2)
        have HR2 := Lib.hid (rd_now (B := 0) HR1.out b2)
        clear b2 HB1 HK1 HR1
        have HVE : Hid (Calls Tryd.prog 13 #[.slice qk k.length ck, .string T] w2 fun e w' => e = .returned (.tuple #[zkV 0 0 z32, faultN c n]) ∧ Below w2.heap.size w2 w') := by
          have h := zverify_any T HK2.out (by have := HKL.out; omega) (by have := HS.out.2.2.2.1; have := HBL.out; omega) (HV.out.below HB2.out) (errT_below HE.out HB2.out)
          rw [HS.out.2.1, HS.out.2.2.2.2, HPZ.out, zkE_bad _ _ HC.out] at h
          exact h
        go_wp2_with fail
        refine HVE.out.mono ?_
        rintro e w3 ⟨rfl, b3⟩
        have HB3 := Lib.hid (HB2.out.trans (b3.mono HB2.out.size))
        have HK3 := Lib.hid (rd_now (B := 0) HK2.out b3)
        have HR3 := Lib.hid (rd_now (B := 0) HR2.out b3)
        have b4 : Below w3.heap.size w3 (w3.alloc (.cells (zc 0 0 z32).toArray 26)) := (Below.refl _ _).alloc (Nat.le_refl _) _
        have HB4 := Lib.hid (HB3.out.trans (b4.mono HB3.out.size))
        have HK4 := Lib.hid (rd_now (B := 0) HK3.out b4)
        have HR4 := Lib.hid (rd_now (B := 0) HR3.out b4)
        have HA4 := Lib.hid (Arr.new' w3 26 (zc 0 0 z32).toArray _ rfl)
        clear b3 b4 HVE HB2 HK2 HR2 HB3 HK3 HR3
        go_upto_region 4 with ((with_reducible refine atZ w3.heap.size (x := .tmp 9) (y := .tmp 37) (v := 0) (r := 0) (d := z32) (o := ⟨none, .store _ _ _, _, _, _, _⟩) z32_length ?_ ?_); exact ⟨rfl, rfl, rfl, rfl, rfl, rfl⟩)
        generalize w3.alloc (.cells (zc 0 0 z32).toArray 26) = w4 at HB4 HK4 HR4 HA4 ⊢
        generalize w3.heap.size = g4 at HA4 ⊢
        have HRP : Hid (Calls Tryd.prog 17 #[.slice qb b.length cb] w4 fun e w' => e = .returned (.tuple #[zkV 0 0 z32, .int .i64 (c : Nat), .int .i64 (n : Nat)]) ∧ Below w4.heap.size w4 w') := by
          have h := rparse_any HR4.out (by have := HBL.out; omega)
          rw [HPZ.out] at h
          exact h
        go_wp2_with fail
        refine HRP.out.mono ?_
        rintro e w5 ⟨rfl, b5⟩
        have HB5 := Lib.hid (HB4.out.trans (b5.mono HB4.out.size))
        have HK5 := Lib.hid (rd_now (B := 0) HK4.out b5)
        have HR5 := Lib.hid (rd_now (B := 0) HR4.out b5)
        have b6 : Below w5.heap.size w5 (w5.alloc (.cells (zc 0 0 z32).toArray 26)) := (Below.refl _ _).alloc (Nat.le_refl _) _
        have HB6 := Lib.hid (HB5.out.trans (b6.mono HB5.out.size))
        have HK6 := Lib.hid (rd_now (B := 0) HK5.out b6)
        have HR6 := Lib.hid (rd_now (B := 0) HR5.out b6)
        have HA6 := Lib.hid ((HA4.out.later b5).later b6)
        have HX6 := Lib.hid (Arr.new' w5 26 (zc 0 0 z32).toArray _ rfl)
        clear b5 b6 HRP HB4 HK4 HR4 HA4 HB5 HK5 HR5
        go_upto_region 5 with ((with_reducible refine atZ w5.heap.size (x := .tmp 11) (y := .tmp 42) (v := 0) (r := 0) (d := z32) (o := ⟨none, .store _ _ _, _, _, _, _⟩) z32_length ?_ ?_); exact ⟨rfl, rfl, rfl, rfl, rfl, rfl⟩)
        generalize w5.alloc (.cells (zc 0 0 z32).toArray 26) = w6 at HB6 HK6 HR6 HA6 HX6 ⊢
        generalize w5.heap.size = g6 at HX6 ⊢
        have hq2 := fun w => equalZ (v := 0) (r := 0) (v' := 0) (r' := 0) z32_length z32_length w
        rw [eqZ_refl] at hq2
        have HTO : Hid (Calls Tryd.prog 18 #[faultN c n, .int .i64 (c : Nat), .int .i64 (n : Nat)] w6 fun e w' => e = .returned (.bool true) ∧ Below w6.heap.size w6 w') := told_fault c n HC.out w6 (errT_below HE.out HB6.out)
        go_wp2_with (first
          | ((with_reducible refine loadZw (x := .tmp 9) (o := ⟨some 45, _, _, _, _, _⟩) HA6.out z32_length ?_ ?_); exact ⟨rfl, rfl, rfl⟩)
          | ((with_reducible refine loadZw (x := .tmp 11) (o := ⟨some 46, _, _, _, _, _⟩) HX6.out z32_length ?_ ?_); exact ⟨rfl, rfl, rfl⟩))
        refine HTO.out.mono ?_
        rintro e w7 ⟨rfl, b7⟩
        have HB7 := Lib.hid (HB6.out.trans (b7.mono HB6.out.size))
        have HK7 := Lib.hid (rd_now (B := 0) HK6.out b7)
        have HR7 := Lib.hid (rd_now (B := 0) HR6.out b7)
        clear b7 HTO HB6 HK6 HR6 HA6 HX6 hq2
        go_wp2_with fail
        refine (rsign_any HK7.out (by have := HKL.out; omega) HR7.out (by have := HBL.out; omega)).mono ?_
        rintro e w8 ⟨rfl, b8⟩
        rw [HS.out.1]
        have HB8 := Lib.hid (HB7.out.trans (b8.mono HB7.out.size))
        have HK8 := Lib.hid (rd_now (B := 0) HK7.out b8)
        have HR8 := Lib.hid (rd_now (B := 0) HR7.out b8)
        clear b8 HB7 HK7 HR7
        have hcv := conv_str2 w8 T (by have := HS.out.2.2.2.1; have := HBL.out; unfold maxLen; omega)
        obtain ⟨cs, w9, hrun, r9, b9, hfr⟩ := hcv
        rw [HS.out.2.1] at r9
        have HRUN := Lib.hid hrun
        have HB89 := Lib.hid b9
        have HB9 := Lib.hid (HB8.out.trans (b9.mono HB8.out.size))
        have HK9 := Lib.hid (rd_now (B := 0) HK8.out b9)
        have HR9 := Lib.hid (rd_now (B := 0) HR8.out b9)
        have HG : Hid (w.heap.size ≤ w8.heap.size) := HB8.out.size
        obtain ⟨N, hN⟩ : ∃ N, N = T.size := ⟨_, rfl⟩
        rw [← hN] at hrun r9 hfr
        have HN : Hid (N = T.size ∧ N = S.length) := ⟨hN, by rw [hN, HS.out.2.2.1]⟩
        obtain ⟨i, hi⟩ : ∃ i, i = N - 2 - a % 40 := ⟨_, rfl⟩
        have hbn := HBL.out
        have hlen := HS.out.2.2.2.1
        have hNb : N = (8 * (b.length + 32) + 5) / 6 := by rw [hN, hlen]
        have HI : Hid (8 * b.length ≤ 6 * i ∧ 6 * i + 6 ≤ 8 * (b.length + 32) ∧ i < N) := by show _ ∧ _; omega
        have i1 : (N : Int) - 2 - (a : Int) % 40 = i := by omega
        have i2 : (N : Int) - 2 - ((a % 40 : Nat) : Int) = i := by omega
        have i3 : (i : Int) < N := by omega
        have i4 : (0 : Int) ≤ i := by omega
        have hix := index_alpha x
        dsimp only at hix
        have n1 : 43 ≤ N := by omega
        have n2 : N ≤ 500 := by omega
        have hf := hfr i (by omega)
        have hcell : ∃ u, w9.cell? ⟨w8.heap.size, i, none⟩ = some u := by
          rcases r9 with ⟨_, _, h⟩ | ⟨bk, of, cp, hv, _, _, _, h⟩
          · exfalso
            have q1 := HN.out.2
            have q2 := HI.out.2.2
            rw [h, List.length_nil] at q1
            omega
          · simp only [Value.slice.injEq, Option.some.injEq, Addr.mk.injEq] at hv
            obtain ⟨⟨rfl, rfl, _⟩, _, rfl⟩ := hv
            have := h i (by have := HN.out.2; have := HI.out.2.2; omega)
            rw [Nat.zero_add] at this
            exact ⟨_, this⟩
        obtain ⟨u, hu⟩ := hcell
        have HR9' := Lib.hid r9
        clear r9 hfr hN hi hlen hNb hbn b9
        go_upto_region 10 with fail
        have HS10 : Hid (Rd (w9.setCell ⟨w8.heap.size, i, none⟩ (.int .u8 (sgn (x % 64)).toNat)).heap.size (w9.setCell ⟨w8.heap.size, i, none⟩ (.int .u8 (sgn (x % 64)).toNat)) (.slice (some ⟨w8.heap.size, 0, none⟩) N cs) (S.set i (sgn (x % 64)))) := by
          rcases HR9'.out with ⟨_, _, h⟩ | ⟨bk, of, cp, hv, y1, y2, y3, h⟩
          · exfalso
            have q1 := HN.out.2
            have q2 := HI.out.2.2
            rw [h, List.length_nil] at q1
            omega
          · simp only [Value.slice.injEq, Option.some.injEq, Addr.mk.injEq] at hv
            obtain ⟨⟨rfl, rfl, _⟩, e2, rfl⟩ := hv
            refine .inr ⟨_, 0, cs, by rw [List.length_set, ← e2], by rw [List.length_set]; exact y1, y2, by simpa [World.setCell] using y3, fun j hj => ?_⟩
            rw [List.length_set] at hj
            by_cases e : j = i
            · subst e
              rw [Nat.zero_add, World.cell?_setCell_same _ _ _ hu]
              simp [List.getD_eq_getElem?_getD, hj, bv]
            · rw [Nat.zero_add, World.cell?_setCell_other _ _ _ _ (fun h => e (by injection h with _ h _; exact h.symm)), ← Nat.zero_add j, h j hj]
              congr 2
              simp [List.getD_eq_getElem?_getD, Ne.symm e]
        have HB10 : Hid (Below w.heap.size w (w9.setCell ⟨w8.heap.size, i, none⟩ (.int .u8 (sgn (x % 64)).toNat))) := HB9.out.setCell (by exact HG.out) _
        have hbk := HB89.out.setCell (p := ⟨w8.heap.size, i, none⟩) (by exact Nat.le_refl _) (.int .u8 (sgn (x % 64)).toNat)
        have HK10 := Lib.hid (rd_now (B := 0) HK8.out hbk)
        have HR10 := Lib.hid (rd_now (B := 0) HR8.out hbk)
        obtain ⟨S', hS'⟩ : ∃ S', S' = S.set i (sgn (x % 64)) := ⟨_, rfl⟩
        rw [← hS'] at HS10
        obtain ⟨T', hT'⟩ : ∃ T', T' = str S' := ⟨_, rfl⟩
        have HT' : Hid (T' = str S' ∧ T'.data.toList = S' ∧ T'.size = S'.length ∧ S'.length = N) := ⟨hT', by rw [hT']; rfl, by rw [hT']; rfl, by rw [hS', List.length_set]; exact HN.out.2.symm⟩
        have HSP : Hid (T' ≠ T → verZ k S' = badZ 12 b.length) := fun hne => by
          have e : signZ k b = S := HSG.out.symm
          have hse : S' ≠ S := fun h => hne (by rw [hT', h, ← HS.out.1, e])
          have := spoilt (k := k) (b := b) (i := i) (g := x % 64) HI.out.1 HI.out.2.1 (Nat.mod_lt _ (by decide)) (by rw [e, ← hS']; exact hse)
          rw [e, ← hS'] at this
          exact this
        have HN500 := Lib.hid n2
        clear hu hf hix hbk HR9' HB9 HK9 HR9 HB8 HK8 HR8 HB89 HRUN hrun hS' hT' n1 n2 i1 i2 i3 i4
        generalize (w9.setCell ⟨w8.heap.size, i, none⟩ (.int .u8 (sgn (x % 64)).toNat)) = w10 at HS10 HB10 HK10 HR10 ⊢
        generalize w8.heap.size = g8 at HS10 HG ⊢
        refine wp_region_noPanic ?_
        refine wp_region_held_drew (S := fun W' => Below w10.heap.size w10 W') (by kernel_rfl) ((Below.refl _ _).drew) (fun hHeld => ?_)
        try simp only [Act.put]
        generalize w10.drew = W2 at hHeld ⊢
        refine wpAnyH_take (i := 0) (oi := ⟨some 73, _, _, _, _, _⟩) (v := .slice (some ⟨g8, 0, none⟩) N cs) rfl (by kernel_rfl) (by kernel_rfl) (by kernel_rfl) (fun _ _ _ h => h) (.inl ⟨by rfl, fun w' hSw => ?_⟩) hHeld ?_
        focus (skip; clear hHeld; go_simp)
        try simp only [Act.put, List.setIfInBounds_toArray, List.set_cons_zero, List.set_cons_succ]
        refine wpAnyH_take (i := 1) (oi := ⟨some 74, _, _, _, _, _⟩) (v := .string T') rfl (by kernel_rfl) (by kernel_rfl) (by kernel_rfl) (fun _ _ _ h => h) (.inl ⟨by rfl, fun w' hSw => ?_⟩) hHeld ?_
        focus ((have hq := conv_bytes (rd_now (B := 0) HS10.out hSw); rw [← HT'.out.1] at hq); clear hHeld; go_simp)
        try simp only [Act.put, List.setIfInBounds_toArray, List.set_cons_zero, List.set_cons_succ]
        refine wpAnyH_take (i := 2) (oi := ⟨some 75, _, _, _, _, _⟩) (v := .slice qk k.length ck) rfl (by kernel_rfl) (by kernel_rfl) (by kernel_rfl) (fun _ _ _ h => h) (.inl ⟨by rfl, fun w' hSw => ?_⟩) hHeld ?_
        focus (skip; clear hHeld; go_simp)
        try simp only [Act.put, List.setIfInBounds_toArray, List.set_cons_zero, List.set_cons_succ]
        refine wpAnyH_take (i := 3) (oi := ⟨some 76, _, _, _, _, _⟩) (v := .slice qb b.length cb) rfl (by kernel_rfl) (by kernel_rfl) (by kernel_rfl) (fun _ _ _ h => h) (.inl ⟨by rfl, fun w' hSw => ?_⟩) hHeld ?_
        focus (skip; clear hHeld; go_simp)
        try simp only [Act.put, List.setIfInBounds_toArray, List.set_cons_zero, List.set_cons_succ]
        refine wpAnyH_ready (rs := [4]) (by kernel_rfl) (by simp) ?_
        refine AllReadyH.cons (o := ⟨some 77, _, _, _, _, _⟩) rfl (fun K' hK' => ?_) AllReadyH.nil
        refine stepw_call (R := fun v' w'' => v' = .string T ∧ Below W2.heap.size W2 w'') (by rfl) ?_ ((rsign_any (rd_now (B := 0) HK10.out hHeld) (by have := HKL.out; omega) (rd_now (B := 0) HR10.out hHeld) (by have := HBL.out; omega)).mono fun e w'' ⟨h1, h3⟩ => ⟨_, h1, by rw [HS.out.1], h3⟩) ?_
        focus go_simp
        rintro v77 w11 ⟨rfl, b11⟩
        have hkn := hHeld.trans (b11.mono hHeld.size)
        refine hK'.out _ _ hkn (fun _ => ?_)
        clear hK' K' hHeld
        have hHeld := hkn
        clear hkn b11
        obtain ⟨E, hE⟩ : ∃ E, E = (T'.toList == T.toList) := ⟨_, rfl⟩
        have hEq : (T'.toList == T.toList) = E := hE.symm
        have HEE := Lib.hid hE
        clear hE
        try simp only [Act.put, List.setIfInBounds_toArray, List.set_cons_zero, List.set_cons_succ]
        refine wpAnyH_take (i := 5) (oi := ⟨some 78, _, _, _, _, _⟩) (v := .bool E) rfl (by kernel_rfl) (by kernel_rfl) (by kernel_rfl) (fun _ _ _ h => h) (.inl ⟨by rfl, fun w' hSw => ?_⟩) hHeld ?_
        focus (skip; clear hHeld; go_simp)
        try simp only [Act.put, List.setIfInBounds_toArray, List.set_cons_zero, List.set_cons_succ]
        refine wpAnyH_done (by kernel_rfl) ?_ _
        refine NoPanic.normal ?_
        have HB11 := Lib.hid (HB10.out.trans (hHeld.mono HB10.out.size))
        have HK11 := Lib.hid (rd_now (B := 0) HK10.out hHeld)
        have HS11 := Lib.hid (rd_now (B := 0) HS10.out hHeld)
        have hE := HEE.out
        clear hHeld HB10 HK10 HR10 HS10 hEq
        by_cases htt : T' = T
        · have hEt : E = true := by rw [hE, htt]; exact beq_self_eq_true _
          subst hEt
          clear hE htt
          go_wp2_with fail
          go_ret
          exact ⟨rfl, HB11.out⟩
        · have hEf : E = false := by rw [hE]; exact beq_eq_false_iff_ne.2 (toList_ne htt)
          subst hEf
          have HVZ := Lib.hid (HSP.out htt)
          clear hE htt
          have hcv := conv_bytes HS11.out
          rw [← HT'.out.1] at hcv
          have HVE : Hid (Calls Tryd.prog 13 #[.slice qk k.length ck, .string T'] w11 fun e w' => e = .returned (.tuple #[zkV 0 0 z32, faultN 12 b.length]) ∧ Below w11.heap.size w11 w') := by
            have h := zverify_any T' HK11.out (by have := HKL.out; omega) (by have := HT'.out.2.2; have := HN500.out; omega) (HV.out.below HB11.out) (errT_below HE.out HB11.out)
            rw [HT'.out.2.1, HVZ.out, zkE_bad _ _ (by decide)] at h
            exact h
          go_wp2_with fail
          refine HVE.out.mono ?_
          rintro e w12 ⟨rfl, b12⟩
          have HB12 := Lib.hid (HB11.out.trans (b12.mono HB11.out.size))
          have hb13 : Below w12.heap.size w12 (w12.alloc (.cells (zc 0 0 z32).toArray 26)) := (Below.refl _ _).alloc (Nat.le_refl _) _
          have HB13 := Lib.hid (HB12.out.trans (hb13.mono HB12.out.size))
          have HA13 := Lib.hid (Arr.new' w12 26 (zc 0 0 z32).toArray _ rfl)
          clear b12 hb13 hcv HVE HB11 HK11 HS11 HB12
          go_upto_region 13 with ((with_reducible refine atZ w12.heap.size (x := .tmp 16) (y := .tmp 84) (v := 0) (r := 0) (d := z32) (o := ⟨none, .store _ _ _, _, _, _, _⟩) z32_length ?_ ?_); exact ⟨rfl, rfl, rfl, rfl, rfl, rfl⟩)
          generalize w12.alloc (.cells (zc 0 0 z32).toArray 26) = w13 at HB13 HA13 ⊢
          generalize w12.heap.size = g12 at HA13 ⊢
          have HTO := Lib.hid (told_fault 12 b.length (by decide) w13 (errT_below HE.out HB13.out))
          go_wp2_with fail
          refine HTO.out.mono ?_
          rintro e w14 ⟨rfl, b14⟩
          have HB14 := Lib.hid (HB13.out.trans (b14.mono HB13.out.size))
          have HA14 := Lib.hid (HA13.out.later b14)
          have hq3 : ∀ w, (Op.equalIn 10000 26 (.agg (zc 0 0 z32).toArray) (.agg #[.int .u8 0, .int .u64 0, .int .u8 0, .int .u8 0, .int .u8 0, .int .u8 0, .int .u8 0, .int .u8 0, .int .u8 0, .int .u8 0, .int .u8 0, .int .u8 0, .int .u8 0, .int .u8 0, .int .u8 0, .int .u8 0, .int .u8 0, .int .u8 0, .int .u8 0, .int .u8 0, .int .u8 0, .int .u8 0, .int .u8 0, .int .u8 0, .int .u8 0, .int .u8 0, .int .u8 0, .int .u8 0, .int .u8 0, .int .u8 0, .int .u8 0, .int .u8 0, .int .u8 0, .int .u8 0])).run Tryd.prog w = .ok true w := fun w => by
            have h := equalZ (v := 0) (r := 0) (v' := 0) (r' := 0) z32_length z32_length w
            rw [eqZ_refl] at h
            exact h
          clear b14 HTO HB13 HA13
          go_wp2_with ((with_reducible refine loadZw (x := .tmp 16) (o := ⟨some 91, _, _, _, _, _⟩) HA14.out z32_length ?_ ?_); exact ⟨rfl, rfl, rfl⟩)
          go_ret
          exact ⟨rfl, HB14.out⟩
      · have HRL := Lib.hid hr
        have HD := Lib.hid hd
        have HPZ := Lib.hid hpz
        clear hr hd hl hpz
        go_enter Tryd.func6, Tryd.ntmps6
        go_wp2_with fail
        refine HAW.out.mono ?_
        rintro e w1 ⟨rfl, b1⟩
        have HB1 := Lib.hid b1
        have HK1 := Lib.hid (rd_now (B := 0) HK.out b1)
        have HR1 := Lib.hid (rd_now (B := 0) HR.out b1)
        clear b1 HR HK HAW
        go_wp2_with fail
        refine (rsign_any HK1.out (by have := HKL.out; omega) HR1.out (by have := HBL.out; omega)).mono ?_
        rintro e w2 ⟨rfl, b2⟩
        rw [HS.out.1]
        have HB2 := Lib.hid (HB1.out.trans (b2.mono HB1.out.size))
        have HK2 := Lib.hid (rd_now (B := 0) HK1.out b2)
        have HR2 := Lib.hid (rd_now (B := 0) HR1.out b2)
        clear b2 HB1 HK1 HR1
        have HVE : Hid (Calls Tryd.prog 13 #[.slice qk k.length ck, .string T] w2 fun e w' => e = .returned (.tuple #[zkV 1 r d, .nilIface]) ∧ Below w2.heap.size w2 w') := by
          have h := zverify_any T HK2.out (by have := HKL.out; omega) (by have := HS.out.2.2.2.1; have := HBL.out; omega) (HV.out.below HB2.out) (errT_below HE.out HB2.out)
          rw [HS.out.2.1, HS.out.2.2.2.2, HPZ.out] at h
          exact h
        go_wp2_with fail
        refine HVE.out.mono ?_
        rintro e w3 ⟨rfl, b3⟩
        have HB3 := Lib.hid (HB2.out.trans (b3.mono HB2.out.size))
        have HK3 := Lib.hid (rd_now (B := 0) HK2.out b3)
        have HR3 := Lib.hid (rd_now (B := 0) HR2.out b3)
        have b4 : Below w3.heap.size w3 (w3.alloc (.cells (zc 1 r d).toArray 26)) := (Below.refl _ _).alloc (Nat.le_refl _) _
        have HB4 := Lib.hid (HB3.out.trans (b4.mono HB3.out.size))
        have HK4 := Lib.hid (rd_now (B := 0) HK3.out b4)
        have HR4 := Lib.hid (rd_now (B := 0) HR3.out b4)
        have HA4 := Lib.hid (Arr.new' w3 26 (zc 1 r d).toArray _ rfl)
        clear b3 b4 HVE HB2 HK2 HR2 HB3 HK3 HR3
        go_upto_region 4 with ((with_reducible refine atZ w3.heap.size (x := .tmp 9) (y := .tmp 37) (v := 1) (r := r) (d := d) (o := ⟨none, .store _ _ _, _, _, _, _⟩) HD.out ?_ ?_); exact ⟨rfl, rfl, rfl, rfl, rfl, rfl⟩)
        generalize w3.alloc (.cells (zc 1 r d).toArray 26) = w4 at HB4 HK4 HR4 HA4 ⊢
        generalize w3.heap.size = g4 at HA4 ⊢
        have HRP : Hid (Calls Tryd.prog 17 #[.slice qb b.length cb] w4 fun e w' => e = .returned (.tuple #[zkV 1 r d, .int .i64 (0 : Nat), .int .i64 (0 : Nat)]) ∧ Below w4.heap.size w4 w') := by
          have h := rparse_any HR4.out (by have := HBL.out; omega)
          rw [HPZ.out] at h
          exact h
        go_wp2_with fail
        refine HRP.out.mono ?_
        rintro e w5 ⟨rfl, b5⟩
        have HB5 := Lib.hid (HB4.out.trans (b5.mono HB4.out.size))
        have HK5 := Lib.hid (rd_now (B := 0) HK4.out b5)
        have HR5 := Lib.hid (rd_now (B := 0) HR4.out b5)
        have b6 : Below w5.heap.size w5 (w5.alloc (.cells (zc 1 r d).toArray 26)) := (Below.refl _ _).alloc (Nat.le_refl _) _
        have HB6 := Lib.hid (HB5.out.trans (b6.mono HB5.out.size))
        have HK6 := Lib.hid (rd_now (B := 0) HK5.out b6)
        have HR6 := Lib.hid (rd_now (B := 0) HR5.out b6)
        have HA6 := Lib.hid ((HA4.out.later b5).later b6)
        have HX6 := Lib.hid (Arr.new' w5 26 (zc 1 r d).toArray _ rfl)
        clear b5 b6 HRP HB4 HK4 HR4 HA4 HB5 HK5 HR5
        go_upto_region 5 with ((with_reducible refine atZ w5.heap.size (x := .tmp 11) (y := .tmp 42) (v := 1) (r := r) (d := d) (o := ⟨none, .store _ _ _, _, _, _, _⟩) HD.out ?_ ?_); exact ⟨rfl, rfl, rfl, rfl, rfl, rfl⟩)
        generalize w5.alloc (.cells (zc 1 r d).toArray 26) = w6 at HB6 HK6 HR6 HA6 HX6 ⊢
        generalize w5.heap.size = g6 at HX6 ⊢
        have hq2 := fun w => equalZ (v := 1) (r := r) (v' := 1) (r' := r) HD.out HD.out w
        rw [eqZ_refl] at hq2
        have HTO : Hid (Calls Tryd.prog 18 #[.nilIface, .int .i64 (0 : Nat), .int .i64 (0 : Nat)] w6 fun e w' => e = .returned (.bool true) ∧ Below w6.heap.size w6 w') := (told_none 0 w6).mono fun e w' ⟨h1, h2⟩ => ⟨h1, h2 ▸ Below.refl _ _⟩
        go_wp2_with (first
          | ((with_reducible refine loadZw (x := .tmp 9) (o := ⟨some 45, _, _, _, _, _⟩) HA6.out HD.out ?_ ?_); exact ⟨rfl, rfl, rfl⟩)
          | ((with_reducible refine loadZw (x := .tmp 11) (o := ⟨some 46, _, _, _, _, _⟩) HX6.out HD.out ?_ ?_); exact ⟨rfl, rfl, rfl⟩))
        refine HTO.out.mono ?_
        rintro e w7 ⟨rfl, b7⟩
        have HB7 := Lib.hid (HB6.out.trans (b7.mono HB6.out.size))
        have HK7 := Lib.hid (rd_now (B := 0) HK6.out b7)
        have HR7 := Lib.hid (rd_now (B := 0) HR6.out b7)
        clear b7 HTO HB6 HK6 HR6 HA6 HX6 hq2
        go_wp2_with fail
        refine (rsign_any HK7.out (by have := HKL.out; omega) HR7.out (by have := HBL.out; omega)).mono ?_
        rintro e w8 ⟨rfl, b8⟩
        rw [HS.out.1]
        have HB8 := Lib.hid (HB7.out.trans (b8.mono HB7.out.size))
        have HK8 := Lib.hid (rd_now (B := 0) HK7.out b8)
        have HR8 := Lib.hid (rd_now (B := 0) HR7.out b8)
        clear b8 HB7 HK7 HR7
        have hcv := conv_str2 w8 T (by have := HS.out.2.2.2.1; have := HBL.out; unfold maxLen; omega)
        obtain ⟨cs, w9, hrun, r9, b9, hfr⟩ := hcv
        rw [HS.out.2.1] at r9
        have HRUN := Lib.hid hrun
        have HB89 := Lib.hid b9
        have HB9 := Lib.hid (HB8.out.trans (b9.mono HB8.out.size))
        have HK9 := Lib.hid (rd_now (B := 0) HK8.out b9)
        have HR9 := Lib.hid (rd_now (B := 0) HR8.out b9)
        have HG : Hid (w.heap.size ≤ w8.heap.size) := HB8.out.size
        obtain ⟨N, hN⟩ : ∃ N, N = T.size := ⟨_, rfl⟩
        rw [← hN] at hrun r9 hfr
        have HN : Hid (N = T.size ∧ N = S.length) := ⟨hN, by rw [hN, HS.out.2.2.1]⟩
        obtain ⟨i, hi⟩ : ∃ i, i = N - 2 - a % 40 := ⟨_, rfl⟩
        have hbn := HBL.out
        have hlen := HS.out.2.2.2.1
        have hNb : N = (8 * (b.length + 32) + 5) / 6 := by rw [hN, hlen]
        have HI : Hid (8 * b.length ≤ 6 * i ∧ 6 * i + 6 ≤ 8 * (b.length + 32) ∧ i < N) := by show _ ∧ _; omega
        have i1 : (N : Int) - 2 - (a : Int) % 40 = i := by omega
        have i2 : (N : Int) - 2 - ((a % 40 : Nat) : Int) = i := by omega
        have i3 : (i : Int) < N := by omega
        have i4 : (0 : Int) ≤ i := by omega
        have hix := index_alpha x
        dsimp only at hix
        have n1 : 43 ≤ N := by omega
        have n2 : N ≤ 500 := by omega
        have hf := hfr i (by omega)
        have hcell : ∃ u, w9.cell? ⟨w8.heap.size, i, none⟩ = some u := by
          rcases r9 with ⟨_, _, h⟩ | ⟨bk, of, cp, hv, _, _, _, h⟩
          · exfalso
            have q1 := HN.out.2
            have q2 := HI.out.2.2
            rw [h, List.length_nil] at q1
            omega
          · simp only [Value.slice.injEq, Option.some.injEq, Addr.mk.injEq] at hv
            obtain ⟨⟨rfl, rfl, _⟩, _, rfl⟩ := hv
            have := h i (by have := HN.out.2; have := HI.out.2.2; omega)
            rw [Nat.zero_add] at this
            exact ⟨_, this⟩
        obtain ⟨u, hu⟩ := hcell
        have HR9' := Lib.hid r9
        clear r9 hfr hN hi hlen hNb hbn b9
        go_upto_region 10 with fail
        have HS10 : Hid (Rd (w9.setCell ⟨w8.heap.size, i, none⟩ (.int .u8 (sgn (x % 64)).toNat)).heap.size (w9.setCell ⟨w8.heap.size, i, none⟩ (.int .u8 (sgn (x % 64)).toNat)) (.slice (some ⟨w8.heap.size, 0, none⟩) N cs) (S.set i (sgn (x % 64)))) := by
          rcases HR9'.out with ⟨_, _, h⟩ | ⟨bk, of, cp, hv, y1, y2, y3, h⟩
          · exfalso
            have q1 := HN.out.2
            have q2 := HI.out.2.2
            rw [h, List.length_nil] at q1
            omega
          · simp only [Value.slice.injEq, Option.some.injEq, Addr.mk.injEq] at hv
            obtain ⟨⟨rfl, rfl, _⟩, e2, rfl⟩ := hv
            refine .inr ⟨_, 0, cs, by rw [List.length_set, ← e2], by rw [List.length_set]; exact y1, y2, by simpa [World.setCell] using y3, fun j hj => ?_⟩
            rw [List.length_set] at hj
            by_cases e : j = i
            · subst e
              rw [Nat.zero_add, World.cell?_setCell_same _ _ _ hu]
              simp [List.getD_eq_getElem?_getD, hj, bv]
            · rw [Nat.zero_add, World.cell?_setCell_other _ _ _ _ (fun h => e (by injection h with _ h _; exact h.symm)), ← Nat.zero_add j, h j hj]
              congr 2
              simp [List.getD_eq_getElem?_getD, Ne.symm e]
        have HB10 : Hid (Below w.heap.size w (w9.setCell ⟨w8.heap.size, i, none⟩ (.int .u8 (sgn (x % 64)).toNat))) := HB9.out.setCell (by exact HG.out) _
        have hbk := HB89.out.setCell (p := ⟨w8.heap.size, i, none⟩) (by exact Nat.le_refl _) (.int .u8 (sgn (x % 64)).toNat)
        have HK10 := Lib.hid (rd_now (B := 0) HK8.out hbk)
        have HR10 := Lib.hid (rd_now (B := 0) HR8.out hbk)
        obtain ⟨S', hS'⟩ : ∃ S', S' = S.set i (sgn (x % 64)) := ⟨_, rfl⟩
        rw [← hS'] at HS10
        obtain ⟨T', hT'⟩ : ∃ T', T' = str S' := ⟨_, rfl⟩
        have HT' : Hid (T' = str S' ∧ T'.data.toList = S' ∧ T'.size = S'.length ∧ S'.length = N) := ⟨hT', by rw [hT']; rfl, by rw [hT']; rfl, by rw [hS', List.length_set]; exact HN.out.2.symm⟩
        have HSP : Hid (T' ≠ T → verZ k S' = badZ 12 b.length) := fun hne => by
          have e : signZ k b = S := HSG.out.symm
          have hse : S' ≠ S := fun h => hne (by rw [hT', h, ← HS.out.1, e])
          have := spoilt (k := k) (b := b) (i := i) (g := x % 64) HI.out.1 HI.out.2.1 (Nat.mod_lt _ (by decide)) (by rw [e, ← hS']; exact hse)
          rw [e, ← hS'] at this
          exact this
        have HN500 := Lib.hid n2
        clear hu hf hix hbk HR9' HB9 HK9 HR9 HB8 HK8 HR8 HB89 HRUN hrun hS' hT' n1 n2 i1 i2 i3 i4
        generalize (w9.setCell ⟨w8.heap.size, i, none⟩ (.int .u8 (sgn (x % 64)).toNat)) = w10 at HS10 HB10 HK10 HR10 ⊢
        generalize w8.heap.size = g8 at HS10 HG ⊢
        refine wp_region_noPanic ?_
        refine wp_region_held_drew (S := fun W' => Below w10.heap.size w10 W') (by kernel_rfl) ((Below.refl _ _).drew) (fun hHeld => ?_)
        try simp only [Act.put]
        generalize w10.drew = W2 at hHeld ⊢
        refine wpAnyH_take (i := 0) (oi := ⟨some 73, _, _, _, _, _⟩) (v := .slice (some ⟨g8, 0, none⟩) N cs) rfl (by kernel_rfl) (by kernel_rfl) (by kernel_rfl) (fun _ _ _ h => h) (.inl ⟨by rfl, fun w' hSw => ?_⟩) hHeld ?_
        focus (skip; clear hHeld; go_simp)
        try simp only [Act.put, List.setIfInBounds_toArray, List.set_cons_zero, List.set_cons_succ]
        refine wpAnyH_take (i := 1) (oi := ⟨some 74, _, _, _, _, _⟩) (v := .string T') rfl (by kernel_rfl) (by kernel_rfl) (by kernel_rfl) (fun _ _ _ h => h) (.inl ⟨by rfl, fun w' hSw => ?_⟩) hHeld ?_
        focus ((have hq := conv_bytes (rd_now (B := 0) HS10.out hSw); rw [← HT'.out.1] at hq); clear hHeld; go_simp)
        try simp only [Act.put, List.setIfInBounds_toArray, List.set_cons_zero, List.set_cons_succ]
        refine wpAnyH_take (i := 2) (oi := ⟨some 75, _, _, _, _, _⟩) (v := .slice qk k.length ck) rfl (by kernel_rfl) (by kernel_rfl) (by kernel_rfl) (fun _ _ _ h => h) (.inl ⟨by rfl, fun w' hSw => ?_⟩) hHeld ?_
        focus (skip; clear hHeld; go_simp)
        try simp only [Act.put, List.setIfInBounds_toArray, List.set_cons_zero, List.set_cons_succ]
        refine wpAnyH_take (i := 3) (oi := ⟨some 76, _, _, _, _, _⟩) (v := .slice qb b.length cb) rfl (by kernel_rfl) (by kernel_rfl) (by kernel_rfl) (fun _ _ _ h => h) (.inl ⟨by rfl, fun w' hSw => ?_⟩) hHeld ?_
        focus (skip; clear hHeld; go_simp)
        try simp only [Act.put, List.setIfInBounds_toArray, List.set_cons_zero, List.set_cons_succ]
        refine wpAnyH_ready (rs := [4]) (by kernel_rfl) (by simp) ?_
        refine AllReadyH.cons (o := ⟨some 77, _, _, _, _, _⟩) rfl (fun K' hK' => ?_) AllReadyH.nil
        refine stepw_call (R := fun v' w'' => v' = .string T ∧ Below W2.heap.size W2 w'') (by rfl) ?_ ((rsign_any (rd_now (B := 0) HK10.out hHeld) (by have := HKL.out; omega) (rd_now (B := 0) HR10.out hHeld) (by have := HBL.out; omega)).mono fun e w'' ⟨h1, h3⟩ => ⟨_, h1, by rw [HS.out.1], h3⟩) ?_
        focus go_simp
        rintro v77 w11 ⟨rfl, b11⟩
        have hkn := hHeld.trans (b11.mono hHeld.size)
        refine hK'.out _ _ hkn (fun _ => ?_)
        clear hK' K' hHeld
        have hHeld := hkn
        clear hkn b11
        obtain ⟨E, hE⟩ : ∃ E, E = (T'.toList == T.toList) := ⟨_, rfl⟩
        have hEq : (T'.toList == T.toList) = E := hE.symm
        have HEE := Lib.hid hE
        clear hE
        try simp only [Act.put, List.setIfInBounds_toArray, List.set_cons_zero, List.set_cons_succ]
        refine wpAnyH_take (i := 5) (oi := ⟨some 78, _, _, _, _, _⟩) (v := .bool E) rfl (by kernel_rfl) (by kernel_rfl) (by kernel_rfl) (fun _ _ _ h => h) (.inl ⟨by rfl, fun w' hSw => ?_⟩) hHeld ?_
        focus (skip; clear hHeld; go_simp)
        try simp only [Act.put, List.setIfInBounds_toArray, List.set_cons_zero, List.set_cons_succ]
        refine wpAnyH_done (by kernel_rfl) ?_ _
        refine NoPanic.normal ?_
        have HB11 := Lib.hid (HB10.out.trans (hHeld.mono HB10.out.size))
        have HK11 := Lib.hid (rd_now (B := 0) HK10.out hHeld)
        have HS11 := Lib.hid (rd_now (B := 0) HS10.out hHeld)
        have hE := HEE.out
        clear hHeld HB10 HK10 HR10 HS10 hEq
        by_cases htt : T' = T
        · have hEt : E = true := by rw [hE, htt]; exact beq_self_eq_true _
          subst hEt
          clear hE htt
          go_wp2_with fail
          go_ret
          exact ⟨rfl, HB11.out⟩
        · have hEf : E = false := by rw [hE]; exact beq_eq_false_iff_ne.2 (toList_ne htt)
          subst hEf
          have HVZ := Lib.hid (HSP.out htt)
          clear hE htt
          have hcv := conv_bytes HS11.out
          rw [← HT'.out.1] at hcv
          have HVE : Hid (Calls Tryd.prog 13 #[.slice qk k.length ck, .string T'] w11 fun e w' => e = .returned (.tuple #[zkV 0 0 z32, faultN 12 b.length]) ∧ Below w11.heap.size w11 w') := by
            have h := zverify_any T' HK11.out (by have := HKL.out; omega) (by have := HT'.out.2.2; have := HN500.out; omega) (HV.out.below HB11.out) (errT_below HE.out HB11.out)
            rw [HT'.out.2.1, HVZ.out, zkE_bad _ _ (by decide)] at h
            exact h
          go_wp2_with fail
          refine HVE.out.mono ?_
          rintro e w12 ⟨rfl, b12⟩
          have HB12 := Lib.hid (HB11.out.trans (b12.mono HB11.out.size))
          have hb13 : Below w12.heap.size w12 (w12.alloc (.cells (zc 0 0 z32).toArray 26)) := (Below.refl _ _).alloc (Nat.le_refl _) _
          have HB13 := Lib.hid (HB12.out.trans (hb13.mono HB12.out.size))
          have HA13 := Lib.hid (Arr.new' w12 26 (zc 0 0 z32).toArray _ rfl)
          clear b12 hb13 hcv HVE HB11 HK11 HS11 HB12
          go_upto_region 13 with ((with_reducible refine atZ w12.heap.size (x := .tmp 16) (y := .tmp 84) (v := 0) (r := 0) (d := z32) (o := ⟨none, .store _ _ _, _, _, _, _⟩) z32_length ?_ ?_); exact ⟨rfl, rfl, rfl, rfl, rfl, rfl⟩)
          generalize w12.alloc (.cells (zc 0 0 z32).toArray 26) = w13 at HB13 HA13 ⊢
          generalize w12.heap.size = g12 at HA13 ⊢
          have HTO := Lib.hid (told_fault 12 b.length (by decide) w13 (errT_below HE.out HB13.out))
          go_wp2_with fail
          refine HTO.out.mono ?_
          rintro e w14 ⟨rfl, b14⟩
          have HB14 := Lib.hid (HB13.out.trans (b14.mono HB13.out.size))
          have HA14 := Lib.hid (HA13.out.later b14)
          have hq3 : ∀ w, (Op.equalIn 10000 26 (.agg (zc 0 0 z32).toArray) (.agg #[.int .u8 0, .int .u64 0, .int .u8 0, .int .u8 0, .int .u8 0, .int .u8 0, .int .u8 0, .int .u8 0, .int .u8 0, .int .u8 0, .int .u8 0, .int .u8 0, .int .u8 0, .int .u8 0, .int .u8 0, .int .u8 0, .int .u8 0, .int .u8 0, .int .u8 0, .int .u8 0, .int .u8 0, .int .u8 0, .int .u8 0, .int .u8 0, .int .u8 0, .int .u8 0, .int .u8 0, .int .u8 0, .int .u8 0, .int .u8 0, .int .u8 0, .int .u8 0, .int .u8 0, .int .u8 0])).run Tryd.prog w = .ok true w := fun w => by
            have h := equalZ (v := 0) (r := 0) (v' := 0) (r' := 0) z32_length z32_length w
            rw [eqZ_refl] at h
            exact h
          clear b14 HTO HB13 HA13
          go_wp2_with ((with_reducible refine loadZw (x := .tmp 16) (o := ⟨some 91, _, _, _, _, _⟩) HA14.out z32_length ?_ ?_); exact ⟨rfl, rfl, rfl⟩)
          go_ret
          exact ⟨rfl, HB14.out⟩
end Go.Proofs.YtaikdbbakdicgaaDoor
/-
  A zookie among the arguments, opened.
-/
namespace Go.Proofs.YtaikdbbakdicgaaDoor
open Go.ChangeShapes Go.WideShapes Go.ChangeAt Go.RowKit
set_option linter.unusedVariables false
section
variable {H : Type} {enc : TypeId × Value → H}
theorem cellsZk : Tryd.prog.cellsOf 26 = 34 := by kernel_rfl
theorem cellsB : Tryd.prog.cellsOf 5 = 1 := by kernel_rfl
theorem cellsD : Tryd.prog.cellsOf 24 = 32 := by kernel_rfl
theorem list3 {α : Type} {l : List α} (h : l.length = 3) : ∃ a b c, l = [a, b, c] := by
  match l, h with
  | [a, b, c], _ => exact ⟨a, b, c, rfl⟩
theorem u8_byte {z : Int} (h : (Lit.int .u8 z).wf = true) : ∃ b : UInt8, z = b.toNat := by
  have hb : 0 ≤ z ∧ z ≤ 255 := by simpa [Lit.wf, IntKind.min, IntKind.max, IntKind.signed, IntKind.bits] using h
  exact ⟨UInt8.ofNat z.toNat, by rw [UInt8.toNat_ofNat']; omega⟩
set_option maxRecDepth 100000 in
theorem zk_open {w : World} {base : Nat} {v : Value} {d : DataW H} {p : List MemPlace} (hv : Value.okWide Tryd.prog w .any base 26 v) (h : DataW.Trod enc Tryd.prog w 0 (fun _ => true) true 26 v d p) :
    ∃ (n r : Nat) (dg : List UInt8), v = zkV n r dg ∧ dg.length = 32 ∧ n < 256 ∧ r < lim64 := by
  obtain ⟨cs, rfl, hsz⟩ := okWide_struct Tryd.underlying26 hv
  obtain ⟨fuel, hf⟩ := h
  have hf' : DataW.trod enc Tryd.prog w 0 (fun _ => true) true fuel 26 cs.toList = some (d, p) := hf
  obtain ⟨xs, n, _, _, _, hlen, hel⟩ := DataW.trod_struct Tryd.underlying26 hf'
  rw [cellsZk] at hsz
  have hl : cs.toList.length = 34 := by simpa using hsz
  obtain ⟨c0, c1, R, hcs⟩ : ∃ c0 c1 R, cs.toList = c0 :: c1 :: R := by
    match cs.toList, hl with
    | c0 :: c1 :: R, _ => exact ⟨c0, c1, R, rfl⟩
  rw [hcs] at hel hl
  obtain ⟨x0, x1, x2, rfl⟩ := list3 (show xs.length = 3 from hlen)
  have hR : R.length = 32 := by simpa using hl
  have k0 := hel 0 _ rfl
  have k1 := hel 1 _ rfl
  have k2 := hel 2 _ rfl
  obtain ⟨z0, e0, _, w0⟩ := DataW.trod_int Tryd.underlying5 (show DataW.trod enc Tryd.prog w 0 (fun _ => true) true n 5 [c0] = some x0 from k0)
  obtain ⟨z1, e1, _, w1⟩ := DataW.trod_int Tryd.underlying23 (show DataW.trod enc Tryd.prog w 0 (fun _ => true) true n 23 [c1] = some x1 from k1)
  obtain rfl : c0 = .int .u8 z0 := by simpa using e0
  obtain rfl : c1 = .int .u64 z1 := by simpa using e1
  obtain ⟨b0, rfl⟩ := u8_byte w0
  obtain ⟨r, rfl, hr⟩ := u64_nat w1
  have k2' : DataW.trod enc Tryd.prog w 0 (fun _ => true) true n 24 R = some x2 := by
    have e : ((Value.int .u8 (b0.toNat : Int) :: Value.int .u64 (r : Int) :: R).drop 2).take (Tryd.prog.cellsOf 24) = R := by rw [cellsD]; exact List.take_of_length_le (by simpa using Nat.le_of_eq hR)
    rw [← e]; exact k2
  obtain ⟨ys, m, rfl, _, hyl, _, hye⟩ := DataW.trod_array Tryd.underlying24 k2'
  have key : ∀ i, ∃ b : UInt8, i < 32 → R[i]? = some (bv b) := by
    intro i
    by_cases hi : i < 32
    · have he := hye i hi
      rw [cellsB] at he
      have hg : ∃ y, ys[i]? = some y := by
        cases hq : ys[i]? with
        | some y => exact ⟨y, rfl⟩
        | none =>
          rw [hq] at he
          have hd : (R.drop (i * 1)).take 1 = [R[i]'(by omega)] := by rw [Nat.mul_one, List.drop_eq_getElem_cons (by omega)]; rfl
          rw [List.getElem?_eq_none_iff] at hq
          omega
      obtain ⟨y, hy⟩ := hg
      rw [hy] at he
      obtain ⟨z, hz1, _, hw⟩ := DataW.trod_int Tryd.underlying5 he
      have hd : (R.drop (i * 1)).take 1 = [R[i]'(by omega)] := by rw [Nat.mul_one, List.drop_eq_getElem_cons (by omega)]; rfl
      rw [hd] at hz1
      obtain ⟨b, rfl⟩ := u8_byte hw
      exact ⟨b, fun _ => by rw [List.getElem?_eq_getElem (by omega), List.head_eq_of_cons_eq hz1]; rfl⟩
    · exact ⟨0, fun h => absurd h hi⟩
  obtain ⟨f, hf2⟩ := Classical.axiomOfChoice key
  refine ⟨b0.toNat, r, (List.range 32).map f, ?_, by simp, b0.toNat_lt, hr⟩
  have hRe : R = bvs ((List.range 32).map f) := by
    apply List.ext_getElem?
    intro i
    by_cases hi : i < 32
    · rw [hf2 i hi]; simp [bvs, hi]
    · rw [List.getElem?_eq_none (by omega), List.getElem?_eq_none (by rw [bvs_length]; simp; omega)]
  refine congrArg Value.agg (Array.toList_inj.1 ?_)
  rw [hcs, hRe]
  rfl
end
end Go.Proofs.YtaikdbbakdicgaaDoor
/-
  All walks of stage 22, for the merging.
-/
namespace Go.Proofs.YtaikdbbakdicgaaDoor
end Go.Proofs.YtaikdbbakdicgaaDoor
