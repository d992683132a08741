/-
  vestrylaw23.MergeFolds.
-/
import Derived.Test.YtebbbiikphfjcaaMgR
namespace Go.Proofs.Ytebbbiikphfjcaa
open Go.ChangeShapes Go.WideShapes Go.ChangeAt Go.RowKit
set_option linter.unusedVariables false

theorem foldC_few : ∀ (c : List Cg) (l : List Tu), (foldC l c).length ≤ l.length + c.length
  | [], l => Nat.le_refl _
  | x :: r, l => by
    have h1 := foldC_few r (step1 l x)
    have h2 := step1_few l x
    show (foldC (step1 l x) r).length ≤ _
    simp only [List.length_cons]
    omega
set_option maxRecDepth 100000 in
set_option maxHeartbeats 4000000 in
theorem mfolds_any {w : World} {xv cv : Value} {x : List Tu} {C : List Ce} (hx : TuRd w xv x) (hc : RdS cc w cv C) (hzx : ∀ t ∈ x, sizesT t 140737488355328) (hlx : x.length ≤ 140737488355328) (hzc : ∀ t ∈ C, sizesT t.2.2 140737488355328) :
    Calls Try.prog 5 #[xv, cv] w fun e w' => e = .returned (.bool true) ∧ Below w.heap.size w w' := by
  have HB0 := Lib.hid (Below.refl w.heap.size w)
  have HX0 := Lib.hid hx
  have HC0 := Lib.hid hc
  have HZC := Lib.hid hzc
  obtain ⟨px, cx, rfl, _⟩ := hx.form tc_length (by decide)
  obtain ⟨p, cap, rfl, hrow⟩ := hc.form cc_length (by decide)
  have HROW := Lib.hid hrow
  have HX1 := HX0
  clear hx hc hzc hrow
  go_enter Try.func5, Try.ntmps5
  have HC1 := Lib.hid (mawake_any w)
  go_wp2_with fail
  refine HC1.out.mono ?_
  rintro e w1 ⟨rfl, b1⟩
  clear HC1
  have HB1 := Lib.hid (HB0.out.trans ((b1).mono HB0.out.size))
  have X_1 := Lib.hid (HX0.out.below (b1))
  clear b1 HB0
  have HC2 := Lib.hid (few_any X_1.out hzx hlx)
  go_wp2_with fail
  refine HC2.out.mono ?_
  rintro e w2 ⟨rfl, b2⟩
  clear HC2
  have HB2 := Lib.hid (HB1.out.trans ((b2).mono HB1.out.size))
  have X_2 := Lib.hid (X_1.out.below (b2))
  clear b2 HB1 X_1
  rcases hfx : fewT x with _ | _
  · have HC53 := Lib.hid (mawake_any w2)
    go_wp2_with fail
    refine HC53.out.mono ?_
    rintro e w53 ⟨rfl, b53⟩
    clear HC53
    have HB53 := Lib.hid (HB2.out.trans ((b53).mono HB2.out.size))
    have X_53 := Lib.hid (X_2.out.below (b53))
    clear b53 HB2 X_2
    go_wp2_with fail
    go_ret
    exact ⟨rfl, HB53.out⟩
  have hfx' := fewT_out hfx
  have ZX : Hid (∀ t ∈ x, sizesT t 1000000) := fun t ht => (hfx'.1 t ht).mono (by decide)
  have LX : Hid (x.length ≤ 60) := hfx'.2
  clear hfx hfx'
  clear hzx hlx
  by_cases h40 : 40 < C.length
  · have h40i : (40 : Int) < (C.length : Int) := by omega
    have HC53 := Lib.hid (mawake_any w2)
    go_wp2_with fail
    refine HC53.out.mono ?_
    rintro e w53 ⟨rfl, b53⟩
    clear HC53
    have HB53 := Lib.hid (HB2.out.trans ((b53).mono HB2.out.size))
    have X_53 := Lib.hid (X_2.out.below (b53))
    clear b53 HB2 X_2
    go_wp2_with fail
    go_ret
    exact ⟨rfl, HB53.out⟩
  have LC : Hid (C.length ≤ 40) := by show _ ≤ _; omega
  have h40i : ¬ (40 : Int) < (C.length : Int) := by omega
  go_wp2_with fail
  go_loopg [5] C.length (fun gg s5 wr => ∃ i : Nat, i ≤ C.length ∧ C.length - i ≤ gg ∧ s5 = .int .i64 i ∧ Below w.heap.size w wr ∧ ∀ j, (hj : j < C.length) → j < i → shortT C[j].2.2 = true)
  case atStart => exact ⟨0, Nat.zero_le _, by omega, rfl, HB2.out, fun j _ hj => absurd hj (by omega)⟩
  case round =>
    obtain ⟨i, hi, hgi, rfl, hB, hall⟩ := hrel
    have HB := Lib.hid hB
    have HA := Lib.hid hall
    clear hB hall HB2 X_2 h40 h40i
    by_cases hlt : i < C.length
    · obtain ⟨b, off, rfl, hb, hr⟩ := HROW.out i hlt
      obtain ⟨⟨n, d, u⟩, hx⟩ : ∃ x, x = C[i] := ⟨_, rfl⟩
      have hzu : sizesT u 140737488355328 := by have := HZC.out C[i] (List.getElem_mem hlt); rw [← hx] at this; exact this
      rw [← hx] at hr
      have HXU : Hid (u = C[i].2.2) := by show _ = _; rw [← hx]
      have HRI : Hid (wr.rangeAt b (off + i * 8) (cc (n, d, u))) := range_below hr hb HB.out
      have HR2 : Hid (wr.rangeAt b (off + i * 8 + 2) (tc u)) := cc_tail (x := (n, d, u)) HRI.out
      have hw : wrap64 ((i : Int) + 1) = (i : Int) + 1 := by unfold wrap64; have := LC.out; omega
      have HSH := Lib.hid (short_any u hzu wr)
      clear hx hr hb hzu HRI
      go_wp2_with ((with_reducible refine loadMX (x := .tmp 29) (u := u) (o := ⟨some 30, _, _, _, _, _⟩) HR2.out ?_ ?_); exact ⟨rfl, rfl, by go_simp⟩)
      refine HSH.out.mono ?_
      rintro e wn ⟨rfl, bn⟩
      have HBn := Lib.hid (HB.out.trans (bn.mono HB.out.size))
      clear bn HSH HB HR2
      rcases hs : shortT u with _ | _
      · go_wp2_with fail
        go_ret
        exact ⟨rfl, HBn.out⟩
      · have HS := Lib.hid hs
        clear hs
        go_wp2_with fail
        go_roundg (C.length - (i + 1))
        case measure => omega
        case rel => exact ⟨i + 1, by omega, Nat.le_refl _, by go_num, HBn.out, fun j hj hji => by
          by_cases e : j = i
          · subst e; rw [← HXU.out]; exact HS.out
          · exact HA.out j hj (by omega)⟩
    · have HSC : Hid (∀ x ∈ C, sizesT x.2.2 1500) := fun x hx => by
        obtain ⟨j, hj, rfl⟩ := List.getElem_of_mem hx
        exact shortT_sizes (HA.out j hj (by omega))
      clear HA
      have HXW := Lib.hid (HX0.out.below HB.out)
      have HCW := Lib.hid (HC0.out.below HB.out)
      have HC101 := Lib.hid (rsorted_any HXW.out ZX.out (by have := LX.out; omega))
      go_wp2_with fail
      refine HC101.out.mono ?_
      rintro e w101 ⟨v101, rfl, b101, t101⟩
      clear HC101
      have A_101 : Hid (TuSl w101 v101 (sortedT x)) := t101
      have HB101 := Lib.hid (HB.out.trans ((b101).mono HB.out.size))
      have X_101 := Lib.hid (HXW.out.below (b101))
      have C_101 := Lib.hid (HCW.out.below (b101))
      clear b101 HB HXW HCW
      clear t101
      obtain ⟨a, ha⟩ : ∃ a, a = sortedT x := ⟨_, rfl⟩
      rw [← ha] at A_101
      have RA : Hid (Ris a) := by rw [ha]; exact sorted_ris x
      have NA : Hid (a.length ≤ 60) := by rw [ha]; exact Nat.le_trans (sorted_few x) LX.out
      have ZA : Hid (∀ t ∈ a, sizesT t 1000000) := by rw [ha]; exact fun t ht => ZX.out t ((sorted_mem x t).1 ht)
      have EA : Hid (sortedT x = a) := ha.symm
      clear ha
      obtain ⟨qa, ma, rfl, _⟩ := A_101.out.src
      have HC102 := Lib.hid (fold_any A_101.out RA.out C_101.out (by have := NA.out; have := LC.out; omega) (fun t ht => (HSC.out t ht).mono (by unfold maxLen; decide)))
      go_wp2_with fail
      refine HC102.out.mono ?_
      rintro e w102 ⟨v102, rfl, b102, t102⟩
      clear HC102
      have F_102 : Hid (TuSl w102 v102 (foldC a (C.map Prod.snd))) := t102
      have HB102 := Lib.hid (HB101.out.trans ((b102).mono HB101.out.size))
      have X_102 := Lib.hid (X_101.out.below (b102))
      have C_102 := Lib.hid (C_101.out.below (b102))
      have A_102 := Lib.hid (A_101.out.below (b102))
      clear b102 HB101 X_101 C_101 A_101
      clear t102
      obtain ⟨f, hf⟩ : ∃ f, f = foldC a (C.map Prod.snd) := ⟨_, rfl⟩
      rw [← hf] at F_102
      have EF : Hid (foldC a (C.map Prod.snd) = f) := hf.symm
      have NF : Hid (f.length ≤ 140737488355328) := by show _ ≤ _; rw [hf]; have h := foldC_few (C.map Prod.snd) a; rw [List.length_map] at h; have := NA.out; have := LC.out; omega
      clear hf
      obtain ⟨qf, mf, rfl, _⟩ := F_102.out.src
      have HC103 := Lib.hid (rsorted_any X_102.out ZX.out (by have := LX.out; omega))
      go_wp2_with fail
      refine HC103.out.mono ?_
      rintro e w103 ⟨v103, rfl, b103, t103⟩
      clear HC103
      have D_103 : Hid (TuSl w103 v103 a) := by rw [← EA.out]; exact t103
      have HB103 := Lib.hid (HB102.out.trans ((b103).mono HB102.out.size))
      have X_103 := Lib.hid (X_102.out.below (b103))
      have C_103 := Lib.hid (C_102.out.below (b103))
      have A_103 := Lib.hid (A_102.out.below (b103))
      have F_103 := Lib.hid (F_102.out.below (b103))
      clear b103 HB102 X_102 C_102 A_102 F_102
      clear t103
      obtain ⟨qd, md, rfl, _⟩ := D_103.out.src
      have HC104 := Lib.hid (rfold_any D_103.out.rd C_103.out (by have := NA.out; have := LC.out; omega) ZA.out (fun t ht => (HSC.out t ht).mono (by decide)))
      go_wp2_with fail
      refine HC104.out.mono ?_
      rintro e w104 ⟨v104, rfl, b104, t104⟩
      clear HC104
      have R_104 : Hid (TuSl w104 v104 f) := by rw [← EF.out]; exact t104
      have HB104 := Lib.hid (HB103.out.trans ((b104).mono HB103.out.size))
      have X_104 := Lib.hid (X_103.out.below (b104))
      have C_104 := Lib.hid (C_103.out.below (b104))
      have A_104 := Lib.hid (A_103.out.below (b104))
      have F_104 := Lib.hid (F_103.out.below (b104))
      have D_104 := Lib.hid (D_103.out.below (b104))
      clear b104 HB103 X_103 C_103 A_103 F_103 D_103
      clear t104
      obtain ⟨qr, mr, rfl, _⟩ := R_104.out.src
      clear D_104
      have HC105 := Lib.hid (samel_any F_104.out.rd R_104.out.rd NF.out NF.out)
      rw [same_self] at HC105
      go_wp2_with fail
      refine HC105.out.mono ?_
      rintro e w105 ⟨rfl, b105⟩
      clear HC105
      have HB105 := Lib.hid (HB104.out.trans ((b105).mono HB104.out.size))
      have X_105 := Lib.hid (X_104.out.below (b105))
      have C_105 := Lib.hid (C_104.out.below (b105))
      have A_105 := Lib.hid (A_104.out.below (b105))
      have F_105 := Lib.hid (F_104.out.below (b105))
      have R_105 := Lib.hid (R_104.out.below (b105))
      clear b105 HB104 X_104 C_104 A_104 F_104 R_104
      clear F_105
      clear R_105
      have HC106 := Lib.hid (rsorted_any X_105.out ZX.out (by have := LX.out; omega))
      go_wp2_with fail
      refine HC106.out.mono ?_
      rintro e w106 ⟨v106, rfl, b106, t106⟩
      clear HC106
      have D_106 : Hid (TuSl w106 v106 a) := by rw [← EA.out]; exact t106
      have HB106 := Lib.hid (HB105.out.trans ((b106).mono HB105.out.size))
      have X_106 := Lib.hid (X_105.out.below (b106))
      have C_106 := Lib.hid (C_105.out.below (b106))
      have A_106 := Lib.hid (A_105.out.below (b106))
      clear b106 HB105 X_105 C_105 A_105
      clear t106
      obtain ⟨qe, me, rfl, _⟩ := D_106.out.src
      have NA2 : Hid (a.length ≤ 140737488355328) := by have := NA.out; show _ ≤ _; omega
      have HC107 := Lib.hid (samel_any A_106.out.rd D_106.out.rd NA2.out NA2.out)
      rw [same_self] at HC107
      go_wp2_with fail
      refine HC107.out.mono ?_
      rintro e w107 ⟨rfl, b107⟩
      clear HC107
      have HB107 := Lib.hid (HB106.out.trans ((b107).mono HB106.out.size))
      have X_107 := Lib.hid (X_106.out.below (b107))
      have C_107 := Lib.hid (C_106.out.below (b107))
      have A_107 := Lib.hid (A_106.out.below (b107))
      have D_107 := Lib.hid (D_106.out.below (b107))
      clear b107 HB106 X_106 C_106 A_106 D_106
      go_wp2_with fail
      go_ret
      exact ⟨rfl, HB107.out⟩
end Go.Proofs.Ytebbbiikphfjcaa
