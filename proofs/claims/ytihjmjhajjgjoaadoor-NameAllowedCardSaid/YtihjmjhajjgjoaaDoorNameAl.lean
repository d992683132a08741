/-
  The statement NameAllowedCardSaid: for every allowed type the law NameAllowed returns true and changes nothing; the listed package-level variables hold what the program's text lays.
-/
import Derived.Test.YtihjmjhajjgjoaaDoorNameLaid
import Derived.Test.YtihjmjhajjgjoaaDoorNameP
import Derived.Test.YtihjmjhajjgjoaaDoorTie
import Derived.Test.YtihjmjhajjgjoaaDoorCards
import Derived.SevenTiedAt
import Derived.ShutString
import Derived.ChangeOld
import Derived.Lib.SmallJoins
namespace Go.Proofs.YtihjmjhajjgjoaaDoor.nameAllowed
open Go.ChangeShapes Go.WideShapes Go.ChangeAt Go.RowKit
open Go.ChangeMaps (open_string shut_string)
set_option linter.unusedVariables false

theorem all_none {t r : ByteArray} (h : allB t r = false) : allS t r = ⟨#[]⟩ := by
  unfold allB at h
  unfold allS
  cases hn : isName t with
  | false => simp
  | true =>
    rw [hn] at h
    by_cases hz : r = ⟨#[]⟩
    · rw [hz] at h; simp at h
    · have h2 : isName r = false := by simpa [hz] using h
      simp [hz, h2]
theorem all_back {t r : ByteArray} (h : allB t r = true) : parseAll (allS t r) = (t, r, 0, 0) := by
  unfold allB at h
  unfold allS
  cases hn : isName t with
  | false => rw [hn] at h; cases h
  | true =>
    rw [hn] at h
    by_cases hz : r = ⟨#[]⟩
    · rw [hz, if_pos ⟨rfl, rfl⟩]; exact parse_all0 t hn
    · have h2 : isName r = true := by simpa [hz] using h
      rw [if_neg (fun e => hz e.2), if_pos ⟨rfl, h2⟩]
      exact parse_all t r hn h2
theorem all_size (t r : ByteArray) : (allS t r).size ≤ t.size + r.size + 1 := by
  have h1 : (⟨#[35]⟩ : ByteArray).size = 1 := rfl
  unfold allS
  split
  · omega
  · split
    · rw [ByteArray.size_append, ByteArray.size_append]; omega
    · show 0 ≤ _; omega

/-- Block b holds the allowed type. -/
def ObjAt (w : World) (b : Nat) (t i : ByteArray) : Prop := w.heap[b]? = some (.cells #[.string t, .string i] 34 (0, 0))
theorem ObjAt.below {w w' : World} {b : Nat} {t i : ByteArray} (h : ObjAt w b t i) (hb : Below w.heap.size w w') : ObjAt w' b t i := (hb.block b (Array.getElem?_eq_some_iff.1 h).1).trans h
theorem ObjAt.c0 {w : World} {b : Nat} {t i : ByteArray} (h : ObjAt w b t i) : w.cell? ⟨b, 0, none⟩ = some (.string t) := cell_of_row _ _ 0 _ _ _ h
theorem ObjAt.c1 {w : World} {b : Nat} {t i : ByteArray} (h : ObjAt w b t i) : w.cell? ⟨b, 1, none⟩ = some (.string i) := cell_of_row _ _ 1 _ _ _ h

set_option maxRecDepth 100000 in
set_option maxHeartbeats 2000000 in
theorem walk (t i : ByteArray) (w : World) (ht : t.size ≤ maxLen) (hi : i.size ≤ maxLen) (h : Env w) : Calls Tryd.prog 5 #[.agg #[.string t, .string i]] w fun e w' => e = .returned (.bool true) ∧ Below w.heap.size w w' := by
  unfold maxLen at ht hi
  have hb0 : Below w.heap.size w (w.alloc (.cells #[.string t, .string i] 34)) := (Below.refl w.heap.size w).alloc (Nat.le_refl _) _
  have HE := Lib.hid (h.below hb0)
  have HB := Lib.hid hb0
  have HO : Hid (ObjAt (w.alloc (.cells #[.string t, .string i] 34)) w.heap.size t i) := heap_alloc_new w _
  clear h hb0
  by_cases hbig : 300 < t.size ∨ 300 < i.size
  · by_cases hb1 : 300 < t.size
    · have g : (300 : Int) < t.size := by omega
      go_enter Tryd.func5, Tryd.ntmps5
      go_wp2_with fail
      refine (nawake_any _ HE.out).mono ?_
      rintro e w1 ⟨rfl, b1⟩
      have HE1 := Lib.hid (HE.out.below b1)
      have HB1 := Lib.hid (HB.out.trans (b1.mono HB.out.size))
      have c0 := (HO.out.below b1).c0
      have c1 := (HO.out.below b1).c1
      clear b1
      go_wp2_with fail
      refine (nawake_any _ HE1.out).mono ?_
      rintro e w2 ⟨rfl, b2⟩
      go_wp2_with fail
      go_ret
      exact ⟨rfl, HB1.out.trans (b2.mono HB1.out.size)⟩
    · have g0 : ¬ (300 : Int) < t.size := by omega
      have g : (300 : Int) < i.size := by omega
      go_enter Tryd.func5, Tryd.ntmps5
      go_wp2_with fail
      refine (nawake_any _ HE.out).mono ?_
      rintro e w1 ⟨rfl, b1⟩
      have HE1 := Lib.hid (HE.out.below b1)
      have HB1 := Lib.hid (HB.out.trans (b1.mono HB.out.size))
      have c0 := (HO.out.below b1).c0
      have c1 := (HO.out.below b1).c1
      clear b1
      go_wp2_with fail
      refine (nawake_any _ HE1.out).mono ?_
      rintro e w2 ⟨rfl, b2⟩
      go_wp2_with fail
      go_ret
      exact ⟨rfl, HB1.out.trans (b2.mono HB1.out.size)⟩
  · have g0 : ¬ (300 : Int) < t.size := by omega
    have g1 : ¬ (300 : Int) < i.size := by omega
    have htm : t.size ≤ 1000000 := by omega
    have him : i.size ≤ 1000000 := by omega
    go_enter Tryd.func5, Tryd.ntmps5
    go_wp2_with fail
    refine (nawake_any _ HE.out).mono ?_
    rintro e w1 ⟨rfl, b1⟩
    have HE1 := Lib.hid (HE.out.below b1)
    have HB1 := Lib.hid (HB.out.trans (b1.mono HB.out.size))
    have HO1 := Lib.hid (HO.out.below b1)
    have c0 := HO1.out.c0
    have c1 := HO1.out.c1
    clear b1 HE HB HO
    go_wp2_with fail
    refine (allowed_any t i _ HE1.out htm him).mono ?_
    rintro e w2 ⟨rfl, b2⟩
    have HE2 := Lib.hid (HE1.out.below b2)
    have HB2 := Lib.hid (HB1.out.trans (b2.mono HB1.out.size))
    have HO2 := Lib.hid (HO1.out.below b2)
    have c0 := HO2.out.c0
    have c1 := HO2.out.c1
    clear b2 HE1 HB1 HO1
    go_wp2_with fail
    refine (rightA_any t i htm him _).mono ?_
    rintro e w3 ⟨rfl, b3⟩
    have HE3 := Lib.hid (HE2.out.below b3)
    have HB3 := Lib.hid (HB2.out.trans (b3.mono HB2.out.size))
    have HO3 := Lib.hid (HO2.out.below b3)
    have c0 := HO3.out.c0
    have c1 := HO3.out.c1
    clear b3 HE2 HB2 HO2
    cases hr : allB t i with
    | false =>
      have hs : allS t i = ⟨#[]⟩ := all_none hr
      rw [hs]
      clear hr hs
      go_wp2_with fail
      go_ret
      exact ⟨rfl, HB3.out⟩
    | true =>
      obtain ⟨X, hX⟩ : ∃ X, X = allS t i := ⟨_, rfl⟩
      have hp : parseAll X = (t, i, 0, 0) := by rw [hX]; exact all_back hr
      have hxs : X.size ≤ 1000000 := by have := all_size t i; rw [hX]; omega
      rw [← hX]
      have HX := Lib.hid hX
      have HP := Lib.hid hp
      have HR := Lib.hid hr
      clear hr hp hX
      go_wp2_with fail
      refine (parseAll_at X HP.out _ HE3.out hxs).mono ?_
      rintro e w4 ⟨rfl, b4⟩
      rw [show errOr 0 0 = .nilIface from rfl]
      have HB4 := Lib.hid (HB3.out.trans (b4.mono HB3.out.size))
      have HO4 := Lib.hid (HO3.out.below b4)
      have HZ4 : Hid (w.heap.size < w4.heap.size) := (Array.getElem?_eq_some_iff.1 HO4.out).1
      have c0 := HO4.out.c0
      have c1 := HO4.out.c1
      clear b4 HE3 HB3 HO3
      have d0 : ∀ o : Obj, (w4.alloc o).cell? ⟨w.heap.size, 0, none⟩ = some (.string t) := fun o => (World.cell?_alloc_lt _ _ ⟨w.heap.size, 0, none⟩ HZ4.out).trans c0
      have d1 : ∀ o : Obj, (w4.alloc o).cell? ⟨w.heap.size, 1, none⟩ = some (.string i) := fun o => (World.cell?_alloc_lt _ _ ⟨w.heap.size, 1, none⟩ HZ4.out).trans c1
      have g2 : (t.size : Int) ≤ 300 := by omega
      have g3 : (i.size : Int) ≤ 300 := by omega
      go_wp2_with fail
      refine (rtextA_any t i htm him HR.out _).mono ?_
      rintro e w5 ⟨rfl, b5⟩
      rw [← HX.out]
      have hb5 : Below w.heap.size w w5 := (HB4.out.alloc HB4.out.size _).trans (b5.mono (by have := HB4.out.size; simp; omega))
      have e0 : w5.cell? ⟨w.heap.size, 0, none⟩ = some (.string t) := (b5.cell (by show w.heap.size < _; have := HZ4.out; simp; omega)).trans (d0 _)
      have e1 : w5.cell? ⟨w.heap.size, 1, none⟩ = some (.string i) := (b5.cell (by show w.heap.size < _; have := HZ4.out; simp; omega)).trans (d1 _)
      have e2 : w5.cell? ⟨w4.heap.size, 0, none⟩ = some (.string t) := (b5.cell (by show w4.heap.size < _; simp)).trans (cell_of_row _ _ 0 _ _ _ (heap_alloc_new w4 _))
      have e3 : w5.cell? ⟨w4.heap.size, 1, none⟩ = some (.string i) := (b5.cell (by show w4.heap.size < _; simp)).trans (cell_of_row _ _ 1 _ _ _ (heap_alloc_new w4 _))
      have HB5 := Lib.hid hb5
      clear b5 hb5 d0 d1 c0 c1
      go_wp2_with fail
      go_ret
      exact ⟨rfl, HB5.out⟩

set_option maxRecDepth 100000 in
theorem lifted (os : Os) (started : os.Started) (H : Type) (enc : TypeId × Value → H) :
    ReturnsInHanded {} Tryd.checked os 5 .any (fun w args => (Rows.nameAllowedSpec.pre enc Tryd.prog Tryd.f5 Rows.nameAllowedRow.domain false w args ∧ laidMetH Tryd.prog laidL w) ∧ sizedMet enc Tryd.prog Tryd.f5 (OpenSpec.ofChange Rows.nameAllowedSpec) false w args)
      (Rows.nameAllowedSpec.post enc Tryd.prog Tryd.f5 false true false false) := by
  refine wrap_and (C := Tryd.checked) (X := fun w _ => laidMetH Tryd.prog laidL w) (fun _ _ _ hh h => h.of_heap hh) own started (by kernel_rfl) Tryd.func5
    (ChangeSpec.witness_shaped (enc := enc) (C := Tryd.checked) (os := os) (X := fun w _ => laidMetH Tryd.prog laidL w) false (World.doorLaid Tryd.prog 400 os) #[.agg #[.string ByteArray.empty, .string ByteArray.empty]] 8 rfl (World.shaped_of_RefB (by kernel_rfl) (by kernel_rfl)) (by kernel_rfl) (by kernel_rfl) (by kernel_rfl) (door_met os _)) ?_
  intro W base args ds gs before hval0 hW hsh hL
  have hE := env_of_laid hL hsh
  have hval : ∀ (j : Nat) t v, Tryd.f5.params[j]? = some t → args[j]? = some v → Value.okWide Tryd.prog W .any base t v := hval0
  have hW' := hW
  obtain ⟨p, q, hA0, hV, rfl, hfz, hnd⟩ := hW
  have hA : DataW.TrodAll enc Tryd.prog W 0 (fun _ => true) true Tryd.f5.params.toList args.toList ds p := hA0
  rw [Tryd.params5] at hA hval
  obtain ⟨v0, vs0, d0, ds0, p0, q0, hargs, rfl, rfl, h0, r0⟩ := trodAll_cons hA
  obtain ⟨rfl, rfl, rfl⟩ := trodAll_nil r0
  obtain rfl : args = #[v0] := by cases args; simp_all
  obtain ⟨rfl, rfl⟩ := trodVars_none hV
  obtain ⟨u0, x0, yu0, yx0, m0, rfl, rfl, rfl, hu0, hx0⟩ := Joins.open_agg2 Tryd.underlying34 (by kernel_rfl) (by kernel_rfl) (hval 0 34 v0 rfl rfl) h0
  obtain ⟨a0, ea0, rfl, wa0⟩ := DataW.trod_string Tryd.underlying9 hu0
  obtain ⟨b0, eb0, rfl, wb0⟩ := DataW.trod_string Tryd.underlying9 hx0
  obtain rfl : u0 = .string a0 := by simpa using ea0
  obtain rfl : x0 = .string b0 := by simpa using eb0
  clear hA0 hval0
  refine (walk a0 b0 W wa0 wb0 hE).mono fun e W' ⟨he, bel⟩ => ?_
  subst he
  exact ⟨_, rfl, _, _, _, [], _, [], hW', trodAll_mk1 (shut_bool Tryd.underlying4 _), (trodAll_cons_mk (Joins.shut_agg2 (y0 := (.lit (.string a0.data.toList), [])) (y1 := (.lit (.string b0.data.toList), [])) Tryd.underlying34 (by kernel_rfl) (by kernel_rfl) (trod_str wa0) (trod_str wb0)) trodAll_mk0), rfl, bel.frame _, fun h => by cases h⟩

theorem over : Rows.NameAllowedSaid :=
  OpenClaim.holds_of_wide 5 Tryd.f5 rfl rfl rfl rfl rfl rfl rfl ⟨rfl, rfl, rfl, rfl, rfl⟩ rfl rfl rfl rfl rfl (by kernel_rfl) Tryd.func5 (by kernel_rfl)
    (of_decide_eq_true (by kernel_rfl)) (by unfold Func.isWrapper; first | (rw [if_pos (by decide +kernel)]; kernel_rfl) | (rw [if_neg (by decide +kernel)]; exact ⟨rfl, rfl⟩))
    (fun os started H enc _ => lifted os started H enc)

/-- THE STATEMENT: the tied card. -/
theorem proved : Rows.NameAllowedCardSaid :=
  Claim7.holds_tied_plain_at .later [] Rows.nameAllowedCard.laidKinds true Rows.nameAllowedCard.stood.harness Rows.nameAllowedCard.stood.looks
    over (fun _ h => by cases h) (by kernel_rfl) (fun _ h => by cases h) nameAllowed_row_tie rfl ⟨rfl, rfl⟩ (by kernel_rfl) rfl
    (fun f fn hf hfn => by
      obtain rfl : f = 5 := Option.some.inj ((show Tryd.prog.funcNamed "vestry/vestrylaw08.NameAllowed" = some 5 by kernel_rfl).symm.trans hf) |>.symm
      obtain rfl : fn = Tryd.f5 := (Option.some.inj (Tryd.func5.symm.trans hfn)).symm
      exact ⟨by kernel_rfl, fun j t ht => by
        rw [Tryd.params5] at ht
        have hm : t ∈ [34] := by have := Array.mem_of_getElem? ht; simpa using this
        have hall : ([34].all fun u => !Tryd.prog.wantsStandIn u) = true := by kernel_rfl
        exact (show Tryd.prog.wantsStandIn t = false by simpa using List.all_eq_true.1 hall t hm)⟩)
    (by kernel_rfl)
end Go.Proofs.YtihjmjhajjgjoaaDoor.nameAllowed
