/-
  The statement NameObjectsCardSaid: for every object the law NameObjects returns true and changes nothing; the listed package-level variables hold what the program's text lays.
-/
import Derived.Test.YtihjmjhajjgjoaaDoorNameLaid
import Derived.Test.YtihjmjhajjgjoaaDoorNameP
import Derived.Test.YtihjmjhajjgjoaaDoorTie
import Derived.Test.YtihjmjhajjgjoaaDoorCards
import Derived.SevenTiedAt
import Derived.ShutString
import Derived.ChangeOld
import Derived.Lib.SmallJoins
namespace Go.Proofs.YtihjmjhajjgjoaaDoor.nameObjects
open Go.ChangeShapes Go.WideShapes Go.ChangeAt Go.RowKit
open Go.ChangeMaps (open_string shut_string)
set_option linter.unusedVariables false

/-- Block b holds the object. -/
def ObjAt (w : World) (b : Nat) (t i : ByteArray) : Prop := w.heap[b]? = some (.cells #[.string t, .string i] 25 (0, 0))
theorem ObjAt.below {w w' : World} {b : Nat} {t i : ByteArray} (h : ObjAt w b t i) (hb : Below w.heap.size w w') : ObjAt w' b t i := (hb.block b (Array.getElem?_eq_some_iff.1 h).1).trans h
theorem ObjAt.c0 {w : World} {b : Nat} {t i : ByteArray} (h : ObjAt w b t i) : w.cell? ⟨b, 0, none⟩ = some (.string t) := cell_of_row _ _ 0 _ _ _ h
theorem ObjAt.c1 {w : World} {b : Nat} {t i : ByteArray} (h : ObjAt w b t i) : w.cell? ⟨b, 1, none⟩ = some (.string i) := cell_of_row _ _ 1 _ _ _ h

set_option maxRecDepth 100000 in
set_option maxHeartbeats 2000000 in
theorem walk (t i : ByteArray) (w : World) (ht : t.size ≤ maxLen) (hi : i.size ≤ maxLen) (h : Env w) : Calls Tryd.prog 4 #[.agg #[.string t, .string i]] w fun e w' => e = .returned (.bool true) ∧ Below w.heap.size w w' := by
  unfold maxLen at ht hi
  have hb0 : Below w.heap.size w (w.alloc (.cells #[.string t, .string i] 25)) := (Below.refl w.heap.size w).alloc (Nat.le_refl _) _
  have HE := Lib.hid (h.below hb0)
  have HB := Lib.hid hb0
  have HO : Hid (ObjAt (w.alloc (.cells #[.string t, .string i] 25)) w.heap.size t i) := heap_alloc_new w _
  clear h hb0
  by_cases hbig : 300 < t.size ∨ 300 < i.size
  · by_cases hb1 : 300 < t.size
    · have g : (300 : Int) < t.size := by omega
      go_enter Tryd.func4, Tryd.ntmps4
      go_wp2_with fail
      refine (nawake_any _ HE.out).mono ?_
      rintro e w1 ⟨rfl, b1⟩
      have HE1 := Lib.hid (HE.out.below b1)
      have HB1 := Lib.hid (HB.out.trans (b1.mono HB.out.size))
      have c0 := (HO.out.below b1).c0
      have c1 := (HO.out.below b1).c1
      clear b1
      go_wp2_with fail
      refine (nawake_any _ HE1.out).mono ?_
      rintro e w2 ⟨rfl, b2⟩
      go_wp2_with fail
      go_ret
      exact ⟨rfl, HB1.out.trans (b2.mono HB1.out.size)⟩
    · have g0 : ¬ (300 : Int) < t.size := by omega
      have g : (300 : Int) < i.size := by omega
      go_enter Tryd.func4, Tryd.ntmps4
      go_wp2_with fail
      refine (nawake_any _ HE.out).mono ?_
      rintro e w1 ⟨rfl, b1⟩
      have HE1 := Lib.hid (HE.out.below b1)
      have HB1 := Lib.hid (HB.out.trans (b1.mono HB.out.size))
      have c0 := (HO.out.below b1).c0
      have c1 := (HO.out.below b1).c1
      clear b1
      go_wp2_with fail
      refine (nawake_any _ HE1.out).mono ?_
      rintro e w2 ⟨rfl, b2⟩
      go_wp2_with fail
      go_ret
      exact ⟨rfl, HB1.out.trans (b2.mono HB1.out.size)⟩
  · have g0 : ¬ (300 : Int) < t.size := by omega
    have g1 : ¬ (300 : Int) < i.size := by omega
    have htm : t.size ≤ 1000000 := by omega
    have him : i.size ≤ 1000000 := by omega
    go_enter Tryd.func4, Tryd.ntmps4
    go_wp2_with fail
    refine (nawake_any _ HE.out).mono ?_
    rintro e w1 ⟨rfl, b1⟩
    have HE1 := Lib.hid (HE.out.below b1)
    have HB1 := Lib.hid (HB.out.trans (b1.mono HB.out.size))
    have HO1 := Lib.hid (HO.out.below b1)
    have c0 := HO1.out.c0
    have c1 := HO1.out.c1
    clear b1 HE HB HO
    go_wp2_with fail
    refine (object_any t i _ HE1.out htm him).mono ?_
    rintro e w2 ⟨rfl, b2⟩
    have HE2 := Lib.hid (HE1.out.below b2)
    have HB2 := Lib.hid (HB1.out.trans (b2.mono HB1.out.size))
    have HO2 := Lib.hid (HO1.out.below b2)
    have c0 := HO2.out.c0
    have c1 := HO2.out.c1
    clear b2 HE1 HB1 HO1
    go_wp2_with fail
    refine (right_any t i htm him _).mono ?_
    rintro e w3 ⟨rfl, b3⟩
    have HE3 := Lib.hid (HE2.out.below b3)
    have HB3 := Lib.hid (HB2.out.trans (b3.mono HB2.out.size))
    have HO3 := Lib.hid (HO2.out.below b3)
    have c0 := HO3.out.c0
    have c1 := HO3.out.c1
    clear b3 HE2 HB2 HO2
    cases hr : objB t i with
    | false =>
      have hs : objS t i = ⟨#[]⟩ := by unfold objS; rw [if_neg]; intro hh; unfold objB at hr; rw [hh.1, hh.2] at hr; cases hr
      rw [hs]
      clear hr hs
      go_wp2_with fail
      go_ret
      exact ⟨rfl, HB3.out⟩
    | true =>
      have hh : isName t = true ∧ isId i = true := by unfold objB at hr; simpa using hr
      have hs : objS t i = t ++ ⟨#[58]⟩ ++ i := by unfold objS; rw [if_pos hh]
      obtain ⟨X, hX⟩ : ∃ X, X = objS t i := ⟨_, rfl⟩
      have hp : parseObj X = (t, i, 0, 0) := by rw [hX, hs]; exact parse_obj t i hh.1 hh.2
      have hxs : X.size ≤ 1000000 := by
        have h1 : (⟨#[58]⟩ : ByteArray).size = 1 := rfl
        rw [hX, hs, ByteArray.size_append, ByteArray.size_append]; omega
      have hq : (X.toList == (t ++ ⟨#[58]⟩ ++ i).toList) = true := by rw [hX, hs]; simp
      rw [← hX]
      have HP := Lib.hid hp
      have HQ := Lib.hid hq
      clear hr hs hh hp hX hq
      go_wp2_with fail
      refine (parseObj_at X HP.out _ HE3.out hxs).mono ?_
      rintro e w4 ⟨rfl, b4⟩
      rw [show errOr 0 0 = .nilIface from rfl]
      have HB4 := Lib.hid (HB3.out.trans (b4.mono HB3.out.size))
      have HO4 := Lib.hid (HO3.out.below b4)
      have HZ4 : Hid (w.heap.size < w4.heap.size) := (Array.getElem?_eq_some_iff.1 HO4.out).1
      have c0 := HO4.out.c0
      have c1 := HO4.out.c1
      clear b4 HE3 HB3 HO3
      have d0 : ∀ o : Obj, (w4.alloc o).cell? ⟨w.heap.size, 0, none⟩ = some (.string t) := fun o => (World.cell?_alloc_lt _ _ ⟨w.heap.size, 0, none⟩ HZ4.out).trans c0
      have d1 : ∀ o : Obj, (w4.alloc o).cell? ⟨w.heap.size, 1, none⟩ = some (.string i) := fun o => (World.cell?_alloc_lt _ _ ⟨w.heap.size, 1, none⟩ HZ4.out).trans c1
      have g2 : (t.size : Int) ≤ 300 := by omega
      have g3 : (i.size : Int) ≤ 300 := by omega
      go_wp2_with fail
      all_goals first
        | (exfalso
           apply ‹¬ X.toList = _›
           exact beq_iff_eq.1 HQ.out)
        | (go_ret
           exact ⟨rfl, HB4.out.alloc HB4.out.size _⟩)

set_option maxRecDepth 100000 in
theorem lifted (os : Os) (started : os.Started) (H : Type) (enc : TypeId × Value → H) :
    ReturnsInHanded {} Tryd.checked os 4 .any (fun w args => (Rows.nameObjectsSpec.pre enc Tryd.prog Tryd.f4 Rows.nameObjectsRow.domain false w args ∧ laidMetH Tryd.prog laidL w) ∧ sizedMet enc Tryd.prog Tryd.f4 (OpenSpec.ofChange Rows.nameObjectsSpec) false w args)
      (Rows.nameObjectsSpec.post enc Tryd.prog Tryd.f4 false true false false) := by
  refine wrap_and (C := Tryd.checked) (X := fun w _ => laidMetH Tryd.prog laidL w) (fun _ _ _ hh h => h.of_heap hh) own started (by kernel_rfl) Tryd.func4
    (ChangeSpec.witness_shaped (enc := enc) (C := Tryd.checked) (os := os) (X := fun w _ => laidMetH Tryd.prog laidL w) false (World.doorLaid Tryd.prog 400 os) #[.agg #[.string ByteArray.empty, .string ByteArray.empty]] 8 rfl (World.shaped_of_RefB (by kernel_rfl) (by kernel_rfl)) (by kernel_rfl) (by kernel_rfl) (by kernel_rfl) (door_met os _)) ?_
  intro W base args ds gs before hval0 hW hsh hL
  have hE := env_of_laid hL hsh
  have hval : ∀ (j : Nat) t v, Tryd.f4.params[j]? = some t → args[j]? = some v → Value.okWide Tryd.prog W .any base t v := hval0
  have hW' := hW
  obtain ⟨p, q, hA0, hV, rfl, hfz, hnd⟩ := hW
  have hA : DataW.TrodAll enc Tryd.prog W 0 (fun _ => true) true Tryd.f4.params.toList args.toList ds p := hA0
  rw [Tryd.params4] at hA hval
  obtain ⟨v0, vs0, d0, ds0, p0, q0, hargs, rfl, rfl, h0, r0⟩ := trodAll_cons hA
  obtain ⟨rfl, rfl, rfl⟩ := trodAll_nil r0
  obtain rfl : args = #[v0] := by cases args; simp_all
  obtain ⟨rfl, rfl⟩ := trodVars_none hV
  obtain ⟨u0, x0, yu0, yx0, m0, rfl, rfl, rfl, hu0, hx0⟩ := Joins.open_agg2 Tryd.underlying25 (by kernel_rfl) (by kernel_rfl) (hval 0 25 v0 rfl rfl) h0
  obtain ⟨a0, ea0, rfl, wa0⟩ := DataW.trod_string Tryd.underlying9 hu0
  obtain ⟨b0, eb0, rfl, wb0⟩ := DataW.trod_string Tryd.underlying9 hx0
  obtain rfl : u0 = .string a0 := by simpa using ea0
  obtain rfl : x0 = .string b0 := by simpa using eb0
  clear hA0 hval0
  refine (walk a0 b0 W wa0 wb0 hE).mono fun e W' ⟨he, bel⟩ => ?_
  subst he
  exact ⟨_, rfl, _, _, _, [], _, [], hW', trodAll_mk1 (shut_bool Tryd.underlying4 _), (trodAll_cons_mk (Joins.shut_agg2 (y0 := (.lit (.string a0.data.toList), [])) (y1 := (.lit (.string b0.data.toList), [])) Tryd.underlying25 (by kernel_rfl) (by kernel_rfl) (trod_str wa0) (trod_str wb0)) trodAll_mk0), rfl, bel.frame _, fun h => by cases h⟩

theorem over : Rows.NameObjectsSaid :=
  OpenClaim.holds_of_wide 4 Tryd.f4 rfl rfl rfl rfl rfl rfl rfl ⟨rfl, rfl, rfl, rfl, rfl⟩ rfl rfl rfl rfl rfl (by kernel_rfl) Tryd.func4 (by kernel_rfl)
    (of_decide_eq_true (by kernel_rfl)) (by unfold Func.isWrapper; first | (rw [if_pos (by decide +kernel)]; kernel_rfl) | (rw [if_neg (by decide +kernel)]; exact ⟨rfl, rfl⟩))
    (fun os started H enc _ => lifted os started H enc)

/-- THE STATEMENT: the tied card. -/
theorem proved : Rows.NameObjectsCardSaid :=
  Claim7.holds_tied_plain_at .later [] Rows.nameObjectsCard.laidKinds true Rows.nameObjectsCard.stood.harness Rows.nameObjectsCard.stood.looks
    over (fun _ h => by cases h) (by kernel_rfl) (fun _ h => by cases h) nameObjects_row_tie rfl ⟨rfl, rfl⟩ (by kernel_rfl) rfl
    (fun f fn hf hfn => by
      obtain rfl : f = 4 := Option.some.inj ((show Tryd.prog.funcNamed "vestry/vestrylaw08.NameObjects" = some 4 by kernel_rfl).symm.trans hf) |>.symm
      obtain rfl : fn = Tryd.f4 := (Option.some.inj (Tryd.func4.symm.trans hfn)).symm
      exact ⟨by kernel_rfl, fun j t ht => by
        rw [Tryd.params4] at ht
        have hm : t ∈ [25] := by have := Array.mem_of_getElem? ht; simpa using this
        have hall : ([25].all fun u => !Tryd.prog.wantsStandIn u) = true := by kernel_rfl
        exact (show Tryd.prog.wantsStandIn t = false by simpa using List.all_eq_true.1 hall t hm)⟩)
    (by kernel_rfl)
end Go.Proofs.YtihjmjhajjgjoaaDoor.nameObjects
