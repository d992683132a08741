/-
  The statement NameParsesCardSaid.
-/
import Derived.Test.YtihjmjhajjgjoaaDoorNameQ
import Derived.Test.YtihjmjhajjgjoaaDoorNameLaid
import Derived.Test.YtihjmjhajjgjoaaDoorTie
import Derived.Test.YtihjmjhajjgjoaaDoorCards
import Derived.SevenTiedAt
import Derived.ShutString
import Derived.ChangeOld
import Derived.Lib.SmallJoins
namespace Go.Proofs.YtihjmjhajjgjoaaDoor.nameParses
open Go.ChangeShapes Go.WideShapes Go.ChangeAt Go.RowKit
open Go.ChangeMaps (open_string shut_string)
set_option linter.unusedVariables false

def Fine (c n : Nat) : Prop := c = 0 ∨ (c = 5 ∧ n ≤ 1000000)
theorem told_any (c n : Nat) (hc : Fine c n) (w : World) (h : Env w) : Calls Tryd.prog 24 #[errOr c n, .int .i64 c, .int .i64 n] w fun e w' => e = .returned (.bool true) ∧ Below w.heap.size w w' := by
  rcases hc with rfl | ⟨rfl, hn⟩
  · refine (told_nil n w).mono ?_
    rintro e w1 ⟨rfl, rfl⟩
    exact ⟨rfl, Below.refl _ _⟩
  · exact told_err n hn w h
theorem fine_obj (s : ByteArray) (hs : s.size ≤ 500) : Fine (parseObj s).2.2.1 (parseObj s).2.2.2 := by
  have h := cut_size s colonA
  unfold parseObj Fine
  split
  · exact .inr ⟨rfl, by show 0 ≤ _; omega⟩
  · split
    · exact .inr ⟨rfl, by show (cut3 s colonA).1.size + 1 ≤ _; omega⟩
    · exact .inl rfl
theorem fine_all (s : ByteArray) (hs : s.size ≤ 500) : Fine (parseAll s).2.2.1 (parseAll s).2.2.2 := by
  have h := cut_size s hashA
  unfold parseAll Fine
  split
  · exact .inr ⟨rfl, by show 0 ≤ _; omega⟩
  · split
    · exact .inr ⟨rfl, by show (cut3 s hashA).1.size + 1 ≤ _; omega⟩
    · exact .inl rfl

/-- Block b holds two strings. -/
def Pair (w : World) (b : Nat) (t : TypeId) (x y : ByteArray) : Prop := w.heap[b]? = some (.cells #[.string x, .string y] t (0, 0))
theorem Pair.new (w : World) (t : TypeId) (x y : ByteArray) : Pair (w.alloc (.cells #[.string x, .string y] t)) w.heap.size t x y := heap_alloc_new w _
theorem Pair.below {w w' : World} {b : Nat} {t : TypeId} {x y : ByteArray} (h : Pair w b t x y) (hb : Below w.heap.size w w') : Pair w' b t x y := (hb.block b (Array.getElem?_eq_some_iff.1 h).1).trans h
theorem Pair.alloc {w : World} {b : Nat} {t : TypeId} {x y : ByteArray} (h : Pair w b t x y) (o : Obj) : Pair (w.alloc o) b t x y := h.below ((Below.refl _ _).alloc (Nat.le_refl _) o)
theorem Pair.c0 {w : World} {b : Nat} {t : TypeId} {x y : ByteArray} (h : Pair w b t x y) : w.cell? ⟨b, 0, none⟩ = some (.string x) := cell_of_row _ _ 0 _ _ _ h
theorem Pair.c1 {w : World} {b : Nat} {t : TypeId} {x y : ByteArray} (h : Pair w b t x y) : w.cell? ⟨b, 1, none⟩ = some (.string y) := cell_of_row _ _ 1 _ _ _ h
theorem env_alloc {w : World} (h : Env w) (o : Obj) : Env (w.alloc o) := h.below ((Below.refl _ _).alloc (Nat.le_refl _) o)
theorem below_alloc {W w : World} (h : Below W.heap.size W w) (o : Obj) : Below W.heap.size W (w.alloc o) := h.alloc h.size o

set_option maxRecDepth 100000 in
set_option maxHeartbeats 2000000 in
theorem walk (s : ByteArray) (w : World) (hs : s.size ≤ maxLen) (h : Env w) : Calls Tryd.prog 6 #[.string s] w fun e w' => e = .returned (.bool true) ∧ Below w.heap.size w w' := by
  unfold maxLen at hs
  have HE := Lib.hid h
  clear h
  by_cases hbig : 500 < s.size
  · have g : (500 : Int) < s.size := by omega
    go_enter Tryd.func6, Tryd.ntmps6
    go_wp2_with fail
    refine (nawake_any _ HE.out).mono ?_
    rintro e w1 ⟨rfl, b1⟩
    have HE1 := Lib.hid (HE.out.below b1)
    go_wp2_with fail
    refine (nawake_any _ HE1.out).mono ?_
    rintro e w2 ⟨rfl, b2⟩
    go_wp2_with fail
    go_ret
    exact ⟨rfl, b1.trans (b2.mono b1.size)⟩
  · have g : ¬ (500 : Int) < s.size := by omega
    have hle : s.size ≤ 1000000 := by omega
    have FO := Lib.hid (fine_obj s (by omega))
    have FA := Lib.hid (fine_all s (by omega))
    have HO := Lib.hid (fun w h => parseObj_any s w h hle)
    have HRO := Lib.hid (fun w => rparseObj_any s w hle)
    have HA := Lib.hid (fun w h => parseAll_any s w h hle)
    have HRA := Lib.hid (fun w => rparseAll_any s w hle)
    obtain ⟨⟨o1, o2, oc, oa⟩, ho⟩ : ∃ r, parseObj s = r := ⟨_, rfl⟩
    obtain ⟨⟨a1, a2, ac, aa⟩, ha⟩ : ∃ r, parseAll s = r := ⟨_, rfl⟩
    rw [ho] at FO HO HRO
    rw [ha] at FA HA HRA
    clear ho ha
    go_enter Tryd.func6, Tryd.ntmps6
    go_wp2_with fail
    refine (nawake_any _ HE.out).mono ?_
    rintro e w1 ⟨rfl, b1⟩
    have HE1 := Lib.hid (HE.out.below b1)
    have HB1 := Lib.hid b1
    clear b1 HE
    go_wp2_with fail
    refine (HO.out _ HE1.out).mono ?_
    rintro e w2 ⟨rfl, b2⟩
    have HEa := Lib.hid (env_alloc (HE1.out.below b2) (.cells #[.string o1, .string o2] 25))
    have HBa := Lib.hid (below_alloc (HB1.out.trans (b2.mono HB1.out.size)) (.cells #[.string o1, .string o2] 25))
    have Pa := Lib.hid (Pair.new w2 25 o1 o2)
    clear b2 HE1 HB1
    go_wp2_with fail
    refine (HRO.out _).mono ?_
    rintro e w3 ⟨rfl, b3⟩
    have HEb := Lib.hid (env_alloc (HEa.out.below b3) (.cells #[.string o1, .string o2] 25))
    have HBb := Lib.hid (below_alloc (HBa.out.trans (b3.mono HBa.out.size)) (.cells #[.string o1, .string o2] 25))
    have Pab := Lib.hid ((Pa.out.below b3).alloc (.cells #[.string o1, .string o2] 25))
    have Pbb := Lib.hid (Pair.new w3 25 o1 o2)
    clear b3 HEa HBa Pa
    go_wp2_with fail
    refine (HA.out _ HEb.out).mono ?_
    rintro e w4 ⟨rfl, b4⟩
    have HEc := Lib.hid (env_alloc (HEb.out.below b4) (.cells #[.string a1, .string a2] 34))
    have HBc := Lib.hid (below_alloc (HBb.out.trans (b4.mono HBb.out.size)) (.cells #[.string a1, .string a2] 34))
    have Pac := Lib.hid ((Pab.out.below b4).alloc (.cells #[.string a1, .string a2] 34))
    have Pbc := Lib.hid ((Pbb.out.below b4).alloc (.cells #[.string a1, .string a2] 34))
    have Pcc := Lib.hid (Pair.new w4 34 a1 a2)
    clear b4 HEb HBb Pab Pbb
    go_wp2_with fail
    refine (HRA.out _).mono ?_
    rintro e w5 ⟨rfl, b5⟩
    have HEd := Lib.hid (env_alloc (HEc.out.below b5) (.cells #[.string a1, .string a2] 34))
    have HBd := Lib.hid (below_alloc (HBc.out.trans (b5.mono HBc.out.size)) (.cells #[.string a1, .string a2] 34))
    have Pad := Lib.hid ((Pac.out.below b5).alloc (.cells #[.string a1, .string a2] 34))
    have Pbd := Lib.hid ((Pbc.out.below b5).alloc (.cells #[.string a1, .string a2] 34))
    have Pcd := Lib.hid ((Pcc.out.below b5).alloc (.cells #[.string a1, .string a2] 34))
    have Pdd := Lib.hid (Pair.new w5 34 a1 a2)
    clear b5 HEc HBc Pac Pbc Pcc
    have ca0 := Pad.out.c0
    have ca1 := Pad.out.c1
    have cb0 := Pbd.out.c0
    have cb1 := Pbd.out.c1
    go_wp2_with fail
    refine (told_any oc oa FO.out _ HEd.out).mono ?_
    rintro e w6 ⟨rfl, b6⟩
    have HE6 := Lib.hid (HEd.out.below b6)
    have HB6 := Lib.hid (HBd.out.trans (b6.mono HBd.out.size))
    have P3 := Lib.hid (Pcd.out.below b6)
    have P4 := Lib.hid (Pdd.out.below b6)
    clear b6 HEd HBd ca0 ca1 cb0 cb1 Pad Pbd Pcd Pdd
    have ca0 := P3.out.c0
    have ca1 := P3.out.c1
    have cb0 := P4.out.c0
    have cb1 := P4.out.c1
    go_wp2_with fail
    refine (told_any ac aa FA.out _ HE6.out).mono ?_
    rintro e w7 ⟨rfl, b7⟩
    have HB7 := Lib.hid (HB6.out.trans (b7.mono HB6.out.size))
    clear b7 HE6 HB6
    go_wp2_with fail
    go_ret
    exact ⟨rfl, HB7.out⟩

set_option maxRecDepth 100000 in
theorem lifted (os : Os) (started : os.Started) (H : Type) (enc : TypeId × Value → H) :
    ReturnsInHanded {} Tryd.checked os 6 .any (fun w args => (Rows.nameParsesSpec.pre enc Tryd.prog Tryd.f6 Rows.nameParsesRow.domain false w args ∧ laidMetH Tryd.prog laidL w) ∧ sizedMet enc Tryd.prog Tryd.f6 (OpenSpec.ofChange Rows.nameParsesSpec) false w args)
      (Rows.nameParsesSpec.post enc Tryd.prog Tryd.f6 false true false false) := by
  refine wrap_and (C := Tryd.checked) (X := fun w _ => laidMetH Tryd.prog laidL w) (fun _ _ _ hh h => h.of_heap hh) own started (by kernel_rfl) Tryd.func6
    (ChangeSpec.witness_shaped (enc := enc) (C := Tryd.checked) (os := os) (X := fun w _ => laidMetH Tryd.prog laidL w) false (World.doorLaid Tryd.prog 400 os) #[.string ByteArray.empty] 8 rfl (World.shaped_of_RefB (by kernel_rfl) (by kernel_rfl)) (by kernel_rfl) (by kernel_rfl) (by kernel_rfl) (door_met os _)) ?_
  intro W base args ds gs before hval0 hW hsh hL
  have hE := env_of_laid hL hsh
  have hval : ∀ (j : Nat) t v, Tryd.f6.params[j]? = some t → args[j]? = some v → Value.okWide Tryd.prog W .any base t v := hval0
  have hW' := hW
  obtain ⟨p, q, hA0, hV, rfl, hfz, hnd⟩ := hW
  have hA : DataW.TrodAll enc Tryd.prog W 0 (fun _ => true) true Tryd.f6.params.toList args.toList ds p := hA0
  rw [Tryd.params6] at hA hval
  obtain ⟨v0, vs0, d0, ds0, p0, q0, hargs, rfl, rfl, h0, r0⟩ := trodAll_cons hA
  obtain ⟨rfl, rfl, rfl⟩ := trodAll_nil r0
  obtain rfl : args = #[v0] := by cases args; simp_all
  obtain ⟨rfl, rfl⟩ := trodVars_none hV
  obtain ⟨a0, rfl, rfl, rfl, w0⟩ := open_string Tryd.underlying9 (hval 0 9 v0 rfl rfl) h0
  clear hA0 hval0
  refine (walk a0 W w0 hE).mono fun e W' ⟨he, bel⟩ => ?_
  subst he
  exact ⟨_, rfl, _, _, _, [], _, [], hW', trodAll_mk1 (shut_bool Tryd.underlying4 _), (trodAll_cons_mk (shut_string Tryd.underlying9 w0) trodAll_mk0), rfl, bel.frame _, fun h => by cases h⟩

theorem over : Rows.NameParsesSaid :=
  OpenClaim.holds_of_wide 6 Tryd.f6 rfl rfl rfl rfl rfl rfl rfl ⟨rfl, rfl, rfl, rfl, rfl⟩ rfl rfl rfl rfl rfl (by kernel_rfl) Tryd.func6 (by kernel_rfl)
    (of_decide_eq_true (by kernel_rfl)) (by unfold Func.isWrapper; first | (rw [if_pos (by decide +kernel)]; kernel_rfl) | (rw [if_neg (by decide +kernel)]; exact ⟨rfl, rfl⟩))
    (fun os started H enc _ => lifted os started H enc)

/-- THE STATEMENT: the tied card. -/
theorem proved : Rows.NameParsesCardSaid :=
  Claim7.holds_tied_plain_at .later [] Rows.nameParsesCard.laidKinds true Rows.nameParsesCard.stood.harness Rows.nameParsesCard.stood.looks
    over (fun _ h => by cases h) (by kernel_rfl) (fun _ h => by cases h) nameParses_row_tie rfl ⟨rfl, rfl⟩ (by kernel_rfl) rfl
    (fun f fn hf hfn => by
      obtain rfl : f = 6 := Option.some.inj ((show Tryd.prog.funcNamed "vestry/vestrylaw08.NameParses" = some 6 by kernel_rfl).symm.trans hf) |>.symm
      obtain rfl : fn = Tryd.f6 := (Option.some.inj (Tryd.func6.symm.trans hfn)).symm
      exact ⟨by kernel_rfl, fun j t ht => by
        rw [Tryd.params6] at ht
        have hm : t ∈ [9] := by have := Array.mem_of_getElem? ht; simpa using this
        have hall : ([9].all fun u => !Tryd.prog.wantsStandIn u) = true := by kernel_rfl
        exact (show Tryd.prog.wantsStandIn t = false by simpa using List.all_eq_true.1 hall t hm)⟩)
    (by kernel_rfl)
end Go.Proofs.YtihjmjhajjgjoaaDoor.nameParses
