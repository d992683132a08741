/-
  vestrylaw09.awake.
-/
import Derived.Test.YtnhfcggecmncmaaDoorLexH
namespace Go.Proofs.YtnhfcggecmncmaaDoor
open Go.ChangeShapes Go.WideShapes Go.ChangeAt Go.RowKit
open errAs (ErrT)
set_option linter.unusedVariables false

/-- What the package-level variables that the calls read hold. -/
def Env (w : World) : Prop := ResT w ∧ ErrT w
theorem Env.below {w w' : World} (h : Env w) (hb : Below w.heap.size w w') : Env w' := ⟨h.1.below hb h.1.lt, errT_below h.2 hb⟩
theorem tk1 : tokS [97, 45, 62, 98, 32, 47, 47, 32, 99] = ([mkT 1 [97] 0, mkT 2 [45, 62] 1, mkT 1 [98] 3, mkT 3 [] 9], 0, 0) := by decide +kernel
theorem tk2 : tokS [97, 32, 65] = ([], 5, 2) := by decide +kernel
theorem tk3 : joinT [mkT 1 [97] 0, mkT 2 [45, 62] 1, mkT 1 [98] 3, mkT 3 [] 9] = [97, 32, 45, 62, 32, 98] := by decide +kernel
theorem tk4 : lineR ⟨#[97, 10, 98, 99]⟩ 3 = (2, 2) := by decide +kernel
theorem sameT_refl (ts : List Tok) : sameT ts ts = true := decide_eq_true rfl
theorem bstr_list (l : List UInt8) : (bstr l).toList = l := toList_data _

set_option maxRecDepth 100000 in
set_option maxHeartbeats 4000000 in
theorem awake_any (w : World) (h : Env w) : Calls Tryd.prog 8 #[] w fun e w' => e = .returned (.bool true) ∧ Below w.heap.size w w' := by
  have HE := Lib.hid h
  have hp1 := lex_any ⟨#[97, 45, 62, 98, 32, 47, 47, 32, 99]⟩ (by decide) w h.1
  rw [show (⟨#[97, 45, 62, 98, 32, 47, 47, 32, 99]⟩ : ByteArray).data.toList = [97, 45, 62, 98, 32, 47, 47, 32, 99] from rfl, tk1] at hp1
  have HP1 := Lib.hid hp1
  clear h hp1
  go_enter Tryd.func8, Tryd.ntmps8
  go_wp2_with fail
  refine HP1.out.mono ?_
  rintro e w1 ⟨v1, rfl, t1, b1⟩
  rw [show errF (([mkT 1 [97] 0, mkT 2 [45, 62] 1, mkT 1 [98] 3, mkT 3 [] 9], 0, 0) : Toks).2.1 (([mkT 1 [97] 0, mkT 2 [45, 62] 1, mkT 1 [98] 3, mkT 3 [] 9], 0, 0) : Toks).2.2 = .nilIface from rfl]
  have HE1 := Lib.hid (HE.out.below b1)
  have HB1 := Lib.hid b1
  have HT1 := Lib.hid t1
  have hp2 := lex_any ⟨#[97, 32, 65]⟩ (by decide) w1 HE1.out.1
  rw [show (⟨#[97, 32, 65]⟩ : ByteArray).data.toList = [97, 32, 65] from rfl, tk2] at hp2
  have HP2 := Lib.hid hp2
  clear b1 t1 HP1 hp2 HE
  go_wp2_with fail
  refine HP2.out.mono ?_
  rintro e w2 ⟨v2, rfl, t2, b2⟩
  have HE2 := Lib.hid (HE1.out.below b2)
  have HB2 := Lib.hid (HB1.out.trans (b2.mono HB1.out.size))
  have ht := HT1.out.later b2
  have HT2 := Lib.hid ht
  obtain ⟨q, c, rfl, hqc⟩ := ht.form
  obtain ⟨g, hg, hlt, hcs⟩ : ∃ g, q = some ⟨g, 0, none⟩ ∧ g < w2.heap.size ∧ ∀ i, i < 4 → ∀ j, j < 3 → w2.cell? ⟨g, 3 * i + j, none⟩ = (tkv ([mkT 1 [97] 0, mkT 2 [45, 62] 1, mkT 1 [98] 3, mkT 3 [] 9].getD i (0, [], 0)))[j]? := by
    obtain ⟨q', c', e, _, h3⟩ := ht.rd
    simp only [Value.slice.injEq] at e
    obtain ⟨rfl, _, _⟩ := e
    rcases ht.2 with ⟨h, hn⟩ | ⟨g, cap, cur, hv, _⟩
    · simp at hn
    · simp only [Value.slice.injEq] at hv
      obtain ⟨rfl, _, _⟩ := hv
      obtain ⟨b, o, e, h5, h6⟩ := h3 (by decide)
      simp only [Option.some.injEq, Addr.mk.injEq] at e
      obtain ⟨rfl, rfl, _⟩ := e
      exact ⟨_, rfl, h5, fun i hi j hj => by have := h6 i hi j hj; rwa [Nat.zero_add] at this⟩
  subst hg
  have HCS : Hid (∀ W, Below w2.heap.size w2 W → W.cell? ⟨g, 3, none⟩ = some (.int .i64 2) ∧ W.cell? ⟨g, 4, none⟩ = some (.string ⟨#[45, 62]⟩) ∧ W.cell? ⟨g, 8, none⟩ = some (.int .i64 3) ∧ W.cell? ⟨g, 9, none⟩ = some (.int .i64 3) ∧ W.cell? ⟨g, 11, none⟩ = some (.int .i64 9)) := fun W hb =>
    ⟨(hb.cell (p := ⟨g, 3, none⟩) hlt).trans (hcs 1 (by omega) 0 (by omega)), (hb.cell (p := ⟨g, 4, none⟩) hlt).trans (hcs 1 (by omega) 1 (by omega)), (hb.cell (p := ⟨g, 8, none⟩) hlt).trans (hcs 2 (by omega) 2 (by omega)), (hb.cell (p := ⟨g, 9, none⟩) hlt).trans (hcs 3 (by omega) 0 (by omega)), (hb.cell (p := ⟨g, 11, none⟩) hlt).trans (hcs 3 (by omega) 2 (by omega))⟩
  obtain ⟨d0, d1, d2, d3, d4⟩ := HCS.out w2 (Below.refl _ _)
  rw [show [mkT 1 [97] 0, mkT 2 [45, 62] 1, mkT 1 [98] 3, mkT 3 [] 9].length = 4 from rfl] at hqc HT2 ⊢
  have hc4 : (4 : Int) ≤ c := by omega
  have HL := Lib.hid (lline_any ⟨#[97, 10, 98, 99]⟩ 3 (by decide) w2)
  rw [tk4] at HL
  clear b2 t2 ht hcs HP2 HT1 HE1 hqc
  go_wp2_with fail
  refine HL.out.mono ?_
  rintro e w3 ⟨rfl, rfl⟩
  go_wp2_with fail
  refine (told_any 5 2 _ HE2.out.2).mono ?_
  rintro e w4 ⟨rfl, b4⟩
  have HT4 := Lib.hid (HT2.out.later b4)
  have HB4 := Lib.hid (HB2.out.trans (b4.mono HB2.out.size))
  have hj := ljoin_any HT4.out.rd (Nat.le_refl _) (by decide) (by unfold Fits; decide)
  rw [tk3] at hj
  have HJ := Lib.hid hj
  clear b4 hj HT2 HB2 HL
  go_wp2_with fail
  refine HJ.out.mono ?_
  rintro e w5 ⟨rfl, b5⟩
  have HT5 := Lib.hid (HT4.out.later b5)
  have HB5 := Lib.hid (HB4.out.trans (b5.mono HB4.out.size))
  have HS := Lib.hid (lsame HT5.out.rd HT5.out.rd (by decide) (by decide))
  rw [sameT_refl] at HS
  have hjs := bstr_list [97, 32, 45, 62, 32, 98]
  clear b5 HJ HT4 HB4
  go_wp2_with fail
  refine HS.out.mono ?_
  rintro e w6 ⟨rfl, n6, rfl⟩
  have HB6 := Lib.hid (HB5.out.trans ((Joins.below_draws w5.heap.size w5 n6).mono HB5.out.size))
  go_wp2_with fail
  go_ret
  exact ⟨rfl, HB6.out⟩
end Go.Proofs.YtnhfcggecmncmaaDoor
