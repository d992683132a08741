/-
  awake of stage 16.
-/
import Derived.Test.YtdnmgemjhpkekaaGreatDoorMg5
import Derived.Test.YtdnmgemjhpkekaaGreatDoorMg4
import Derived.Test.YtdnmgemjhpkekaaGreatDoorTold
import Derived.Test.YtdnmgemjhpkekaaGreatDoorSame
import Derived.Test.YtdnmgemjhpkekaaGreatDoorMg0
import Derived.Laws.AppendOwnNone
import Derived.Deep.Slices
import Derived.Deep.Fields
import Derived.ChangeSame
import Derived.SizedLaws
import Derived.HandedShaped
import Derived.OpenShut
import Derived.Test.YtdnmgemjhpkekaaGreatDoorMg1
namespace Go.Proofs.YtdnmgemjhpkekaaGreatDoor
open Go.ChangeShapes Go.WideShapes Go.ChangeAt Go.RowKit
set_option linter.unusedVariables false

def exA : Ex := .mk 1 [] [97] []
theorem pE1 : parseEx [1, 1, 97] = (exA, 0, 0) := by kernel_rfl
theorem pE2 : parseEx [9] = (ex0, 6, 0) := by kernel_rfl
theorem pS1 : putSc [([97], [])] = [1, 1, 97, 0] := by decide +kernel
theorem pX1 : putE exA = [1, 1, 97] := by decide +kernel
theorem good1 : GoodS [([97], [])] := by
  refine ⟨by decide, fun d hd => ?_⟩
  simp only [List.mem_cons, List.not_mem_nil, or_false] at hd
  subst hd
  exact ⟨by decide +kernel, by decide, fun m hm => by cases hm⟩
theorem aw1 (w : World) (hE : Env w) : Calls Tryz.prog 18 #[.slice (some ⟨w.heap.size, 0, none⟩) 3 3] (w.alloc (.cells #[.int .u8 1, .int .u8 1, .int .u8 97] 5)) fun r w' => ∃ q c, r = .returned (.tuple #[.agg #[.int .i64 1, .string ⟨#[]⟩, .string ⟨#[97]⟩, .slice q 0 c], .nilIface]) ∧ RdE (fun b => b < w'.heap.size) w' exA (.agg #[.int .i64 1, .string ⟨#[]⟩, .string ⟨#[97]⟩, .slice q 0 c]) ∧ Below w.heap.size w w' := by
  have hb := (Below.refl w.heap.size w).alloc (Nat.le_refl _) (.cells #[.int .u8 1, .int .u8 1, .int .u8 97] 5)
  refine (cParseExpr_any (W := w.alloc (.cells #[.int .u8 1, .int .u8 1, .int .u8 97] 5)) (b := [1, 1, 97]) ?_ (by decide) (hE.below hb)).mono ?_
  · rw [World.size_alloc]; exact rd_lit w [1, 1, 97] _ rfl 3 rfl (by show 3 ≤ maxLen; unfold maxLen; omega)
  rintro r w' ⟨v, rfl, hv, b⟩
  rw [pE1] at hv ⊢
  obtain ⟨q, c, rfl, _⟩ := hv.form
  exact ⟨q, c, rfl, hv.imp fun b hb => hb.2, hb.trans (b.mono hb.size)⟩
theorem aw2 (w : World) (hE : Env w) : Calls Tryz.prog 18 #[.slice (some ⟨w.heap.size, 0, none⟩) 1 1] (w.alloc (.cells #[.int .u8 9] 5)) fun r w' => ∃ q c, r = .returned (.tuple #[.agg #[.int .i64 0, .string ⟨#[]⟩, .string ⟨#[]⟩, .slice q 0 c], errF 6 0]) ∧ Below w.heap.size w w' := by
  have hb := (Below.refl w.heap.size w).alloc (Nat.le_refl _) (.cells #[.int .u8 9] 5)
  refine (cParseExpr_any (W := w.alloc (.cells #[.int .u8 9] 5)) (b := [9]) ?_ (by decide) (hE.below hb)).mono ?_
  · rw [World.size_alloc]; exact rd_lit w [9] _ rfl 1 rfl (by show 1 ≤ maxLen; unfold maxLen; omega)
  rintro r w' ⟨v, rfl, hv, b⟩
  rw [pE2] at hv ⊢
  obtain ⟨q, c, rfl, _⟩ := hv.form
  exact ⟨q, c, rfl, hb.trans (b.mono hb.size)⟩
theorem aw3 (w : World) (hE : Env w) : Calls Tryz.prog 12 #[.agg #[.slice (some ⟨w.heap.size, 0, none⟩) 1 1]] (w.alloc (.cells #[.string ⟨#[97]⟩, .slice none 0 0] 53)) fun r w' => ∃ q c, r = .returned (.tuple #[.slice q 4 c, .bool true]) ∧ Rd w'.heap.size w' (.slice q 4 c) [1, 1, 97, 0] ∧ Below w.heap.size w w' := by
  have hb := (Below.refl w.heap.size w).alloc (Nat.le_refl _) (.cells #[.string ⟨#[97]⟩, .slice none 0 0] 53)
  have hA := Arr.new' w 53 #[.string ⟨#[97]⟩, .slice none 0 0] _ rfl
  refine (cPut_any [([97], [])] (some ⟨w.heap.size, 0, none⟩) 1 (fun b => b < (w.alloc (.cells #[.string ⟨#[97]⟩, .slice none 0 0] 53)).heap.size) _ ?_ (fun _ h => h) good1 (hE.below hb).1).mono ?_
  · refine ⟨_, _, rfl, by decide, fun _ => ⟨w.heap.size, 0, rfl, hA.lt, [.string ⟨#[97]⟩, .slice none 0 0], ⟨[.string ⟨#[97]⟩, .slice none 0 0], [], rfl, ⟨.slice none 0 0, rfl, none, 0, rfl, Nat.le_refl _, fun h => absurd h (by decide)⟩, rfl⟩, fun j u hj => ?_⟩⟩
    rw [Nat.zero_add, hA.cell j]
    exact hj
  rintro r w' ⟨v, rfl, ho, b⟩
  rw [pS1] at ho
  obtain ⟨q, c, rfl⟩ := own_form ho
  exact ⟨q, c, rfl, (Rd.of_own ho), hb.trans (b.mono hb.size)⟩
theorem aw4 {w : World} {q : Option Addr} {c : Nat} (hr : Rd w.heap.size w (.slice q 4 c) [1, 1, 97, 0]) (hE : Env w) : Calls Tryz.prog 8 #[.slice q 4 c] w fun r w' => ∃ q c, r = .returned (.tuple #[.agg #[.slice q 1 c], .nilIface]) ∧ Below w.heap.size w w' := by
  refine (cParse_any hr (by decide) hE).mono ?_
  rintro r w' ⟨v, rfl, ⟨u, rfl, hu⟩, b⟩
  have e : parseSc [1, 1, 97, 0] = ([([97], [])], 0, 0) := by rw [← pS1]; exact parseSc_put good1
  rw [e] at hu ⊢
  obtain ⟨q, c, rfl, _⟩ := hu
  exact ⟨q, c, rfl, b⟩
theorem mk1 (w : World) : (Instr.makeSlice 24 (.int .i64 1) (.int .i64 1)).run Tryz.prog w = .ok (.slice (some ⟨w.heap.size, 0, none⟩) 1 1) (w.alloc (.cells #[.string ByteArray.empty, .slice none 0 0] 53)) := by kernel_rfl
set_option maxRecDepth 100000 in
set_option maxHeartbeats 2000000 in
theorem cons0 (fn : Fn) (q1 q2 : Array Value) (W : World) : Calls Tryz.prog 90 #[.string ByteArray.empty, .int .i64 64, .func fn q1 q2] W fun r w' => r = .returned (.bool false) ∧ Below W.heap.size W w' := by
  go_enter Tryz.func90, Tryz.ntmps90
  go_wp2_with fail
  go_ret
  exact ⟨rfl, Below.refl _ _⟩
set_option maxRecDepth 100000 in
set_option maxHeartbeats 2000000 in
theorem is0 (W : World) : Calls Tryz.prog 73 #[.string ByteArray.empty] W fun r w' => r = .returned (.bool false) ∧ Below W.heap.size W w' := by
  go_enter Tryz.func73, Tryz.ntmps73
  go_wp2_with fail
  refine (cons0 _ _ _ _).mono ?_
  rintro r w1 ⟨rfl, b1⟩
  go_wp2_with fail
  go_ret
  exact ⟨rfl, b1⟩
set_option maxRecDepth 100000 in
set_option maxHeartbeats 2000000 in
theorem hf0 (W : World) : Calls Tryz.prog 59 #[.agg #[.string ByteArray.empty, .slice none 0 0]] W fun r w' => r = .returned (.bool false) ∧ Below W.heap.size W w' := by
  have hb := (Below.refl W.heap.size W).alloc (Nat.le_refl _) (.cells #[.string ByteArray.empty, .slice none 0 0] 53)
  go_enter Tryz.func59, Tryz.ntmps59
  go_wp2_with fail
  refine (is0 _).mono ?_
  rintro r w1 ⟨rfl, b1⟩
  go_wp2_with fail
  go_ret
  exact ⟨rfl, hb.trans (b1.mono hb.size)⟩
set_option maxRecDepth 100000 in
set_option maxHeartbeats 2000000 in
/-- Put of a schema of no form. -/
theorem aw5 (w : World) : Calls Tryz.prog 12 #[.agg #[.slice (some ⟨w.heap.size, 0, none⟩) 1 1]] (w.alloc (.cells #[.string ByteArray.empty, .slice none 0 0] 53)) fun r w' => r = .returned (.tuple #[.slice none 0 0, .bool false]) ∧ Below w.heap.size w w' := by
  have hb := (Below.refl w.heap.size w).alloc (Nat.le_refl _) (.cells #[.string ByteArray.empty, .slice none 0 0] 53)
  have hA := Arr.new' w 53 #[.string ByteArray.empty, .slice none 0 0] _ rfl
  obtain ⟨w1, hw1⟩ : ∃ x, x = w.alloc (.cells #[.string ByteArray.empty, .slice none 0 0] 53) := ⟨_, rfl⟩
  rw [← hw1] at hA hb ⊢
  have hb1 := (Below.refl w1.heap.size w1).alloc (Nat.le_refl _) (.cells #[.slice (some ⟨w.heap.size, 0, none⟩) 1 1] 26)
  have HF := Lib.hid (form1 (b := false) (hA.later hb1) fun W' _ => hf0 W')
  have HB := Lib.hid (hb.trans (hb1.mono hb.size))
  clear hb hb1 hA hw1
  go_enter Tryz.func12, Tryz.ntmps12
  go_wp2_with fail
  refine HF.out.mono ?_
  rintro r w2 ⟨rfl, b2⟩
  have HB2 := Lib.hid (HB.out.trans (b2.mono HB.out.size))
  clear b2 HB HF
  go_wp2_with fail
  go_ret2
  exact ⟨rfl, HB2.out⟩
set_option maxRecDepth 100000 in
set_option maxHeartbeats 4000000 in
theorem awake_any (W : World) (hE : Env W) : Calls Tryz.prog 7 #[] W fun r w' => r = .returned (.bool true) ∧ Below W.heap.size W w' := by
  have hm := mk1
  have HA1 := Lib.hid (aw1 W hE)
  have HE := Lib.hid hE
  clear hE
  go_enter Tryz.func7, Tryz.ntmps7
  go_upto_region 1 with (fail)
  go_wp2_with fail
  refine HA1.out.mono ?_
  rintro r w1 ⟨q1, c1, rfl, hR1, b1⟩
  have HR1 := Lib.hid hR1
  have HB1 := Lib.hid b1
  clear hR1 b1 HA1
  go_upto_region 2 with (fail)
  have hb1 := (Below.refl w1.heap.size w1).alloc (Nat.le_refl _) (.cells #[.int .i64 1, .string ⟨#[]⟩, .string ⟨#[97]⟩, .slice q1 0 c1] 42)
  have HA1 : Hid (Arr (w1.alloc (.cells #[.int .i64 1, .string ⟨#[]⟩, .string ⟨#[97]⟩, .slice q1 0 c1] 42)) 42 w1.heap.size [.int .i64 1, .string ⟨#[]⟩, .string ⟨#[97]⟩, .slice q1 0 c1]) := Arr.new' _ _ _ _ rfl
  have HR2 : Hid (RdE (fun b => b < w1.heap.size) (w1.alloc (.cells #[.int .i64 1, .string ⟨#[]⟩, .string ⟨#[97]⟩, .slice q1 0 c1] 42)) exA (.agg #[.int .i64 1, .string ⟨#[]⟩, .string ⟨#[97]⟩, .slice q1 0 c1])) := HR1.out.below hb1 fun _ h => h
  have HB2 := Lib.hid (HB1.out.trans (hb1.mono HB1.out.size))
  have HLT : Hid (w1.heap.size < (w1.alloc (.cells #[.int .i64 1, .string ⟨#[]⟩, .string ⟨#[97]⟩, .slice q1 0 c1] 42)).heap.size) := HA1.out.lt
  obtain ⟨g1, hg1⟩ : ∃ g, g = w1.heap.size := ⟨_, rfl⟩
  rw [← hg1] at HA1 HR2 HLT ⊢
  clear hb1 HR1 HB1
  generalize w1.alloc (.cells #[.int .i64 1, .string ⟨#[]⟩, .string ⟨#[97]⟩, .slice q1 0 c1] 42) = w2 at HA1 HR2 HB2 HLT ⊢
  clear hg1
  have HC := Lib.hid (aw2 w2 (HE.out.below HB2.out))
  go_wp2_with fail
  refine HC.out.mono ?_
  rintro r w3 ⟨q2, c2, rfl, b3⟩
  have HB3 := Lib.hid (HB2.out.trans (b3.mono HB2.out.size))
  have HA3 := Lib.hid (HA1.out.later b3)
  have HR3 : Hid (RdE (fun b => b < g1) w3 exA (.agg #[.int .i64 1, .string ⟨#[]⟩, .string ⟨#[97]⟩, .slice q1 0 c1])) := HR2.out.below b3 fun b hb => Nat.lt_trans hb HLT.out
  have HL3 : Hid (g1 < w3.heap.size) := HA3.out.lt
  clear b3 HC HA1 HR2 HB2 HLT
  obtain ⟨er, her⟩ : ∃ v, v = errF 6 0 := ⟨_, rfl⟩
  rw [← her]
  have HER := Lib.hid her
  clear her
  go_upto_region 3 with (fail)
  have hb1 := (Below.refl w3.heap.size w3).alloc (Nat.le_refl _) (.cells #[.int .i64 0, .string ⟨#[]⟩, .string ⟨#[]⟩, .slice q2 0 c2] 42)
  have HB4 := Lib.hid (HB3.out.trans (hb1.mono HB3.out.size))
  have HA4 := Lib.hid (HA3.out.later hb1)
  have HR4 : Hid (RdE (fun b => b < g1) _ exA (.agg #[.int .i64 1, .string ⟨#[]⟩, .string ⟨#[97]⟩, .slice q1 0 c1])) := HR3.out.below hb1 fun b hb => Nat.lt_trans hb HL3.out
  clear hb1 HB3 HA3 HR3 HL3
  generalize w3.alloc (.cells #[.int .i64 0, .string ⟨#[]⟩, .string ⟨#[]⟩, .slice q2 0 c2] 42) = w4 at HB4 HA4 HR4 ⊢
  have HC := Lib.hid (aw3 w4 (HE.out.below HB4.out))
  go_wp2_with fail
  refine HC.out.mono ?_
  rintro r w5 ⟨q3, c3, rfl, hR5, b5⟩
  have HB5 := Lib.hid (HB4.out.trans (b5.mono HB4.out.size))
  have HA5 := Lib.hid (HA4.out.later b5)
  have HR5 : Hid (RdE (fun b => b < g1) w5 exA (.agg #[.int .i64 1, .string ⟨#[]⟩, .string ⟨#[97]⟩, .slice q1 0 c1])) := HR4.out.below b5 fun b hb => Nat.lt_trans hb HA4.out.lt
  have HP5 := Lib.hid hR5
  clear b5 hR5 HC HA4 HR4 HB4
  have HC := Lib.hid (aw4 HP5.out (HE.out.below HB5.out))
  go_wp2_with fail
  refine HC.out.mono ?_
  rintro r w6 ⟨q4, c4, rfl, b6⟩
  have HB6 := Lib.hid (HB5.out.trans (b6.mono HB5.out.size))
  have HA6 := Lib.hid (HA5.out.later b6)
  have HR6 : Hid (RdE (fun b => b < g1) w6 exA (.agg #[.int .i64 1, .string ⟨#[]⟩, .string ⟨#[97]⟩, .slice q1 0 c1])) := HR5.out.below b6 fun b hb => Nat.lt_trans hb HA5.out.lt
  have HP6 := Lib.hid ((HP5.out.below b6 (Nat.le_refl _)).mono b6.size)
  clear b6 HC HA5 HR5 HB5 HP5
  go_upto_region 5 with (fail)
  have hb1 := (Below.refl w6.heap.size w6).alloc (Nat.le_refl _) (.cells #[.slice q4 1 c4] 26)
  have HS7 : Hid (Arr (w6.alloc (.cells #[.slice q4 1 c4] 26)) 26 w6.heap.size [.slice q4 1 c4]) := Arr.new' _ _ _ _ rfl
  have HB7 := Lib.hid (HB6.out.trans (hb1.mono HB6.out.size))
  have HA7 := Lib.hid (HA6.out.later hb1)
  have HR7 : Hid (RdE (fun b => b < g1) _ exA (.agg #[.int .i64 1, .string ⟨#[]⟩, .string ⟨#[97]⟩, .slice q1 0 c1])) := HR6.out.below hb1 fun b hb => Nat.lt_trans hb HA6.out.lt
  have HP7 := Lib.hid ((HP6.out.below hb1 (Nat.le_refl _)).mono hb1.size)
  obtain ⟨g2, hg2⟩ : ∃ g, g = w6.heap.size := ⟨_, rfl⟩
  rw [← hg2] at HS7 ⊢
  clear hb1 HB6 HA6 HR6 HP6
  generalize w6.alloc (.cells #[.slice q4 1 c4] 26) = w7 at HS7 HB7 HA7 HR7 HP7 ⊢
  clear hg2
  have HC := Lib.hid (aw5 w7)
  go_wp2_with fail
  refine HC.out.mono ?_
  rintro r w8 ⟨rfl, b8⟩
  have HB8 := Lib.hid (HB7.out.trans (b8.mono HB7.out.size))
  have HA8 := Lib.hid (HA7.out.later b8)
  have HS8 := Lib.hid (HS7.out.later b8)
  have HR8 : Hid (RdE (fun b => b < g1) w8 exA (.agg #[.int .i64 1, .string ⟨#[]⟩, .string ⟨#[97]⟩, .slice q1 0 c1])) := HR7.out.below b8 fun b hb => Nat.lt_trans hb HA7.out.lt
  have HP8 := Lib.hid ((HP7.out.below b8 (Nat.le_refl _)).mono b8.size)
  clear b8 HC HA7 HS7 HR7 HB7 HP7
  have x0 := HA8.out.cell 0
  have x1 := HA8.out.cell 1
  have x2 := HA8.out.cell 2
  have x3 := HA8.out.cell 3
  simp only [List.getElem?_cons_zero, List.getElem?_cons_succ] at x0 x1 x2 x3
  have HT := Lib.hid (told_any 6 0 w8 (HE.out.below HB8.out).2)
  rw [← HER.out] at HT
  go_wp2_with fail
  refine HT.out.mono ?_
  rintro r w9 ⟨rfl, b9⟩
  have HB9 := Lib.hid (HB8.out.trans (b9.mono HB8.out.size))
  have HA9 := Lib.hid (HA8.out.later b9)
  have HS9 := Lib.hid (HS8.out.later b9)
  have HR9 : Hid (RdE (fun b => b < g1) w9 exA (.agg #[.int .i64 1, .string ⟨#[]⟩, .string ⟨#[97]⟩, .slice q1 0 c1])) := HR8.out.below b9 fun b hb => Nat.lt_trans hb HA8.out.lt
  have HP9 := Lib.hid ((HP8.out.below b9 (Nat.le_refl _)).mono b9.size)
  clear b9 HT HA8 HS8 HR8 HB8 HP8 x0 x1 x2 x3
  go_wp2_with fail
  have hb1 := (Below.refl w9.heap.size w9).alloc (Nat.le_refl _) (.cells #[.int .u8 1, .int .u8 1, .int .u8 97, .int .u8 0] 5)
  refine (same_any (HP9.out.below hb1 (Nat.le_refl _)) (rd_lit w9 [1, 1, 97, 0] #[.int .u8 1, .int .u8 1, .int .u8 97, .int .u8 0] rfl 4 rfl (by show 4 ≤ maxLen; unfold maxLen; omega))).mono ?_
  rintro r wa ⟨rfl, na, rfl⟩
  have ea : eqB [1, 1, 97, 0] [1, 1, 97, 0] = true := by decide +kernel
  rw [ea]
  have hb2 := hb1.trans ((Joins.below_draws _ _ na).mono hb1.size)
  have HBa := Lib.hid (HB9.out.trans (hb2.mono HB9.out.size))
  have HAa := Lib.hid (HA9.out.later hb2)
  have HSa := Lib.hid (HS9.out.later hb2)
  have HRa : Hid (RdE (fun b => b < g1) _ exA (.agg #[.int .i64 1, .string ⟨#[]⟩, .string ⟨#[97]⟩, .slice q1 0 c1])) := HR9.out.below hb2 fun b hb => Nat.lt_trans hb HA9.out.lt
  clear hb1 hb2 ea HA9 HS9 HR9 HB9 HP9
  generalize (World.drewN (w9.alloc (.cells #[.int .u8 1, .int .u8 1, .int .u8 97, .int .u8 0] 5)) na) = wa at HBa HAa HSa HRa ⊢
  have x0 := HAa.out.cell 0
  have x1 := HAa.out.cell 1
  have x2 := HAa.out.cell 2
  have x3 := HAa.out.cell 3
  have z0 := HSa.out.cell 0
  simp only [List.getElem?_cons_zero, List.getElem?_cons_succ] at x0 x1 x2 x3 z0
  have HC : Hid (Calls Tryz.prog 16 #[.agg #[.int .i64 1, .string ⟨#[]⟩, .string ⟨#[97]⟩, .slice q1 0 c1]] wa (Owned wa [1, 1, 97])) := by
    have h := putExpr_any exA _ (fun b => b < g1) wa HRa.out (fun b hb => Nat.lt_trans hb HAa.out.lt) (by decide +kernel) (HE.out.below HBa.out).1
    refine h.mono fun r w' h1 => ?_
    have e1 : rightE exA = true := by decide +kernel
    unfold PutP at h1
    rw [if_pos e1, pX1] at h1
    exact h1
  go_wp2_with fail
  refine HC.out.mono ?_
  rintro r wb ⟨vb, rfl, ob, bb⟩
  have HBb := Lib.hid (HBa.out.trans (bb.mono HBa.out.size))
  have HPb := Lib.hid (Rd.of_own ob)
  obtain ⟨qb, cb, rfl⟩ := own_form ob
  clear ob bb HC HAa HSa HRa HBa x0 x1 x2 x3 z0
  go_wp2_with fail
  have hb1 := (Below.refl wb.heap.size wb).alloc (Nat.le_refl _) (.cells #[.int .u8 1, .int .u8 1, .int .u8 97] 5)
  refine (same_any (HPb.out.below hb1 (Nat.le_refl _)) (rd_lit wb [1, 1, 97] #[.int .u8 1, .int .u8 1, .int .u8 97] rfl 3 rfl (by show 3 ≤ maxLen; unfold maxLen; omega))).mono ?_
  rintro r wc ⟨rfl, nc, rfl⟩
  have ea : eqB [1, 1, 97] [1, 1, 97] = true := by decide +kernel
  rw [ea]
  have hb2 := hb1.trans ((Joins.below_draws _ _ nc).mono hb1.size)
  have HBc := Lib.hid (HBb.out.trans (hb2.mono HBb.out.size))
  clear hb1 hb2 ea
  generalize (World.drewN (wb.alloc (.cells #[.int .u8 1, .int .u8 1, .int .u8 97] 5)) nc) = wc at HBc ⊢
  go_wp2_with fail
  go_ret
  exact ⟨rfl, HBc.out⟩
end Go.Proofs.YtdnmgemjhpkekaaGreatDoor
/-
  vestryref10.Leaves, Right.
-/
namespace Go.Proofs.YtdnmgemjhpkekaaGreatDoor
open Go.ChangeShapes Go.WideShapes Go.ChangeAt Go.RowKit
set_option linter.unusedVariables false

/-- v is a slice of the call's own of expressions whose kids lie in blocks of P. -/
def LvRow (P : Nat → Prop) (base : Nat) (w : World) (v : Value) (ks : List Ex) : Prop := ∃ cs, w.ownsRow base 42 4 v ks.length cs ∧ CellsL P w ks cs
theorem LvRow.nil (P : Nat → Prop) (base : Nat) (w : World) : LvRow P base w (.slice none 0 0) [] := ⟨[], World.ownsRow_nil _ _ _ _, trivial⟩
theorem LvRow.form {P : Nat → Prop} {base : Nat} {w : World} {v : Value} {ks : List Ex} (h : LvRow P base w v ks) : ∃ q c, v = .slice q ks.length c := by
  obtain ⟨cs, h1, _⟩ := h
  rcases h1.2 with ⟨h, hn⟩ | ⟨g, cap, cur, hv, _⟩
  · exact ⟨none, 0, by rw [hn]; exact h⟩
  · exact ⟨_, _, hv⟩
theorem LvRow.later {P : Nat → Prop} {base : Nat} {w w' : World} {v : Value} {ks : List Ex} (h : LvRow P base w v ks) (hb : Below w.heap.size w w') (hP : ∀ b, P b → b < w.heap.size) : LvRow P base w' v ks := by
  obtain ⟨cs, h1, h2⟩ := h
  refine ⟨cs, ⟨h1.1, ?_⟩, h2.keep (cells_below hb hP)⟩
  rcases h1.2 with h | ⟨g, cap, cur, rfl, h0, hg, r⟩
  · exact .inl h
  · exact .inr ⟨g, cap, cur, rfl, h0, (hb.block g (Array.getElem?_eq_some_iff.1 hg).1).trans hg, r⟩
theorem CellsL.app {P : Nat → Prop} {w : World} : ∀ {ks : List Ex} {cs : List Value} {ls : List Ex} {ds : List Value}, CellsL P w ks cs → CellsL P w ls ds → CellsL P w (ks ++ ls) (cs ++ ds)
  | [], [], _, _, _, h2 => h2
  | e :: r, v0 :: v1 :: v2 :: v3 :: cs, _, _, h, h2 => ⟨h.1, CellsL.app h.2 h2⟩
  | [], _ :: _, _, _, h, _ => h.elim
  | _ :: _, [], _, _, h, _ => h.elim
  | _ :: _, [_], _, _, h, _ => h.elim
  | _ :: _, [_, _], _, _, h, _ => h.elim
  | _ :: _, [_, _, _], _, _, h, _ => h.elim
/-- The row read as a slice. -/
theorem LvRow.rdL {P : Nat → Prop} {base : Nat} {w : World} {q : Option Addr} {n c : Nat} {ks : List Ex} (h : LvRow P base w (.slice q n c) ks) : n = ks.length ∧ ks.length ≤ c ∧ (0 < ks.length → ∃ b, q = some ⟨b, 0, none⟩ ∧ base ≤ b ∧ b < w.heap.size ∧ RdL P w ks b 0) := by
  obtain ⟨cs, h1, h2⟩ := h
  rcases h1.2 with ⟨hv, hn⟩ | ⟨g, cap, cur, hv, h0, hg, hcap, _, hcz, htk⟩
  · simp only [Value.slice.injEq] at hv
    obtain ⟨rfl, rfl, rfl⟩ := hv
    exact ⟨hn.symm, by omega, fun h => by omega⟩
  · simp only [Value.slice.injEq] at hv
    obtain ⟨rfl, rfl, rfl⟩ := hv
    refine ⟨rfl, hcap, fun _ => ⟨g, rfl, h0, (Array.getElem?_eq_some_iff.1 hg).1, ?_⟩⟩
    refine h2.rdL fun j u hj => ?_
    rw [Nat.zero_add]
    have hjl : j < cs.length := (List.getElem?_eq_some_iff.1 hj).1
    rw [cell_of_row w g _ cur _ (0, 0) hg, ← Array.getElem?_toList]
    rw [← htk, List.getElem?_take, if_pos (by rw [h1.1] at hjl; exact hjl)] at hj
    exact hj
theorem app_lv {ops : Array Oper} {rest : List Oper} {o : Oper} {a : Act} {Q : Exit → Act → World → Prop} {w : World} (hgd : o.guard = none) (s x : Operand) (ho : o.op = .call { callee := .builtin .append, args := #[s, x], argTypes := #[40, 40] })
    {P : Nat → Prop} {base base2 : Nat} {v vx : Value} {ks ls : List Ex} (hs : a.eval s = v) (hown : LvRow P base w v ks) (hx : a.eval x = vx) (h2 : LvRow P base2 w vx ls) (hP : ∀ b, P b → b < base)
    (hlen : ks.length + ls.length ≤ 1000000) (hbase : base ≤ w.heap.size)
    (h : ∀ v' w', LvRow P base w' v' (ks ++ ls) → Below base w w' → wpList Tryz.prog ops Q rest (a.put o.dst v') w') : wpList Tryz.prog ops Q (o :: rest) a w := by
  obtain ⟨i0, hi, hz0, hz1, hz2⟩ := info_parts Tryz.infoEx
  obtain ⟨cs, h1, hc1⟩ := hown
  obtain ⟨ds, h3, hc3⟩ := h2
  rcases h3.2 with ⟨hv, hn⟩ | ⟨g, cap, cur, hv, h0, hg, hcap, _, hcz, htk⟩
  · obtain rfl : ls = [] := List.eq_nil_of_length_eq_zero hn
    rw [hv] at hx
    refine wpList_append_own_none hgd s x 40 ho base 42 i0 4 Tryz.underlying40 hi v ks.length cs hs h1 hx ?_
    refine h v w ⟨cs, by rw [List.append_nil]; exact h1, by rw [List.append_nil]; exact hc1⟩ (Below.refl _ _)
  · rw [hv] at hx
    refine wpList_append_own w hgd s x 40 ho base 42 i0 _ 4 64 Tryz.underlying40 hi hz0 hz1 hz2 rfl (by decide) v ks.length cs hs h1 ⟨g, 0, none⟩ ls.length cap ds hx h3.1 ?_ hc3.ones (by unfold maxLen; omega) (by omega) hbase ?_
    · intro j u hj
      have hjl : j < ds.length := (List.getElem?_eq_some_iff.1 hj).1
      rw [show (Addr.add ⟨g, 0, none⟩ j) = ⟨g, j, none⟩ by cases j <;> simp [Addr.add], cell_of_row w g _ cur _ (0, 0) hg, ← Array.getElem?_toList]
      rw [← htk, List.getElem?_take, if_pos (by rw [h3.1] at hjl; exact hjl)] at hj
      exact hj
    · intro v' w' r1 r2 _
      have hb : Below base w w' := (Below.refl _ _).grown r2 hbase (fun k hk => (h1.lt k hk).1)
      exact h v' w' ⟨cs ++ ds, by rw [List.length_append]; exact r1, (hc1.app hc3).keep (cells_below hb hP)⟩ hb

set_option maxRecDepth 100000 in
set_option maxHeartbeats 4000000 in
theorem rleaves_any : ∀ (n : Nat) (e : Ex) (v : Value) (P : Nat → Prop) (w : World), sizeE e ≤ n → sizeE e ≤ 900000 → RdE P w e v → (∀ b, P b → b < w.heap.size) → Calls Tryz.prog 41 #[v] w fun r w' => ∃ v', r = .returned v' ∧ LvRow P w.heap.size w' v' (leavesE e) ∧ Below w.heap.size w w' := by
  intro n
  induction n with
  | zero => intro e v P w h; have := sizeE_pos e; omega
  | succ n ih =>
    intro e v P w hn hm h hP
    have H := Lib.hid h
    obtain ⟨q, c, rfl, hc, hk⟩ := h.form
    obtain ⟨k, xv, xn, ks⟩ := e
    unfold exv
    show Calls _ _ #[.agg #[.int .i64 k, .string (bstr xv), .string (bstr xn), .slice q ks.length c]] _ _
    have HK : Hid (0 < ks.length → ∃ b o, q = some ⟨b, o, none⟩ ∧ P b ∧ RdL P w ks b o) := hk
    have hks : sizeL ks ≤ n := by unfold sizeE at hn; omega
    have hkm : sizeL ks ≤ 900000 := by unfold sizeE at hm; omega
    have hlen := sizeL_len ks
    have HIH := Lib.hid ih
    have HP := Lib.hid hP
    have HB0 : Hid (Below w.heap.size w (w.alloc (.cells #[.int .i64 k, .string (bstr xv), .string (bstr xn), .slice q ks.length c] 42))) := (Below.refl _ _).alloc (Nat.le_refl _) _
    have HA0 : Hid (Arr (w.alloc (.cells #[.int .i64 k, .string (bstr xv), .string (bstr xn), .slice q ks.length c] 42)) 42 w.heap.size [.int .i64 k, .string (bstr xv), .string (bstr xn), .slice q ks.length c]) := Arr.new' _ _ _ _ rfl
    have HP0 : Hid (∀ b, P b → b < (w.alloc (.cells #[.int .i64 k, .string (bstr xv), .string (bstr xn), .slice q ks.length c] 42)).heap.size) := fun b hb => Nat.lt_of_lt_of_le (hP b hb) HB0.out.size
    have HLF : Hid (Calls Tryz.prog 66 #[.agg #[.int .i64 k, .string (bstr xv), .string (bstr xn), .slice q ks.length c]] (w.alloc (.cells #[.int .i64 k, .string (bstr xv), .string (bstr xn), .slice q ks.length c] 42)) fun r w' => r = .returned (.bool (leafK k)) ∧ Below (w.alloc (.cells #[.int .i64 k, .string (bstr xv), .string (bstr xn), .slice q ks.length c] 42)).heap.size (w.alloc (.cells #[.int .i64 k, .string (bstr xv), .string (bstr xn), .slice q ks.length c] 42)) w') := rleaf_any (e := .mk k xv xn ks) (H.out.below HB0.out hP)
    obtain ⟨lf, hlf⟩ : ∃ lf, lf = leafK k := ⟨_, rfl⟩
    rw [← hlf] at HLF
    have HLK := Lib.hid hlf
    clear h ih hc hk hn hm hlf hP
    go_enter Tryz.func41, Tryz.ntmps41
    go_wp2_with fail
    refine HLF.out.mono ?_
    rintro r w2 ⟨rfl, b2⟩
    have HA2 := Lib.hid (HA0.out.later b2)
    have HB2 := Lib.hid (HB0.out.trans (b2.mono HB0.out.size))
    clear b2 HA0 HB0 HLF HP0
    have a0 := HA2.out.cell 0
    have a1 := HA2.out.cell 1
    have a2 := HA2.out.cell 2
    have a3 := HA2.out.cell 3
    simp only [List.getElem?_cons_zero, List.getElem?_cons_succ] at a0 a1 a2 a3
    cases lf with
    | true =>
      have HL : Hid (leavesE (.mk k xv xn ks) = [.mk k xv xn ks]) := leaves_leaf HLK.out.symm
      go_wp2_with fail
      go_ret
      have hB : Below w.heap.size w (w2.alloc (.cells #[.int .i64 k, .string (bstr xv), .string (bstr xn), .slice q ks.length c] 42)) := HB2.out.alloc HB2.out.size _
      refine ⟨_, rfl, ⟨[.int .i64 k, .string (bstr xv), .string (bstr xn), .slice q ks.length c], ?_, ?_⟩, hB⟩
      · rw [HL.out]
        exact World.ownsRow_lit w2 #[.int .i64 k, .string (bstr xv), .string (bstr xn), .slice q ks.length c] 1 HB2.out.size (by decide) rfl
      · rw [HL.out]
        exact ⟨H.out.below hB HP.out, trivial⟩
    | false =>
      have HL : Hid (leavesE (.mk k xv xn ks) = leavesL ks) := leaves_kids (by rw [← HLK.out]; exact Bool.false_ne_true)
      have HSZ : Hid (w.heap.size + 1 ≤ w2.heap.size) := HA2.out.lt
      go_wp2_with fail
      go_loopw [3, 4] (fun ov iv wr => ∃ i : Nat, i ≤ ks.length ∧ iv = .int .i64 i ∧ Hid (LvRow P (w.heap.size + 1) wr ov (leavesL (ks.take i)) ∧ Below w.heap.size w wr ∧ Arr wr 42 w.heap.size [.int .i64 k, .string (bstr xv), .string (bstr xn), .slice q ks.length c] ∧ w.heap.size + 1 ≤ wr.heap.size)) (fun _ iv _ => ks.length - (intOf iv).toNat)
      case atStart => exact ⟨0, Nat.zero_le _, rfl, LvRow.nil _ _ _, HB2.out, HA2.out, HSZ.out⟩
      case round =>
        obtain ⟨i, hi, rfl, HI2⟩ := hrel
        clear a0 a1 a2 a3
        have HI := Lib.hid HI2.out.2.1
        have HAI := Lib.hid HI2.out.2.2.1
        have HS := Lib.hid HI2.out.2.2.2
        have HRW := Lib.hid HI2.out.1
        obtain ⟨qv, cv, rfl⟩ := HI2.out.1.form
        clear HI2
        have hi0 : (0 : Int) ≤ i := by omega
        have a0 := HAI.out.cell 0
        have a1 := HAI.out.cell 1
        have a2 := HAI.out.cell 2
        have a3 := HAI.out.cell 3
        simp only [List.getElem?_cons_zero, List.getElem?_cons_succ] at a0 a1 a2 a3
        by_cases hlt : i < ks.length
        · have hi1 : (i : Int) < ks.length := by omega
          have hP := HP.out
          obtain ⟨ba, oa, rfl, hba, hl⟩ := HK.out (by omega)
          obtain ⟨x, hx⟩ : ∃ x, x = ks.getD i ex0 := ⟨_, rfl⟩
          obtain ⟨q2, c2, x0, x1, x2, x3, hr⟩ := hl.at hlt
          have hxs := sizeL_get ks i hlt
          have hxd := depthL_get ks i hlt
          rw [← hx] at x0 x1 x2 x3 hr hxs hxd
          have HX := Lib.hid hx
          obtain ⟨xk, xv2, xn2, xs⟩ := x
          have cc : ∀ n, wr.cell? ⟨ba, n, none⟩ = w.cell? ⟨ba, n, none⟩ := fun n => (HI.out).cell (p := ⟨ba, n, none⟩) (hP _ hba)
          have X0 : wr.cell? ⟨ba, oa + i * 4, none⟩ = some (.int .i64 xk) := (cc _).trans x0
          have X1 : wr.cell? ⟨ba, oa + i * 4 + 1, none⟩ = some (.string (bstr xv2)) := (cc _).trans x1
          have X2 : wr.cell? ⟨ba, oa + i * 4 + 2, none⟩ = some (.string (bstr xn2)) := (cc _).trans x2
          have X3 : wr.cell? ⟨ba, oa + i * 4 + 3, none⟩ = some (.slice q2 xs.length c2) := (cc _).trans x3
          clear x0 x1 x2 x3 cc hx
          have HR : Hid (RdE P wr (.mk xk xv2 xn2 xs) (.agg #[.int .i64 xk, .string (bstr xv2), .string (bstr xn2), .slice q2 xs.length c2])) := hr.below (HI.out) hP
          have HC := Lib.hid (HIH.out (.mk xk xv2 xn2 xs) _ P _ (by omega) (by omega) HR.out (fun b hb => Nat.lt_of_lt_of_le (hP b hb) HI.out.size))
          have HTK : Hid (leavesL (ks.take (i + 1)) = leavesL (ks.take i) ++ leavesE (.mk xk xv2 xn2 xs)) := by show _ = _; rw [take_snocE hlt, ← HX.out, leavesL_snoc]
          have HLN : Hid ((leavesL (ks.take i)).length + (leavesE (.mk xk xv2 xn2 xs)).length ≤ 1000000) := by
            show _ ≤ _
            have h2 := (leavesL_take ks i hlt).length_le
            rw [← HX.out, List.length_append] at h2
            have := leavesL_size ks
            omega
          clear hl hr hxs hxd hba hP
          go_wp2_with fail
          refine HC.out.mono ?_
          rintro r w5 ⟨v5, rfl, r5, b5⟩
          have HR5 := Lib.hid r5
          have HW5 := Lib.hid (HRW.out.later b5 (fun b hb => Nat.lt_of_lt_of_le (HP.out b hb) HI.out.size))
          have HB5 := Lib.hid (HI.out.trans (b5.mono HI.out.size))
          have HA5 := Lib.hid (HAI.out.later b5)
          have HS5 : Hid (w.heap.size + 1 ≤ w5.heap.size) := Nat.le_trans HS.out b5.size
          have HPS : Hid (∀ b, P b → b < w.heap.size + 1) := fun b hb => Nat.lt_succ_of_lt (HP.out b hb)
          obtain ⟨q5, c5, rfl⟩ := r5.form
          clear r5 b5 HC
          go_wp2_with (at_builtin; refine app_lv rfl _ _ rfl rfl HW5.out rfl HR5.out HPS.out HLN.out HS5.out ?_; intro v7 w7 h7 b7)
          go_roundw
          case rel => exact ⟨i + 1, by omega, by go_num, by rw [HTK.out]; exact h7, HB5.out.trans (b7.mono (by omega)), HA5.out.below b7 (by omega), Nat.le_trans HS5.out b7.size⟩
          case measure => simp [intOf]; omega
        · have hi1 : ¬ (i : Int) < ks.length := by omega
          have HK2 : Hid (ks.take i = ks) := List.take_of_length_le (by omega)
          rw [HK2.out] at HRW
          go_wp2_with fail
          go_ret
          obtain ⟨cs, h1, h2⟩ := HRW.out
          refine ⟨_, rfl, ⟨cs, ?_, ?_⟩, HI.out⟩
          · rw [HL.out, HK2.out]
            refine ⟨h1.1, ?_⟩
            rcases h1.2 with h | ⟨g, cap, cur, hv, h0, r⟩
            · exact .inl h
            · exact .inr ⟨g, cap, cur, hv, by omega, r⟩
          · rw [HL.out]; exact h2
set_option maxRecDepth 100000 in
set_option maxHeartbeats 4000000 in
theorem rRight_any (e : Ex) (v : Value) (P : Nat → Prop) (w : World) (hok : okE 100000 e) (hm : sizeE e ≤ 900000) (h : RdE P w e v) (hP : ∀ b, P b → b < w.heap.size) : Calls Tryz.prog 17 #[v] w fun r w' => r = .returned (.bool (rightE e)) ∧ Below w.heap.size w w' := by
  have H := Lib.hid h
  have HP := Lib.hid hP
  have HM := Lib.hid hm
  obtain ⟨q, c, rfl, hc, hk⟩ := h.form
  obtain ⟨k, xv, xn, ks⟩ := e
  unfold exv
  show Calls _ _ #[.agg #[.int .i64 k, .string (bstr xv), .string (bstr xn), .slice q ks.length c]] _ _
  have HB0 : Hid (Below w.heap.size w (w.alloc (.cells #[.int .i64 k, .string (bstr xv), .string (bstr xn), .slice q ks.length c] 42))) := (Below.refl _ _).alloc (Nat.le_refl _) _
  have HA0 : Hid (Arr (w.alloc (.cells #[.int .i64 k, .string (bstr xv), .string (bstr xn), .slice q ks.length c] 42)) 42 w.heap.size [.int .i64 k, .string (bstr xv), .string (bstr xn), .slice q ks.length c]) := Arr.new' _ _ _ _ rfl
  have HP0 : Hid (∀ b, P b → b < (w.alloc (.cells #[.int .i64 k, .string (bstr xv), .string (bstr xn), .slice q ks.length c] 42)).heap.size) := fun b hb => Nat.lt_of_lt_of_le (hP b hb) HB0.out.size
  have HRC : Hid (Calls Tryz.prog 40 #[.agg #[.int .i64 k, .string (bstr xv), .string (bstr xn), .slice q ks.length c], .int .i64 16] (w.alloc (.cells #[.int .i64 k, .string (bstr xv), .string (bstr xn), .slice q ks.length c] 42)) fun r w' => r = .returned (.bool (decide (depthE (.mk k xv xn ks) ≤ 16) && formE (.mk k xv xn ks))) ∧ Below (w.alloc (.cells #[.int .i64 k, .string (bstr xv), .string (bstr xn), .slice q ks.length c] 42)).heap.size (w.alloc (.cells #[.int .i64 k, .string (bstr xv), .string (bstr xn), .slice q ks.length c] 42)) w') := rright_any 16 (.mk k xv xn ks) _ P (w.alloc (.cells #[.int .i64 k, .string (bstr xv), .string (bstr xn), .slice q ks.length c] 42)) (by omega) hok hm (H.out.below HB0.out hP) HP0.out
  have HLC : Hid (∀ W, Below (w.alloc (.cells #[.int .i64 k, .string (bstr xv), .string (bstr xn), .slice q ks.length c] 42)).heap.size (w.alloc (.cells #[.int .i64 k, .string (bstr xv), .string (bstr xn), .slice q ks.length c] 42)) W → Calls Tryz.prog 41 #[.agg #[.int .i64 k, .string (bstr xv), .string (bstr xn), .slice q ks.length c]] W fun r w' => ∃ q2 c2, r = .returned (.slice q2 (leavesE (.mk k xv xn ks)).length c2) ∧ Below W.heap.size W w') :=
    fun W hW => (rleaves_any _ (.mk k xv xn ks) _ P W (Nat.le_refl _) hm ((H.out.below HB0.out hP).below hW HP0.out) (fun b hb => Nat.lt_of_lt_of_le (HP0.out b hb) hW.size)).mono fun r w' ⟨v', h1, h2, h3⟩ => by
      obtain ⟨q2, c2, rfl⟩ := h2.form
      exact ⟨q2, c2, h1, h3⟩
  have hsz := leaves_size (.mk k xv xn ks)
  obtain ⟨F, hF⟩ : ∃ F, F = (decide (depthE (.mk k xv xn ks) ≤ 16) && formE (.mk k xv xn ks)) := ⟨_, rfl⟩
  obtain ⟨N, hN⟩ : ∃ N, N = (leavesE (.mk k xv xn ks)).length := ⟨_, rfl⟩
  have HRE : Hid (rightE (.mk k xv xn ks) = (decide (N ≤ 32) && F)) := by show _ = _; unfold rightE; rw [hF, hN]
  rw [← hF] at HRC
  rw [← hN] at HLC hsz
  rw [HRE.out]
  have hn1 : N ≤ 900000 := by omega
  clear h hc hk hm hP hok hF hN hsz
  go_enter Tryz.func17, Tryz.ntmps17
  go_wp2_with fail
  refine HRC.out.mono ?_
  rintro r w5 ⟨rfl, b5⟩
  have HB5 := Lib.hid (HB0.out.trans (b5.mono HB0.out.size))
  have HC5 := Lib.hid (HLC.out w5 b5)
  have HA5 := Lib.hid (HA0.out.later b5)
  have z0 := HA5.out.cell 0
  have z1 := HA5.out.cell 1
  have z2 := HA5.out.cell 2
  have z3 := HA5.out.cell 3
  simp only [List.getElem?_cons_zero, List.getElem?_cons_succ] at z0 z1 z2 z3
  clear b5
  cases F with
  | true =>
    go_wp2_with fail
    refine HC5.out.mono ?_
    rintro r w6 ⟨q2, c2, rfl, b6⟩
    have HB6 := Lib.hid (HB5.out.trans (b6.mono HB5.out.size))
    clear b6
    go_wp2_with fail
    go_ret
    exact ⟨by rw [show decide (N ≤ 32) = decide ((N : Int) ≤ 32) from decide_eq_decide.2 (by omega), Bool.and_true]; rfl, HB6.out⟩
  | false =>
    go_wp2_with fail
    go_ret
    exact ⟨by rw [Bool.and_false]; rfl, HB5.out⟩
end Go.Proofs.YtdnmgemjhpkekaaGreatDoor
/-
  An expression among the arguments: what it reads as, and how long its texts are.
-/
namespace Go.Proofs.YtdnmgemjhpkekaaGreatDoor
open Go.ChangeShapes Go.WideShapes Go.ChangeAt Go.RowKit Go.Deep
set_option linter.unusedVariables false

theorem RdL.mk {P : Nat → Prop} {w : World} {b : Nat} : ∀ {ks : List Ex} {o : Nat}, (∀ i, i < ks.length → ∃ v0 v1 v2 v3, w.cell? ⟨b, o + i * 4, none⟩ = some v0 ∧ w.cell? ⟨b, o + i * 4 + 1, none⟩ = some v1 ∧ w.cell? ⟨b, o + i * 4 + 2, none⟩ = some v2 ∧ w.cell? ⟨b, o + i * 4 + 3, none⟩ = some v3 ∧ RdE P w (ks.getD i ex0) (.agg #[v0, v1, v2, v3])) → RdL P w ks b o
  | [], _, _ => by unfold RdL; trivial
  | e :: r, o, h => by
    unfold RdL
    refine ⟨?_, RdL.mk fun i hi => ?_⟩
    · have := h 0 (by simp)
      simpa using this
    · have := h (i + 1) (by simpa using hi)
      rw [show o + (i + 1) * 4 = o + 4 + i * 4 by omega] at this
      simpa using this
theorem okL_mk {M : Nat} : ∀ {ks : List Ex}, (∀ i, i < ks.length → okE M (ks.getD i ex0)) → okL M ks
  | [], _ => by unfold okL; trivial
  | e :: r, h => by
    unfold okL
    exact ⟨by simpa using h 0 (by simp), okL_mk fun i hi => by simpa using h (i + 1) (by simpa using hi)⟩
section
variable {H : Type} {enc : TypeId × Value → H}
theorem weightsAll_mem {P : Program} {e : TypeId} : ∀ {l : List (DataW H)} {d : DataW H}, d ∈ l → ∀ n ∈ d.weights P e, n ∈ DataW.weightsAll P e l
  | [], _, h, _, _ => by cases h
  | d0 :: l, d, h, n, hn => by
    simp only [DataW.weightsAll, List.mem_append]
    rcases List.mem_cons.1 h with rfl | h
    · exact .inl hn
    · exact .inr (weightsAll_mem h n hn)
theorem ex_weights (d0 d1 d2 d3 : DataW H) : DataW.weights Tryz.prog 42 (.agg [d0, d1, d2, d3]) = d0.weights Tryz.prog 3 ++ (d1.weights Tryz.prog 9 ++ (d2.weights Tryz.prog 9 ++ (d3.weights Tryz.prog 40 ++ []))) := by
  conv => lhs; unfold DataW.weights
  rw [Tryz.underlying42]
  rfl
theorem exs_weights (l r : List (DataW H)) : ∀ d ∈ l, ∀ n ∈ d.weights Tryz.prog 42, n ∈ DataW.weights Tryz.prog 40 (.slice l r) := fun d hd n hn => by
  have e : DataW.weights Tryz.prog 40 (.slice l r) = (l.length + r.length) * Tryz.prog.bytesOf 42 :: (DataW.weightsAll Tryz.prog 42 l ++ DataW.weightsAll Tryz.prog 42 r) := by
    conv => lhs; unfold DataW.weights
    rw [Tryz.underlying40]
  rw [e]
  exact List.mem_cons_of_mem _ (List.mem_append_left _ (weightsAll_mem hd n hn))
theorem list4 {α : Type} {l : List α} (h : l.length = 4) : ∃ a b c d, l = [a, b, c, d] := by
  match l, h with
  | [a, b, c, d], _ => exact ⟨a, b, c, d, rfl⟩
theorem cellsEx : Tryz.prog.cellsOf 42 = 4 := by kernel_rfl
set_option maxRecDepth 100000 in
theorem rdE_open {w : World} : ∀ (fuel : Nat) (cs : List Value) (d : DataW H) (p : List MemPlace), DataW.trod enc Tryz.prog w 0 (fun _ => true) true fuel 42 cs = some (d, p) →
    ∃ e : Ex, RdE (fun b => b < w.heap.size) w e (.agg cs.toArray) ∧ ((∀ n ∈ d.weights Tryz.prog 42, n ≤ reachBytes) → okE bigM e) := by
  intro fuel
  induction fuel using Nat.strongRecOn with
  | ind fuel ih =>
    intro cs d p hf
    obtain ⟨xs, n, rfl, hx, hcl, hlen, hel⟩ := DataW.trod_struct Tryz.underlying42 hf
    obtain ⟨c0, c1, c2, c3, rfl⟩ := list4 (hcl.trans cellsEx)
    obtain ⟨x0, x1, x2, x3, rfl⟩ := list4 (show xs.length = 4 from hlen)
    simp only [Prod.mk.injEq, List.map_cons, List.map_nil] at hx
    obtain ⟨rfl, _⟩ := hx
    have k0 := hel 0 _ rfl
    have k1 := hel 1 _ rfl
    have k2 := hel 2 _ rfl
    have k3 := hel 3 _ rfl
    obtain ⟨k, e0, y0, _⟩ := DataW.trod_int Tryz.underlying3 (show DataW.trod enc Tryz.prog w 0 (fun _ => true) true n 3 [c0] = some x0 from k0)
    obtain ⟨s1, e1, y1, _⟩ := DataW.trod_string Tryz.underlying9 (show DataW.trod enc Tryz.prog w 0 (fun _ => true) true n 9 [c1] = some x1 from k1)
    obtain ⟨s2, e2, y2, _⟩ := DataW.trod_string Tryz.underlying9 (show DataW.trod enc Tryz.prog w 0 (fun _ => true) true n 9 [c2] = some x2 from k2)
    obtain rfl : c0 = .int .i64 k := by simpa using e0
    obtain rfl : c1 = .string s1 := by simpa using e1
    obtain rfl : c2 = .string s2 := by simpa using e2
    subst y0; subst y1; subst y2
    have k3' : DataW.trod enc Tryz.prog w 0 (fun _ => true) true n 40 [c3] = some x3 := k3
    rcases DataW.trod_slice Tryz.underlying40 k3' with ⟨hc, hx3⟩ | ⟨a, len, cap, elems, rest, m, hnm, hc, hx3, _, hlc, _, hel3, hat, _, _⟩
    · obtain rfl : c3 = .slice none 0 0 := by simpa using hc
      refine ⟨.mk k s1.data.toList s2.data.toList [], ?_, fun hw => ?_⟩
      · unfold RdE
        rw [bstr_back, bstr_back]
        exact ⟨none, 0, rfl, Nat.le_refl _, fun h => by simp at h⟩
      · unfold okE
        rw [ex_weights] at hw
        exact ⟨Nat.le_trans (hw _ (by simp [DataW.weights])) (by decide), Nat.le_trans (hw _ (by simp [DataW.weights])) (by decide), by unfold okL; trivial⟩
    · obtain rfl : c3 = .slice (some a) len cap := by simpa using hc
      subst hnm hx3
      have key : ∀ i, ∃ e : Ex, i < len → (∃ v0 v1 v2 v3, w.cell? ((a.add (i * 4)).add 0) = some v0 ∧ w.cell? ((a.add (i * 4)).add 1) = some v1 ∧ w.cell? ((a.add (i * 4)).add 2) = some v2 ∧ w.cell? ((a.add (i * 4)).add 3) = some v3 ∧ RdE (fun b => b < w.heap.size) w e (.agg #[v0, v1, v2, v3])) ∧
          ∃ y : DataW H × List MemPlace, elems[i]? = some y ∧ ((∀ n ∈ y.1.weights Tryz.prog 42, n ≤ reachBytes) → okE bigM e) := by
        intro i
        by_cases hil : i < len
        · have h1 := hat i hil
          have hy : elems[i]? = some (elems[i]'(by omega)) := List.getElem?_eq_getElem (by omega)
          rw [hy, cellsEx] at h1
          obtain ⟨cs', hc1, hc2⟩ := Option.bind_eq_some_iff.1 h1
          obtain ⟨_, hcl4, hcat⟩ := World.cells?_some hc1
          obtain ⟨v0, v1, v2, v3, rfl⟩ := list4 hcl4
          obtain ⟨e, he1, he2⟩ := ih m (by omega) _ (elems[i]'(by omega)).1 (elems[i]'(by omega)).2 hc2
          exact ⟨e, fun _ => ⟨⟨v0, v1, v2, v3, hcat 0 (by omega), hcat 1 (by omega), hcat 2 (by omega), hcat 3 (by omega), he1⟩, _, hy, he2⟩⟩
        · exact ⟨ex0, fun h => absurd h hil⟩
      obtain ⟨f, hf2⟩ := Classical.axiomOfChoice key
      have hlenf : ((List.range len).map f).length = len := by simp
      have hget : ∀ i, i < len → ((List.range len).map f).getD i ex0 = f i := fun i h => by
        rw [List.getD_eq_getElem?_getD, List.getElem?_map, List.getElem?_range h]; rfl
      refine ⟨.mk k s1.data.toList s2.data.toList ((List.range len).map f), ?_, fun hw => ?_⟩
      · unfold RdE
        rw [bstr_back, bstr_back, hlenf]
        refine ⟨some a, cap, rfl, hlc, fun h0 => ?_⟩
        obtain ⟨b, off, spot⟩ := a
        obtain ⟨v0, _, _, _, hc0, _⟩ := (hf2 0 h0).1
        have hspot : spot = none := by simpa [Addr.add] using World.cell?_spot hc0
        subst hspot
        have hb := World.block_lt_of_cell? w _ hc0
        refine ⟨b, off, rfl, by simpa [Addr.add] using hb, RdL.mk fun i hi => ?_⟩
        rw [hlenf] at hi
        rw [hget i hi]
        obtain ⟨v0, v1, v2, v3, g0, g1, g2, g3, g4⟩ := (hf2 i hi).1
        have ea : ∀ j, (((⟨b, off, none⟩ : Addr).add (i * 4)).add j) = ⟨b, off + i * 4 + j, none⟩ := fun j => by
          unfold Addr.add; split <;> split <;> simp_all
        rw [ea] at g0 g1 g2 g3
        exact ⟨v0, v1, v2, v3, g0, g1, g2, g3, g4⟩
      · unfold okE
        rw [ex_weights] at hw
        refine ⟨Nat.le_trans (hw _ (by simp [DataW.weights])) (by decide), Nat.le_trans (hw _ (by simp [DataW.weights])) (by decide), okL_mk fun i hi => ?_⟩
        rw [hlenf] at hi
        rw [hget i hi]
        obtain ⟨_, y, hy, hok⟩ := hf2 i hi
        refine hok fun n hn => hw n ?_
        have hm : y.1 ∈ elems.map (·.1) := List.mem_map.2 ⟨y, List.mem_of_getElem? hy, rfl⟩
        have := exs_weights (elems.map (·.1)) (rest.map (·.1)) y.1 hm n hn
        simp only [List.mem_append]
        exact .inr (.inr (.inr (.inl this)))
set_option maxRecDepth 100000 in
theorem expr_open {w : World} {base : Nat} {v : Value} {d : DataW H} {p : List MemPlace} (hv : Value.okWide Tryz.prog w .any base 42 v) (h : DataW.Trod enc Tryz.prog w 0 (fun _ => true) true 42 v d p) :
    ∃ e : Ex, RdE (fun b => b < w.heap.size) w e v ∧ ((∀ n ∈ d.weights Tryz.prog 42, n ≤ reachBytes) → okE bigM e) := by
  obtain ⟨cs, rfl, hsz⟩ := okWide_struct Tryz.underlying42 hv
  obtain ⟨fuel, hf⟩ := h
  obtain ⟨e, h1, h2⟩ := rdE_open fuel _ d p hf
  exact ⟨e, h1, h2⟩
end
end Go.Proofs.YtdnmgemjhpkekaaGreatDoor
/-
  vestrylaw16.CodecExprs.
-/
namespace Go.Proofs.YtdnmgemjhpkekaaGreatDoor
open Go.ChangeShapes Go.WideShapes Go.ChangeAt Go.RowKit
set_option linter.unusedVariables false

/-- An expression that came in, and the cell that it was put in. -/
def InE (w : World) (g : Nat) (k : Int) (xv xn : List UInt8) (ks : List Ex) (q : Option Addr) (c : Nat) (W : World) : Prop :=
  Arr W 42 g [.int .i64 k, .string (bstr xv), .string (bstr xn), .slice q ks.length c] ∧ RdE (fun b => b < w.heap.size) W (.mk k xv xn ks) (.agg #[.int .i64 k, .string (bstr xv), .string (bstr xn), .slice q ks.length c])
theorem InE.later {w : World} {g : Nat} {k : Int} {xv xn : List UInt8} {ks : List Ex} {q : Option Addr} {c : Nat} {W W' : World} (h : InE w g k xv xn ks q c W) (hw : w.heap.size ≤ W.heap.size) (hb : Below W.heap.size W W') : InE w g k xv xn ks q c W' :=
  ⟨h.1.later hb, h.2.below hb fun b hb => Nat.lt_of_lt_of_le hb hw⟩
def SE (w : World) (k : Int) (xv xn : List UInt8) (ks : List Ex) (q : Option Addr) (c : Nat) (W : World) : Prop := InE w w.heap.size k xv xn ks q c W ∧ Env W ∧ Below w.heap.size w W
theorem SE.later {w : World} {k : Int} {xv xn : List UInt8} {ks : List Ex} {q : Option Addr} {c : Nat} {W W' : World} (h : SE w k xv xn ks q c W) (hb : Below W.heap.size W W') : SE w k xv xn ks q c W' :=
  ⟨h.1.later h.2.2.size hb, h.2.1.below hb, h.2.2.trans (hb.mono h.2.2.size)⟩
/-- What few parts mean. -/
def FewE (e : Ex) : Prop := sizeE e ≤ 900000 ∧ okE 100000 e
theorem few_of {e : Ex} (h : cntE 31 e ≤ 150) : FewE e := by
  obtain ⟨h1, h2, _⟩ := cntE_few 31 e (by omega)
  exact ⟨by omega, h2⟩
theorem right_fine {e : Ex} (h : rightE e = true) : okE 64 e ∧ sizeE e ≤ 64 ∧ (putE e).length ≤ 1000000 := by
  obtain ⟨h1, _, h3⟩ := right_all h
  obtain ⟨h4, h5⟩ := form_small e h1
  have h6 : sizeE e ≤ 64 := by omega
  exact ⟨h4, h6, Nat.le_trans (putE_len e h4 h1 h6) (by omega)⟩
theorem SE.start {w : World} {k : Int} {xv xn : List UInt8} {ks : List Ex} {q : Option Addr} {c : Nat} (hr : Env w) (h : RdE (fun b => b < w.heap.size) w (.mk k xv xn ks) (.agg #[.int .i64 k, .string (bstr xv), .string (bstr xn), .slice q ks.length c])) : SE w k xv xn ks q c (w.alloc (.cells #[.int .i64 k, .string (bstr xv), .string (bstr xn), .slice q ks.length c] 42)) := by
  have hb : Below w.heap.size w (w.alloc (.cells #[.int .i64 k, .string (bstr xv), .string (bstr xn), .slice q ks.length c] 42)) := (Below.refl _ _).alloc (Nat.le_refl _) _
  exact ⟨⟨Arr.new' _ _ _ _ rfl, h.below hb fun _ h => h⟩, hr.below hb, hb⟩
section
variable {w W : World} {k : Int} {xv xn : List UInt8} {ks : List Ex} {q : Option Addr} {c : Nat}
theorem SE.lt (h : SE w k xv xn ks q c W) : ∀ b, b < w.heap.size → b < W.heap.size := fun b hb => Nat.lt_of_lt_of_le hb h.2.2.size
theorem cAwake (h : SE w k xv xn ks q c W) : Calls Tryz.prog 7 #[] W fun e w' => e = .returned (.bool true) ∧ SE w k xv xn ks q c w' :=
  (awake_any W h.2.1).mono fun e w' ⟨h1, h2⟩ => ⟨h1, h.later h2⟩
theorem cFew (ho : okE bigM (.mk k xv xn ks)) (h : SE w k xv xn ks q c W) : Calls Tryz.prog 15 #[.agg #[.int .i64 k, .string (bstr xv), .string (bstr xn), .slice q ks.length c]] W fun e w' => e = .returned (.bool (decide (cntE 31 (.mk k xv xn ks) ≤ 150))) ∧ SE w k xv xn ks q c w' :=
  (few_any _ _ _ W ho h.1.2 h.lt).mono fun e w' ⟨h1, h2⟩ => ⟨h1, h.later h2⟩
theorem crRight (hf : FewE (.mk k xv xn ks)) (h : SE w k xv xn ks q c W) : Calls Tryz.prog 17 #[.agg #[.int .i64 k, .string (bstr xv), .string (bstr xn), .slice q ks.length c]] W fun e w' => e = .returned (.bool (rightE (.mk k xv xn ks))) ∧ SE w k xv xn ks q c w' :=
  (rRight_any _ _ _ W hf.2 hf.1 h.1.2 h.lt).mono fun e w' ⟨h1, h2⟩ => ⟨h1, h.later h2⟩
theorem cPutX (hf : FewE (.mk k xv xn ks)) (h : SE w k xv xn ks q c W) (hr : rightE (.mk k xv xn ks) = true) : Calls Tryz.prog 16 #[.agg #[.int .i64 k, .string (bstr xv), .string (bstr xn), .slice q ks.length c]] W fun e w' => ∃ q' c', e = .returned (.slice q' (putE (.mk k xv xn ks)).length c') ∧ Rd w'.heap.size w' (.slice q' (putE (.mk k xv xn ks)).length c') (putE (.mk k xv xn ks)) ∧ SE w k xv xn ks q c w' := by
  refine (putExpr_any _ _ _ W h.1.2 h.lt hf.1 h.2.1.1).mono fun e w' h1 => ?_
  unfold PutP at h1
  rw [if_pos hr] at h1
  obtain ⟨v, rfl, ho, b⟩ := h1
  obtain ⟨q', c', rfl⟩ := own_form ho
  exact ⟨q', c', rfl, Rd.of_own ho, h.later b⟩
theorem cPutX0 (hf : FewE (.mk k xv xn ks)) (h : SE w k xv xn ks q c W) (hr : rightE (.mk k xv xn ks) = false) : Calls Tryz.prog 16 #[.agg #[.int .i64 k, .string (bstr xv), .string (bstr xn), .slice q ks.length c]] W fun e w' => e = .returned (.slice none 0 0) ∧ SE w k xv xn ks q c w' := by
  refine (putExpr_any _ _ _ W h.1.2 h.lt hf.1 h.2.1.1).mono fun e w' h1 => ?_
  unfold PutP at h1
  rw [if_neg (by rw [hr]; decide)] at h1
  exact ⟨h1.1, h.later h1.2⟩
theorem cParseX {T : List UInt8} {vb : Value} (h : SE w k xv xn ks q c W) (hr : rightE (.mk k xv xn ks) = true) (hT : T = putE (.mk k xv xn ks)) (ht : Rd W.heap.size W vb T) : Calls Tryz.prog 18 #[vb] W fun e w' => ∃ q' c', e = .returned (.tuple #[.agg #[.int .i64 k, .string (bstr xv), .string (bstr xn), .slice q' ks.length c'], .nilIface]) ∧ RdE (fun b => b < w'.heap.size) w' (.mk k xv xn ks) (.agg #[.int .i64 k, .string (bstr xv), .string (bstr xn), .slice q' ks.length c']) ∧ SE w k xv xn ks q c w' ∧ Below W.heap.size W w' := by
  subst hT
  refine (cParseExpr_any ht (right_fine hr).2.2 h.2.1).mono ?_
  rintro r w' ⟨v, rfl, hv, b⟩
  rw [parseEx_put hr] at hv ⊢
  obtain ⟨q', c', rfl, _⟩ := hv.form
  exact ⟨q', c', rfl, hv.imp fun b hb => hb.2, h.later b, b⟩
theorem crPutX (h : SE w k xv xn ks q c W) (hr : rightE (.mk k xv xn ks) = true) : Calls Tryz.prog 19 #[.agg #[.int .i64 k, .string (bstr xv), .string (bstr xn), .slice q ks.length c]] W fun e w' => ∃ q' c', e = .returned (.slice q' (putE (.mk k xv xn ks)).length c') ∧ Rd w'.heap.size w' (.slice q' (putE (.mk k xv xn ks)).length c') (putE (.mk k xv xn ks)) ∧ Below W.heap.size W w' := by
  refine (rputX_any 64 (Nat.le_refl _) _ _ _ W (right_fine hr).2.1 (right_fine hr).1 (right_all hr).1 h.1.2 h.lt).mono fun e w' h1 => ?_
  obtain ⟨v, rfl, ho, b⟩ := h1
  obtain ⟨q', c', rfl⟩ := own_form ho
  exact ⟨q', c', rfl, Rd.of_own ho, b⟩
end
set_option maxRecDepth 100000 in
set_option maxHeartbeats 4000000 in
theorem cexprs_any (e : Ex) (v : Value) (w : World) (ho : okE bigM e) (h : RdE (fun b => b < w.heap.size) w e v) (hr : Env w) : Calls Tryz.prog 4 #[v] w fun r w' => r = .returned (.bool true) ∧ Below w.heap.size w w' := by
  obtain ⟨q, c, rfl, _, _⟩ := h.form
  obtain ⟨k, xv, xn, ks⟩ := e
  unfold exv at h ⊢
  show Calls _ _ #[.agg #[.int .i64 k, .string (bstr xv), .string (bstr xn), .slice q ks.length c]] _ _
  have HS : Hid (SE w k xv xn ks q c (w.alloc (.cells #[.int .i64 k, .string (bstr xv), .string (bstr xn), .slice q ks.length c] 42))) := SE.start hr h
  have HO := Lib.hid ho
  clear ho h hr
  go_enter Tryz.func4, Tryz.ntmps4
  go_wp2_with fail
  generalize w.alloc (.cells #[.int .i64 k, .string (bstr xv), .string (bstr xn), .slice q ks.length c] 42) = w0 at HS ⊢
  refine (cAwake HS.out).mono ?_
  rintro r w1 ⟨rfl, s1⟩
  have HS1 := Lib.hid s1
  have z0 := HS1.out.1.1.cell 0
  have z1 := HS1.out.1.1.cell 1
  have z2 := HS1.out.1.1.cell 2
  have z3 := HS1.out.1.1.cell 3
  simp only [List.getElem?_cons_zero, List.getElem?_cons_succ] at z0 z1 z2 z3
  have HFC := Lib.hid (cFew HO.out s1)
  obtain ⟨fw, hfw⟩ : ∃ f, f = decide (cntE 31 (.mk k xv xn ks) ≤ 150) := ⟨_, rfl⟩
  rw [← hfw] at HFC
  have HFW := Lib.hid hfw
  clear s1 HS hfw
  go_wp2_with fail
  refine HFC.out.mono ?_
  rintro r w2 ⟨rfl, s2⟩
  have HS2 := Lib.hid s2
  clear s2 HFC HS1 z0 z1 z2 z3
  cases fw with
  | false =>
    go_wp2_with fail
    refine (cAwake HS2.out).mono ?_
    rintro r w3 ⟨rfl, s3⟩
    have HB := Lib.hid s3.2.2
    clear s3
    go_wp2_with fail
    go_ret
    exact ⟨rfl, HB.out⟩
  | true =>
    have HF := Lib.hid (few_of (of_decide_eq_true HFW.out.symm))
    clear HFW
    obtain ⟨R, hR⟩ : ∃ R, R = rightE (.mk k xv xn ks) := ⟨_, rfl⟩
    have HR := Lib.hid hR
    clear hR
    have z0 := HS2.out.1.1.cell 0
    have z1 := HS2.out.1.1.cell 1
    have z2 := HS2.out.1.1.cell 2
    have z3 := HS2.out.1.1.cell 3
    simp only [List.getElem?_cons_zero, List.getElem?_cons_succ] at z0 z1 z2 z3
    cases R with
    | false =>
      have HC := Lib.hid (cPutX0 HF.out HS2.out HR.out.symm)
      go_wp2_with fail
      refine HC.out.mono ?_
      rintro r w3 ⟨rfl, s3⟩
      have HS3 := Lib.hid s3
      clear s3 HC HS2
      clear z0 z1 z2 z3
      have z0 := HS3.out.1.1.cell 0
      have z1 := HS3.out.1.1.cell 1
      have z2 := HS3.out.1.1.cell 2
      have z3 := HS3.out.1.1.cell 3
      simp only [List.getElem?_cons_zero, List.getElem?_cons_succ] at z0 z1 z2 z3
      have HC := Lib.hid (crRight HF.out HS3.out)
      rw [← HR.out] at HC
      go_wp2_with fail
      refine HC.out.mono ?_
      rintro r w4 ⟨rfl, s4⟩
      have HB := Lib.hid s4.2.2
      clear s4 HC HS3
      go_wp2_with fail
      go_ret
      exact ⟨rfl, HB.out⟩
    | true =>
      obtain ⟨T, hT⟩ : ∃ T, T = putE (.mk k xv xn ks) := ⟨_, rfl⟩
      have HT := Lib.hid hT
      clear hT
      have HC := Lib.hid (cPutX HF.out HS2.out HR.out.symm)
      rw [← HT.out] at HC
      go_wp2_with fail
      refine HC.out.mono ?_
      rintro r w3 ⟨q1, c1, rfl, r3, s3⟩
      have HS3 := Lib.hid s3
      have HT3 := Lib.hid r3
      clear s3 r3 HC HS2
      clear z0 z1 z2 z3
      have z0 := HS3.out.1.1.cell 0
      have z1 := HS3.out.1.1.cell 1
      have z2 := HS3.out.1.1.cell 2
      have z3 := HS3.out.1.1.cell 3
      simp only [List.getElem?_cons_zero, List.getElem?_cons_succ] at z0 z1 z2 z3
      have HC := Lib.hid (crRight HF.out HS3.out)
      rw [← HR.out] at HC
      have HBB := Lib.hid (rRight_any _ _ _ _ HF.out.2 HF.out.1 HS3.out.1.2 HS3.out.lt)
      rw [← HR.out] at HBB
      go_wp2_with fail
      refine HBB.out.mono ?_
      rintro r w4 ⟨rfl, b4⟩
      have HS4 := Lib.hid (HS3.out.later b4)
      have HT4 := Lib.hid ((HT3.out.below b4 (Nat.le_refl _)).mono b4.size)
      clear b4 HC HBB HS3 HT3
      clear z0 z1 z2 z3
      have HC := Lib.hid (cParseX HS4.out HR.out.symm HT.out HT4.out)
      go_wp2_with fail
      refine HC.out.mono ?_
      rintro r w5 ⟨q2, c2, rfl, r5, s5, b5⟩
      have HS5 := Lib.hid s5
      have HR5 := Lib.hid r5
      have HT5 := Lib.hid ((HT4.out.below b5 (Nat.le_refl _)).mono b5.size)
      clear s5 r5 b5 HC HS4 HT4
      go_upto_region 7 with (fail)
      have hb1 := (Below.refl w5.heap.size w5).alloc (Nat.le_refl _) (.cells #[.int .i64 k, .string (bstr xv), .string (bstr xn), .slice q2 ks.length c2] 42)
      have HA6 : Hid (Arr (w5.alloc (.cells #[.int .i64 k, .string (bstr xv), .string (bstr xn), .slice q2 ks.length c2] 42)) 42 w5.heap.size [.int .i64 k, .string (bstr xv), .string (bstr xn), .slice q2 ks.length c2]) := Arr.new' _ _ _ _ rfl
      have HS6 := Lib.hid (HS5.out.later hb1)
      have HR6 : Hid (RdE (fun b => b < w5.heap.size) _ (.mk k xv xn ks) (.agg #[.int .i64 k, .string (bstr xv), .string (bstr xn), .slice q2 ks.length c2])) := HR5.out.below hb1 fun _ h => h
      have HT6 := Lib.hid ((HT5.out.below hb1 (Nat.le_refl _)).mono hb1.size)
      obtain ⟨g2, hg2⟩ : ∃ g, g = w5.heap.size := ⟨_, rfl⟩
      rw [← hg2] at HA6 HR6 ⊢
      clear hb1 HS5 HR5 HT5
      generalize w5.alloc (.cells #[.int .i64 k, .string (bstr xv), .string (bstr xn), .slice q2 ks.length c2] 42) = w6 at HA6 HS6 HR6 HT6 ⊢
      clear hg2
      have z0 := HS6.out.1.1.cell 0
      have z1 := HS6.out.1.1.cell 1
      have z2 := HS6.out.1.1.cell 2
      have z3 := HS6.out.1.1.cell 3
      simp only [List.getElem?_cons_zero, List.getElem?_cons_succ] at z0 z1 z2 z3
      have HC := Lib.hid (crPutX HS6.out HR.out.symm)
      rw [← HT.out] at HC
      go_wp2_with fail
      refine HC.out.mono ?_
      rintro r w7 ⟨q3, c3, rfl, r7, b7⟩
      have HS7 := Lib.hid (HS6.out.later b7)
      have HA7 := Lib.hid (HA6.out.later b7)
      have HR7 : Hid (RdE (fun b => b < g2) w7 (.mk k xv xn ks) (.agg #[.int .i64 k, .string (bstr xv), .string (bstr xn), .slice q2 ks.length c2])) := HR6.out.below b7 fun b hb => Nat.lt_trans hb HA6.out.lt
      have HT7 := Lib.hid ((HT6.out.below b7 (Nat.le_refl _)).mono b7.size)
      have HU7 := Lib.hid r7
      clear r7 b7 HC HS6 HA6 HR6 HT6
      clear z0 z1 z2 z3
      have HC := Lib.hid (same_any HT7.out HU7.out)
      rw [show eqB T T = true from by unfold eqB; exact beq_self_eq_true T] at HC
      go_wp2_with fail
      refine HC.out.mono ?_
      rintro r w8 ⟨rfl, n8, rfl⟩
      have b8 := Joins.below_draws w7.heap.size w7 n8
      have HS8 := Lib.hid (HS7.out.later b8)
      have HA8 := Lib.hid (HA7.out.later b8)
      have HR8 : Hid (RdE (fun b => b < g2) _ (.mk k xv xn ks) (.agg #[.int .i64 k, .string (bstr xv), .string (bstr xn), .slice q2 ks.length c2])) := HR7.out.below b8 fun b hb => Nat.lt_trans hb HA7.out.lt
      clear b8 HC HS7 HA7 HR7 HT7 HU7
      generalize World.drewN w7 n8 = w8 at HS8 HA8 HR8 ⊢
      have z0 := HS8.out.1.1.cell 0
      have z1 := HS8.out.1.1.cell 1
      have z2 := HS8.out.1.1.cell 2
      have z3 := HS8.out.1.1.cell 3
      simp only [List.getElem?_cons_zero, List.getElem?_cons_succ] at z0 z1 z2 z3
      have y0 := HA8.out.cell 0
      have y1 := HA8.out.cell 1
      have y2 := HA8.out.cell 2
      have y3 := HA8.out.cell 3
      simp only [List.getElem?_cons_zero, List.getElem?_cons_succ] at y0 y1 y2 y3
      have HC := Lib.hid (rcompare_any _ (.mk k xv xn ks) (.mk k xv xn ks) _ _ _ _ w8 (Nat.le_refl _) HF.out.1 HF.out.1 HF.out.2 HF.out.2 HR8.out HS8.out.1.2 (fun b hb => Nat.lt_trans hb HA8.out.lt) HS8.out.lt)
      rw [cmpE_self] at HC
      go_wp2_with fail
      refine HC.out.mono ?_
      rintro r w9 ⟨rfl, b9⟩
      have HB := Lib.hid (HS8.out.later b9).2.2
      clear b9 HC HS8 HA8 HR8
      clear z0 z1 z2 z3 y0 y1 y2 y3
      go_wp2_with fail
      go_ret
      exact ⟨rfl, HB.out⟩
end Go.Proofs.YtdnmgemjhpkekaaGreatDoor
