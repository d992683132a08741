/-
  name.Allowed, schema.isRight, memberHasForm, hasForm, Form on the law's two schemas.
-/
import Derived.Test.YtijokgddfcfcbaaDoorScB
import Derived.Test.YtijokgddfcfcbaaDoorExM
namespace Go.Proofs.YtijokgddfcfcbaaDoor
open Go.ChangeShapes Go.WideShapes Go.ChangeAt Go.RowKit
set_option linter.unusedVariables false

theorem nmUser : isName ⟨#[117, 115, 101, 114]⟩ = true := by decide +kernel
theorem nmA : isName ⟨#[97]⟩ = true := by decide +kernel
theorem nmD : isName ⟨#[100]⟩ = true := by decide +kernel
theorem isName_at (s : ByteArray) {b : Bool} (hb : isName s = b) (w : World) (hr : ResT w) : Calls Tryd.prog 32 #[.string s] w fun e w' => e = .returned (.bool b) ∧ Below w.heap.size w w' := by subst hb; exact isName_any s w hr
theorem rdZero (P : Nat → Prop) (W : World) : RdE P W ex0 (.agg #[.int .i64 0, .string ⟨#[]⟩, .string ⟨#[]⟩, .slice none 0 0]) := by
  unfold ex0 RdE
  exact ⟨none, 0, rfl, Nat.le_refl _, fun h => by simp at h⟩
theorem same0 : (cmpE ex0 ex0 == 0) = true := by decide +kernel
theorem sameZero (W : World) : Calls Tryd.prog 20 #[.agg #[.int .i64 0, .string ⟨#[]⟩, .string ⟨#[]⟩, .slice none 0 0], .agg #[.int .i64 0, .string ⟨#[]⟩, .string ⟨#[]⟩, .slice none 0 0]] W fun r w' => r = .returned (.bool true) ∧ Below W.heap.size W w' :=
  (esame_any ex0 ex0 _ _ (fun _ => False) (fun _ => False) W (by decide) (by decide) (rdZero _ _) (rdZero _ _) (fun _ h => h.elim) (fun _ h => h.elim)).mono fun e w' ⟨h1, h2⟩ => ⟨by rw [h1, same0], h2⟩
set_option maxRecDepth 100000 in
set_option maxHeartbeats 2000000 in
theorem allowedUser (W : World) (hr : ResT W) : Calls Tryd.prog 57 #[.agg #[.string ⟨#[117, 115, 101, 114]⟩, .string ⟨#[]⟩]] W fun r w' => r = .returned (.tuple #[.string ⟨#[117, 115, 101, 114]⟩, .bool true]) ∧ Below W.heap.size W w' := by
  have HB0 : Hid (Below W.heap.size W (W.alloc (.cells #[.string ⟨#[117, 115, 101, 114]⟩, .string ⟨#[]⟩] 29))) := (Below.refl _ _).alloc (Nat.le_refl _) _
  have HA0 : Hid (Arr (W.alloc (.cells #[.string ⟨#[117, 115, 101, 114]⟩, .string ⟨#[]⟩] 29)) 29 W.heap.size [.string ⟨#[117, 115, 101, 114]⟩, .string ⟨#[]⟩]) := Arr.new' _ _ _ _ rfl
  have HN := Lib.hid (isName_at _ nmUser _ (hr.below HB0.out hr.lt))
  clear hr
  go_enter Tryd.func57, Tryd.ntmps57
  go_wp2_with fail
  refine HN.out.mono ?_
  rintro r w1 ⟨rfl, b1⟩
  have HB := Lib.hid (HB0.out.trans (b1.mono HB0.out.size))
  have HA := Lib.hid (HA0.out.later b1)
  have a0 := HA.out.cell 0
  have a1 := HA.out.cell 1
  simp only [List.getElem?_cons_zero, List.getElem?_cons_succ] at a0 a1
  clear b1
  go_wp2_with fail
  refine bodyPost_ret (v := .tuple #[.string ⟨#[117, 115, 101, 114]⟩, .bool true]) ?_ rfl ⟨rfl, HB.out⟩
  simp [results, Tryd.results57, go_sem]
set_option maxRecDepth 100000 in
set_option maxHeartbeats 2000000 in
theorem isRightUser (W : World) (hr : ResT W) : Calls Tryd.prog 48 #[.agg #[.string ⟨#[117, 115, 101, 114]⟩, .string ⟨#[]⟩]] W fun r w' => r = .returned (.bool true) ∧ Below W.heap.size W w' := by
  have HB0 : Hid (Below W.heap.size W (W.alloc (.cells #[.string ⟨#[117, 115, 101, 114]⟩, .string ⟨#[]⟩] 29))) := (Below.refl _ _).alloc (Nat.le_refl _) _
  have HN := Lib.hid (allowedUser _ (hr.below HB0.out hr.lt))
  clear hr
  go_enter Tryd.func48, Tryd.ntmps48
  go_wp2_with fail
  refine HN.out.mono ?_
  rintro r w1 ⟨rfl, b1⟩
  have HB := Lib.hid (HB0.out.trans (b1.mono HB0.out.size))
  clear b1
  go_wp2_with fail
  go_ret
  exact ⟨rfl, HB.out⟩
set_option maxRecDepth 100000 in
set_option maxHeartbeats 2000000 in
theorem mhf_good {W : World} {t : Nat} (hT : Arr W 29 t [.string ⟨#[117, 115, 101, 114]⟩, .string ⟨#[]⟩]) (hr : ResT W) : Calls Tryd.prog 34 #[.agg #[.string ⟨#[97]⟩, .int .i64 1, .slice (some ⟨t, 0, none⟩) 1 1, .int .i64 0, .string ⟨#[]⟩, .string ⟨#[]⟩, .slice none 0 0]] W fun r w' => r = .returned (.bool true) ∧ Below W.heap.size W w' := by
  have HB0 : Hid (Below W.heap.size W (W.alloc (.cells #[.string ⟨#[97]⟩, .int .i64 1, .slice (some ⟨t, 0, none⟩) 1 1, .int .i64 0, .string ⟨#[]⟩, .string ⟨#[]⟩, .slice none 0 0] 27))) := (Below.refl _ _).alloc (Nat.le_refl _) _
  have HA0 : Hid (Arr (W.alloc (.cells #[.string ⟨#[97]⟩, .int .i64 1, .slice (some ⟨t, 0, none⟩) 1 1, .int .i64 0, .string ⟨#[]⟩, .string ⟨#[]⟩, .slice none 0 0] 27)) 27 W.heap.size [.string ⟨#[97]⟩, .int .i64 1, .slice (some ⟨t, 0, none⟩) 1 1, .int .i64 0, .string ⟨#[]⟩, .string ⟨#[]⟩, .slice none 0 0]) := Arr.new' _ _ _ _ rfl
  have HR0 : Hid (ResT (W.alloc (.cells #[.string ⟨#[97]⟩, .int .i64 1, .slice (some ⟨t, 0, none⟩) 1 1, .int .i64 0, .string ⟨#[]⟩, .string ⟨#[]⟩, .slice none 0 0] 27))) := hr.below HB0.out hr.lt
  have HN := Lib.hid (isName_at _ nmA _ HR0.out)
  have HT0 : Hid (Arr (W.alloc (.cells #[.string ⟨#[97]⟩, .int .i64 1, .slice (some ⟨t, 0, none⟩) 1 1, .int .i64 0, .string ⟨#[]⟩, .string ⟨#[]⟩, .slice none 0 0] 27)) 29 t [.string ⟨#[117, 115, 101, 114]⟩, .string ⟨#[]⟩]) := hT.alloc _
  clear hT
  clear hr
  go_enter Tryd.func34, Tryd.ntmps34
  go_wp2_with fail
  refine HN.out.mono ?_
  rintro r w1 ⟨rfl, b1⟩
  have HB1 := Lib.hid (HB0.out.trans (b1.mono HB0.out.size))
  have HA1 := Lib.hid (HA0.out.later b1)
  have HR1 : Hid (ResT w1) := HR0.out.below b1 HR0.out.lt
  have a0 := HA1.out.cell 0
  have a1 := HA1.out.cell 1
  have a2 := HA1.out.cell 2
  have a3 := HA1.out.cell 3
  have a4 := HA1.out.cell 4
  have a5 := HA1.out.cell 5
  have a6 := HA1.out.cell 6
  simp only [List.getElem?_cons_zero, List.getElem?_cons_succ] at a0 a1 a2 a3 a4 a5 a6
  have HT1 := Lib.hid (HT0.out.later b1)
  have HL := Lib.hid (allA HT1.out fun W' hW => isRightUser W' (HR1.out.below hW HR1.out.lt))
  clear b1
  go_wp2_with fail
  refine HL.out.mono ?_
  rintro r w2 ⟨rfl, b2⟩
  have HB2 := Lib.hid (HB1.out.trans (b2.mono HB1.out.size))
  have HA2 := Lib.hid (HA1.out.later b2)
  clear b2 a0 a1 a2 a3 a4 a5 a6
  have a0 := HA2.out.cell 0
  have a1 := HA2.out.cell 1
  have a2 := HA2.out.cell 2
  have a3 := HA2.out.cell 3
  have a4 := HA2.out.cell 4
  have a5 := HA2.out.cell 5
  have a6 := HA2.out.cell 6
  simp only [List.getElem?_cons_zero, List.getElem?_cons_succ] at a0 a1 a2 a3 a4 a5 a6
  have HS := Lib.hid (sameZero w2)
  go_wp2_with fail
  refine HS.out.mono ?_
  rintro r w3 ⟨rfl, b3⟩
  have HB3 := Lib.hid (HB2.out.trans (b3.mono HB2.out.size))
  clear b3
  go_wp2_with fail
  go_ret
  exact ⟨rfl, HB3.out⟩
set_option maxRecDepth 100000 in
set_option maxHeartbeats 2000000 in
theorem mhf_bad {W : World} (hr : ResT W) : Calls Tryd.prog 34 #[.agg #[.string ⟨#[97]⟩, .int .i64 1, .slice none 0 0, .int .i64 0, .string ⟨#[]⟩, .string ⟨#[]⟩, .slice none 0 0]] W fun r w' => r = .returned (.bool false) ∧ Below W.heap.size W w' := by
  have HB0 : Hid (Below W.heap.size W (W.alloc (.cells #[.string ⟨#[97]⟩, .int .i64 1, .slice none 0 0, .int .i64 0, .string ⟨#[]⟩, .string ⟨#[]⟩, .slice none 0 0] 27))) := (Below.refl _ _).alloc (Nat.le_refl _) _
  have HA0 : Hid (Arr (W.alloc (.cells #[.string ⟨#[97]⟩, .int .i64 1, .slice none 0 0, .int .i64 0, .string ⟨#[]⟩, .string ⟨#[]⟩, .slice none 0 0] 27)) 27 W.heap.size [.string ⟨#[97]⟩, .int .i64 1, .slice none 0 0, .int .i64 0, .string ⟨#[]⟩, .string ⟨#[]⟩, .slice none 0 0]) := Arr.new' _ _ _ _ rfl
  have HR0 : Hid (ResT (W.alloc (.cells #[.string ⟨#[97]⟩, .int .i64 1, .slice none 0 0, .int .i64 0, .string ⟨#[]⟩, .string ⟨#[]⟩, .slice none 0 0] 27))) := hr.below HB0.out hr.lt
  have HN := Lib.hid (isName_at _ nmA _ HR0.out)
  clear hr
  go_enter Tryd.func34, Tryd.ntmps34
  go_wp2_with fail
  refine HN.out.mono ?_
  rintro r w1 ⟨rfl, b1⟩
  have HB1 := Lib.hid (HB0.out.trans (b1.mono HB0.out.size))
  have HA1 := Lib.hid (HA0.out.later b1)
  have HR1 : Hid (ResT w1) := HR0.out.below b1 HR0.out.lt
  have a0 := HA1.out.cell 0
  have a1 := HA1.out.cell 1
  have a2 := HA1.out.cell 2
  have a3 := HA1.out.cell 3
  have a4 := HA1.out.cell 4
  have a5 := HA1.out.cell 5
  have a6 := HA1.out.cell 6
  simp only [List.getElem?_cons_zero, List.getElem?_cons_succ] at a0 a1 a2 a3 a4 a5 a6
  clear b1
  go_wp2_with fail
  go_ret
  exact ⟨rfl, HB1.out⟩
set_option maxRecDepth 100000 in
set_option maxHeartbeats 2000000 in
theorem hf_good {W : World} {m : Nat} {t : Nat} (hT : Arr W 29 t [.string ⟨#[117, 115, 101, 114]⟩, .string ⟨#[]⟩]) (hM : Arr W 27 m [.string ⟨#[97]⟩, .int .i64 1, .slice (some ⟨t, 0, none⟩) 1 1, .int .i64 0, .string ⟨#[]⟩, .string ⟨#[]⟩, .slice none 0 0]) (hr : ResT W) : Calls Tryd.prog 18 #[.agg #[.string ⟨#[100]⟩, .slice (some ⟨m, 0, none⟩) 1 1]] W fun r w' => r = .returned (.bool true) ∧ Below W.heap.size W w' := by
  have HB0 : Hid (Below W.heap.size W (W.alloc (.cells #[.string ⟨#[100]⟩, .slice (some ⟨m, 0, none⟩) 1 1] 34))) := (Below.refl _ _).alloc (Nat.le_refl _) _
  have HA0 : Hid (Arr (W.alloc (.cells #[.string ⟨#[100]⟩, .slice (some ⟨m, 0, none⟩) 1 1] 34)) 34 W.heap.size [.string ⟨#[100]⟩, .slice (some ⟨m, 0, none⟩) 1 1]) := Arr.new' _ _ _ _ rfl
  have HR0 : Hid (ResT (W.alloc (.cells #[.string ⟨#[100]⟩, .slice (some ⟨m, 0, none⟩) 1 1] 34))) := hr.below HB0.out hr.lt
  have HM0 : Hid (Arr (W.alloc (.cells #[.string ⟨#[100]⟩, .slice (some ⟨m, 0, none⟩) 1 1] 34)) 27 m [.string ⟨#[97]⟩, .int .i64 1, .slice (some ⟨t, 0, none⟩) 1 1, .int .i64 0, .string ⟨#[]⟩, .string ⟨#[]⟩, .slice none 0 0]) := hM.alloc _
  have HN := Lib.hid (isName_at _ nmD _ HR0.out)
  have HT0 : Hid (Arr (W.alloc (.cells #[.string ⟨#[100]⟩, .slice (some ⟨m, 0, none⟩) 1 1] 34)) 29 t [.string ⟨#[117, 115, 101, 114]⟩, .string ⟨#[]⟩]) := hT.alloc _
  clear hT
  clear hr hM
  go_enter Tryd.func18, Tryd.ntmps18
  go_wp2_with fail
  refine HN.out.mono ?_
  rintro r w1 ⟨rfl, b1⟩
  have HB1 := Lib.hid (HB0.out.trans (b1.mono HB0.out.size))
  have HA1 := Lib.hid (HA0.out.later b1)
  have HM1 := Lib.hid (HM0.out.later b1)
  have HR1 : Hid (ResT w1) := HR0.out.below b1 HR0.out.lt
  have HT1 := Lib.hid (HT0.out.later b1)
  have a0 := HA1.out.cell 0
  have a1 := HA1.out.cell 1
  simp only [List.getElem?_cons_zero, List.getElem?_cons_succ] at a0 a1
  have HL := Lib.hid (allM HM1.out (fun W' hW => mhf_good (HT1.out.later hW) (HR1.out.below hW HR1.out.lt)))
  clear b1
  go_wp2_with fail
  refine HL.out.mono ?_
  rintro r w2 ⟨rfl, b2⟩
  have HB2 := Lib.hid (HB1.out.trans (b2.mono HB1.out.size))
  clear b2
  go_wp2_with fail
  go_ret
  exact ⟨rfl, HB2.out⟩
set_option maxRecDepth 100000 in
set_option maxHeartbeats 2000000 in
theorem hf_bad {W : World} {m : Nat} (hM : Arr W 27 m [.string ⟨#[97]⟩, .int .i64 1, .slice none 0 0, .int .i64 0, .string ⟨#[]⟩, .string ⟨#[]⟩, .slice none 0 0]) (hr : ResT W) : Calls Tryd.prog 18 #[.agg #[.string ⟨#[100]⟩, .slice (some ⟨m, 0, none⟩) 1 1]] W fun r w' => r = .returned (.bool false) ∧ Below W.heap.size W w' := by
  have HB0 : Hid (Below W.heap.size W (W.alloc (.cells #[.string ⟨#[100]⟩, .slice (some ⟨m, 0, none⟩) 1 1] 34))) := (Below.refl _ _).alloc (Nat.le_refl _) _
  have HA0 : Hid (Arr (W.alloc (.cells #[.string ⟨#[100]⟩, .slice (some ⟨m, 0, none⟩) 1 1] 34)) 34 W.heap.size [.string ⟨#[100]⟩, .slice (some ⟨m, 0, none⟩) 1 1]) := Arr.new' _ _ _ _ rfl
  have HR0 : Hid (ResT (W.alloc (.cells #[.string ⟨#[100]⟩, .slice (some ⟨m, 0, none⟩) 1 1] 34))) := hr.below HB0.out hr.lt
  have HM0 : Hid (Arr (W.alloc (.cells #[.string ⟨#[100]⟩, .slice (some ⟨m, 0, none⟩) 1 1] 34)) 27 m [.string ⟨#[97]⟩, .int .i64 1, .slice none 0 0, .int .i64 0, .string ⟨#[]⟩, .string ⟨#[]⟩, .slice none 0 0]) := hM.alloc _
  have HN := Lib.hid (isName_at _ nmD _ HR0.out)
  clear hr hM
  go_enter Tryd.func18, Tryd.ntmps18
  go_wp2_with fail
  refine HN.out.mono ?_
  rintro r w1 ⟨rfl, b1⟩
  have HB1 := Lib.hid (HB0.out.trans (b1.mono HB0.out.size))
  have HA1 := Lib.hid (HA0.out.later b1)
  have HM1 := Lib.hid (HM0.out.later b1)
  have HR1 : Hid (ResT w1) := HR0.out.below b1 HR0.out.lt
  have a0 := HA1.out.cell 0
  have a1 := HA1.out.cell 1
  simp only [List.getElem?_cons_zero, List.getElem?_cons_succ] at a0 a1
  have HL := Lib.hid (allM HM1.out (fun W' hW => mhf_bad (HR1.out.below hW HR1.out.lt)))
  clear b1
  go_wp2_with fail
  refine HL.out.mono ?_
  rintro r w2 ⟨rfl, b2⟩
  have HB2 := Lib.hid (HB1.out.trans (b2.mono HB1.out.size))
  clear b2
  go_wp2_with fail
  go_ret
  exact ⟨rfl, HB2.out⟩
set_option maxRecDepth 100000 in
set_option maxHeartbeats 2000000 in
theorem form_good {W : World} {d m : Nat} {t : Nat} (hT : Arr W 29 t [.string ⟨#[117, 115, 101, 114]⟩, .string ⟨#[]⟩]) (hD : Arr W 34 d [.string ⟨#[100]⟩, .slice (some ⟨m, 0, none⟩) 1 1]) (hM : Arr W 27 m [.string ⟨#[97]⟩, .int .i64 1, .slice (some ⟨t, 0, none⟩) 1 1, .int .i64 0, .string ⟨#[]⟩, .string ⟨#[]⟩, .slice none 0 0]) (hr : ResT W) : Calls Tryd.prog 8 #[.agg #[.slice (some ⟨d, 0, none⟩) 1 1]] W fun r w' => r = .returned (.bool true) ∧ Below W.heap.size W w' := by
  have HB0 : Hid (Below W.heap.size W (W.alloc (.cells #[.slice (some ⟨d, 0, none⟩) 1 1] 37))) := (Below.refl _ _).alloc (Nat.le_refl _) _
  have HR0 : Hid (ResT (W.alloc (.cells #[.slice (some ⟨d, 0, none⟩) 1 1] 37))) := hr.below HB0.out hr.lt
  have HM0 : Hid (Arr (W.alloc (.cells #[.slice (some ⟨d, 0, none⟩) 1 1] 37)) 27 m [.string ⟨#[97]⟩, .int .i64 1, .slice (some ⟨t, 0, none⟩) 1 1, .int .i64 0, .string ⟨#[]⟩, .string ⟨#[]⟩, .slice none 0 0]) := hM.alloc _
  have HT0 : Hid (Arr (W.alloc (.cells #[.slice (some ⟨d, 0, none⟩) 1 1] 37)) 29 t [.string ⟨#[117, 115, 101, 114]⟩, .string ⟨#[]⟩]) := hT.alloc _
  clear hT
  have HL := Lib.hid (allD (hD.alloc (.cells #[.slice (some ⟨d, 0, none⟩) 1 1] 37)) (fun W' hW => hf_good (HT0.out.later hW) (HM0.out.later hW) (HR0.out.below hW HR0.out.lt)))
  clear hr hM hD
  go_enter Tryd.func8, Tryd.ntmps8
  go_wp2_with fail
  refine HL.out.mono ?_
  rintro r w2 ⟨rfl, b2⟩
  have HB2 := Lib.hid (HB0.out.trans (b2.mono HB0.out.size))
  clear b2
  go_wp2_with fail
  go_ret
  exact ⟨rfl, HB2.out⟩
set_option maxRecDepth 100000 in
set_option maxHeartbeats 2000000 in
theorem form_bad {W : World} {d m : Nat} (hD : Arr W 34 d [.string ⟨#[100]⟩, .slice (some ⟨m, 0, none⟩) 1 1]) (hM : Arr W 27 m [.string ⟨#[97]⟩, .int .i64 1, .slice none 0 0, .int .i64 0, .string ⟨#[]⟩, .string ⟨#[]⟩, .slice none 0 0]) (hr : ResT W) : Calls Tryd.prog 8 #[.agg #[.slice (some ⟨d, 0, none⟩) 1 1]] W fun r w' => r = .returned (.bool false) ∧ Below W.heap.size W w' := by
  have HB0 : Hid (Below W.heap.size W (W.alloc (.cells #[.slice (some ⟨d, 0, none⟩) 1 1] 37))) := (Below.refl _ _).alloc (Nat.le_refl _) _
  have HR0 : Hid (ResT (W.alloc (.cells #[.slice (some ⟨d, 0, none⟩) 1 1] 37))) := hr.below HB0.out hr.lt
  have HM0 : Hid (Arr (W.alloc (.cells #[.slice (some ⟨d, 0, none⟩) 1 1] 37)) 27 m [.string ⟨#[97]⟩, .int .i64 1, .slice none 0 0, .int .i64 0, .string ⟨#[]⟩, .string ⟨#[]⟩, .slice none 0 0]) := hM.alloc _
  have HL := Lib.hid (allD (hD.alloc (.cells #[.slice (some ⟨d, 0, none⟩) 1 1] 37)) (fun W' hW => hf_bad (HM0.out.later hW) (HR0.out.below hW HR0.out.lt)))
  clear hr hM hD
  go_enter Tryd.func8, Tryd.ntmps8
  go_wp2_with fail
  refine HL.out.mono ?_
  rintro r w2 ⟨rfl, b2⟩
  have HB2 := Lib.hid (HB0.out.trans (b2.mono HB0.out.size))
  clear b2
  go_wp2_with fail
  go_ret
  exact ⟨rfl, HB2.out⟩
end Go.Proofs.YtijokgddfcfcbaaDoor
