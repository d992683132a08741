/-
  vestrylaw08.told and vestrylaw08.awake.
-/
import Derived.Test.YtihjmjhajjgjoaaDoorNameD
namespace Go.Proofs.YtihjmjhajjgjoaaDoor
open Go.ChangeShapes Go.WideShapes Go.ChangeAt Go.RowKit
set_option linter.unusedVariables false

set_option maxRecDepth 100000 in
theorem told_nil (n : Int) (w : World) : Calls Tryd.prog 24 #[.nilIface, .int .i64 0, .int .i64 n] w fun e w' => e = .returned (.bool true) ∧ w = w' := by
  go_enter Tryd.func24, Tryd.ntmps24
  go_wp2_with fail
  go_ret
  exact ⟨rfl, rfl⟩

set_option maxRecDepth 100000 in
theorem told_err (n : Nat) (hn : n ≤ 1000000) (w : World) (h : Env w) : Calls Tryd.prog 24 #[errV 5 n, .int .i64 5, .int .i64 n] w fun e w' => e = .returned (.bool true) ∧ Below w.heap.size w w' := by
  have HE := Lib.hid h
  have hn1 : (n : Int) ≤ 1000000 := by omega
  have hn0 : (0 : Int) ≤ n := by omega
  clear h
  go_enter Tryd.func24, Tryd.ntmps24
  go_wp2_with fail
  refine (errAs.code_F 5 n _ HE.out.2.1).mono ?_
  rintro e w1 ⟨rfl, b1⟩
  have HE1 := Lib.hid (HE.out.below b1)
  have HB1 := Lib.hid b1
  clear b1 HE
  go_wp2_with fail
  refine (errAs.at_F 5 n _ HE1.out.2.1).mono ?_
  rintro e w2 ⟨rfl, b2⟩
  have HB2 := Lib.hid (HB1.out.trans (b2.mono HB1.out.size))
  clear b2 HE1 HB1
  go_wp2_with fail
  go_ret
  exact ⟨by simp, HB2.out⟩

def xDoc : ByteArray := ⟨#[100, 111, 99, 117, 109, 101, 110, 116, 58, 97, 47, 49]⟩
def xUser : ByteArray := ⟨#[117, 115, 101, 114, 35, 109, 101, 109, 98, 101, 114]⟩
def xBad : ByteArray := ⟨#[100, 111, 99, 117, 109, 101, 110, 116]⟩
theorem ex1 : parseObj xDoc = (⟨#[100, 111, 99, 117, 109, 101, 110, 116]⟩, ⟨#[97, 47, 49]⟩, 0, 0) := by decide +kernel
theorem ex2 : parseAll xUser = (⟨#[117, 115, 101, 114]⟩, ⟨#[109, 101, 109, 98, 101, 114]⟩, 0, 0) := by decide +kernel
theorem ex3 : parseObj xBad = (⟨#[]⟩, ⟨#[]⟩, 5, 0) := by decide +kernel
theorem ex4 : isName ⟨#[97, 95, 49]⟩ = true := by decide +kernel
theorem ex5 : isName ⟨#[65]⟩ = false := by decide +kernel
theorem ex6 : isName wRel = false := by decide +kernel
theorem ex7 : resB wRel = true := by decide +kernel
theorem ex8 : isId wRel = true := by decide +kernel
theorem parseObj_at (s : ByteArray) {r : ByteArray × ByteArray × Nat × Nat} (hr : parseObj s = r) (w : World) (h : Env w) (hs : s.size ≤ 1000000) : Calls Tryd.prog 17 #[.string s] w fun e w' =>
    e = .returned (.tuple #[.agg #[.string r.1, .string r.2.1], errOr r.2.2.1 r.2.2.2]) ∧ Below w.heap.size w w' := by subst hr; exact parseObj_any s w h hs
theorem parseAll_at (s : ByteArray) {r : ByteArray × ByteArray × Nat × Nat} (hr : parseAll s = r) (w : World) (h : Env w) (hs : s.size ≤ 1000000) : Calls Tryd.prog 20 #[.string s] w fun e w' =>
    e = .returned (.tuple #[.agg #[.string r.1, .string r.2.1], errOr r.2.2.1 r.2.2.2]) ∧ Below w.heap.size w w' := by subst hr; exact parseAll_any s w h hs
theorem isName_at (s : ByteArray) {b : Bool} (hb : isName s = b) (w : World) (hr : ResT w) : Calls Tryd.prog 9 #[.string s] w fun e w' => e = .returned (.bool b) ∧ Below w.heap.size w w' := by subst hb; exact isName_any s w hr

set_option maxRecDepth 100000 in
set_option maxHeartbeats 2000000 in
theorem nawake_any (w : World) (h : Env w) : Calls Tryd.prog 8 #[] w fun e w' => e = .returned (.bool true) ∧ Below w.heap.size w w' := by
  have HE := Lib.hid h
  clear h
  go_enter Tryd.func8, Tryd.ntmps8
  go_wp2_with fail
  refine (parseObj_at xDoc ex1 _ HE.out (by decide)).mono ?_
  rintro e w1 ⟨rfl, b1⟩
  rw [show errOr 0 0 = .nilIface from rfl]
  have HB1 := Lib.hid b1
  have HE1 := Lib.hid (HE.out.below b1)
  clear b1 HE
  obtain ⟨wa, hwa⟩ : ∃ wa, wa = w1.alloc (.cells #[.string ⟨#[100, 111, 99, 117, 109, 101, 110, 116]⟩, .string ⟨#[97, 47, 49]⟩] 25) := ⟨_, rfl⟩
  have hBa : Below w1.heap.size w1 wa := by rw [hwa]; exact (Below.refl _ _).alloc (Nat.le_refl _) _
  have HKa : Hid (wa.heap[w1.heap.size]? = some (.cells #[.string ⟨#[100, 111, 99, 117, 109, 101, 110, 116]⟩, .string ⟨#[97, 47, 49]⟩] 25 (0, 0))) := by rw [hwa]; exact heap_alloc_new w1 _
  have HEa := Lib.hid (HE1.out.below hBa)
  have HBa := Lib.hid (HB1.out.trans (hBa.mono HB1.out.size))
  have HWa := Lib.hid hwa
  have Za : Hid (w1.heap.size < wa.heap.size) := by rw [hwa]; show w1.heap.size < _; simp
  clear hwa hBa HE1 HB1
  go_wp2_with fail
  rw [← HWa.out]
  refine (parseAll_at xUser ex2 _ HEa.out (by decide)).mono ?_
  rintro e w2 ⟨rfl, b2⟩
  rw [show errOr 0 0 = .nilIface from rfl]
  have HB2 := Lib.hid (HBa.out.trans (b2.mono HBa.out.size))
  have HE2 := Lib.hid (HEa.out.below b2)
  have HKa2 := Lib.hid ((b2.block _ Za.out).trans HKa.out)
  have Za2 : Hid (w1.heap.size < w2.heap.size) := Nat.lt_of_lt_of_le Za.out b2.size
  clear b2 HEa HBa HKa Za HWa
  obtain ⟨wb, hwb⟩ : ∃ wb, wb = w2.alloc (.cells #[.string ⟨#[117, 115, 101, 114]⟩, .string ⟨#[109, 101, 109, 98, 101, 114]⟩] 34) := ⟨_, rfl⟩
  have hBb : Below w2.heap.size w2 wb := by rw [hwb]; exact (Below.refl _ _).alloc (Nat.le_refl _) _
  have HKb : Hid (wb.heap[w2.heap.size]? = some (.cells #[.string ⟨#[117, 115, 101, 114]⟩, .string ⟨#[109, 101, 109, 98, 101, 114]⟩] 34 (0, 0))) := by rw [hwb]; exact heap_alloc_new w2 _
  have HKab := Lib.hid ((hBb.block _ Za2.out).trans HKa2.out)
  have HEb := Lib.hid (HE2.out.below hBb)
  have HBb := Lib.hid (HB2.out.trans (hBb.mono HB2.out.size))
  have HWb := Lib.hid hwb
  have Zb : Hid (w2.heap.size < wb.heap.size) := by rw [hwb]; show w2.heap.size < _; simp
  have Zab : Hid (w1.heap.size < wb.heap.size) := Nat.lt_trans Za2.out Zb.out
  clear hwb hBb HE2 HB2 HKa2 Za2
  go_wp2_with fail
  rw [← HWb.out]
  refine (parseObj_at xBad ex3 _ HEb.out (by decide)).mono ?_
  rintro e w3 ⟨rfl, b3⟩
  rw [show errOr 5 0 = errV 5 ((0 : Nat) : Int) from rfl]
  have HB3 := Lib.hid (HBb.out.trans (b3.mono HBb.out.size))
  have HE3 := Lib.hid (HEb.out.below b3)
  have HKa3 := Lib.hid ((b3.block _ Zab.out).trans HKab.out)
  have HKb3 := Lib.hid ((b3.block _ Zb.out).trans HKb.out)
  have Za3 : Hid (w1.heap.size < w3.heap.size) := Nat.lt_of_lt_of_le Zab.out b3.size
  have Zb3 : Hid (w2.heap.size < w3.heap.size) := Nat.lt_of_lt_of_le Zb.out b3.size
  clear b3 HEb HBb HKab HKb Zab Zb HWb
  have ca0 : ∀ o : Obj, (w3.alloc o).cell? ⟨w1.heap.size, 0, none⟩ = some (.string ⟨#[100, 111, 99, 117, 109, 101, 110, 116]⟩) := fun o => (World.cell?_alloc_lt _ _ ⟨w1.heap.size, 0, none⟩ Za3.out).trans (cell_of_row _ _ 0 _ _ _ HKa3.out)
  have ca1 : ∀ o : Obj, (w3.alloc o).cell? ⟨w1.heap.size, 1, none⟩ = some (.string ⟨#[97, 47, 49]⟩) := fun o => (World.cell?_alloc_lt _ _ ⟨w1.heap.size, 1, none⟩ Za3.out).trans (cell_of_row _ _ 1 _ _ _ HKa3.out)
  have cb0 : ∀ o : Obj, (w3.alloc o).cell? ⟨w2.heap.size, 0, none⟩ = some (.string ⟨#[117, 115, 101, 114]⟩) := fun o => (World.cell?_alloc_lt _ _ ⟨w2.heap.size, 0, none⟩ Zb3.out).trans (cell_of_row _ _ 0 _ _ _ HKb3.out)
  have cb1 : ∀ o : Obj, (w3.alloc o).cell? ⟨w2.heap.size, 1, none⟩ = some (.string ⟨#[109, 101, 109, 98, 101, 114]⟩) := fun o => (World.cell?_alloc_lt _ _ ⟨w2.heap.size, 1, none⟩ Zb3.out).trans (cell_of_row _ _ 1 _ _ _ HKb3.out)
  have HE4 : ∀ o : Obj, Hid (Env (w3.alloc o)) := fun o => HE3.out.below ((Below.refl w3.heap.size w3).alloc (Nat.le_refl _) o)
  have HB4 : ∀ o : Obj, Hid (Below w.heap.size w (w3.alloc o)) := fun o => HB3.out.alloc HB3.out.size o
  go_wp2_with fail
  refine (told_err 0 (by omega) _ (HE4 _).out).mono ?_
  rintro e w5 ⟨rfl, b5⟩
  have HB5 := Lib.hid ((HB4 _).out.trans (b5.mono (HB4 _).out.size))
  have HE5 := Lib.hid ((HE4 _).out.below b5)
  clear b5 ca0 ca1 cb0 cb1 HE4 HB4
  go_wp2_with fail
  refine (isName_at ⟨#[97, 95, 49]⟩ ex4 _ HE5.out.1).mono ?_
  rintro e w6 ⟨rfl, b6⟩
  have HB6 := Lib.hid (HB5.out.trans (b6.mono HB5.out.size))
  have HE6 := Lib.hid (HE5.out.below b6)
  clear b6 HB5 HE5
  go_wp2_with fail
  refine (isName_at ⟨#[65]⟩ ex5 _ HE6.out.1).mono ?_
  rintro e w7 ⟨rfl, b7⟩
  have HB7 := Lib.hid (HB6.out.trans (b7.mono HB6.out.size))
  have HE7 := Lib.hid (HE6.out.below b7)
  clear b7 HB6 HE6
  go_wp2_with fail
  refine (isName_at wRel ex6 _ HE7.out.1).mono ?_
  rintro e w8 ⟨rfl, b8⟩
  have HB8 := Lib.hid (HB7.out.trans (b8.mono HB7.out.size))
  have HE8 := Lib.hid (HE7.out.below b8)
  clear b8 HB7 HE7
  go_wp2_with fail
  refine (res_any wRel _ HE8.out.1).mono ?_
  rintro e w9 ⟨rfl, rfl⟩
  rw [ex7]
  go_wp2_with fail
  refine (isId_any wRel _).mono ?_
  rintro e w10 ⟨rfl, b10⟩
  rw [ex8]
  have HB10 := Lib.hid (HB8.out.trans (b10.mono HB8.out.size))
  clear b10 HB8 HE8
  go_wp2_with fail
  go_ret
  exact ⟨rfl, HB10.out⟩
end Go.Proofs.YtihjmjhajjgjoaaDoor
