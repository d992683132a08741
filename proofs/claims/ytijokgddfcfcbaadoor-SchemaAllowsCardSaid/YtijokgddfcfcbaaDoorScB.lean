/-
  schema.Find, Member, Members on a schema with one definition and one member.
-/
import Derived.Test.YtijokgddfcfcbaaDoorScA
namespace Go.Proofs.YtijokgddfcfcbaaDoor
open Go.ChangeShapes Go.WideShapes Go.ChangeAt Go.RowKit
set_option linter.unusedVariables false

theorem neAB : ((⟨#[97]⟩ : ByteArray).toList == (⟨#[98]⟩ : ByteArray).toList) = false := by rw [toList_data, toList_data]; rfl
set_option maxRecDepth 100000 in
set_option maxHeartbeats 2000000 in
theorem findC {W : World} {p : Nat} {qt : Option Addr} {nt ct : Nat} (hp : W.cell? ⟨p, 0, none⟩ = some (.string ⟨#[100]⟩)) : Calls Tryd.prog 28 #[.agg #[.string ⟨#[100]⟩, .slice qt nt ct], .pointer (some ⟨p, 0, none⟩)] W fun r w' => r = .returned (.bool true) ∧ Below W.heap.size W w' := by
  have HB0 : Hid (Below W.heap.size W (W.alloc (.cells #[.string ⟨#[100]⟩, .slice qt nt ct] 34))) := (Below.refl _ _).alloc (Nat.le_refl _) _
  have hp1 := (HB0.out.cell (p := ⟨p, 0, none⟩) (World.block_lt_of_cell? W _ hp)).trans hp
  clear hp
  go_enter Tryd.func28, Tryd.ntmps28
  go_wp2_with fail
  go_ret
  exact ⟨rfl, HB0.out⟩
set_option maxRecDepth 100000 in
set_option maxHeartbeats 2000000 in
theorem memCa {W : World} {p : Nat} {qt : Option Addr} {nt ct : Nat} (hp : W.cell? ⟨p, 0, none⟩ = some (.string ⟨#[97]⟩)) : Calls Tryd.prog 16 #[.agg #[.string ⟨#[97]⟩, .int .i64 1, .slice qt nt ct, .int .i64 0, .string ⟨#[]⟩, .string ⟨#[]⟩, .slice none 0 0], .pointer (some ⟨p, 0, none⟩)] W fun r w' => r = .returned (.bool true) ∧ Below W.heap.size W w' := by
  have HB0 : Hid (Below W.heap.size W (W.alloc (.cells #[.string ⟨#[97]⟩, .int .i64 1, .slice qt nt ct, .int .i64 0, .string ⟨#[]⟩, .string ⟨#[]⟩, .slice none 0 0] 27))) := (Below.refl _ _).alloc (Nat.le_refl _) _
  have hp1 := (HB0.out.cell (p := ⟨p, 0, none⟩) (World.block_lt_of_cell? W _ hp)).trans hp
  clear hp
  go_enter Tryd.func16, Tryd.ntmps16
  go_wp2_with fail
  go_ret
  exact ⟨rfl, HB0.out⟩
set_option maxRecDepth 100000 in
set_option maxHeartbeats 2000000 in
theorem memCb {W : World} {p : Nat} {qt : Option Addr} {nt ct : Nat} (hp : W.cell? ⟨p, 0, none⟩ = some (.string ⟨#[98]⟩)) : Calls Tryd.prog 16 #[.agg #[.string ⟨#[97]⟩, .int .i64 1, .slice qt nt ct, .int .i64 0, .string ⟨#[]⟩, .string ⟨#[]⟩, .slice none 0 0], .pointer (some ⟨p, 0, none⟩)] W fun r w' => r = .returned (.bool false) ∧ Below W.heap.size W w' := by
  have HB0 : Hid (Below W.heap.size W (W.alloc (.cells #[.string ⟨#[97]⟩, .int .i64 1, .slice qt nt ct, .int .i64 0, .string ⟨#[]⟩, .string ⟨#[]⟩, .slice none 0 0] 27))) := (Below.refl _ _).alloc (Nat.le_refl _) _
  have hp1 := (HB0.out.cell (p := ⟨p, 0, none⟩) (World.block_lt_of_cell? W _ hp)).trans hp
  have hne := neAB
  clear hp
  go_enter Tryd.func16, Tryd.ntmps16
  go_wp2_with fail
  go_ret
  exact ⟨rfl, HB0.out⟩
set_option maxRecDepth 100000 in
set_option maxHeartbeats 2000000 in
theorem find_one {W : World} {d m : Nat} (hD : Arr W 34 d [.string ⟨#[100]⟩, .slice (some ⟨m, 0, none⟩) 1 1]) : Calls Tryd.prog 14 #[.agg #[.slice (some ⟨d, 0, none⟩) 1 1], .string ⟨#[100]⟩] W fun r w' => r = .returned (.tuple #[.agg #[.string ⟨#[100]⟩, .slice (some ⟨m, 0, none⟩) 1 1], .bool true]) ∧ Below W.heap.size W w' := by
  have HB0 : Hid (Below W.heap.size W (((W.alloc (.cells #[.slice (some ⟨d, 0, none⟩) 1 1] 37)).alloc (.cells #[.string ⟨#[100]⟩] 9)).alloc (.cells #[.string ByteArray.empty, .slice none 0 0] 34))) := (((Below.refl _ _).alloc (Nat.le_refl _) _).alloc (by simp) _).alloc (by simp; omega) _
  have hS : Arr (((W.alloc (.cells #[.slice (some ⟨d, 0, none⟩) 1 1] 37)).alloc (.cells #[.string ⟨#[100]⟩] 9)).alloc (.cells #[.string ByteArray.empty, .slice none 0 0] 34)) 9 (W.heap.size + 1) [.string ⟨#[100]⟩] := (Arr.new2 W _ 9 #[.string ⟨#[100]⟩] _ rfl).alloc _
  have HR0 : Hid (Arr (((W.alloc (.cells #[.slice (some ⟨d, 0, none⟩) 1 1] 37)).alloc (.cells #[.string ⟨#[100]⟩] 9)).alloc (.cells #[.string ByteArray.empty, .slice none 0 0] 34)) 34 (W.heap.size + 2) [.string ByteArray.empty, .slice none 0 0]) := Arr.new3 W _ _ _ _ _ rfl
  have hI := fstD_true (p := W.heap.size + 1) (((hD.alloc _).alloc _).alloc _ : Arr (((W.alloc (.cells #[.slice (some ⟨d, 0, none⟩) 1 1] 37)).alloc (.cells #[.string ⟨#[100]⟩] 9)).alloc (.cells #[.string ByteArray.empty, .slice none 0 0] 34)) 34 d [.string ⟨#[100]⟩, .slice (some ⟨m, 0, none⟩) 1 1]) fun W' hW => findC ((hW.cell (p := ⟨W.heap.size + 1, 0, none⟩) hS.lt).trans (hS.cell 0))
  have HI := Lib.hid hI
  clear hI hS hD
  go_enter Tryd.func14, Tryd.ntmps14
  go_wp2_with fail
  refine HI.out.mono ?_
  rintro r w1 ⟨rfl, b1⟩
  have HB := Lib.hid (HB0.out.trans (b1.mono HB0.out.size))
  have HR := Lib.hid (HR0.out.later b1)
  clear b1
  have r0 := HR.out.cell 0
  have r1 := HR.out.cell 1
  have rf0 := HR.out.free 0
  have rf1 := HR.out.free 1
  simp only [List.getElem?_cons_zero, List.getElem?_cons_succ] at r0 r1
  go_wp2_with fail
  have hA := ((HR.out.set 0 (.string ⟨#[100]⟩)).set 1 (.slice (some ⟨m, 0, none⟩) 1 1))
  have hB := ((HB.out.setCell (p := ⟨W.heap.size + 2, 0, none⟩) (by simp only; omega) (.string ⟨#[100]⟩)).setCell (p := ⟨W.heap.size + 2, 1, none⟩) (by simp only; omega) (.slice (some ⟨m, 0, none⟩) 1 1))
  have c0 := hA.cell 0
  have c1 := hA.cell 1
  refine bodyPost_ret (v := .tuple #[.agg #[.string ⟨#[100]⟩, .slice (some ⟨m, 0, none⟩) 1 1], .bool true]) ?_ rfl ⟨rfl, hB⟩
  simp only [List.set_cons_zero, List.set_cons_succ, List.getElem?_cons_zero, List.getElem?_cons_succ] at c0 c1
  simp [results, Tryd.results14, go_sem, c0, c1]
set_option maxRecDepth 100000 in
set_option maxHeartbeats 2000000 in
theorem member_a {W : World} {d m : Nat} {qt : Option Addr} {nt ct : Nat} (hD : Arr W 34 d [.string ⟨#[100]⟩, .slice (some ⟨m, 0, none⟩) 1 1]) (hM : Arr W 27 m [.string ⟨#[97]⟩, .int .i64 1, .slice qt nt ct, .int .i64 0, .string ⟨#[]⟩, .string ⟨#[]⟩, .slice none 0 0]) : Calls Tryd.prog 6 #[.agg #[.slice (some ⟨d, 0, none⟩) 1 1], .string ⟨#[100]⟩, .string ⟨#[97]⟩] W fun r w' => r = .returned (.tuple #[.agg #[.string ⟨#[97]⟩, .int .i64 1, .slice qt nt ct, .int .i64 0, .string ⟨#[]⟩, .string ⟨#[]⟩, .slice none 0 0], .bool true]) ∧ Below W.heap.size W w' := by
  have HB0 : Hid (Below W.heap.size W (((W.alloc (.cells #[.slice (some ⟨d, 0, none⟩) 1 1] 37)).alloc (.cells #[.string ⟨#[97]⟩] 9)).alloc (.cells #[.string ByteArray.empty, .int .i64 0, .slice none 0 0, .int .i64 0, .string ByteArray.empty, .string ByteArray.empty, .slice none 0 0] 27))) := (((Below.refl _ _).alloc (Nat.le_refl _) _).alloc (by simp) _).alloc (by simp; omega) _
  have HS0 : Hid (Arr (((W.alloc (.cells #[.slice (some ⟨d, 0, none⟩) 1 1] 37)).alloc (.cells #[.string ⟨#[97]⟩] 9)).alloc (.cells #[.string ByteArray.empty, .int .i64 0, .slice none 0 0, .int .i64 0, .string ByteArray.empty, .string ByteArray.empty, .slice none 0 0] 27)) 9 (W.heap.size + 1) [.string ⟨#[97]⟩]) := (Arr.new2 W _ 9 #[.string ⟨#[97]⟩] _ rfl).alloc _
  have HR0 : Hid (Arr (((W.alloc (.cells #[.slice (some ⟨d, 0, none⟩) 1 1] 37)).alloc (.cells #[.string ⟨#[97]⟩] 9)).alloc (.cells #[.string ByteArray.empty, .int .i64 0, .slice none 0 0, .int .i64 0, .string ByteArray.empty, .string ByteArray.empty, .slice none 0 0] 27)) 27 (W.heap.size + 2) [.string ByteArray.empty, .int .i64 0, .slice none 0 0, .int .i64 0, .string ByteArray.empty, .string ByteArray.empty, .slice none 0 0]) := Arr.new3 W _ _ _ _ _ rfl
  have HM0 : Hid (Arr (((W.alloc (.cells #[.slice (some ⟨d, 0, none⟩) 1 1] 37)).alloc (.cells #[.string ⟨#[97]⟩] 9)).alloc (.cells #[.string ByteArray.empty, .int .i64 0, .slice none 0 0, .int .i64 0, .string ByteArray.empty, .string ByteArray.empty, .slice none 0 0] 27)) 27 m [.string ⟨#[97]⟩, .int .i64 1, .slice qt nt ct, .int .i64 0, .string ⟨#[]⟩, .string ⟨#[]⟩, .slice none 0 0]) := ((hM.alloc _).alloc _).alloc _
  have HF := Lib.hid (find_one (((hD.alloc _).alloc _).alloc _ : Arr (((W.alloc (.cells #[.slice (some ⟨d, 0, none⟩) 1 1] 37)).alloc (.cells #[.string ⟨#[97]⟩] 9)).alloc (.cells #[.string ByteArray.empty, .int .i64 0, .slice none 0 0, .int .i64 0, .string ByteArray.empty, .string ByteArray.empty, .slice none 0 0] 27)) 34 d [.string ⟨#[100]⟩, .slice (some ⟨m, 0, none⟩) 1 1]))
  clear hD hM
  go_enter Tryd.func6, Tryd.ntmps6
  go_wp2_with fail
  refine HF.out.mono ?_
  rintro r w1 ⟨rfl, b1⟩
  have hb2 : Below w1.heap.size w1 (w1.alloc (.cells #[.string ⟨#[100]⟩, .slice (some ⟨m, 0, none⟩) 1 1] 34)) := (Below.refl _ _).alloc (Nat.le_refl _) _
  have HB1 := Lib.hid (HB0.out.trans ((b1.trans (hb2.mono b1.size)).mono HB0.out.size))
  have HR1 := Lib.hid ((HR0.out.later b1).later hb2)
  have HS1 := Lib.hid ((HS0.out.later b1).later hb2)
  have HI := Lib.hid (fstM_true (p := W.heap.size + 1) ((HM0.out.later b1).later hb2) fun W' hW => memCa ((hW.cell (p := ⟨W.heap.size + 1, 0, none⟩) HS1.out.lt).trans (HS1.out.cell 0)))
  clear b1 hb2 HF
  go_wp2_with fail
  refine HI.out.mono ?_
  rintro r w2 ⟨rfl, b2⟩
  have HB := Lib.hid (HB1.out.trans (b2.mono HB1.out.size))
  have HR := Lib.hid (HR1.out.later b2)
  clear b2 HI
  have r0 := HR.out.cell 0
  have r1 := HR.out.cell 1
  have r2 := HR.out.cell 2
  have r3 := HR.out.cell 3
  have r4 := HR.out.cell 4
  have r5 := HR.out.cell 5
  have r6 := HR.out.cell 6
  have rf0 := HR.out.free 0
  have rf1 := HR.out.free 1
  have rf2 := HR.out.free 2
  have rf3 := HR.out.free 3
  have rf4 := HR.out.free 4
  have rf5 := HR.out.free 5
  have rf6 := HR.out.free 6
  simp only [List.getElem?_cons_zero, List.getElem?_cons_succ] at r0 r1 r2 r3 r4 r5 r6
  go_wp2_with fail
  have hA := (((((((HR.out.set 0 (.string ⟨#[97]⟩)).set 1 (.int .i64 1)).set 2 (.slice qt nt ct)).set 3 (.int .i64 0)).set 4 (.string ⟨#[]⟩)).set 5 (.string ⟨#[]⟩)).set 6 (.slice none 0 0))
  have hB := (((((((HB.out.setCell (p := ⟨W.heap.size + 2, 0, none⟩) (by simp only; omega) (.string ⟨#[97]⟩)).setCell (p := ⟨W.heap.size + 2, 1, none⟩) (by simp only; omega) (.int .i64 1)).setCell (p := ⟨W.heap.size + 2, 2, none⟩) (by simp only; omega) (.slice qt nt ct)).setCell (p := ⟨W.heap.size + 2, 3, none⟩) (by simp only; omega) (.int .i64 0)).setCell (p := ⟨W.heap.size + 2, 4, none⟩) (by simp only; omega) (.string ⟨#[]⟩)).setCell (p := ⟨W.heap.size + 2, 5, none⟩) (by simp only; omega) (.string ⟨#[]⟩)).setCell (p := ⟨W.heap.size + 2, 6, none⟩) (by simp only; omega) (.slice none 0 0))
  have c0 := hA.cell 0
  have c1 := hA.cell 1
  have c2 := hA.cell 2
  have c3 := hA.cell 3
  have c4 := hA.cell 4
  have c5 := hA.cell 5
  have c6 := hA.cell 6
  refine bodyPost_ret (v := .tuple #[.agg #[.string ⟨#[97]⟩, .int .i64 1, .slice qt nt ct, .int .i64 0, .string ⟨#[]⟩, .string ⟨#[]⟩, .slice none 0 0], .bool true]) ?_ rfl ⟨rfl, hB⟩
  simp only [List.set_cons_zero, List.set_cons_succ, List.getElem?_cons_zero, List.getElem?_cons_succ] at c0 c1 c2 c3 c4 c5 c6
  simp [results, Tryd.results6, go_sem, c0, c1, c2, c3, c4, c5, c6]
set_option maxRecDepth 100000 in
set_option maxHeartbeats 2000000 in
theorem member_b {W : World} {d m : Nat} {qt : Option Addr} {nt ct : Nat} (hD : Arr W 34 d [.string ⟨#[100]⟩, .slice (some ⟨m, 0, none⟩) 1 1]) (hM : Arr W 27 m [.string ⟨#[97]⟩, .int .i64 1, .slice qt nt ct, .int .i64 0, .string ⟨#[]⟩, .string ⟨#[]⟩, .slice none 0 0]) : Calls Tryd.prog 6 #[.agg #[.slice (some ⟨d, 0, none⟩) 1 1], .string ⟨#[100]⟩, .string ⟨#[98]⟩] W fun r w' => r = .returned (.tuple #[.agg #[.string ByteArray.empty, .int .i64 0, .slice none 0 0, .int .i64 0, .string ByteArray.empty, .string ByteArray.empty, .slice none 0 0], .bool false]) ∧ Below W.heap.size W w' := by
  have HB0 : Hid (Below W.heap.size W (((W.alloc (.cells #[.slice (some ⟨d, 0, none⟩) 1 1] 37)).alloc (.cells #[.string ⟨#[98]⟩] 9)).alloc (.cells #[.string ByteArray.empty, .int .i64 0, .slice none 0 0, .int .i64 0, .string ByteArray.empty, .string ByteArray.empty, .slice none 0 0] 27))) := (((Below.refl _ _).alloc (Nat.le_refl _) _).alloc (by simp) _).alloc (by simp; omega) _
  have HS0 : Hid (Arr (((W.alloc (.cells #[.slice (some ⟨d, 0, none⟩) 1 1] 37)).alloc (.cells #[.string ⟨#[98]⟩] 9)).alloc (.cells #[.string ByteArray.empty, .int .i64 0, .slice none 0 0, .int .i64 0, .string ByteArray.empty, .string ByteArray.empty, .slice none 0 0] 27)) 9 (W.heap.size + 1) [.string ⟨#[98]⟩]) := (Arr.new2 W _ 9 #[.string ⟨#[98]⟩] _ rfl).alloc _
  have HR0 : Hid (Arr (((W.alloc (.cells #[.slice (some ⟨d, 0, none⟩) 1 1] 37)).alloc (.cells #[.string ⟨#[98]⟩] 9)).alloc (.cells #[.string ByteArray.empty, .int .i64 0, .slice none 0 0, .int .i64 0, .string ByteArray.empty, .string ByteArray.empty, .slice none 0 0] 27)) 27 (W.heap.size + 2) [.string ByteArray.empty, .int .i64 0, .slice none 0 0, .int .i64 0, .string ByteArray.empty, .string ByteArray.empty, .slice none 0 0]) := Arr.new3 W _ _ _ _ _ rfl
  have HM0 : Hid (Arr (((W.alloc (.cells #[.slice (some ⟨d, 0, none⟩) 1 1] 37)).alloc (.cells #[.string ⟨#[98]⟩] 9)).alloc (.cells #[.string ByteArray.empty, .int .i64 0, .slice none 0 0, .int .i64 0, .string ByteArray.empty, .string ByteArray.empty, .slice none 0 0] 27)) 27 m [.string ⟨#[97]⟩, .int .i64 1, .slice qt nt ct, .int .i64 0, .string ⟨#[]⟩, .string ⟨#[]⟩, .slice none 0 0]) := ((hM.alloc _).alloc _).alloc _
  have HF := Lib.hid (find_one (((hD.alloc _).alloc _).alloc _ : Arr (((W.alloc (.cells #[.slice (some ⟨d, 0, none⟩) 1 1] 37)).alloc (.cells #[.string ⟨#[98]⟩] 9)).alloc (.cells #[.string ByteArray.empty, .int .i64 0, .slice none 0 0, .int .i64 0, .string ByteArray.empty, .string ByteArray.empty, .slice none 0 0] 27)) 34 d [.string ⟨#[100]⟩, .slice (some ⟨m, 0, none⟩) 1 1]))
  clear hD hM
  go_enter Tryd.func6, Tryd.ntmps6
  go_wp2_with fail
  refine HF.out.mono ?_
  rintro r w1 ⟨rfl, b1⟩
  have hb2 : Below w1.heap.size w1 (w1.alloc (.cells #[.string ⟨#[100]⟩, .slice (some ⟨m, 0, none⟩) 1 1] 34)) := (Below.refl _ _).alloc (Nat.le_refl _) _
  have HB1 := Lib.hid (HB0.out.trans ((b1.trans (hb2.mono b1.size)).mono HB0.out.size))
  have HR1 := Lib.hid ((HR0.out.later b1).later hb2)
  have HS1 := Lib.hid ((HS0.out.later b1).later hb2)
  have HI := Lib.hid (fstM_false (p := W.heap.size + 1) ((HM0.out.later b1).later hb2) fun W' hW => memCb ((hW.cell (p := ⟨W.heap.size + 1, 0, none⟩) HS1.out.lt).trans (HS1.out.cell 0)))
  clear b1 hb2 HF
  go_wp2_with fail
  refine HI.out.mono ?_
  rintro r w2 ⟨rfl, b2⟩
  have HB := Lib.hid (HB1.out.trans (b2.mono HB1.out.size))
  have HR := Lib.hid (HR1.out.later b2)
  clear b2 HI
  have r0 := HR.out.cell 0
  have r1 := HR.out.cell 1
  have r2 := HR.out.cell 2
  have r3 := HR.out.cell 3
  have r4 := HR.out.cell 4
  have r5 := HR.out.cell 5
  have r6 := HR.out.cell 6
  have rf0 := HR.out.free 0
  have rf1 := HR.out.free 1
  have rf2 := HR.out.free 2
  have rf3 := HR.out.free 3
  have rf4 := HR.out.free 4
  have rf5 := HR.out.free 5
  have rf6 := HR.out.free 6
  simp only [List.getElem?_cons_zero, List.getElem?_cons_succ] at r0 r1 r2 r3 r4 r5 r6
  go_wp2_with fail
  have hA := (((((((HR.out.set 0 (.string ByteArray.empty)).set 1 (.int .i64 0)).set 2 (.slice none 0 0)).set 3 (.int .i64 0)).set 4 (.string ByteArray.empty)).set 5 (.string ByteArray.empty)).set 6 (.slice none 0 0))
  have hB := (((((((HB.out.setCell (p := ⟨W.heap.size + 2, 0, none⟩) (by simp only; omega) (.string ByteArray.empty)).setCell (p := ⟨W.heap.size + 2, 1, none⟩) (by simp only; omega) (.int .i64 0)).setCell (p := ⟨W.heap.size + 2, 2, none⟩) (by simp only; omega) (.slice none 0 0)).setCell (p := ⟨W.heap.size + 2, 3, none⟩) (by simp only; omega) (.int .i64 0)).setCell (p := ⟨W.heap.size + 2, 4, none⟩) (by simp only; omega) (.string ByteArray.empty)).setCell (p := ⟨W.heap.size + 2, 5, none⟩) (by simp only; omega) (.string ByteArray.empty)).setCell (p := ⟨W.heap.size + 2, 6, none⟩) (by simp only; omega) (.slice none 0 0))
  have c0 := hA.cell 0
  have c1 := hA.cell 1
  have c2 := hA.cell 2
  have c3 := hA.cell 3
  have c4 := hA.cell 4
  have c5 := hA.cell 5
  have c6 := hA.cell 6
  refine bodyPost_ret (v := .tuple #[.agg #[.string ByteArray.empty, .int .i64 0, .slice none 0 0, .int .i64 0, .string ByteArray.empty, .string ByteArray.empty, .slice none 0 0], .bool false]) ?_ rfl ⟨rfl, hB⟩
  simp only [List.set_cons_zero, List.set_cons_succ, List.getElem?_cons_zero, List.getElem?_cons_succ] at c0 c1 c2 c3 c4 c5 c6
  simp [results, Tryd.results6, go_sem, c0, c1, c2, c3, c4, c5, c6]
set_option maxRecDepth 100000 in
set_option maxHeartbeats 2000000 in
theorem members_mk (sv : Value) (W : World) : Calls Tryd.prog 12 #[.agg #[sv]] W fun r w' => r = .returned (.func (.func 25) #[] #[.pointer (some ⟨W.heap.size, 0, none⟩)]) ∧ w' = W.alloc (.cells #[sv] 37) := by
  go_enter Tryd.func12, Tryd.ntmps12
  go_wp2_with fail
  go_ret
  exact ⟨rfl, rfl⟩
end Go.Proofs.YtijokgddfcfcbaaDoor
