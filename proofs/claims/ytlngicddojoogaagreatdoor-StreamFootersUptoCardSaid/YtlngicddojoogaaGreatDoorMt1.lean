/-
  An empty schema: Clone, canon.Schema; the store that New makes.
-/
import Derived.Test.YtlngicddojoogaaGreatDoorMt0
import Derived.Test.YtlngicddojoogaaGreatDoorStepW
import Derived.Deep.RegionHeld3
import Derived.Deep.RegionLaw
import Derived.Deep.Cut
import Derived.Test.YtlngicddojoogaaGreatDoorRefNumAt
import Derived.Test.YtlngicddojoogaaGreatDoorTold
import Derived.Test.YtlngicddojoogaaGreatDoorShaD
import Derived.Test.YtlngicddojoogaaGreatDoorShaN
import Derived.LoopN
import Derived.Test.YtlngicddojoogaaGreatDoorShaS
import Derived.Test.YtlngicddojoogaaGreatDoorRefJoin
namespace Go.Proofs.YtlngicddojoogaaGreatDoor
open Go.ChangeShapes Go.WideShapes Go.ChangeAt Go.RowKit
set_option linter.unusedVariables false

section
variable {ops : Array Oper} {rest : List Oper} {o : Oper} {a : Act} {Q : Exit → Act → World → Prop} {w : World} {g : Nat} {x y : Operand}
theorem loadS {t : TypeId} (hA : Arr w t g [.slice none 0 0]) (hs : o.guard = none ∧ o.op = .load 72 x ∧ a.eval x = .pointer (some ⟨g, 0, none⟩))
    (hk : wpList Tryz.prog ops Q rest (a.put o.dst (.agg #[.slice none 0 0])) w) : wpList Tryz.prog ops Q (o :: rest) a w :=
  load_arr hs.1 _ x hs.2.1 hA hs.2.2 Tryz.underlying72 rfl (by kernel_rfl) hk
theorem storeS {t : TypeId} (hA : Arr w t g [.slice none 0 0]) (hs : o.guard = none ∧ o.op = .store 72 x y ∧ a.eval x = .pointer (some ⟨g, 0, none⟩) ∧ a.eval y = .agg #[.slice none 0 0])
    (hk : wpList Tryz.prog ops Q rest (a.put o.dst undef) w) : wpList Tryz.prog ops Q (o :: rest) a w :=
  store_arr hs.1 _ x y hs.2.1 hA (cs := [.slice none 0 0]) hs.2.2.1 hs.2.2.2 (by kernel_rfl) rfl (by simp [Value.oneCell']) (by
    have e : w.setRow g [Value.slice none 0 0].toArray = w := by
      have hg : g < w.heap.size := hA.lt
      cases w
      simp only [World.setRow] at *
      congr 1
      apply Array.ext_getElem?
      intro i
      rw [Array.getElem?_modify]
      split
      · next h => subst h; rw [show _ = _ from hA]; rfl
      · rfl
    rw [e]; exact hk)
end
set_option maxRecDepth 100000 in
theorem sclone_nil (w : World) : Calls Tryz.prog 89 #[.agg #[.slice none 0 0]] w fun e w' => e = .returned (.agg #[.slice none 0 0]) ∧ Below w.heap.size w w' := by
  have h2 : Below w.heap.size w ((w.alloc (.cells #[.slice none 0 0] 72)).alloc (.cells #[.slice none 0 0] 72)) := ((Below.refl _ _).alloc (Nat.le_refl _) _).alloc (by simp) _
  have hA1 : Arr ((w.alloc (.cells #[.slice none 0 0] 72)).alloc (.cells #[.slice none 0 0] 72)) 72 (w.heap.size + 1) [.slice none 0 0] := Arr.new2 w _ _ _ _ rfl
  have hA0 : Arr ((w.alloc (.cells #[.slice none 0 0] 72)).alloc (.cells #[.slice none 0 0] 72)) 72 w.heap.size [.slice none 0 0] := (Arr.new' w _ _ _ rfl).alloc _
  have hc0 := hA0.cell 0
  simp only [List.getElem?_cons_zero] at hc0
  have HB := Lib.hid h2
  have HA1 := Lib.hid hA1
  clear h2 hA1 hA0
  go_enter Tryz.func89, Tryz.ntmps89
  go_wp2_with fail
  refine (cloneD_nil _).mono ?_
  rintro e w1 ⟨rfl, h1⟩
  have HB1 : Hid (Below w.heap.size w w1) := by show Below _ _ _; rw [← h1]; exact HB.out
  have HA2 : Hid (Arr w1 72 (w.heap.size + 1) [.slice none 0 0]) := by show Arr _ _ _ _; rw [← h1]; exact HA1.out
  clear h1 hc0 HB HA1
  go_wp2_with fail
  go_loopw [11] (fun iv wr => iv = .int .i64 0 ∧ wr = w1) (fun _ _ => 0)
  case atStart => exact ⟨rfl, rfl⟩
  case round =>
    obtain ⟨rfl, rfl⟩ := hrel
    go_wp2_with ((with_reducible refine storeS (x := .tmp 2) (y := .tmp 25) (o := ⟨none, .store _ _ _, _, _, _, _⟩) HA2.out ?_ ?_); exact ⟨rfl, rfl, rfl, rfl⟩)
    refine bodyPost_ret (results_cell_row rfl _ _ (w.heap.size + 1) 72 #[.slice none 0 0] (0, 0) _ rfl HA2.out Tryz.underlying72 rfl (by kernel_rfl)) rfl ⟨rfl, HB1.out⟩
set_option maxRecDepth 100000 in
theorem canon_nil (w : World) : Calls Tryz.prog 73 #[.agg #[.slice none 0 0]] w fun e w' => e = .returned (.agg #[.slice none 0 0]) ∧ Below w.heap.size w w' := by
  have h2 : Below w.heap.size w ((w.alloc (.cells #[.slice none 0 0] 72)).alloc (.cells #[.slice none 0 0] 72)) := ((Below.refl _ _).alloc (Nat.le_refl _) _).alloc (by simp) _
  have hA1 : Arr ((w.alloc (.cells #[.slice none 0 0] 72)).alloc (.cells #[.slice none 0 0] 72)) 72 (w.heap.size + 1) [.slice none 0 0] := Arr.new2 w _ _ _ _ rfl
  have hA0 : Arr ((w.alloc (.cells #[.slice none 0 0] 72)).alloc (.cells #[.slice none 0 0] 72)) 72 w.heap.size [.slice none 0 0] := (Arr.new' w _ _ _ rfl).alloc _
  have HB := Lib.hid h2
  have HA1 := Lib.hid hA1
  have HA0 := Lib.hid hA0
  clear h2 hA1 hA0
  go_enter Tryz.func73, Tryz.ntmps73
  go_wp2_with ((with_reducible refine loadS (x := .tmp 1) (o := ⟨some 8, _, _, _, _, _⟩) HA0.out ?_ ?_); exact ⟨rfl, rfl, rfl⟩)
  refine (sclone_nil _).mono ?_
  rintro e w1 ⟨rfl, b1⟩
  have HB1 := Lib.hid (HB.out.trans (b1.mono HB.out.size))
  have HA2 := Lib.hid (HA1.out.later b1)
  clear b1 HB HA1 HA0
  have hA3 : Arr (w1.alloc (.cells #[.slice none 0 0] 72)) 72 w1.heap.size [.slice none 0 0] := Arr.new' w1 _ _ _ rfl
  have hb3 : Below w1.heap.size w1 (w1.alloc (.cells #[.slice none 0 0] 72)) := (Below.refl _ _).alloc (Nat.le_refl _) _
  have hc3 := hA3.cell 0
  simp only [List.getElem?_cons_zero] at hc3
  have HA3 := Lib.hid hA3
  have HB3 := Lib.hid (HB1.out.trans (hb3.mono HB1.out.size))
  have HA4 := Lib.hid (HA2.out.later hb3)
  clear hb3 hA3 HB1 HA2
  go_wp2_with ((with_reducible refine storeS (x := .tmp 3) (y := .tmp 9) (o := ⟨none, .store _ _ _, _, _, _, _⟩) HA3.out ?_ ?_); exact ⟨rfl, rfl, rfl, rfl⟩)
  refine (sorts_nil _ _).mono ?_
  rintro e w2 ⟨rfl, h2⟩
  rw [h2] at HA3 HB3 HA4 hc3
  clear h2
  go_wp2_with fail
  go_loopw [16] (fun iv wr => iv = .int .i64 0 ∧ wr = w2) (fun _ _ => 0)
  case atStart => exact ⟨rfl, rfl⟩
  case round =>
    obtain ⟨rfl, rfl⟩ := hrel
    go_wp2_with (first
      | ((with_reducible refine loadS (x := .tmp 3) (o := ⟨some 49, _, _, _, _, _⟩) HA3.out ?_ ?_); exact ⟨rfl, rfl, rfl⟩)
      | ((with_reducible refine storeS (x := .tmp 2) (y := .tmp 49) (o := ⟨none, .store _ _ _, _, _, _, _⟩) HA4.out ?_ ?_); exact ⟨rfl, rfl, rfl, rfl⟩))
    refine bodyPost_ret (results_cell_row rfl _ _ (w.heap.size + 1) 72 #[.slice none 0 0] (0, 0) _ rfl HA4.out Tryz.underlying72 rfl (by kernel_rfl)) rfl ⟨rfl, HB3.out⟩
end Go.Proofs.YtlngicddojoogaaGreatDoor
/-
  The store that New makes: what it holds is handed out.
-/
namespace Go.Proofs.YtlngicddojoogaaGreatDoor
open Go.ChangeShapes Go.WideShapes Go.ChangeAt Go.RowKit
set_option linter.unusedVariables false

def cc0 : List Value := [.bool false, .slice none 0 0, .slice none 0 0, .int .u64 0]
abbrev cV : Value := .agg #[.bool false, .slice none 0 0, .slice none 0 0, .int .u64 0]
theorem setRow_same {w : World} {t : TypeId} {g : Nat} {cs : List Value} (hA : Arr w t g cs) : w.setRow g cs.toArray = w := by
  have hg : g < w.heap.size := hA.lt
  cases w
  simp only [World.setRow] at *
  congr 1
  apply Array.ext_getElem?
  intro i
  rw [Array.getElem?_modify]
  split
  · next h => subst h; rw [show _ = _ from hA]; rfl
  · rfl
section
variable {ops : Array Oper} {rest : List Oper} {o : Oper} {a : Act} {Q : Exit → Act → World → Prop} {w : World} {g : Nat} {x y : Operand}
theorem loadC {t : TypeId} (hA : Arr w t g cc0) (hs : o.guard = none ∧ o.op = .load 83 x ∧ a.eval x = .pointer (some ⟨g, 0, none⟩))
    (hk : wpList Tryz.prog ops Q rest (a.put o.dst cV) w) : wpList Tryz.prog ops Q (o :: rest) a w :=
  load_arr hs.1 _ x hs.2.1 hA hs.2.2 Tryz.underlying83 rfl (by kernel_rfl) hk
theorem storeC {t : TypeId} (hA : Arr w t g cc0) (hs : o.guard = none ∧ o.op = .store 83 x y ∧ a.eval x = .pointer (some ⟨g, 0, none⟩) ∧ a.eval y = cV)
    (hk : wpList Tryz.prog ops Q rest (a.put o.dst undef) w) : wpList Tryz.prog ops Q (o :: rest) a w :=
  store_arr hs.1 _ x y hs.2.1 hA (cs := cc0) hs.2.2.1 hs.2.2.2 (by kernel_rfl) rfl (by simp [cc0, Value.oneCell']) (by rw [setRow_same hA]; exact hk)
/-- The schema in the middle of a content. -/
theorem loadM {t : TypeId} (hA : Arr w t g cc0) (hs : o.guard = none ∧ o.op = .load 72 x ∧ a.eval x = .pointer (some ⟨g, 1, none⟩))
    (hk : wpList Tryz.prog ops Q rest (a.put o.dst (.agg #[.slice none 0 0])) w) : wpList Tryz.prog ops Q (o :: rest) a w :=
  wpList_load_mid hs.1 _ x hs.2.1 g 1 hs.2.2 [.slice none 0 0] _ (fun j u hu => by
    rw [hA.cell (1 + j)]
    have hj : j = 0 := by have := (List.getElem?_eq_some_iff.1 hu).1; simp at this; omega
    subst hj
    simpa [cc0] using hu) Tryz.underlying72 rfl (by kernel_rfl) hk
end
theorem cc0_cells {w : World} {t : TypeId} {g : Nat} (hA : Arr w t g cc0) : w.cell? ⟨g, 0, none⟩ = some (.bool false) ∧ w.cell? ⟨g, 2, none⟩ = some (.slice none 0 0) ∧ w.cell? ⟨g, 3, none⟩ = some (.int .u64 (0 : Nat)) := ⟨hA.cell 0, hA.cell 2, hA.cell 3⟩
set_option maxRecDepth 100000 in
theorem snew_any (w : World) : Calls Tryz.prog 18 #[] w fun e w' => e = .returned (.pointer (some ⟨w.heap.size, 0, none⟩)) ∧ Arr w' 85 w.heap.size cc0 ∧ Below w.heap.size w w' := by
  have hA : Arr (w.alloc (.cells #[.bool false, .slice none 0 0, .slice none 0 0, .int .u64 0] 85)) 85 w.heap.size cc0 := Arr.new' w _ _ _ rfl
  have hb : Below w.heap.size w (w.alloc (.cells #[.bool false, .slice none 0 0, .slice none 0 0, .int .u64 0] 85)) := (Below.refl _ _).alloc (Nat.le_refl _) _
  have HA := Lib.hid hA
  have HB := Lib.hid hb
  clear hA hb
  go_enter Tryz.func18, Tryz.ntmps18
  go_wp2_with fail
  go_ret
  exact ⟨rfl, HA.out, HB.out⟩
set_option maxRecDepth 100000 in
theorem slook_any {w : World} {t : TypeId} {g : Nat} (hA : Arr w t g cc0) : Calls Tryz.prog 55 #[.pointer (some ⟨g, 0, none⟩)] w fun e w' => e = .returned cV ∧ Below w.heap.size w w' := by
  have hA1 : Arr (w.alloc (.cells #[.bool false, .slice none 0 0, .slice none 0 0, .int .u64 0] 83)) 83 w.heap.size cc0 := Arr.new' w _ _ _ rfl
  have hb : Below w.heap.size w (w.alloc (.cells #[.bool false, .slice none 0 0, .slice none 0 0, .int .u64 0] 83)) := (Below.refl _ _).alloc (Nat.le_refl _) _
  have HA := Lib.hid (hA.later hb)
  have HA1 := Lib.hid hA1
  have HB := Lib.hid hb
  clear hA hA1 hb
  go_enter Tryz.func55, Tryz.ntmps55
  go_wp2_with (first
    | ((with_reducible refine loadC (x := .tmp 5) (o := ⟨some 6, _, _, _, _, _⟩) HA.out ?_ ?_); exact ⟨rfl, rfl, rfl⟩)
    | ((with_reducible refine storeC (x := .tmp 2) (y := .tmp 6) (o := ⟨none, .store _ _ _, _, _, _, _⟩) HA1.out ?_ ?_); exact ⟨rfl, rfl, rfl, rfl⟩))
  refine bodyPost_ret (results_cell_row rfl _ _ w.heap.size 83 #[.bool false, .slice none 0 0, .slice none 0 0, .int .u64 0] (0, 0) _ rfl HA1.out Tryz.underlying83 rfl (by kernel_rfl)) rfl ⟨rfl, HB.out⟩
set_option maxRecDepth 100000 in
theorem scopyS_any {w : World} {t : TypeId} {g : Nat} (hA : Arr w t g cc0) : Calls Tryz.prog 57 #[.pointer (some ⟨g, 0, none⟩)] w fun e w' => e = .returned (.agg #[.slice none 0 0]) ∧ Below w.heap.size w w' := by
  have hA1 : Arr (w.alloc (.cells #[.slice none 0 0] 72)) 72 w.heap.size [.slice none 0 0] := Arr.new' w _ _ _ rfl
  have hb : Below w.heap.size w (w.alloc (.cells #[.slice none 0 0] 72)) := (Below.refl _ _).alloc (Nat.le_refl _) _
  have HA := Lib.hid (hA.later hb)
  have HA1 := Lib.hid hA1
  have HB := Lib.hid hb
  clear hA hA1 hb
  go_enter Tryz.func57, Tryz.ntmps57
  go_wp2_with ((with_reducible refine loadM (x := .tmp 6) (o := ⟨some 7, _, _, _, _, _⟩) HA.out ?_ ?_); exact ⟨rfl, rfl, rfl⟩)
  refine (canon_nil _).mono ?_
  rintro e w1 ⟨rfl, b1⟩
  have HB1 := Lib.hid (HB.out.trans (b1.mono HB.out.size))
  have HA2 := Lib.hid (HA1.out.later b1)
  clear b1 HB HA HA1
  go_wp2_with ((with_reducible refine storeS (x := .tmp 2) (y := .tmp 8) (o := ⟨none, .store _ _ _, _, _, _, _⟩) HA2.out ?_ ?_); exact ⟨rfl, rfl, rfl, rfl⟩)
  refine bodyPost_ret (results_cell_row rfl _ _ w.heap.size 72 #[.slice none 0 0] (0, 0) _ rfl HA2.out Tryz.underlying72 rfl (by kernel_rfl)) rfl ⟨rfl, HB1.out⟩
set_option maxRecDepth 100000 in
theorem scopyT_any {w : World} {t : TypeId} {g : Nat} (hA : Arr w t g cc0) : Calls Tryz.prog 59 #[.pointer (some ⟨g, 0, none⟩)] w fun e w' => e = .returned (.slice none 0 0) ∧ w = w' := by
  have hq := (cc0_cells hA).2.1
  clear hA
  go_enter Tryz.func59, Tryz.ntmps59
  go_wp2_with fail
  refine (cloneT_nil _).mono ?_
  rintro e w1 ⟨rfl, rfl⟩
  go_wp2_with fail
  go_ret
  exact ⟨rfl, rfl⟩
set_option maxRecDepth 100000 in
theorem unlessC_any {w : World} {t : TypeId} {g : Nat} (hA : Arr w t g cc0) : Calls Tryz.prog 54 #[.pointer (some ⟨g, 0, none⟩), .func (.func 55) #[.pointer (some ⟨g, 0, none⟩)] #[]] w fun e w' => e = .returned cV ∧ Below w.heap.size w w' := by
  have hA1 : Arr (w.alloc (.cells #[.bool false, .slice none 0 0, .slice none 0 0, .int .u64 0] 83)) 83 w.heap.size cc0 := Arr.new' w _ _ _ rfl
  have hb : Below w.heap.size w (w.alloc (.cells #[.bool false, .slice none 0 0, .slice none 0 0, .int .u64 0] 83)) := (Below.refl _ _).alloc (Nat.le_refl _) _
  have HA := Lib.hid (hA.later hb)
  have HA1 := Lib.hid hA1
  have HB := Lib.hid hb
  clear hA hA1 hb
  go_enter Tryz.func54, Tryz.ntmps54
  go_wp2_with fail
  refine (slook_any HA.out).mono ?_
  rintro e w1 ⟨rfl, b1⟩
  have HB1 := Lib.hid (HB.out.trans (b1.mono HB.out.size))
  have HA2 := Lib.hid (HA1.out.later b1)
  clear b1 HB HA HA1
  go_wp2_with (first
    | ((with_reducible refine loadC (x := .tmp 4) (o := ⟨some 9, _, _, _, _, _⟩) HA2.out ?_ ?_); exact ⟨rfl, rfl, rfl⟩)
    | ((with_reducible refine storeC (x := .tmp 4) (y := .tmp 8) (o := ⟨none, .store _ _ _, _, _, _, _⟩) HA2.out ?_ ?_); exact ⟨rfl, rfl, rfl, rfl⟩)
    | ((with_reducible refine storeC (x := .tmp 4) (y := .tmp 9) (o := ⟨none, .store _ _ _, _, _, _, _⟩) HA2.out ?_ ?_); exact ⟨rfl, rfl, rfl, rfl⟩))
  refine bodyPost_ret (results_cell_row rfl _ _ w.heap.size 83 #[.bool false, .slice none 0 0, .slice none 0 0, .int .u64 0] (0, 0) _ rfl HA2.out Tryz.underlying83 rfl (by kernel_rfl)) rfl ⟨rfl, HB1.out⟩
set_option maxRecDepth 100000 in
theorem unlessS_any {w : World} {t : TypeId} {g : Nat} (hA : Arr w t g cc0) : Calls Tryz.prog 56 #[.pointer (some ⟨g, 0, none⟩), .func (.func 57) #[.pointer (some ⟨g, 0, none⟩)] #[]] w fun e w' => e = .returned (.agg #[.slice none 0 0]) ∧ Below w.heap.size w w' := by
  have hA1 : Arr (w.alloc (.cells #[.slice none 0 0] 72)) 72 w.heap.size [.slice none 0 0] := Arr.new' w _ _ _ rfl
  have hb : Below w.heap.size w (w.alloc (.cells #[.slice none 0 0] 72)) := (Below.refl _ _).alloc (Nat.le_refl _) _
  have HA := Lib.hid (hA.later hb)
  have HA1 := Lib.hid hA1
  have HB := Lib.hid hb
  clear hA hA1 hb
  go_enter Tryz.func56, Tryz.ntmps56
  go_wp2_with fail
  refine (scopyS_any HA.out).mono ?_
  rintro e w1 ⟨rfl, b1⟩
  have HB1 := Lib.hid (HB.out.trans (b1.mono HB.out.size))
  have HA2 := Lib.hid (HA1.out.later b1)
  clear b1 HB HA HA1
  go_wp2_with (first
    | ((with_reducible refine loadS (x := .tmp 4) (o := ⟨some 9, _, _, _, _, _⟩) HA2.out ?_ ?_); exact ⟨rfl, rfl, rfl⟩)
    | ((with_reducible refine storeS (x := .tmp 4) (y := .tmp 8) (o := ⟨none, .store _ _ _, _, _, _, _⟩) HA2.out ?_ ?_); exact ⟨rfl, rfl, rfl, rfl⟩)
    | ((with_reducible refine storeS (x := .tmp 4) (y := .tmp 9) (o := ⟨none, .store _ _ _, _, _, _, _⟩) HA2.out ?_ ?_); exact ⟨rfl, rfl, rfl, rfl⟩))
  refine bodyPost_ret (results_cell_row rfl _ _ w.heap.size 72 #[.slice none 0 0] (0, 0) _ rfl HA2.out Tryz.underlying72 rfl (by kernel_rfl)) rfl ⟨rfl, HB1.out⟩
set_option maxRecDepth 100000 in
theorem unlessT_any {w : World} {t : TypeId} {g : Nat} (hA : Arr w t g cc0) : Calls Tryz.prog 58 #[.pointer (some ⟨g, 0, none⟩), .func (.func 59) #[.pointer (some ⟨g, 0, none⟩)] #[]] w fun e w' => e = .returned (.slice none 0 0) ∧ w = w' := by
  have HA := Lib.hid hA
  clear hA
  go_enter Tryz.func58, Tryz.ntmps58
  go_wp2_with fail
  refine (scopyT_any HA.out).mono ?_
  rintro e w1 ⟨rfl, rfl⟩
  go_wp2_with fail
  go_ret
  exact ⟨rfl, rfl⟩
end Go.Proofs.YtlngicddojoogaaGreatDoor
/-
  The state and the export of the store that New makes.
-/
namespace Go.Proofs.YtlngicddojoogaaGreatDoor
open Go.ChangeShapes Go.WideShapes Go.ChangeAt Go.RowKit
set_option linter.unusedVariables false

theorem stepw_storeS {ops : Array Oper} {o : Oper} {a : Act} {w : World} {K : Act → World → Prop} {Q : Exit → Act → World → Prop} {E : Prop} {t : TypeId} {g : Nat} (hw : Region.wanted o (yielded ops a.tmps) = true) (x y : Operand) (ho : o.op = .store 72 x y) (hx : a.eval x = .pointer (some ⟨g, 0, none⟩)) (hy : a.eval y = .agg #[.slice none 0 0]) (hA : Arr w t g [.slice none 0 0])
    (hK : K (a.put o.dst undef) w) : if Region.wanted o (yielded ops a.tmps) = true then Oper.wp Tryz.prog o a w K Q else E := by
  rw [if_pos hw]
  exact wp_store_row _ x y ho g #[.slice none 0 0] hx hy t #[.slice none 0 0] hA (by kernel_rfl) rfl (by simp [Value.oneCell']) (by rw [show (#[Value.slice none 0 0] : Array Value) = [Value.slice none 0 0].toArray from rfl, setRow_same hA]; exact hK)
/-- What the region keeps. -/
def SS (w : World) (t : TypeId) (g m b : Nat) (W : World) : Prop := Arr W t g cc0 ∧ Arr W 83 m cc0 ∧ Arr W 72 b [.slice none 0 0] ∧ Below w.heap.size w W
theorem SS.later {w W W' : World} {t : TypeId} {g m b : Nat} (h : SS w t g m b W) (hb : Below W.heap.size W W') : SS w t g m b W' := ⟨h.1.later hb, h.2.1.later hb, h.2.2.1.later hb, h.2.2.2.trans (hb.mono h.2.2.2.size)⟩
theorem res4 {fn : Func} {p q1 q2 q3 : Tmp} {tmps : Array Value} {w : World} {g : Nat} {t : TypeId} (h : fn.results = #[.cell p 72, .tmp q1, .tmp q2, .tmp q3]) (hA : Arr w t g [.slice none 0 0]) (hp : tmps.getD p undef = .pointer (some ⟨g, 0, none⟩)) :
    (results fn tmps).run Tryz.prog w = .ok (.tuple #[.agg #[.slice none 0 0], tmps.getD q1 undef, tmps.getD q2 undef, tmps.getD q3 undef]) w := by
  have hp' : tmps[p]?.getD undef = .pointer (some ⟨g, 0, none⟩) := by simpa using hp
  have hl := run_loadVar_row (P := Tryz.prog) w g t 72 #[.slice none 0 0] (0, 0) _ hA Tryz.underlying72 rfl (by kernel_rfl)
  simp [results, h, hp', asAddr, hl]
set_option maxRecDepth 100000 in
theorem sstate_any {w : World} {t : TypeId} {g : Nat} (hA : Arr w t g cc0) : Calls Tryz.prog 35 #[.pointer (some ⟨g, 0, none⟩)] w fun e w' => e = .returned (.tuple #[.agg #[.slice none 0 0], .slice none 0 0, .int .u64 (0 : Nat), .bool false]) ∧ Below w.heap.size w w' := by
  have hA1 : Arr (w.alloc (.cells #[.slice none 0 0] 72)) 72 w.heap.size [.slice none 0 0] := Arr.new' w _ _ _ rfl
  have hb : Below w.heap.size w (w.alloc (.cells #[.slice none 0 0] 72)) := (Below.refl _ _).alloc (Nat.le_refl _) _
  have hmf : ∀ (fn : Fn) (first cap : Array Value) (w : World), (Instr.makeFunc fn first cap).run Tryz.prog w = .ok (.func fn first cap) w := fun _ _ _ _ => rfl
  have HA := Lib.hid (hA.later hb)
  have HA1 := Lib.hid hA1
  have HB := Lib.hid hb
  clear hA hA1 hb
  go_enter Tryz.func35, Tryz.ntmps35
  go_wp2_with fail
  refine (unlessC_any HA.out).mono ?_
  rintro e w1 ⟨rfl, b1⟩
  have hb3 : Below w1.heap.size w1 (w1.alloc (.cells #[.bool false, .slice none 0 0, .slice none 0 0, .int .u64 0] 83)) := (Below.refl _ _).alloc (Nat.le_refl _) _
  have HC3 : Hid (Arr (w1.alloc (.cells #[.bool false, .slice none 0 0, .slice none 0 0, .int .u64 0] 83)) 83 w1.heap.size cc0) := Arr.new' w1 _ _ _ rfl
  have HS3 : Hid (SS w t g w1.heap.size w.heap.size (w1.alloc (.cells #[.bool false, .slice none 0 0, .slice none 0 0, .int .u64 0] 83))) := ⟨(HA.out.later b1).later hb3, HC3.out, (HA1.out.later b1).later hb3, (HB.out.trans (b1.mono HB.out.size)).trans (hb3.mono (HB.out.trans (b1.mono HB.out.size)).size)⟩
  clear b1 hb3 HA HA1 HB
  go_upto_region 2 with ((with_reducible refine storeC (x := .tmp 6) (y := .tmp 10) (o := ⟨none, .store _ _ _, _, _, _, _⟩) HC3.out ?_ ?_); exact ⟨rfl, rfl, rfl, rfl⟩)
  obtain ⟨w2, hw2⟩ : ∃ w2, w2 = w1.alloc (.cells #[.bool false, .slice none 0 0, .slice none 0 0, .int .u64 0] 83) := ⟨_, rfl⟩
  rw [← hw2] at HS3 ⊢
  clear hw2 HC3
  obtain ⟨m, hm⟩ : ∃ m, m = w1.heap.size := ⟨_, rfl⟩
  rw [← hm] at HS3 ⊢
  clear hm
  obtain ⟨b, hbb⟩ : ∃ b, b = w.heap.size := ⟨_, rfl⟩
  rw [show SS w t g m w.heap.size w2 = SS w t g m b w2 by rw [hbb]] at HS3
  rw [← hbb]
  clear hbb
  refine wp_region_noPanic ?_
  refine wp_region_held_drew (S := SS w t g m b) (by kernel_rfl) (HS3.out.later (Below.refl _ _).drew) (fun hHeld => ?_)
  try simp only [Act.put]
  generalize w2.drew = w3 at hHeld ⊢
  clear HS3
  refine wpAnyH_take (i := 0) (oi := ⟨some 11, _, _, _, _, _⟩) (v := .pointer (some ⟨g, 0, none⟩)) rfl (by kernel_rfl) (by kernel_rfl) (by kernel_rfl) (fun _ _ _ h => h) (.inl ⟨by rfl, fun w' hSw => ?_⟩) hHeld ?_
  focus (skip; clear hHeld; go_simp)
  try simp only [Act.put, List.setIfInBounds_toArray, List.set_cons_zero, List.set_cons_succ]
  refine wpAnyH_take (i := 1) (oi := ⟨some 12, _, _, _, _, _⟩) (v := .pointer (some ⟨g, 0, none⟩)) rfl (by kernel_rfl) (by kernel_rfl) (by kernel_rfl) (fun _ _ _ h => h) (.inl ⟨by rfl, fun w' hSw => ?_⟩) hHeld ?_
  focus (skip; clear hHeld; go_simp)
  try simp only [Act.put, List.setIfInBounds_toArray, List.set_cons_zero, List.set_cons_succ]
  refine wpAnyH_take (i := 2) (oi := ⟨some 13, _, _, _, _, _⟩) (v := .func (.func 57) #[.pointer (some ⟨g, 0, none⟩)] #[]) rfl (by kernel_rfl) (by kernel_rfl) (by kernel_rfl) (fun _ _ _ h => h) (.inl ⟨by rfl, fun w' hSw => ?_⟩) hHeld ?_
  focus (skip; clear hHeld; go_simp)
  try simp only [Act.put, List.setIfInBounds_toArray, List.set_cons_zero, List.set_cons_succ]
  refine wpAnyH_take (i := 4) (oi := ⟨some 15, _, _, _, _, _⟩) (v := .pointer (some ⟨g, 0, none⟩)) rfl (by kernel_rfl) (by kernel_rfl) (by kernel_rfl) (fun _ _ _ h => h) (.inl ⟨by rfl, fun w' hSw => ?_⟩) hHeld ?_
  focus (skip; clear hHeld; go_simp)
  try simp only [Act.put, List.setIfInBounds_toArray, List.set_cons_zero, List.set_cons_succ]
  refine wpAnyH_take (i := 5) (oi := ⟨some 16, _, _, _, _, _⟩) (v := .pointer (some ⟨g, 0, none⟩)) rfl (by kernel_rfl) (by kernel_rfl) (by kernel_rfl) (fun _ _ _ h => h) (.inl ⟨by rfl, fun w' hSw => ?_⟩) hHeld ?_
  focus (skip; clear hHeld; go_simp)
  try simp only [Act.put, List.setIfInBounds_toArray, List.set_cons_zero, List.set_cons_succ]
  refine wpAnyH_take (i := 6) (oi := ⟨some 17, _, _, _, _, _⟩) (v := .func (.func 59) #[.pointer (some ⟨g, 0, none⟩)] #[]) rfl (by kernel_rfl) (by kernel_rfl) (by kernel_rfl) (fun _ _ _ h => h) (.inl ⟨by rfl, fun w' hSw => ?_⟩) hHeld ?_
  focus (skip; clear hHeld; go_simp)
  try simp only [Act.put, List.setIfInBounds_toArray, List.set_cons_zero, List.set_cons_succ]
  refine wpAnyH_take (i := 8) (oi := ⟨some 19, _, _, _, _, _⟩) (v := .pointer (some ⟨m, 3, none⟩)) rfl (by kernel_rfl) (by kernel_rfl) (by kernel_rfl) (fun _ _ _ h => h) (.inl ⟨by rfl, fun w' hSw => ?_⟩) hHeld ?_
  focus (skip; clear hHeld; go_simp)
  try simp only [Act.put, List.setIfInBounds_toArray, List.set_cons_zero, List.set_cons_succ]
  refine wpAnyH_take (i := 9) (oi := ⟨some 20, _, _, _, _, _⟩) (v := .int .u64 (0 : Nat)) rfl (by kernel_rfl) (by kernel_rfl) (by kernel_rfl) (fun _ _ _ h => h) (.inl ⟨by rfl, fun w' hSw => ?_⟩) hHeld ?_
  focus ((obtain ⟨q0, q2, q3⟩ := cc0_cells hSw.2.1); clear hHeld; go_simp)
  try simp only [Act.put, List.setIfInBounds_toArray, List.set_cons_zero, List.set_cons_succ]
  refine wpAnyH_take (i := 10) (oi := ⟨some 21, _, _, _, _, _⟩) (v := .pointer (some ⟨m, 0, none⟩)) rfl (by kernel_rfl) (by kernel_rfl) (by kernel_rfl) (fun _ _ _ h => h) (.inl ⟨by rfl, fun w' hSw => ?_⟩) hHeld ?_
  focus (skip; clear hHeld; go_simp)
  try simp only [Act.put, List.setIfInBounds_toArray, List.set_cons_zero, List.set_cons_succ]
  refine wpAnyH_take (i := 11) (oi := ⟨some 22, _, _, _, _, _⟩) (v := .bool false) rfl (by kernel_rfl) (by kernel_rfl) (by kernel_rfl) (fun _ _ _ h => h) (.inl ⟨by rfl, fun w' hSw => ?_⟩) hHeld ?_
  focus ((obtain ⟨q0, q2, q3⟩ := cc0_cells hSw.2.1); clear hHeld; go_simp)
  try simp only [Act.put, List.setIfInBounds_toArray, List.set_cons_zero, List.set_cons_succ]
  refine wpAnyH_ready (rs := [3]) (by kernel_rfl) (by simp) ?_
  refine AllReadyH.cons (o := ⟨some 14, _, _, _, _, _⟩) rfl (fun K' hK' => ?_) AllReadyH.nil
  refine stepw_call (R := fun v' w'' => v' = .agg #[.slice none 0 0] ∧ Below w3.heap.size w3 w'') (by rfl) ?_ ((unlessS_any hHeld.1).mono fun e w'' ⟨h1, h2⟩ => ⟨_, h1, rfl, h2⟩) ?_
  focus go_simp
  rintro v w4 ⟨rfl, b4⟩
  have hkn := hHeld.later b4
  clear b4
  refine hK'.out _ _ hkn (fun _ => ?_)
  clear hK' K' hHeld
  have hHeld := hkn
  clear hkn
  try simp only [Act.put, List.setIfInBounds_toArray, List.set_cons_zero, List.set_cons_succ]
  refine wpAnyH_ready (rs := [7]) (by kernel_rfl) (by simp) ?_
  refine AllReadyH.cons (o := ⟨some 18, _, _, _, _, _⟩) rfl (fun K' hK' => ?_) AllReadyH.nil
  refine stepw_call (R := fun v' w'' => v' = .slice none 0 0 ∧ w4 = w'') (by rfl) ?_ ((unlessT_any hHeld.1).mono fun e w'' ⟨h1, h2⟩ => ⟨_, h1, rfl, h2⟩) ?_
  focus go_simp
  rintro v w5 ⟨rfl, rfl⟩
  have hkn := hHeld
  refine hK'.out _ _ hkn (fun _ => ?_)
  clear hK' K' hHeld
  have hHeld := hkn
  clear hkn
  try simp only [Act.put, List.setIfInBounds_toArray, List.set_cons_zero, List.set_cons_succ]
  refine wpAnyH_ready (rs := [12]) (by kernel_rfl) (by simp) ?_
  refine AllReadyH.cons (o := ⟨none, _, _, _, _, _⟩) rfl (fun K' hK' => ?_) AllReadyH.nil
  refine stepw_storeS (by rfl) (.tmp 2) (.tmp 14) rfl rfl rfl hHeld.2.2.1 ?_
  have hkn := hHeld
  refine hK'.out _ _ hkn (fun _ => ?_)
  clear hK' K' hHeld
  have hHeld := hkn
  clear hkn
  try simp only [Act.put]
  refine wpAnyH_take (i := 13) (oi := ⟨some 3, _, _, _, _, _⟩) (v := .slice none 0 0) rfl (by kernel_rfl) (by kernel_rfl) (by kernel_rfl) (fun _ _ _ h => h) (.inl ⟨by rfl, fun w' hSw => ?_⟩) hHeld ?_
  focus (skip; clear hHeld; go_simp)
  try simp only [Act.put, List.setIfInBounds_toArray, List.set_cons_zero, List.set_cons_succ]
  refine wpAnyH_take (i := 14) (oi := ⟨some 4, _, _, _, _, _⟩) (v := .int .u64 (0 : Nat)) rfl (by kernel_rfl) (by kernel_rfl) (by kernel_rfl) (fun _ _ _ h => h) (.inl ⟨by rfl, fun w' hSw => ?_⟩) hHeld ?_
  focus (skip; clear hHeld; go_simp)
  try simp only [Act.put, List.setIfInBounds_toArray, List.set_cons_zero, List.set_cons_succ]
  refine wpAnyH_take (i := 15) (oi := ⟨some 5, _, _, _, _, _⟩) (v := .bool false) rfl (by kernel_rfl) (by kernel_rfl) (by kernel_rfl) (fun _ _ _ h => h) (.inl ⟨by rfl, fun w' hSw => ?_⟩) hHeld ?_
  focus (skip; clear hHeld; go_simp)
  try simp only [Act.put, List.setIfInBounds_toArray, List.set_cons_zero, List.set_cons_succ]
  refine wpAnyH_done (by kernel_rfl) ?_ _
  refine NoPanic.normal ?_
  go_wp2_with fail
  refine bodyPost_ret (res4 rfl hHeld.2.2.1 rfl) rfl ⟨rfl, hHeld.2.2.2⟩
set_option maxRecDepth 100000 in
theorem sexport_any {w : World} {t : TypeId} {g : Nat} (hA : Arr w t g cc0) : Calls Tryz.prog 17 #[.pointer (some ⟨g, 0, none⟩)] w fun e w' => e = .returned (.tuple #[.slice none 0 0, .iface 50 (.int .i64 14)]) ∧ Below w.heap.size w w' := by
  have HA := Lib.hid hA
  clear hA
  go_enter Tryz.func17, Tryz.ntmps17
  go_wp2_with fail
  refine (sstate_any HA.out).mono ?_
  rintro e w1 ⟨rfl, b1⟩
  have hb2 : Below w1.heap.size w1 (w1.alloc (.cells #[.slice none 0 0] 72)) := (Below.refl _ _).alloc (Nat.le_refl _) _
  have HA2 : Hid (Arr (w1.alloc (.cells #[.slice none 0 0] 72)) 72 w1.heap.size [.slice none 0 0]) := Arr.new' w1 _ _ _ rfl
  have HB2 := Lib.hid (b1.trans (hb2.mono b1.size))
  clear b1 hb2 HA
  go_wp2_with ((with_reducible refine storeS (x := .tmp 4) (y := .tmp 21) (o := ⟨none, .store _ _ _, _, _, _, _⟩) HA2.out ?_ ?_); exact ⟨rfl, rfl, rfl, rfl⟩)
  go_ret2
  exact ⟨rfl, HB2.out⟩
set_option maxRecDepth 100000 in
theorem spay_nil (w : World) : Calls Tryz.prog 40 #[.slice none 0 0] w fun e w' => e = .returned (.slice none 0 0) ∧ w = w' := by
  go_enter Tryz.func40, Tryz.ntmps40
  go_wp2_with fail
  go_loopw [2, 9] (fun rv iv wr => rv = .slice none 0 0 ∧ iv = .int .i64 0 ∧ wr = w) (fun _ _ _ => 0)
  case atStart => exact ⟨rfl, rfl, rfl⟩
  case round =>
    obtain ⟨rfl, rfl, rfl⟩ := hrel
    go_wp2_with fail
    go_ret
    exact ⟨rfl, rfl⟩
set_option maxRecDepth 100000 in
theorem ssize_nil (w : World) : Calls Tryz.prog 19 #[.slice none 0 0] w fun e w' => e = .returned (.int .i64 0) ∧ w = w' := by
  go_enter Tryz.func19, Tryz.ntmps19
  go_wp2_with fail
  refine (spay_nil _).mono ?_
  rintro e w1 ⟨rfl, rfl⟩
  go_wp2_with fail
  go_loopw [3, 9] (fun sv iv wr => sv = .int .i64 0 ∧ iv = .int .i64 0 ∧ wr = w) (fun _ _ _ => 0)
  case atStart => exact ⟨rfl, rfl, rfl⟩
  case round =>
    obtain ⟨rfl, rfl, rfl⟩ := hrel
    go_wp2_with fail
    go_ret
    exact ⟨rfl, rfl⟩
end Go.Proofs.YtlngicddojoogaaGreatDoor
/-
  vestryref25.ParseHeader.
-/
namespace Go.Proofs.YtlngicddojoogaaGreatDoor
open Go.ChangeShapes Go.WideShapes Go.ChangeAt Go.RowKit
open errAs (ErrT)
set_option linter.unusedVariables false

/-- A slice's first k bytes. -/
theorem rd_take {B : Nat} {w : World} {b off n c : Nat} {l : List UInt8} (h : Rd B w (.slice (some ⟨b, off, none⟩) n c) l) {k : Nat} (hk : k ≤ n) : Rd B w (.slice (some ⟨b, off, none⟩) k c) (l.take k) := by
  rcases h with ⟨oa, hv, rfl⟩ | ⟨b', off', cap', hv, h1, h2, h3, hc⟩
  · simp only [Value.slice.injEq] at hv
    obtain ⟨_, rfl, rfl⟩ := hv
    obtain rfl : k = 0 := by omega
    exact .inl ⟨_, rfl, rfl⟩
  · simp only [Value.slice.injEq, Option.some.injEq, Addr.mk.injEq] at hv
    obtain ⟨⟨rfl, rfl, _⟩, rfl, rfl⟩ := hv
    have hl : (l.take k).length = k := by rw [List.length_take]; omega
    refine .inr ⟨b, off, c, by rw [hl], by rw [hl]; omega, h2, h3, fun i hi => ?_⟩
    rw [hl] at hi
    rw [hc i (by omega)]
    simp [List.getD_eq_getElem?_getD, hi]
set_option maxRecDepth 100000 in
set_option maxHeartbeats 4000000 in
theorem rsparse_any {B : Nat} {w : World} {vb : Value} {l : List UInt8} (hr : Rd B w vb l) (hB : B ≤ w.heap.size) (hl : l.length ≤ 1000000) :
    Calls Tryz.prog 12 #[vb] w fun e w' => e = .returned (hR (parseH l)) ∧ Below w.heap.size w w' := by
  have HB0 : Hid (∀ z : Array Value, Below w.heap.size w (w.alloc (.cells z 25))) := fun z => (Below.refl _ _).alloc (Nat.le_refl _) _
  have HL := Lib.hid hl
  by_cases hl4 : l.length < 4
  · have HPZ : Hid (parseH l = badH 6 0) := parseH_sign (fun k => by have := congrArg List.length k; rw [List.length_take] at this; simp [vst] at this; omega)
    have h4 : (l.length : Int) < 4 := by omega
    obtain ⟨ov, cv, rfl⟩ := rd_form hr
    obtain ⟨n, hn⟩ : ∃ n, n = l.length := ⟨_, rfl⟩
    rw [← hn] at h4 ⊢
    clear hl4 hr hl hn
    go_enter Tryz.func12, Tryz.ntmps12
    go_wp2_with ((with_reducible refine atH2 w.heap.size (x := .tmp 2) (y := .tmp 19) (r := 0) (n := 0) (d := y32) (o := ⟨none, .store _ _ _, _, _, _, _⟩) y32_length ?_ ?_); exact ⟨rfl, rfl, rfl, rfl, rfl, rfl⟩)
    refine bodyPost_ret (resH22 rfl (Arr.new' w _ _ _ rfl) y32_length rfl) rfl ⟨?_, HB0.out _⟩
    rw [HPZ.out]
    rfl
  · obtain ⟨bk, of, cp, hv, hcp, hml, hbk, hcell⟩ : ∃ bk of cp, vb = .slice (some ⟨bk, of, none⟩) l.length cp ∧ l.length ≤ cp ∧ cp ≤ maxLen ∧ bk < B ∧ ∀ i, i < l.length → w.cell? ⟨bk, of + i, none⟩ = some (bv (l.getD i 0)) := by
      rcases hr with ⟨_, _, h⟩ | ⟨bk, of, cp, h0, h1, h2, h3, h4⟩
      · rw [h] at hl4; simp at hl4
      · exact ⟨bk, of, cp, h0, h1, h2, h3, h4⟩
    subst hv
    have HR := Lib.hid hr
    have hcv0 : ∀ o : Obj, (convert 27 9 (.slice (some ⟨bk, of, none⟩) 4 cp)).run Tryz.prog (w.alloc o) = .ok (.string (str (l.take 4))) (w.alloc o) := fun o =>
      conv_bytes (rd_take (hr.below ((Below.refl w.heap.size w).alloc (Nat.le_refl _) o) hB) (by omega))
    have h4 : ¬ (l.length : Int) < 4 := by omega
    have h4' : (4 : Int) ≤ l.length := by omega
    have hc4 : 4 ≤ cp := by omega
    obtain ⟨T, hT⟩ : ∃ T, T = l.take 4 := ⟨_, rfl⟩
    rw [← hT] at hcv0
    by_cases hx : T = vst
    · have hs : str T = ⟨#[86, 83, 84, 49]⟩ := (str_vst _).2 hx
      rw [hs] at hcv0
      rw [hT] at hx
      have HX := Lib.hid hx
      have HL4 : Hid (4 ≤ l.length) := by show _ ≤ _; omega
      clear hs hx hT
      have HNU : Hid (∀ z : Array Value, z.toList = hc 0 0 y32 → Calls Tryz.prog 30 #[.slice (some ⟨bk, of, none⟩) l.length cp, .int .i64 4] (w.alloc (.cells z 25)) fun e w1 => e = .returned (.tuple #[.int .u64 (num (l.drop 4)).1, .int .i64 ((4 + (num (l.drop 4)).2.1 : Nat) : Int), .int .i64 (num (l.drop 4)).2.2]) ∧ Arr w1 25 w.heap.size (hc 0 0 y32) ∧ Below w.heap.size w w1) := fun z hz => by
        refine (rnumber_at (hr.below (HB0.out z) hB) (by omega) 4 HL4.out).mono ?_
        rintro e w1 ⟨h1, rfl⟩
        exact ⟨h1, Arr.new' w _ z _ hz, HB0.out z⟩
      have HCP := Lib.hid (And.intro hcp hml)
      have HC := Lib.hid hcell
      obtain ⟨n, hn⟩ : ∃ n, n = l.length := ⟨_, rfl⟩
      rw [← hn] at h4 h4' HNU ⊢
      have HN := Lib.hid hn
      obtain ⟨⟨x, k, c⟩, hm⟩ : ∃ m, m = num (l.drop 4) := ⟨_, rfl⟩
      rw [← hm] at HNU
      have HM := Lib.hid hm
      clear hl4 hl hr hcell hcp hml hn hm
      go_enter Tryz.func12, Tryz.ntmps12
      go_wp2_with fail
      refine (HNU.out _ rfl).mono ?_
      rintro e w1 ⟨rfl, hA, hB1⟩
      have HA := Lib.hid hA
      have HB := Lib.hid hB1
      clear hA hB1 HNU hcv0 HB0
      by_cases hc0 : c = 0
      · subst hc0
        by_cases hlim : 9223372036854775808 ≤ x
        · have HPZ := Lib.hid (parseH_l1 HX.out HM.out rfl (by unfold limR; exact hlim))
          have hx1 : (9223372036854775808 : Int) ≤ x := by omega
          clear hlim
          go_wp2_with ((with_reducible refine storeH2 (x := .tmp 2) (y := .tmp 34) (r := 0) (n := 0) (d := y32) (o := ⟨none, .store _ _ _, _, _, _, _⟩) HA.out y32_length y32_length ?_ ?_); exact ⟨rfl, rfl, rfl, rfl⟩)
          refine bodyPost_ret (resH22 rfl (HA.out.row _) y32_length rfl) rfl ⟨?_, below_row HB.out (Nat.le_refl _) _⟩
          rw [HPZ.out]
          rfl
        · have HLM : Hid (¬ limR ≤ x) := by show ¬ _; unfold limR; exact hlim
          have hx1 : decide ((9223372036854775808 : Int) ≤ x) = false := decide_eq_false (by omega)
          have HAT0 := num_at (l := l.drop 4) (by rw [← HM.out])
          rw [← HM.out, List.length_drop] at HAT0
          obtain ⟨a, ha⟩ : ∃ a, a = 4 + k := ⟨_, rfl⟩
          rw [← ha]
          have HA1 := Lib.hid ha
          have HAL : Hid (a ≤ l.length) := by show _ ≤ _; have := HL4.out; simp at HAT0; omega
          clear ha HAT0 hlim
          have HNU := Lib.hid (rnumber_at (HR.out.below HB.out hB) (by have := HL.out; omega) a HAL.out)
          rw [← HN.out] at HNU
          obtain ⟨⟨y, k2, c2⟩, hm2⟩ : ∃ m, m = num (l.drop a) := ⟨_, rfl⟩
          rw [← hm2] at HNU
          have HM2 := Lib.hid hm2
          clear hm2
          go_wp2_with fail
          refine HNU.out.mono ?_
          rintro e w2 ⟨rfl, rfl⟩
          clear HNU hx1
          by_cases hc0 : c2 = 0
          · subst hc0
            by_cases hlim : 65536 < y
            · have HPZ := Lib.hid (parseH_l2 HX.out HM.out rfl HLM.out HA1.out HM2.out rfl (by unfold limC; exact hlim))
              have hx1 : (65536 : Int) < y := by omega
              clear hlim
              go_wp2_with ((with_reducible refine storeH2 (x := .tmp 2) (y := .tmp 51) (r := 0) (n := 0) (d := y32) (o := ⟨none, .store _ _ _, _, _, _, _⟩) HA.out y32_length y32_length ?_ ?_); exact ⟨rfl, rfl, rfl, rfl⟩)
              refine bodyPost_ret (resH22 rfl (HA.out.row _) y32_length rfl) rfl ⟨?_, below_row HB.out (Nat.le_refl _) _⟩
              rw [HPZ.out]
              rfl
            · have HLY : Hid (¬ limC < y) := by show ¬ _; unfold limC; exact hlim
              have hx1 : decide ((65536 : Int) < y) = false := decide_eq_false (by omega)
              have HAT0 := num_at (l := l.drop a) (by rw [← HM2.out])
              rw [← HM2.out, List.length_drop] at HAT0
              obtain ⟨a2, ha2⟩ : ∃ a2, a2 = a + k2 := ⟨_, rfl⟩
              rw [← ha2]
              have HA2 := Lib.hid ha2
              have HAL2 : Hid (a2 ≤ l.length) := by show _ ≤ _; have := HAL.out; simp at HAT0; omega
              have s0 : (-9223372036854775808 : Int) ≤ (n : Int) - a2 := by have := HAL2.out; have := HN.out; omega
              have s1 : (n : Int) - a2 ≤ 9223372036854775807 := by have := HL.out; have := HN.out; omega
              clear ha2 HAT0
              by_cases hs : l.length < a2 + 32
              · have HPZ := Lib.hid (parseH_short HX.out HM.out rfl HLM.out HA1.out HM2.out rfl HLY.out HA2.out hs)
                have s2 : (n : Int) - a2 < 32 := by have := HN.out; omega
                clear hs hlim
                go_wp2_with ((with_reducible refine storeH2 (x := .tmp 2) (y := .tmp 59) (r := 0) (n := 0) (d := y32) (o := ⟨none, .store _ _ _, _, _, _, _⟩) HA.out y32_length y32_length ?_ ?_); exact ⟨rfl, rfl, rfl, rfl⟩)
                refine bodyPost_ret (resH22 rfl (HA.out.row _) y32_length rfl) rfl ⟨?_, below_row HB.out (Nat.le_refl _) _⟩
                rw [HPZ.out]
                rfl
              · have s2 : decide ((n : Int) - a2 < 32) = false := decide_eq_false (by have := HN.out; omega)
                by_cases hlong : a2 + 32 < l.length
                · have HPZ := Lib.hid (parseH_long HX.out HM.out rfl HLM.out HA1.out HM2.out rfl HLY.out HA2.out hlong)
                  have s3 : (32 : Int) < (n : Int) - a2 := by have := HN.out; omega
                  have s4 : (-9223372036854775808 : Int) ≤ (a2 : Int) + 32 := by omega
                  have s5 : (a2 : Int) + 32 ≤ 9223372036854775807 := by have := HL.out; have := HAL2.out; omega
                  clear hs hlong hlim
                  go_wp2_with ((with_reducible refine storeH2 (x := .tmp 2) (y := .tmp 66) (r := 0) (n := 0) (d := y32) (o := ⟨none, .store _ _ _, _, _, _, _⟩) HA.out y32_length y32_length ?_ ?_); exact ⟨rfl, rfl, rfl, rfl⟩)
                  refine bodyPost_ret (resH22 rfl (HA.out.row _) y32_length rfl) rfl ⟨?_, below_row HB.out (Nat.le_refl _) _⟩
                  rw [HPZ.out]
                  rfl
                · have HPZ := Lib.hid (parseH_yes HX.out HM.out rfl HLM.out HA1.out HM2.out rfl HLY.out HA2.out (by omega))
                  have s3 : decide ((32 : Int) < (n : Int) - a2) = false := decide_eq_false (by have := HN.out; omega)
                  obtain ⟨d, hd⟩ : ∃ d, d = l.drop a2 := ⟨_, rfl⟩
                  rw [← hd] at HPZ
                  have HDL : Hid (d.length = 32) := by show _ = _; rw [hd, List.length_drop]; omega
                  have hnv : y ≤ 65536 := by omega
                  have hcv := fun w => convI y hnv w
                  have hsl : (a2 : Int) ≤ n := by have := HN.out; have := HAL2.out; omega
                  have hsl2 : a2 ≤ n := by have := HN.out; have := HAL2.out; omega
                  have hne : ¬ a2 = cp := by have := HCP.out; omega
                  have hle2 : a2 ≤ cp := by have := HCP.out; omega
                  have hcn : n ≤ cp := by have := HCP.out; have := HN.out; omega
                  have hn32 : n - a2 = 32 := by have := HN.out; omega
                  have hran : w1.rangeAt bk (of + a2) (bvs d) := fun j u hu => by
                    have hj : j < d.length := by have := (List.getElem?_eq_some_iff.1 hu).1; simpa [bvs] using this
                    rw [bvs_getElem d j hj] at hu
                    have h1 := HC.out (a2 + j) (by rw [hd, List.length_drop] at hj; omega)
                    rw [Nat.add_assoc, HB.out.cell (by show bk < _; omega), h1, ← hu, hd]
                    simp [List.getD_eq_getElem?_getD]
                  have HRA := Lib.hid hran
                  have har := arr_at32 ⟨bk, of + a2, none⟩ 32 (cp - a2) (by omega)
                  have hbl : (bvs d).length = 32 := by rw [bvs_length, HDL.out]
                  have HBZ := Lib.hid (buildH x (y : Nat) d HDL.out)
                  clear hran hs hlong hlim hd hnv
                  go_wp2_with (first
                    | ((with_reducible refine load32w (x := .tmp 75) (l := d) (o := ⟨some 76, _, _, _, _, _⟩) HRA.out HDL.out ?_ ?_); exact ⟨rfl, rfl, rfl⟩)
                    | ((with_reducible refine storeH2 (x := .tmp 2) (y := .tmp 77) (r := x) (n := (y : Nat)) (d := d) (o := ⟨none, .store _ _ _, _, _, _, _⟩) HA.out y32_length HDL.out ?_ ?_); exact ⟨rfl, rfl, rfl, congrArg Value.agg HBZ.out⟩))
                  refine bodyPost_ret (resH22 rfl (HA.out.row _) HDL.out rfl) rfl ⟨?_, below_row HB.out (Nat.le_refl _) _⟩
                  rw [HPZ.out]
                  rfl
          · have HPZ := Lib.hid (parseH_n2 HX.out HM.out rfl HLM.out HA1.out HM2.out hc0)
            have hc1 : ¬ (c2 : Int) = 0 := by omega
            clear hc0
            go_wp2_with ((with_reducible refine storeH2 (x := .tmp 2) (y := .tmp 51) (r := 0) (n := 0) (d := y32) (o := ⟨none, .store _ _ _, _, _, _, _⟩) HA.out y32_length y32_length ?_ ?_); exact ⟨rfl, rfl, rfl, rfl⟩)
            refine bodyPost_ret (resH22 rfl (HA.out.row _) y32_length rfl) rfl ⟨?_, below_row HB.out (Nat.le_refl _) _⟩
            rw [HPZ.out]
            rfl
      · have HPZ := Lib.hid (parseH_n1 HX.out HM.out hc0)
        have hc1 : ¬ (c : Int) = 0 := by omega
        clear hc0
        go_wp2_with ((with_reducible refine storeH2 (x := .tmp 2) (y := .tmp 34) (r := 0) (n := 0) (d := y32) (o := ⟨none, .store _ _ _, _, _, _, _⟩) HA.out y32_length y32_length ?_ ?_); exact ⟨rfl, rfl, rfl, rfl⟩)
        refine bodyPost_ret (resH22 rfl (HA.out.row _) y32_length rfl) rfl ⟨?_, below_row HB.out (Nat.le_refl _) _⟩
        rw [HPZ.out]
        rfl
    · have HPZ := Lib.hid (parseH_sign (b := l) (by rw [← hT]; exact hx))
      have hs : ((str T).toList == [86, 83, 84, 49]) = false := by
        rw [ByteArray.toList_eq, beq_eq_false_iff_ne]
        exact fun k => hx (by simpa [str, vst] using k)
      obtain ⟨n, hn⟩ : ∃ n, n = l.length := ⟨_, rfl⟩
      rw [← hn] at h4 h4' ⊢
      clear hx hT hl4 hl hr HR hcell hcp hml hn
      go_enter Tryz.func12, Tryz.ntmps12
      go_wp2_with ((with_reducible refine atH2 w.heap.size (x := .tmp 2) (y := .tmp 19) (r := 0) (n := 0) (d := y32) (o := ⟨none, .store _ _ _, _, _, _, _⟩) y32_length ?_ ?_); exact ⟨rfl, rfl, rfl, rfl, rfl, rfl⟩)
      refine bodyPost_ret (resH22 rfl (Arr.new' w _ _ _ rfl) y32_length rfl) rfl ⟨?_, HB0.out _⟩
      rw [HPZ.out]
      rfl
end Go.Proofs.YtlngicddojoogaaGreatDoor
/-
  vestrylaw25.awake.
-/
namespace Go.Proofs.YtlngicddojoogaaGreatDoor
open Go.ChangeShapes Go.WideShapes Go.ChangeAt Go.RowKit
open errAs (ErrT)
set_option linter.unusedVariables false

theorem rd_some {B : Nat} {w : World} {v : Value} {l : List UInt8} (h : Rd B w v l) (n : Nat) (hl : l.length = n) (hn : 0 < n) : ∃ bk off cp, v = .slice (some ⟨bk, off, none⟩) n cp ∧ n ≤ cp := by
  subst hl
  rcases h with ⟨_, _, h⟩ | ⟨b, off, cap, hv, h1, h2, h3, hc⟩
  · rw [h] at hn; simp at hn
  · exact ⟨b, off, cap, hv, h1⟩
theorem foot_nil : (footL []).length = 37 ∧ (footL []).take 5 = [86, 69, 78, 68, 0] := by
  have h : (digest []).length = 32 := joinS_length _
  have hp : put 0 = [0] := by unfold put; simp
  have e : footL [] = [86, 69, 78, 68, 0] ++ digest [] := by unfold footL vend; simp [hp]
  rw [e]
  refine ⟨?_, ?_⟩
  · rw [List.length_append, h]; rfl
  · exact List.take_left' rfl
theorem parseH_nil : parseH [] = badH 6 0 := parseH_sign (by decide)
abbrev LIT5 : Array Value := #[.int .u8 86, .int .u8 69, .int .u8 78, .int .u8 68, .int .u8 0]
set_option maxRecDepth 100000 in
set_option maxHeartbeats 2000000 in
theorem sawake_any (w : World) (hE : ErrT w) (he : Env w) : Calls Tryz.prog 6 #[] w fun e w' => e = .returned (.bool true) ∧ Below w.heap.size w w' := by
  have HE := Lib.hid hE
  have HV := Lib.hid he
  clear hE he
  go_enter Tryz.func6, Tryz.ntmps6
  go_wp2_with fail
  refine (snew_any w).mono ?_
  rintro e w1 ⟨rfl, a1, b1⟩
  have HX := Lib.hid (sexport_any a1)
  have HB1 := Lib.hid b1
  clear a1 b1
  go_wp2_with fail
  refine HX.out.mono ?_
  rintro e w2 ⟨rfl, b2⟩
  have HB2 := Lib.hid (HB1.out.trans (b2.mono HB1.out.size))
  have HFO := Lib.hid (sfoot_any (w := w2) (ls := []) (oa := none) (cap := 0) (B := 0) (fun h => absurd h (by simp)) (Nat.zero_le _) (by simp) (by decide) (HV.out.below HB2.out))
  clear b2 HB1 HX
  go_wp2_with fail
  refine HFO.out.mono ?_
  rintro e w3 ⟨v3, rfl, r3, b3⟩
  have HB3 := Lib.hid (HB2.out.trans (b3.mono HB2.out.size))
  obtain ⟨bk, off, cp, rfl, hcp⟩ := rd_some r3 37 foot_nil.1 (by omega)
  have HR3 := Lib.hid r3
  have HCP := Lib.hid hcp
  have hb4 : Below w3.heap.size w3 (w3.alloc (.cells (hc 3 (1 : Nat) y32).toArray 30)) := (Below.refl _ _).alloc (Nat.le_refl _) _
  have HB4 := Lib.hid (HB3.out.trans (hb4.mono HB3.out.size))
  have HR4 := Lib.hid (rd_now (B := 0) HR3.out hb4)
  have HA4 := Lib.hid (Arr.new' w3 30 (hc 3 (1 : Nat) y32).toArray _ rfl)
  clear r3 b3 hcp hb4 HFO HB2 HB3 HR3
  go_wp2_with (first
    | ((with_reducible refine atH1 w3.heap.size (x := .tmp 4) (y := .tmp 19) (r := 3) (n := (1 : Nat)) (d := y32) (o := ⟨none, .store _ _ _, _, _, _, _⟩) y32_length ?_ ?_); exact ⟨rfl, rfl, rfl, rfl, rfl, rfl⟩)
    | ((with_reducible refine loadH1 (x := .tmp 4) (o := ⟨some 21, _, _, _, _, _⟩) HA4.out y32_length ?_ ?_); exact ⟨rfl, rfl, rfl⟩))
  generalize w3.alloc (.cells (hc 3 (1 : Nat) y32).toArray 30) = w4 at HB4 HR4 HA4 ⊢
  generalize w3.heap.size = g4 at HA4 ⊢
  refine (sput_yes 3 1 y32 (by decide) (by decide) rfl w4).mono ?_
  rintro e w5 ⟨v5, rfl, r5, b5⟩
  have HB5 := Lib.hid (HB4.out.trans (b5.mono HB4.out.size))
  have HR5 := Lib.hid (rd_now (B := 0) HR4.out b5)
  have HA5 := Lib.hid (HA4.out.later b5)
  have HPA : Hid (Calls Tryz.prog 9 #[v5] w5 fun e w' => e = .returned (.tuple #[hV 3 (1 : Nat) y32, .nilIface]) ∧ Below w5.heap.size w5 w') := by
    have h := sparse_any r5 (Nat.le_refl _) (by have := payH_len (r := 3) (n := 1) (d := y32) (by decide) (by decide) rfl; omega) (errT_below HE.out HB5.out)
    rw [parseH_pay (by decide) (by decide) rfl] at h
    exact h
  obtain ⟨q5, c5, rfl⟩ := rd_form r5
  generalize (payH 3 1 y32).length = n5 at HPA ⊢
  clear r5 b5 HB4 HR4 HA4
  go_wp2_with fail
  refine HPA.out.mono ?_
  rintro e w6 ⟨rfl, b6⟩
  have hb7 : Below w6.heap.size w6 (w6.alloc (.cells (hc 3 (1 : Nat) y32).toArray 30)) := (Below.refl _ _).alloc (Nat.le_refl _) _
  have hb67 := b6.trans (hb7.mono b6.size)
  have HB7 := Lib.hid (HB5.out.trans (hb67.mono HB5.out.size))
  have HR7 := Lib.hid (rd_now (B := 0) HR5.out hb67)
  have HA7 := Lib.hid (HA5.out.later hb67)
  have HX7 := Lib.hid (Arr.new' w6 30 (hc 3 (1 : Nat) y32).toArray _ rfl)
  clear b6 hb7 hb67 HPA HB5 HR5 HA5
  go_upto_region 6 with ((with_reducible refine atH1 w6.heap.size (x := .tmp 7) (y := .tmp 28) (r := 3) (n := (1 : Nat)) (d := y32) (o := ⟨none, .store _ _ _, _, _, _, _⟩) y32_length ?_ ?_); exact ⟨rfl, rfl, rfl, rfl, rfl, rfl⟩)
  generalize w6.alloc (.cells (hc 3 (1 : Nat) y32).toArray 30) = w7 at HB7 HR7 HA7 HX7 ⊢
  generalize w6.heap.size = g7 at HX7 ⊢
  have HPN : Hid (Calls Tryz.prog 9 #[.slice none 0 0] w7 fun e w' => e = .returned (.tuple #[hV 0 (0 : Nat) y32, faultN 6 0]) ∧ Below w7.heap.size w7 w') := by
    have h := sparse_any (B := 0) (vb := .slice none 0 0) (l := []) (.inl ⟨none, rfl, rfl⟩) (Nat.zero_le w7.heap.size) (by simp) (errT_below HE.out HB7.out)
    rw [parseH_nil] at h
    exact h
  go_wp2_with fail
  refine HPN.out.mono ?_
  rintro e w8 ⟨rfl, b8⟩
  have hb9 : Below w8.heap.size w8 (w8.alloc (.cells (hc 0 (0 : Nat) y32).toArray 30)) := (Below.refl _ _).alloc (Nat.le_refl _) _
  have hb89 := b8.trans (hb9.mono b8.size)
  have HB9 := Lib.hid (HB7.out.trans (hb89.mono HB7.out.size))
  have HR9 := Lib.hid (rd_now (B := 0) HR7.out hb89)
  have HA9 := Lib.hid (HA7.out.later hb89)
  have HX9 := Lib.hid (HX7.out.later hb89)
  clear b8 hb9 hb89 HPN HB7 HR7 HA7 HX7
  go_upto_region 7 with ((with_reducible refine atH1 w8.heap.size (x := .tmp 9) (y := .tmp 32) (r := 0) (n := (0 : Nat)) (d := y32) (o := ⟨none, .store _ _ _, _, _, _, _⟩) y32_length ?_ ?_); exact ⟨rfl, rfl, rfl, rfl, rfl, rfl⟩)
  generalize w8.alloc (.cells (hc 0 (0 : Nat) y32).toArray 30) = w9 at HB9 HR9 HA9 HX9 ⊢
  generalize w8.heap.size = g9
  go_wp2_with fail
  refine (sput_no 0 (-1) y32 rfl (.inr (.inl (by decide))) w9).mono ?_
  rintro e w10 ⟨rfl, b10⟩
  have hb11 : Below w10.heap.size w10 (w10.alloc (.cells LIT5 5 (5, 6))) := (Below.refl _ _).alloc (Nat.le_refl _) _
  have hb := b10.trans (hb11.mono b10.size)
  have HB11 := Lib.hid (HB9.out.trans (hb.mono HB9.out.size))
  have HR11 := Lib.hid (rd_now (B := 0) HR9.out hb)
  have HA11 := Lib.hid (HA9.out.later hb)
  have HX11 := Lib.hid (HX9.out.later hb)
  have HL11 := Lib.hid (held_marked w10 0 (Nat.zero_le _) [86, 69, 78, 68, 0] LIT5 5 rfl rfl (by decide)).rd
  have hcl := Joins.run_convert_bytes_const_at (P := Tryz.prog) w10 27 5 LIT5 5 5 w10.heap.size rfl Tryz.underlying27 Tryz.underlying5
  have HSM := Lib.hid (same_any (rd_take HR11.out (k := 5) (by omega)) HL11.out)
  rw [foot_nil.2, show eqB [86, 69, 78, 68, 0] [86, 69, 78, 68, 0] = true from by decide] at HSM
  have hq := eqlCC
  have h5 : 5 ≤ cp := by have := HCP.out; omega
  have h37 : 37 ≤ cp := HCP.out
  clear b10 hb11 hb HB9 HR9 HA9 HX9 HR11 HL11
  go_wp2_with fail
  refine HSM.out.mono ?_
  rintro e w12 ⟨rfl, n12, rfl⟩
  have hb12 := below_drewN (Below.refl (w10.alloc (.cells LIT5 5 (5, 6))).heap.size (w10.alloc (.cells LIT5 5 (5, 6)))) n12
  have HB12 := Lib.hid (HB11.out.trans (hb12.mono HB11.out.size))
  have HA12 := Lib.hid (HA11.out.later hb12)
  have HX12 := Lib.hid (HX11.out.later hb12)
  generalize (w10.alloc (.cells LIT5 5 (5, 6))).drewN n12 = w12 at HB12 HA12 HX12 ⊢
  have hq2 := fun w => equalH1 (r := 3) (n := (1 : Int)) (r' := 3) (n' := (1 : Int)) y32_length y32_length w
  rw [eqH_refl] at hq2
  have HTO : Hid (Calls Tryz.prog 13 #[faultN 6 0, .int .i64 (6 : Nat), .int .i64 (0 : Nat)] w12 fun e w' => e = .returned (.bool true) ∧ Below w12.heap.size w12 w') := told_fault 6 0 (by decide) w12 (errT_below HE.out HB12.out)
  clear hb12 HB11 HA11 HX11 hcl HSM h5 h37
  go_wp2_with (first
    | ((with_reducible refine loadH1 (x := .tmp 7) (o := ⟨some 58, _, _, _, _, _⟩) HX12.out y32_length ?_ ?_); exact ⟨rfl, rfl, rfl⟩)
    | ((with_reducible refine loadH1 (x := .tmp 4) (o := ⟨some 59, _, _, _, _, _⟩) HA12.out y32_length ?_ ?_); exact ⟨rfl, rfl, rfl⟩))
  refine HTO.out.mono ?_
  rintro e w13 ⟨rfl, b13⟩
  have HB13 := Lib.hid (HB12.out.trans (b13.mono HB12.out.size))
  clear b13 HTO HB12 HA12 HX12
  go_wp2_with fail
  refine (ssize_nil _).mono ?_
  rintro e w14 ⟨rfl, rfl⟩
  go_wp2_with fail
  go_ret
  exact ⟨rfl, HB13.out⟩
end Go.Proofs.YtlngicddojoogaaGreatDoor
/-
  vestrylaw25.StreamParses: the walk.
-/
namespace Go.Proofs.YtlngicddojoogaaGreatDoor
open Go.ChangeShapes Go.WideShapes Go.ChangeAt Go.RowKit
open errAs (ErrT)
set_option linter.unusedVariables false

set_option maxRecDepth 100000 in
set_option maxHeartbeats 2000000 in
theorem parses_law (v0 : Value) (l : List UInt8) (w : World) (hr : Rd w.heap.size w v0 l) (hE : ErrT w) (he : Env w) :
    Calls Tryz.prog 4 #[v0] w fun e w' => e = .returned (.bool true) ∧ Below w.heap.size w w' := by
  have HE := Lib.hid hE
  have HV := Lib.hid he
  have HR := Lib.hid hr
  have HAW := Lib.hid (sawake_any w hE he)
  obtain ⟨q, cp, rfl⟩ := rd_form hr
  clear hE he hr
  by_cases hbig : 500 < l.length
  · have h1 : (500 : Int) < l.length := by omega
    go_enter Tryz.func4, Tryz.ntmps4
    go_wp2_with fail
    refine HAW.out.mono ?_
    rintro e w1 ⟨rfl, b1⟩
    have HB1 := Lib.hid b1
    have HAW2 := Lib.hid (sawake_any _ (errT_below HE.out b1) (HV.out.below b1))
    clear b1
    go_wp2_with fail
    refine HAW2.out.mono ?_
    rintro e w2 ⟨rfl, b2⟩
    have HB2 := Lib.hid (HB1.out.trans (b2.mono HB1.out.size))
    clear b2
    go_wp2_with fail
    go_ret
    exact ⟨rfl, HB2.out⟩
  · have h1 : ¬ (500 : Int) < l.length := by omega
    rcases parseH_cases l with ⟨c, n, hc, hpz⟩ | ⟨r, n, d, hr, hn, hd, hl, hpz⟩
    · have HC := Lib.hid hc
      have HPZ := Lib.hid hpz
      clear hc hpz
      go_enter Tryz.func4, Tryz.ntmps4
      go_wp2_with fail
      refine HAW.out.mono ?_
      rintro e w1 ⟨rfl, b1⟩
      have HB1 := Lib.hid b1
      have HR1 := Lib.hid (rd_now (B := 0) HR.out b1)
      have HPA : Hid (Calls Tryz.prog 9 #[.slice q l.length cp] w1 fun e w' => e = .returned (.tuple #[hV 0 (0 : Nat) y32, faultN c n]) ∧ Below w1.heap.size w1 w') := by
        have h := sparse_any HR1.out (Nat.le_refl _) (by omega) (errT_below HE.out b1)
        rw [HPZ.out, hE_bad _ _ HC.out] at h
        exact h
      clear b1 HR HAW
      go_wp2_with fail
      refine HPA.out.mono ?_
      rintro e w2 ⟨rfl, b2⟩
      have hb3 : Below w2.heap.size w2 (w2.alloc (.cells (hc 0 (0 : Nat) y32).toArray 30)) := (Below.refl _ _).alloc (Nat.le_refl _) _
      have HB3 := Lib.hid ((HB1.out.trans (b2.mono HB1.out.size)).trans (hb3.mono (HB1.out.trans (b2.mono HB1.out.size)).size))
      have HR3 := Lib.hid (rd_now (B := 0) (rd_now (B := 0) HR1.out b2) hb3)
      have HA3 := Lib.hid (Arr.new' w2 30 (hc 0 (0 : Nat) y32).toArray _ rfl)
      clear b2 hb3 HPA HB1 HR1
      go_upto_region 4 with ((with_reducible refine atH1 w2.heap.size (x := .tmp 3) (y := .tmp 21) (r := 0) (n := (0 : Nat)) (d := y32) (o := ⟨none, .store _ _ _, _, _, _, _⟩) y32_length ?_ ?_); exact ⟨rfl, rfl, rfl, rfl, rfl, rfl⟩)
      generalize w2.alloc (.cells (hc 0 (0 : Nat) y32).toArray 30) = w3 at HB3 HR3 HA3 ⊢
      generalize w2.heap.size = g3 at HA3 ⊢
      have HRP : Hid (Calls Tryz.prog 12 #[.slice q l.length cp] w3 fun e w' => e = .returned (.tuple #[hV 0 (0 : Nat) y32, .int .i64 (c : Nat), .int .i64 (n : Nat)]) ∧ Below w3.heap.size w3 w') := by
        have h := rsparse_any HR3.out (Nat.le_refl _) (by omega)
        rw [HPZ.out] at h
        exact h
      go_wp2_with fail
      refine HRP.out.mono ?_
      rintro e w4 ⟨rfl, b4⟩
      have hb5 : Below w4.heap.size w4 (w4.alloc (.cells (hc 0 (0 : Nat) y32).toArray 25)) := (Below.refl _ _).alloc (Nat.le_refl _) _
      have HB5 := Lib.hid ((HB3.out.trans (b4.mono HB3.out.size)).trans (hb5.mono (HB3.out.trans (b4.mono HB3.out.size)).size))
      have HA5 := Lib.hid ((HA3.out.later b4).later hb5)
      have HX5 := Lib.hid (Arr.new' w4 25 (hc 0 (0 : Nat) y32).toArray _ rfl)
      clear b4 hb5 HRP HB3 HR3 HA3
      go_upto_region 5 with ((with_reducible refine atH2 w4.heap.size (x := .tmp 5) (y := .tmp 26) (r := 0) (n := (0 : Nat)) (d := y32) (o := ⟨none, .store _ _ _, _, _, _, _⟩) y32_length ?_ ?_); exact ⟨rfl, rfl, rfl, rfl, rfl, rfl⟩)
      generalize w4.alloc (.cells (hc 0 (0 : Nat) y32).toArray 25) = w5 at HB5 HA5 HX5 ⊢
      generalize w4.heap.size = g5 at HX5 ⊢
      have hq2 := fun w => equalH2 (r := 0) (n := (0 : Int)) (r' := 0) (n' := (0 : Int)) y32_length y32_length w
      rw [eqH_refl] at hq2
      have HTO : Hid (Calls Tryz.prog 13 #[faultN c n, .int .i64 (c : Nat), .int .i64 (n : Nat)] w5 fun e w' => e = .returned (.bool true) ∧ Below w5.heap.size w5 w') := told_fault c n HC.out w5 (errT_below HE.out HB5.out)
      go_wp2_with (first
        | ((with_reducible refine loadH1 (x := .tmp 3) (o := ⟨some 29, _, _, _, _, _⟩) HA5.out y32_length ?_ ?_); exact ⟨rfl, rfl, rfl⟩)
        | ((with_reducible refine loadH2 (x := .tmp 3) (o := ⟨some 29, _, _, _, _, _⟩) HA5.out y32_length ?_ ?_); exact ⟨rfl, rfl, rfl⟩)
        | ((with_reducible refine loadH2 (x := .tmp 5) (o := ⟨some 30, _, _, _, _, _⟩) HX5.out y32_length ?_ ?_); exact ⟨rfl, rfl, rfl⟩))
      refine HTO.out.mono ?_
      rintro e w6 ⟨rfl, b6⟩
      have HB6 := Lib.hid (HB5.out.trans (b6.mono HB5.out.size))
      have HA6 := Lib.hid (HA5.out.later b6)
      clear b6 HTO HB5 HA5 HX5 hq2
      go_wp2_with ((with_reducible refine loadH1 (x := .tmp 3) (o := ⟨some 40, _, _, _, _, _⟩) HA6.out y32_length ?_ ?_); exact ⟨rfl, rfl, rfl⟩)
      refine (sput_yes 0 0 y32 (by decide) (by decide) rfl _).mono ?_
      rintro e w7 ⟨v7, rfl, r7, b7⟩
      have HB7 := Lib.hid (HB6.out.trans (b7.mono HB6.out.size))
      have hc0 : ¬ (c : Int) = 0 := by have := HC.out; omega
      have hc1 : ((c : Int) != 0) = true := by rw [bne_iff_ne]; exact hc0
      clear b7 HB6 HA6 r7
      go_wp2_with fail
      go_ret
      exact ⟨rfl, HB7.out⟩
    · have HRL := Lib.hid hr
      have HNL := Lib.hid hn
      have HD := Lib.hid hd
      have HPL := Lib.hid hl
      have HPZ := Lib.hid hpz
      clear hr hn hd hl hpz
      go_enter Tryz.func4, Tryz.ntmps4
      go_wp2_with fail
      refine HAW.out.mono ?_
      rintro e w1 ⟨rfl, b1⟩
      have HB1 := Lib.hid b1
      have HR1 := Lib.hid (rd_now (B := 0) HR.out b1)
      have HPA : Hid (Calls Tryz.prog 9 #[.slice q l.length cp] w1 fun e w' => e = .returned (.tuple #[hV r (n : Nat) d, .nilIface]) ∧ Below w1.heap.size w1 w') := by
        have h := sparse_any HR1.out (Nat.le_refl _) (by omega) (errT_below HE.out b1)
        rw [HPZ.out] at h
        exact h
      clear b1 HR HAW
      go_wp2_with fail
      refine HPA.out.mono ?_
      rintro e w2 ⟨rfl, b2⟩
      have hb3 : Below w2.heap.size w2 (w2.alloc (.cells (hc r (n : Nat) d).toArray 30)) := (Below.refl _ _).alloc (Nat.le_refl _) _
      have HB3 := Lib.hid ((HB1.out.trans (b2.mono HB1.out.size)).trans (hb3.mono (HB1.out.trans (b2.mono HB1.out.size)).size))
      have HR3 := Lib.hid (rd_now (B := 0) (rd_now (B := 0) HR1.out b2) hb3)
      have HA3 := Lib.hid (Arr.new' w2 30 (hc r (n : Nat) d).toArray _ rfl)
      clear b2 hb3 HPA HB1 HR1
      go_upto_region 4 with ((with_reducible refine atH1 w2.heap.size (x := .tmp 3) (y := .tmp 21) (r := r) (n := (n : Nat)) (d := d) (o := ⟨none, .store _ _ _, _, _, _, _⟩) HD.out ?_ ?_); exact ⟨rfl, rfl, rfl, rfl, rfl, rfl⟩)
      generalize w2.alloc (.cells (hc r (n : Nat) d).toArray 30) = w3 at HB3 HR3 HA3 ⊢
      generalize w2.heap.size = g3 at HA3 ⊢
      have HRP : Hid (Calls Tryz.prog 12 #[.slice q l.length cp] w3 fun e w' => e = .returned (.tuple #[hV r (n : Nat) d, .int .i64 (0 : Nat), .int .i64 (0 : Nat)]) ∧ Below w3.heap.size w3 w') := by
        have h := rsparse_any HR3.out (Nat.le_refl _) (by omega)
        rw [HPZ.out] at h
        exact h
      go_wp2_with fail
      refine HRP.out.mono ?_
      rintro e w4 ⟨rfl, b4⟩
      have hb5 : Below w4.heap.size w4 (w4.alloc (.cells (hc r (n : Nat) d).toArray 25)) := (Below.refl _ _).alloc (Nat.le_refl _) _
      have HB5 := Lib.hid ((HB3.out.trans (b4.mono HB3.out.size)).trans (hb5.mono (HB3.out.trans (b4.mono HB3.out.size)).size))
      have HR5 := Lib.hid (rd_now (B := 0) (rd_now (B := 0) HR3.out b4) hb5)
      have HA5 := Lib.hid ((HA3.out.later b4).later hb5)
      have HX5 := Lib.hid (Arr.new' w4 25 (hc r (n : Nat) d).toArray _ rfl)
      clear b4 hb5 HRP HB3 HR3 HA3
      go_upto_region 5 with ((with_reducible refine atH2 w4.heap.size (x := .tmp 5) (y := .tmp 26) (r := r) (n := (n : Nat)) (d := d) (o := ⟨none, .store _ _ _, _, _, _, _⟩) HD.out ?_ ?_); exact ⟨rfl, rfl, rfl, rfl, rfl, rfl⟩)
      generalize w4.alloc (.cells (hc r (n : Nat) d).toArray 25) = w5 at HB5 HR5 HA5 HX5 ⊢
      generalize w4.heap.size = g5 at HX5 ⊢
      have hq2 := fun w => equalH2 (r := r) (n := (n : Nat)) (r' := r) (n' := (n : Nat)) HD.out HD.out w
      rw [eqH_refl] at hq2
      have HTO : Hid (Calls Tryz.prog 13 #[.nilIface, .int .i64 (0 : Nat), .int .i64 (0 : Nat)] w5 fun e w' => e = .returned (.bool true) ∧ Below w5.heap.size w5 w') := (told_none 0 w5).mono fun e w' ⟨h1, h2⟩ => ⟨h1, h2 ▸ Below.refl _ _⟩
      go_wp2_with (first
        | ((with_reducible refine loadH1 (x := .tmp 3) (o := ⟨some 29, _, _, _, _, _⟩) HA5.out HD.out ?_ ?_); exact ⟨rfl, rfl, rfl⟩)
        | ((with_reducible refine loadH2 (x := .tmp 3) (o := ⟨some 29, _, _, _, _, _⟩) HA5.out HD.out ?_ ?_); exact ⟨rfl, rfl, rfl⟩)
        | ((with_reducible refine loadH2 (x := .tmp 5) (o := ⟨some 30, _, _, _, _, _⟩) HX5.out HD.out ?_ ?_); exact ⟨rfl, rfl, rfl⟩))
      refine HTO.out.mono ?_
      rintro e w6 ⟨rfl, b6⟩
      have HB6 := Lib.hid (HB5.out.trans (b6.mono HB5.out.size))
      have HR6 := Lib.hid (rd_now (B := 0) HR5.out b6)
      have HA6 := Lib.hid (HA5.out.later b6)
      clear b6 HTO HB5 HR5 HA5 HX5 hq2
      go_wp2_with ((with_reducible refine loadH1 (x := .tmp 3) (o := ⟨some 40, _, _, _, _, _⟩) HA6.out HD.out ?_ ?_); exact ⟨rfl, rfl, rfl⟩)
      refine (sput_yes r n d HRL.out HNL.out HD.out _).mono ?_
      rintro e w7 ⟨v7, rfl, r7, b7⟩
      rw [← HPL.out] at r7
      have HB7 := Lib.hid (HB6.out.trans (b7.mono HB6.out.size))
      have HSM := Lib.hid (same_any r7 (rd_now (B := 0) HR6.out b7))
      rw [eqB_refl] at HSM
      obtain ⟨q7, c7, rfl⟩ := rd_form r7
      clear b7 r7 HB6 HR6 HA6
      go_wp2_with fail
      refine HSM.out.mono ?_
      rintro e w8 ⟨rfl, n8, rfl⟩
      have HB8 := Lib.hid (below_drewN HB7.out n8)
      clear HSM HB7
      go_wp2_with fail
      go_ret
      exact ⟨rfl, HB8.out⟩
end Go.Proofs.YtlngicddojoogaaGreatDoor
/-
  The reference's Block.
-/
namespace Go.Proofs.YtlngicddojoogaaGreatDoor
open Go.ChangeShapes Go.WideShapes Go.ChangeAt Go.RowKit
set_option linter.unusedVariables false

theorem rot_still (x : UInt32) (k : Int) (hk : k ∈ turns) (w : World) :
    Calls Tryz.prog 72 #[.int .u32 x.toNat, .int .u64 k] w fun e w' => e = .returned (.int .u32 (rotr x k.toNat).toNat) ∧ w' = w :=
  (rot_any x k hk w).mono fun e w' ⟨h1, h2⟩ => ⟨h1, h2.symm⟩
theorem mulmod (c : UInt32) (x : UInt8) : ((c.toNat : Int) * 256 + (x.toNat : Int)) % 4294967296 = ((c * 256 + x.toUInt32).toNat : Int) := by
  have hx : x.toNat < 256 := x.toNat_lt
  rw [UInt32.toNat_add, UInt32.toNat_mul, UInt8.toNat_toUInt32]
  simp
/-- What the reference's Block keeps: the words under way in g4, the bytes in g1, the table in g2, the state in g0, a place for the result in g3. -/
structure Rb (w wr : World) (sl KK : List UInt32) (b : List UInt8) (z : List Value) (l : List UInt32) : Prop where
  s : Arr wr 97 w.heap.size (wvs sl)
  b : Arr wr 106 (w.heap.size + 1) (bvs b)
  t : Arr wr 103 (w.heap.size + 2) (wvs KK)
  z : Arr wr 97 (w.heap.size + 3) z
  m : Arr wr 103 (w.heap.size + 4) (wvs l)
  below : Below w.heap.size w wr
theorem Rb.later {w wr w' : World} {sl KK : List UInt32} {b : List UInt8} {z : List Value} {l : List UInt32} (h : Rb w wr sl KK b z l) (hb : Below wr.heap.size wr w') : Rb w w' sl KK b z l :=
  ⟨h.s.later hb, h.b.later hb, h.t.later hb, h.z.later hb, h.m.later hb, h.below.trans (hb.mono h.below.size)⟩
theorem Rb.set {w wr : World} {sl KK : List UInt32} {b : List UInt8} {z : List Value} {l m : List UInt32} (h : Rb w wr sl KK b z l) (i : Nat) (x : UInt32) (hm : l.set i x = m) : Rb w (wr.setCell ⟨w.heap.size + 4, i, none⟩ (.int .u32 x.toNat)) sl KK b z m := by
  subst hm
  refine ⟨h.s.setCell (by show w.heap.size ≠ w.heap.size + 4; omega) _, h.b.setCell (by show w.heap.size + 1 ≠ w.heap.size + 4; omega) _, h.t.setCell (by show w.heap.size + 2 ≠ w.heap.size + 4; omega) _, h.z.setCell (by show w.heap.size + 3 ≠ w.heap.size + 4; omega) _, ?_, h.below.setCell (by show w.heap.size ≤ w.heap.size + 4; omega) _⟩
  rw [← wvs_set]; exact h.m.set i _
theorem Rb.other {w wr : World} {sl KK : List UInt32} {b : List UInt8} {z : List Value} {l : List UInt32} (h : Rb w wr sl KK b z l) {G : Nat} (hG : w.heap.size + 4 < G) (i : Nat) (v : Value) : Rb w (wr.setCell ⟨G, i, none⟩ v) sl KK b z l :=
  ⟨h.s.setCell (by show w.heap.size ≠ G; omega) _, h.b.setCell (by show w.heap.size + 1 ≠ G; omega) _, h.t.setCell (by show w.heap.size + 2 ≠ G; omega) _, h.z.setCell (by show w.heap.size + 3 ≠ G; omega) _, h.m.setCell (by show w.heap.size + 4 ≠ G; omega) _, h.below.setCell (by show w.heap.size ≤ G; omega) _⟩
theorem add_comm8 (s t : S8) : s.add t = t.add s := by
  unfold S8.add
  simp only [UInt32.add_comm]
theorem Rb.drewN {w wr : World} {sl KK : List UInt32} {b : List UInt8} {z : List Value} {l : List UInt32} (h : Rb w wr sl KK b z l) (n : Nat) : Rb w (wr.drewN n) sl KK b z l :=
  h.later (Joins.below_draws _ _ _)

set_option maxRecDepth 100000 in
set_option maxHeartbeats 4000000 in
theorem rblock_any (s : S8) (b : List UInt8) (hb : b.length = 64) (w : World) :
    Calls Tryz.prog 53 #[.agg (wvs s.list).toArray, .agg (bvs b).toArray, .agg (wvs kk).toArray] w fun e w' => e = .returned (.agg (wvs (blk s b).list).toArray) ∧ Below w.heap.size w w' := by
  have HB := Lib.hid hb
  clear hb
  obtain ⟨sl, hsl⟩ : ∃ sl, sl = s.list := ⟨_, rfl⟩
  rw [← hsl]
  have HSL := Lib.hid hsl
  have HSN : Hid (sl.length = 8) := by rw [hsl]; rfl
  clear hsl
  obtain ⟨KK, hKK⟩ : ∃ KK, KK = kk := ⟨_, rfl⟩
  rw [← hKK]
  have HKN : Hid (KK.length = 64) := by rw [hKK]; rfl
  have HKK := Lib.hid hKK
  clear hKK
  have HST : Hid (∀ z y : Array Value, y.toList = wvs (List.replicate 64 0) → Rb w (((((w.alloc (.cells (wvs sl).toArray 97)).alloc (.cells (bvs b).toArray 106)).alloc (.cells (wvs KK).toArray 103)).alloc (.cells z 97)).alloc (.cells y 103)) sl KK b z.toList (List.replicate 64 0)) := by
    intro z y hy
    have e3 := Arr.new' (((w.alloc (.cells (wvs sl).toArray 97)).alloc (.cells (bvs b).toArray 106)).alloc (.cells (wvs KK).toArray 103)) 97 z z.toList rfl
    have e4 := Arr.new' ((((w.alloc (.cells (wvs sl).toArray 97)).alloc (.cells (bvs b).toArray 106)).alloc (.cells (wvs KK).toArray 103)).alloc (.cells z 97)) 103 y _ hy
    rw [show (((w.alloc (.cells (wvs sl).toArray 97)).alloc (.cells (bvs b).toArray 106)).alloc (.cells (wvs KK).toArray 103)).heap.size = w.heap.size + 3 by simp] at e3
    rw [show ((((w.alloc (.cells (wvs sl).toArray 97)).alloc (.cells (bvs b).toArray 106)).alloc (.cells (wvs KK).toArray 103)).alloc (.cells z 97)).heap.size = w.heap.size + 4 by simp] at e4
    exact ⟨((((Arr.new' w _ _ (wvs sl) (by simp)).alloc _).alloc _).alloc _).alloc _, (((Arr.new2 w _ _ _ (bvs b) (by simp)).alloc _).alloc _).alloc _, ((Arr.new3 w _ _ _ _ (wvs KK) (by simp)).alloc _).alloc _, e3.alloc _, e4,
      (((((Below.refl _ _).alloc (Nat.le_refl _) _).alloc (by simp) _).alloc (by simp; omega) _).alloc (by simp; omega) _).alloc (by simp; omega) _⟩
  go_enter Tryz.func53, Tryz.ntmps53
  go_wp2_with fail
  go_loopw [8] (fun iv wr => ∃ (i : Nat) (z : List Value), i ≤ 16 ∧ iv = .int .i64 i ∧ z.length = 8 ∧ Hid (Rb w wr sl KK b z (mid b (4 * i)))) (fun iv _ => 16 - (intOf iv).toNat)
  case atStart => exact ⟨0, _, by omega, rfl, rfl, by rw [Nat.mul_zero, mid_zero]; exact HST.out _ _ rfl⟩
  case round =>
    obtain ⟨i, z, hi, rfl, hz, HM⟩ := hrel
    clear HST
    have HZ := Lib.hid hz
    clear hz
    have hi0 : (0 : Int) ≤ i := by omega
    by_cases hlt : i < 16
    · have hlt1 : (i : Int) < 16 := by omega
      obtain ⟨wo, hwo⟩ : ∃ wo, wo = wr := ⟨_, rfl⟩
      subst hwo
      go_wp2_with fail
      go_loopw [9] (fun kv wr => ∃ k : Nat, k ≤ 4 ∧ kv = .int .i64 k ∧ Hid (Rb w wr sl KK b z (mid b (4 * i + k)))) (fun kv _ => 4 - (intOf kv).toNat)
      case atStart => exact ⟨0, by omega, rfl, HM.out⟩
      case round =>
        obtain ⟨k, hk, rfl, HK⟩ := hrel
        clear HM
        have hk0 : (0 : Int) ≤ k := by omega
        by_cases hlk : k < 4
        · have hlk1 : (k : Int) < 4 := by omega
          have HN := Lib.hid (mid_next b (4 * i + k) (by omega))
          rw [show (4 * i + k) / 4 = i by omega] at HN
          obtain ⟨c, hc, HC⟩ : ∃ c : UInt32, wr.cell? ⟨w.heap.size + 4, i, none⟩ = some (.int .u32 c.toNat) ∧ Hid (c = (mid b (4 * i + k)).getD i 0) := ⟨_, (HK.out.m.cell i).trans (wvs_get _ i (by rw [mid_length]; omega)), rfl⟩
          have hf := HK.out.m.free i
          obtain ⟨x, hx, HX⟩ : ∃ x : UInt8, wr.cell? ⟨w.heap.size + 1, 4 * i + k, none⟩ = some (.int .u8 x.toNat) ∧ Hid (x = b.getD (4 * i + k) 0) := ⟨_, (HK.out.b.cell (4 * i + k)).trans (bvs_getElem b _ (by rw [HB.out]; omega)), rfl⟩
          have g1 : IntKind.i64.wrap (4 * (i : Int)) = 4 * (i : Int) := IntWalk.i64_in _ (by omega)
          have g2 : IntKind.i64.wrap (4 * (i : Int) + k) = 4 * (i : Int) + k := IntWalk.i64_in _ (by omega)
          have g3 : (0 : Int) ≤ 4 * (i : Int) + k := by omega
          have g4 : 4 * (i : Int) + k < 64 := by omega
          have g5 : (4 * (i : Int) + k).toNat = 4 * i + k := by omega
          have g6 : (i : Int) < 64 := by omega
          go_wp2_with fail
          refine region_tail 13 (by kernel_rfl) (by kernel_rfl) ?_
          simp only [List.take_succ_cons, List.take_zero, List.drop_succ_cons, List.drop_zero]
          repeat still_step
          refine wpStill_nil ?_
          go_wp2_with fail
          go_roundw
          case rel =>
            refine ⟨k + 1, by omega, by go_num, ?_⟩
            have hn := HN.out
            rw [← HC.out, ← HX.out] at hn
            rw [mulmod]
            exact (HK.out.set i _ hn).drewN 1
          case measure => simp [intOf]; omega
        · rw [show (k : Int) = 4 by omega]
          have HK2 : Hid (Rb w wr sl KK b z (mid b (4 * (i + 1)))) := by
            rw [show 4 * (i + 1) = 4 * i + k by omega]; exact HK.out
          clear HK hlk hk hk0
          go_wp2_with fail
          go_roundw
          case rel => exact ⟨i + 1, z, by omega, by go_num, HZ.out, HK2.out⟩
          case measure => simp [intOf]; omega
    · rw [show (i : Int) = 16 by omega]
      have HM2 : Hid (Rb w wr sl KK b z (ext64 b 16)) := by
        rw [← mid_done, show 64 = 4 * i by omega]; exact HM.out
      clear HM hlt hi hi0
      go_wp2_with fail
      go_loopw [10] (fun iv wr => ∃ i : Nat, 16 ≤ i ∧ i ≤ 64 ∧ iv = .int .i64 i ∧ Hid (Rb w wr sl KK b z (ext64 b i))) (fun iv _ => 64 - (intOf iv).toNat)
      case atStart => exact ⟨16, by omega, by omega, rfl, HM2.out⟩
      case round =>
        obtain ⟨i, h16, hi, rfl, HM⟩ := hrel
        clear HM2
        have hi0 : (16 : Int) ≤ i := by omega
        by_cases hlt : i < 64
        · have hlt1 : (i : Int) < 64 := by omega
          have HN := Lib.hid (ext64_next b i h16 hlt)
          obtain ⟨L, hL⟩ : ∃ L, L = ext64 b i := ⟨_, rfl⟩
          rw [← hL] at HM HN
          have HL : Hid (L.length = 64) := by rw [hL]; exact ext64_length b i h16 hi
          clear hL
          obtain ⟨x15, c15, E15⟩ : ∃ c : UInt32, wr.cell? ⟨w.heap.size + 4, i - 15, none⟩ = some (.int .u32 c.toNat) ∧ Hid (c = L.getD (i - 15) 0) := ⟨_, (HM.out.m.cell _).trans (wvs_get _ _ (by rw [HL.out]; omega)), rfl⟩
          obtain ⟨x2, c2, E2⟩ : ∃ c : UInt32, wr.cell? ⟨w.heap.size + 4, i - 2, none⟩ = some (.int .u32 c.toNat) ∧ Hid (c = L.getD (i - 2) 0) := ⟨_, (HM.out.m.cell _).trans (wvs_get _ _ (by rw [HL.out]; omega)), rfl⟩
          obtain ⟨x16, c16, E16⟩ : ∃ c : UInt32, wr.cell? ⟨w.heap.size + 4, i - 16, none⟩ = some (.int .u32 c.toNat) ∧ Hid (c = L.getD (i - 16) 0) := ⟨_, (HM.out.m.cell _).trans (wvs_get _ _ (by rw [HL.out]; omega)), rfl⟩
          obtain ⟨x7, c7, E7⟩ : ∃ c : UInt32, wr.cell? ⟨w.heap.size + 4, i - 7, none⟩ = some (.int .u32 c.toNat) ∧ Hid (c = L.getD (i - 7) 0) := ⟨_, (HM.out.m.cell _).trans (wvs_get _ _ (by rw [HL.out]; omega)), rfl⟩
          have hf := HM.out.m.free i
          have hcell := (HM.out.m.cell i).trans (wvs_get _ i (by rw [HL.out]; omega))
          have t15 : ((i : Int) - 15).toNat = i - 15 := by omega
          have t2 : ((i : Int) - 2).toNat = i - 2 := by omega
          have t16 : ((i : Int) - 16).toNat = i - 16 := by omega
          have t7 : ((i : Int) - 7).toNat = i - 7 := by omega
          have hs0 : bits .xor .u32 (bits .xor .u32 ((rotr x15 7).toNat : Int) ((rotr x15 18).toNat : Int)) ((x15.toNat : Int) / 8) = ((sg0 x15).toNat : Int) := sg0_val x15
          have hs1 : bits .xor .u32 (bits .xor .u32 ((rotr x2 17).toNat : Int) ((rotr x2 19).toNat : Int)) ((x2.toNat : Int) / 1024) = ((sg1 x2).toNat : Int) := sg1_val x2
          have g16 : IntKind.i64.wrap ((i : Int) - 16) = (i : Int) - 16 := IntWalk.i64_in _ (by omega)
          have g7 : IntKind.i64.wrap ((i : Int) - 7) = (i : Int) - 7 := IntWalk.i64_in _ (by omega)
          have k7 : (7 : Int) ≤ i := by omega
          have k15 : (15 : Int) ≤ i := by omega
          have k2 : (2 : Int) ≤ i := by omega
          have z16 : (0 : Int) ≤ (i : Int) - 16 := by omega
          have z7 : (0 : Int) ≤ (i : Int) - 7 := by omega
          have y16 : (i : Int) - 16 < 64 := by omega
          have y7 : (i : Int) - 7 < 64 := by omega
          have y15 : (i : Int) - 15 < 64 := by omega
          have y2 : (i : Int) - 2 < 64 := by omega
          go_wp2_with fail
          refine region_tail 28 (by kernel_rfl) (by kernel_rfl) ?_
          simp only [List.take_succ_cons, List.take_zero, List.drop_succ_cons, List.drop_zero]
          repeat first | still_step | still_call (rot_still _ _ (by decide) _)
          refine wpStill_nil ?_
          go_wp2_with fail
          go_roundw
          case rel =>
            have hn := HN.out
            rw [← E16.out, ← E15.out, ← E7.out, ← E2.out] at hn
            refine ⟨i + 1, by omega, by omega, by go_num, ?_⟩
            rw [sum4]
            exact (HM.out.set i _ hn).drewN 1
          case measure => simp [intOf]; omega
        · rw [show (i : Int) = 64 by omega]
          have HM2 : Hid (Rb w wr sl KK b z (sched b)) := by rw [← ext64_done, show 64 = i by omega]; exact HM.out
          have HSC := Lib.hid (sched_length b)
          clear HM hlt hi hi0 h16
          have hS := HM2.out.s
          obtain ⟨G, hG⟩ : ∃ G, G = wr.heap.size := ⟨_, rfl⟩
          have HG : Hid (w.heap.size + 4 < G) := by rw [hG]; exact HM2.out.m.lt
          go_wp2_with (first
            | ((with_reducible refine load8w (x := .tmp 3) (o := ⟨some 82, _, _, _, _, _⟩) hS HSN.out ?_ ?_); exact ⟨rfl, rfl, rfl⟩)
            | ((with_reducible refine at8w wr.heap.size (x := .tmp 13) (y := .tmp 82) (l := sl) (o := ⟨none, .store _ _ _, _, _, _, _⟩) HSN.out ?_ ?_); exact ⟨rfl, rfl, rfl, rfl, rfl, rfl⟩))
          have HM5 := Lib.hid (HM2.out.later ((Below.refl wr.heap.size wr).alloc (Nat.le_refl _) (.cells (wvs sl).toArray 97)))
          have HV5 : Hid (Arr (wr.alloc (.cells (wvs sl).toArray 97)) 97 G (wvs sl)) := by rw [hG]; exact Arr.new' wr _ _ _ (by simp)
          generalize wr.alloc (.cells (wvs sl).toArray 97) = w5 at HM5 HV5 ⊢
          rw [← hG]
          clear hS HM2 hG
          obtain ⟨a0, b0, c0, d0, e0, f0, g0, h0⟩ := s
          rw [HSL.out] at HV5
          go_loopw [14] (fun iv wr => ∃ (i : Nat) (A B C D E F g' H : UInt32), i ≤ 64 ∧ iv = .int .i64 i ∧ Hid (rounds KK (sched b) i ⟨a0, b0, c0, d0, e0, f0, g0, h0⟩ = ⟨A, B, C, D, E, F, g', H⟩) ∧ Hid (Rb w wr sl KK b z (sched b)) ∧ Hid (Arr wr 97 G (wvs (S8.list ⟨A, B, C, D, E, F, g', H⟩)))) (fun iv _ => 64 - (intOf iv).toNat)
          case atStart => exact ⟨0, a0, b0, c0, d0, e0, f0, g0, h0, by omega, rfl, rfl, HM5.out, HV5.out⟩
          case round =>
            obtain ⟨i, A, B, C, D, E, F, H', H, hi, rfl, HR, HM, HV⟩ := hrel
            clear HM5 HV5
            have hi0 : (0 : Int) ≤ i := by omega
            by_cases hlt : i < 64
            · have hlt1 : (i : Int) < 64 := by omega
              obtain ⟨x, hx⟩ : ∃ x, x = (sched b).getD i 0 := ⟨_, rfl⟩
              obtain ⟨k, hk⟩ : ∃ k, k = KK.getD i 0 := ⟨_, rfl⟩
              have cx : wr.cell? ⟨w.heap.size + 4, i, none⟩ = some (.int .u32 x.toNat) := by rw [hx]; exact (HM.out.m.cell i).trans (wvs_get _ i (by rw [HSC.out]; exact hlt))
              have ck : wr.cell? ⟨w.heap.size + 2, i, none⟩ = some (.int .u32 k.toNat) := by rw [hk]; exact (HM.out.t.cell i).trans (wvs_get _ i (by rw [HKN.out]; exact hlt))
              have HX := Lib.hid hx
              have HK := Lib.hid hk
              obtain ⟨⟨q0, q1, q2, q3, q4, q5, q6, q7⟩, _⟩ := cells8 HV.out
              have r1 := Wp_wrap
              have r2 := Wp_mod
              have r3 := Wx_val
              have r4 := Wa_val
              have r5 := Wn_val
              have r6 := Wn_val'
              clear hx hk
              go_wp2_with fail
              go_quiet ((go_at_call 72; exact quiet_left (rot_any _ _ (by decide) _)))
              have eT : Wp (Wp (Wp (Wp H (Wx (Wx (rotr E 6) (rotr E 11)) (rotr E 25))) (Wx (Wa E F) (Wa (Wn E) H'))) k) x = rt ⟨A, B, C, D, E, F, H', H⟩ k x := rfl
              rw [eT]
              clear eT
              obtain ⟨T, hT⟩ : ∃ T, T = rt ⟨A, B, C, D, E, F, H', H⟩ k x := ⟨_, rfl⟩
              rw [← hT]
              have HTT := Lib.hid hT
              clear hT
              have HM6 := Lib.hid (HM.out.drewN nq)
              have HV6 := Lib.hid (HV.out.drewN nq)
              clear q0 q1 q2 q3 q4 q5 q6 q7 cx ck HM HV
              generalize wr.drewN nq = w6 at HM6 HV6 ⊢
              obtain ⟨⟨q0, q1, q2, q3, q4, q5, q6, q7⟩, _⟩ := cells8 HV6.out
              go_wp2_with fail
              go_quiet ((go_at_call 72; exact quiet_left (rot_any _ _ (by decide) _)))
              have eU : Wp (Wx (Wx (rotr A 2) (rotr A 13)) (rotr A 22)) (Wx (Wx (Wa A B) (Wa A C)) (Wa B C)) = ru ⟨A, B, C, D, E, F, H', H⟩ := rfl
              rw [eU]
              clear eU
              obtain ⟨U, hU⟩ : ∃ U, U = ru ⟨A, B, C, D, E, F, H', H⟩ := ⟨_, rfl⟩
              rw [← hU]
              have HUU := Lib.hid hU
              clear hU
              have HM7 := Lib.hid (HM6.out.drewN nq)
              have HV7 := Lib.hid (HV6.out.drewN nq)
              clear q0 q1 q2 q3 q4 q5 q6 q7 HM6 HV6
              generalize w6.drewN nq = w7 at HM7 HV7 ⊢
              obtain ⟨⟨q0, q1, q2, q3, q4, q5, q6, q7⟩, ⟨z0, z1, z2, z3, z4, z5, z6, z7⟩⟩ := cells8 HV7.out
              go_wp2_with fail
              refine wp_loop_rounds 8 ?_
              rw [rounds_succ]
              go_wp2_with fail
              rw [rounds_succ]
              go_wp2_with fail
              rw [rounds_succ]
              go_wp2_with fail
              rw [rounds_succ]
              go_wp2_with fail
              rw [rounds_succ]
              go_wp2_with fail
              rw [rounds_succ]
              go_wp2_with fail
              rw [rounds_succ]
              go_wp2_with fail
              rw [rounds_succ]
              go_wp2_with fail
              go_roundw
              case rel =>
                refine ⟨i + 1, Wp T U, A, B, C, Wp D T, E, F, H', by omega, by go_num, ?_, ?_, ?_⟩
                · show rounds KK (sched b) (i + 1) _ = _
                  rw [rounds, HR.out, ← HK.out, ← HX.out, HTT.out, HUU.out]; rfl
                · show Rb _ _ _ _ _ _ _
                  repeat (first | (with_reducible exact HM7.out) | refine Rb.other ?_ HG.out _ _)
                · have h9 := ((((((((HV7.out.set 7 (.int .u32 H'.toNat)).set 6 (.int .u32 F.toNat)).set 5 (.int .u32 E.toNat)).set 4 (.int .u32 D.toNat)).set 3 (.int .u32 C.toNat)).set 2 (.int .u32 B.toNat)).set 1 (.int .u32 A.toNat)).set 4 (.int .u32 (Wp D T).toNat)).set 0 (.int .u32 (Wp T U).toNat)
                  exact h9
              case measure => simp [intOf]; omega
            · rw [show (i : Int) = 64 by omega]
              have HR2 : Hid (rounds KK (sched b) 64 ⟨a0, b0, c0, d0, e0, f0, g0, h0⟩ = ⟨A, B, C, D, E, F, H', H⟩) := by rw [show 64 = i by omega]; exact HR.out
              clear HR hlt hi hi0
              obtain ⟨V, hV⟩ : ∃ V, V = S8.list ⟨A, B, C, D, E, F, H', H⟩ := ⟨_, rfl⟩
              rw [← hV] at HV
              have HVN : Hid (V.length = 8) := by rw [hV]; rfl
              have HVE := Lib.hid hV
              clear hV
              have HV0 : Hid (Arr wr 97 G (wvs (part8 V sl 0))) := by rw [part8_zero _ _ HVN.out]; exact HV.out
              clear HV
              go_wp2_with fail
              go_loopw [18] (fun iv wr => ∃ i : Nat, i ≤ 8 ∧ iv = .int .i64 i ∧ Hid (Rb w wr sl KK b z (sched b)) ∧ Hid (Arr wr 97 G (wvs (part8 V sl i)))) (fun iv _ => 8 - (intOf iv).toNat)
              case atStart => exact ⟨0, by omega, rfl, HM.out, HV0.out⟩
              case round =>
                obtain ⟨i, hi, rfl, HM, HV⟩ := hrel
                clear HV0
                have hi0 : (0 : Int) ≤ i := by omega
                by_cases hlt : i < 8
                · have hlt1 : (i : Int) < 8 := by omega
                  have HN := Lib.hid (part8_next V sl i hlt)
                  have HPL := Lib.hid (part8_length V sl i)
                  obtain ⟨c, hc, HC⟩ : ∃ c : UInt32, wr.cell? ⟨G, i, none⟩ = some (.int .u32 c.toNat) ∧ Hid (c = (part8 V sl i).getD i 0) := ⟨_, (HV.out.cell i).trans (wvs_get _ i (by rw [HPL.out]; exact hlt)), rfl⟩
                  obtain ⟨x, hx, HX⟩ : ∃ c : UInt32, wr.cell? ⟨w.heap.size, i, none⟩ = some (.int .u32 c.toNat) ∧ Hid (c = sl.getD i 0) := ⟨_, (HM.out.s.cell i).trans (wvs_get _ i (by rw [HSN.out]; exact hlt)), rfl⟩
                  have hf := HV.out.free i
                  have r1 := Wp_wrap
                  have r2 := Wp_mod
                  go_wp2_with fail
                  refine region_tail 8 (by kernel_rfl) (by kernel_rfl) ?_
                  simp only [List.take_succ_cons, List.take_zero, List.drop_succ_cons, List.drop_zero]
                  repeat still_step
                  refine wpStill_nil ?_
                  go_wp2_with fail
                  go_roundw
                  case rel =>
                    have hn := HN.out
                    rw [← HC.out, ← HX.out] at hn
                    refine ⟨i + 1, by omega, by go_num, (HM.out.other HG.out i _).drewN 1, ?_⟩
                    rw [← hn, ← wvs_set]
                    exact (HV.out.set i _).drewN 1
                  case measure => simp [intOf]; omega
                · rw [show (i : Int) = 8 by omega]
                  obtain ⟨R, hR⟩ : ∃ R, R = (blk ⟨a0, b0, c0, d0, e0, f0, g0, h0⟩ b).list := ⟨_, rfl⟩
                  have hM : Arr wr 97 G (wvs R) := by
                    have h := HV.out
                    rw [show i = 8 by omega, HVE.out, HSL.out, part8_done, add_comm8] at h
                    rw [hR]
                    unfold blk
                    rw [← HKK.out, HR2.out]
                    exact h
                  have HRN : Hid (R.length = 8) := by rw [hR]; rfl
                  have HRE := Lib.hid hR
                  have hZ := HM.out.z
                  have HBL := Lib.hid HM.out.below
                  clear hR HV HM hlt hi hi0
                  go_wp2_with (first
                    | ((with_reducible refine load8w (x := .tmp 13) (o := ⟨some 183, _, _, _, _, _⟩) hM HRN.out ?_ ?_); exact ⟨rfl, rfl, rfl⟩)
                    | ((with_reducible refine store8w (g := w.heap.size + 3) (x := .tmp 6) (y := .tmp 183) (l := R) (o := ⟨none, .store _ _ _, _, _, _, _⟩) hZ HZ.out HRN.out ?_ ?_); exact ⟨rfl, rfl, rfl, rfl⟩))
                  exact bodyPost_ret (res8w rfl (hZ.row _) HRN.out rfl) rfl ⟨by rw [HRE.out], below_row HBL.out (by omega) _⟩
end Go.Proofs.YtlngicddojoogaaGreatDoor
/-
  The reference's Sum.
-/
namespace Go.Proofs.YtlngicddojoogaaGreatDoor
open Go.ChangeShapes Go.WideShapes Go.ChangeAt Go.RowKit
set_option linter.unusedVariables false

/-- What the reference's Sum keeps: the digest's place, the state after k blocks, the table, the bytes. -/
def Rl (w : World) (G K : Nat) (T : List UInt8) (v : Value) (KK : List UInt32) (k : Nat) (wr : World) : Prop :=
  Arr wr 23 w.heap.size (bvs (List.replicate 32 0)) ∧ Arr wr 97 G (wvs (compN k st0 T).list) ∧ Arr wr 103 K (wvs KK) ∧ Held (w.heap.size + 1) wr v T ∧ Below w.heap.size w wr
theorem Rl.later {w wr w' : World} {G K : Nat} {T : List UInt8} {v : Value} {KK : List UInt32} {k : Nat} (h : Rl w G K T v KK k wr) (hb : Below wr.heap.size wr w') : Rl w G K T v KK k w' :=
  ⟨h.1.later hb, h.2.1.later hb, h.2.2.1.later hb, h.2.2.2.1.later hb, h.2.2.2.2.trans (hb.mono h.2.2.2.2.size)⟩
theorem Rl.next {w wr : World} {G K : Nat} {T : List UInt8} {v : Value} {KK : List UInt32} {k : Nat} (h : Rl w G K T v KK k wr) (hG : w.heap.size + 1 ≤ G) (hv : ∀ a n c, v = .slice (some a) n c → a.block < G) (hK : K ≠ G) :
    Rl w G K T v KK (k + 1) (wr.setRow G (wvs (blk (compN k st0 T) ((T.drop (64 * k)).take 64)).list).toArray) := by
  have hb : Below G wr (wr.setRow G (wvs (blk (compN k st0 T) ((T.drop (64 * k)).take 64)).list).toArray) := below_row (Below.refl _ _) (Nat.le_refl _) _
  refine ⟨h.1.below hb (by omega), ?_, h.2.2.1.row_other hK _, h.2.2.2.1.under hv hb, below_row h.2.2.2.2 (by omega) _⟩
  rw [comp_succ]
  exact h.2.1.row _
set_option maxRecDepth 100000 in
set_option maxHeartbeats 1000000 in
theorem rsum_any {w : World} {v : Value} {l : List UInt8} (hr : Rd w.heap.size w v l) (hl : l.length ≤ 1000000) :
    Calls Tryz.prog 34 #[v] w fun e w' => e = .returned (.agg (bvs (digest l)).toArray) ∧ Below w.heap.size w w' := by
  have HR := Lib.hid hr
  obtain ⟨q, c, rfl, hc1, hc2⟩ := hr.form
  have HL := Lib.hid hl
  have HLN : Hid (([] : List UInt8).length + l.length ≤ 140737488355328) := by show _ ≤ _; simp; omega
  have HB0 : Hid (∀ (z y : Array Value) (t t' : TypeId), Below w.heap.size w ((w.alloc (.cells z t)).alloc (.cells y t'))) := fun z y t t' => ((Below.refl _ _).alloc (Nat.le_refl _) _).alloc (by simp) _
  have HH0 : Hid (∀ (z y : Array Value) (t t' : TypeId), Held (w.heap.size + 1) ((w.alloc (.cells z t)).alloc (.cells y t')) (.slice (some ⟨w.heap.size + 1, 0, none⟩) 0 0) []) := fun z y t t' =>
    .inr ⟨w.heap.size + 1, 0, 0, rfl, by simp, by unfold maxLen; omega, by omega, by simp, fun i hi => absurd hi (by simp), fun i hi => absurd hi (by omega)⟩
  have HR0 : Hid (∀ (z y : Array Value) (t t' : TypeId), Rd w.heap.size ((w.alloc (.cells z t)).alloc (.cells y t')) (.slice q l.length c) l) := fun z y t t' => HR.out.below (HB0.out z y t t') (Nat.le_refl _)
  have HA0 : Hid (∀ (z y : Array Value) (t t' : TypeId), Arr ((w.alloc (.cells z t)).alloc (.cells y t')) t w.heap.size z.toList) := fun z y t t' => (Arr.new w t z).alloc _
  have HS0 : Hid (∀ (z y : Array Value) (t t' : TypeId), w.heap.size + 1 ≤ ((w.alloc (.cells z t)).alloc (.cells y t')).heap.size) := fun z y t t' => by simp
  clear hr hl hc1 hc2
  go_enter Tryz.func34, Tryz.ntmps34
  go_wp2_with (at_builtin; refine app_held rfl (.tmp 9) (.tmp 10) rfl rfl (HH0.out _ _ _ _) rfl (HR0.out _ _ _ _) HLN.out (HS0.out _ _ _ _) ?_; intro v1 w1 h1 b1)
  have HB1 := Lib.hid ((HB0.out _ _ _ _).trans (b1.mono (by omega)))
  have HA1 : Hid (Arr w1 23 w.heap.size (bvs (List.replicate 32 0))) := Arr.below (HA0.out _ _ _ _) b1 (by omega)
  have hsz1 : w.heap.size + 1 ≤ w1.heap.size := Nat.le_trans (HS0.out _ _ _ _) b1.size
  rw [List.nil_append] at h1
  have HH1 := Lib.hid h1
  clear b1 h1 HR0 HA0 HS0 HH0 HB0 HLN
  have HSZ1 := Lib.hid hsz1
  clear hsz1
  refine (rpad_any l.length (by have := HL.out; omega) w1).mono ?_
  rintro e w2 ⟨v2, rfl, o2, b2⟩
  have HB2 := Lib.hid (HB1.out.trans (b2.mono HB1.out.size))
  have HA2 := Lib.hid (HA1.out.later b2)
  have HSZ2 := Lib.hid (Nat.le_trans HSZ1.out b2.size)
  have HH2 := Lib.hid (HH1.out.later b2)
  have HR2 := Lib.hid (Rd.of_own o2)
  obtain ⟨P, hP⟩ : ∃ P, P = padding l.length := ⟨_, rfl⟩
  rw [← hP] at HR2
  have HPL : Hid (P.length ≤ 72) := by
    have := padding_length l.length
    have hz : zeros l.length < 64 := by unfold zeros; omega
    show _ ≤ _; rw [hP]; omega
  have HPM : Hid ((l ++ P).length % 64 = 0) := by
    have := padding_whole l.length
    show _ = _; rw [List.length_append, hP]; omega
  have HP := Lib.hid hP
  have HLN : Hid (l.length + P.length ≤ 140737488355328) := by have := HL.out; have := HPL.out; show _ ≤ _; omega
  clear o2 b2 hP HB1 HA1 HH1 HSZ1
  go_wp2_with (at_builtin; refine app_held rfl (.tmp 11) (.tmp 14) rfl rfl HH2.out rfl HR2.out HLN.out HSZ2.out ?_; intro v3 w3 h3 b3)
  have HB3 := Lib.hid (HB2.out.trans (b3.mono (by omega)))
  have HA3 := Lib.hid (HA2.out.below b3 (by omega))
  have HSZ3 := Lib.hid (Nat.le_trans HSZ2.out b3.size)
  obtain ⟨T, hT⟩ : ∃ T, T = l ++ P := ⟨_, rfl⟩
  have HTL : Hid (T.length % 64 = 0 ∧ T.length ≤ 1000100) := by
    have h1 := HPM.out; have h2 := HPL.out; have h3 := HL.out
    rw [← hT] at h1
    refine ⟨h1, ?_⟩
    rw [hT, List.length_append]; omega
  have HD : Hid (joinS (compN (T.length / 64) st0 T) = digest l) := by show _ = _; rw [hT, HP.out]; rfl
  rw [← hT] at h3
  have HH3 := Lib.hid h3
  clear h3 b3 hT HB2 HA2 HSZ2 HH2 HR2 HPL HPM HP HLN HR HL
  refine (rstart_any w3).mono ?_
  rintro e w4 ⟨rfl, b4⟩
  have HB4 := Lib.hid (HB3.out.trans (b4.mono HB3.out.size))
  have HA4 := Lib.hid (HA3.out.later b4)
  have HSZ4 := Lib.hid (Nat.le_trans HSZ3.out b4.size)
  have HH4 := Lib.hid (HH3.out.later b4)
  clear b4 HB3 HA3 HSZ3 HH3
  obtain ⟨S0, hS0⟩ : ∃ S0, S0 = st0.list := ⟨_, rfl⟩
  rw [← hS0]
  have HS0 := Lib.hid hS0
  have HS0L : Hid (S0.length = 8) := by rw [hS0]; rfl
  clear hS0
  go_wp2_with ((with_reducible refine new8w (x := .tmp 4) (y := .tmp 16) (l := S0) (o := ⟨none, .store _ _ _, _, _, _, _⟩) HS0L.out ?_ ?_); exact ⟨rfl, rfl, rfl, rfl, rfl⟩)
  have hba : Below w4.heap.size w4 (w4.alloc (.cells (wvs S0).toArray 97)) := (Below.refl _ _).alloc (Nat.le_refl _) _
  have HB5 := Lib.hid (HB4.out.trans (hba.mono HB4.out.size))
  have HA5 := Lib.hid (HA4.out.later hba)
  have HH5 := Lib.hid (HH4.out.later hba)
  have HG5 : Hid (w.heap.size + 1 ≤ w4.heap.size ∧ ∀ a n c, v3 = .slice (some a) n c → a.block < w4.heap.size) := ⟨HSZ4.out, HH4.out.lt⟩
  have HS5 : Hid (Arr (w4.alloc (.cells (wvs S0).toArray 97)) 97 w4.heap.size (wvs S0)) := Arr.new' w4 _ _ (wvs S0) (by simp)
  generalize w4.alloc (.cells (wvs S0).toArray 97) = w5 at HB5 HA5 HH5 HS5 ⊢
  clear hba HB4 HA4 HSZ4 HH4
  generalize w4.heap.size = G at HG5 HS5 ⊢
  refine (rtable_any w5).mono ?_
  rintro e w6 ⟨rfl, b6⟩
  have HB6 := Lib.hid (HB5.out.trans (b6.mono HB5.out.size))
  have HA6 := Lib.hid (HA5.out.later b6)
  have HS6 := Lib.hid (HS5.out.later b6)
  have HH6 := Lib.hid (HH5.out.later b6)
  clear b6 HB5 HA5 HS5 HH5
  obtain ⟨KK, hKK⟩ : ∃ KK, KK = kk := ⟨_, rfl⟩
  rw [← hKK]
  have HKK := Lib.hid hKK
  have HKL : Hid (KK.length = 64) := by rw [hKK]; rfl
  clear hKK
  go_wp2_with ((with_reducible refine new64w (x := .tmp 5) (y := .tmp 17) (l := KK) (o := ⟨none, .store _ _ _, _, _, _, _⟩) HKL.out ?_ ?_); exact ⟨rfl, rfl, rfl, rfl, rfl⟩)
  have hbk : Below w6.heap.size w6 (w6.alloc (.cells (wvs KK).toArray 103)) := (Below.refl _ _).alloc (Nat.le_refl _) _
  have HRL : Hid (Rl w G w6.heap.size T v3 KK 0 (w6.alloc (.cells (wvs KK).toArray 103))) := by
    refine ⟨HA6.out.later hbk, ?_, Arr.new' w6 _ _ (wvs KK) (by simp), HH6.out.later hbk, HB6.out.trans (hbk.mono HB6.out.size)⟩
    have := HS6.out.later hbk
    rw [HS0.out] at this
    exact this
  have HKG : Hid (w6.heap.size ≠ G) := Nat.ne_of_gt HS6.out.lt
  generalize w6.alloc (.cells (wvs KK).toArray 103) = w7 at HRL ⊢
  clear hbk HB6 HA6 HS6 HH6 HS0 HS0L
  generalize w6.heap.size = K at HRL HKG ⊢
  go_loopw [6] (fun iv wr => ∃ k : Nat, 64 * k ≤ T.length ∧ iv = .int .i64 (64 * k : Nat) ∧ Hid (Rl w G K T v3 KK k wr)) (fun iv _ => T.length - (intOf iv).toNat)
  case atStart => exact ⟨0, by omega, rfl, HRL.out⟩
  case round =>
    obtain ⟨k, hk, rfl, HM⟩ := hrel
    clear HRL
    obtain ⟨j, hj⟩ : ∃ j, j = 64 * k := ⟨_, rfl⟩
    obtain ⟨n, hn⟩ : ∃ n, n = T.length := ⟨_, rfl⟩
    have hn1 : n ≤ 1000100 := by rw [hn]; exact HTL.out.2
    have hnm : n % 64 = 0 := by rw [hn]; exact HTL.out.1
    rw [← hj]
    rw [← hj, ← hn] at hk
    by_cases hlt : j < n
    · have h64 : j + 64 ≤ n := by omega
      have HHe := HM.out.2.2.2.1
      rcases HHe with ⟨_, h0⟩ | ⟨g, off, c3, rfl, h1, h2, h3, h4, h5, h6⟩
      · rw [h0] at hn; simp at hn; omega
      have HRG : Hid (wr.rangeAt g (off + j) (bvs ((T.drop j).take 64))) := by
        refine range_bytes (l := T.drop j) (fun i hi => ?_) 64 (by rw [List.length_drop]; omega)
        rw [List.length_drop] at hi
        rw [Nat.add_assoc, h5 (j + i) (by omega)]
        congr 2
        simp [List.getD_eq_getElem?_getD]
      rw [← hn] at HM HG5 h1 ⊢
      have i0 : (0 : Int) ≤ j := by omega
      have i1 : (j : Int) < n := by omega
      have i2 : (j : Int) + 64 ≤ n := by omega
      have i3 : (j : Int) + 64 ≤ c3 := by omega
      have i4 : (n : Int) ≤ c3 := by omega
      have i5 : IntKind.i64.wrap ((j : Int) + 64) = (j : Int) + 64 := by rw [IntKind.wrap_i64]; omega
      have i6 : (0 : Int) ≤ (j : Int) + 64 := by omega
      have i7 : ((j : Int) + 64).toNat = j + 64 := by omega
      have i8 : ¬ c3 = j := by omega
      have i9 : j ≤ j + 64 := by omega
      have i10 : j + 64 - j = 64 := by omega
      clear h2 h3 h4 h5 h6
      have HT64 : Hid (((T.drop j).take 64).length = 64) := by show _ = _; rw [List.length_take, List.length_drop, ← hn]; omega
      have HJ := Lib.hid hj
      have HN := Lib.hid hn
      clear hj hn
      go_wp2_with fail
      refine region_tail 9 (by kernel_rfl) (by kernel_rfl) ?_
      simp only [List.take_succ_cons, List.take_zero, List.drop_succ_cons, List.drop_zero]
      have hM : Rl w G K T (.slice (some ⟨g, off, none⟩) n c3) KK k wr.drew := HM.out.later (Below.refl _ _).drew
      have hR : wr.drew.rangeAt g (off + j) (bvs (List.take 64 (List.drop j T))) := HRG.out
      clear HM HRG
      generalize wr.drew = w8 at hM hR ⊢
      have HM := Lib.hid hM
      have hS := hM.2.1
      have hK := hM.2.2.1
      clear hM
      obtain ⟨S, hS8⟩ : ∃ S, S = compN k st0 T := ⟨_, rfl⟩
      rw [← hS8] at hS
      have HS8 := Lib.hid hS8
      clear hS8
      have HL8 : Hid (S.list.length = 8) := rfl
      ((with_reducible refine still8w (x := .tmp 4) (o := ⟨some 24, _, _, _, _, _⟩) hS HL8.out ?_ ?_); exact ⟨rfl, rfl, rfl⟩)
      have har := arr_at ⟨g, off + j, none⟩ 64 (c3 - j) (by omega)
      still_step
      still_step
      still_step
      still_step
      still_step
      still_step
      ((with_reducible refine still64b (x := .tmp 30) (o := ⟨some 31, _, _, _, _, _⟩) hR HT64.out ?_ ?_); exact ⟨rfl, rfl, rfl⟩)
      ((with_reducible refine still64w (x := .tmp 5) (o := ⟨some 32, _, _, _, _, _⟩) hK HKL.out ?_ ?_); exact ⟨rfl, rfl, rfl⟩)
      refine wpStill_nil ?_
      have HK8 := Lib.hid hK
      have HSS := Lib.hid hS
      clear hK hS hR har
      go_wp2_with fail
      have hbk := rblock_any S (List.take 64 (List.drop j T)) HT64.out w8
      rw [← HKK.out] at hbk
      refine hbk.mono ?_
      clear hbk
      rintro e w9 ⟨rfl, b9⟩
      obtain ⟨R, hRR⟩ : ∃ R, R = (blk S (List.take 64 (List.drop j T))).list := ⟨_, rfl⟩
      rw [← hRR]
      have HBL : Hid (R.length = 8) := by rw [hRR]; rfl
      have HRR := Lib.hid hRR
      clear hRR
      have hA := HSS.out.later b9
      have HBN : Hid ((wvs S.list).length = 8) := rfl
      have HM9 := Lib.hid (HM.out.later b9)
      clear b9 HM HSS HK8
      go_wp2_with ((with_reducible refine store8w (x := .tmp 4) (y := .tmp 33) (l := R) (o := ⟨none, .store _ _ _, _, _, _, _⟩) hA HBN.out HBL.out ?_ ?_); exact ⟨rfl, rfl, rfl, rfl⟩)
      have hnx := HM9.out.next HG5.out.1 HG5.out.2 HKG.out
      rw [← HJ.out, ← HS8.out, ← HRR.out] at hnx
      have HNX := Lib.hid hnx
      have hj2 : j + 64 = 64 * (k + 1) := by have := HJ.out; omega
      clear hnx HM9 hA
      go_roundw
      case rel =>
        refine ⟨k + 1, ?_, ?_, HNX.out⟩
        · have := HN.out; omega
        · rw [← hj2]; go_num
      case measure => simp [intOf]; have := HN.out; omega
    · have hjn : j = n := by omega
      have hkq : k = T.length / 64 := by omega
      obtain ⟨S, hS8⟩ : ∃ S, S = compN k st0 T := ⟨_, rfl⟩
      have HDS : Hid (joinS S = digest l) := by show _ = _; rw [hS8, hkq]; exact HD.out
      have HJD := Lib.hid (jpart_done S)
      obtain ⟨L, hL⟩ : ∃ L, L = S.list := ⟨_, rfl⟩
      rw [← hL] at HJD
      have HLL : Hid (L.length = 8) := by rw [hL]; rfl
      have HM2 : Hid (Arr wr 23 w.heap.size (bvs (jpart L 0)) ∧ Arr wr 97 G (wvs L) ∧ Below w.heap.size w wr) := by
        refine ⟨?_, ?_, HM.out.2.2.2.2⟩
        · rw [jpart_zero]; exact HM.out.1
        · rw [hL, hS8]; exact HM.out.2.1
      have HHF := HM.out.2.2.2.1.form
      obtain ⟨q3, c3, rfl, _, _⟩ := HHF
      rw [← hn]
      rw [hjn]
      clear HM hk hlt hnm hS8 hL hkq hj hjn HD HTL hn
      go_wp2_with fail
      obtain ⟨wo, hwo⟩ : ∃ wo, wo = wr := ⟨_, rfl⟩
      subst hwo
      have hlo := HM2.out.2.2.size
      have HGW : Hid (wo.heap.size ≠ G ∧ w.heap.size < wo.heap.size) := ⟨Nat.ne_of_gt HM2.out.2.1.lt, HM2.out.1.lt⟩
      have HST : Hid (∀ z : Array Value, z.toList = bvs (jpart L 0) → Arr (wo.alloc (.cells z 23)) 23 wo.heap.size (bvs (jpart L 0)) ∧ Arr (wo.alloc (.cells z 23)) 97 G (wvs L) ∧ Arr (wo.alloc (.cells z 23)) 23 w.heap.size (bvs (jpart L 0)) ∧ Below w.heap.size w (wo.alloc (.cells z 23))) :=
        fun z hz => ⟨Arr.new' _ _ _ _ hz, HM2.out.2.1.alloc _, HM2.out.1.alloc _, HM2.out.2.2.alloc hlo _⟩
      clear HG5 HKG HKK HKL hlo HM2
      go_loopw [8] (fun iv wr => ∃ i : Nat, i ≤ 32 ∧ iv = .int .i64 i ∧ Hid (Arr wr 23 wo.heap.size (bvs (jpart L i)) ∧ Arr wr 97 G (wvs L) ∧ Arr wr 23 w.heap.size (bvs (jpart L 0)) ∧ Below w.heap.size w wr)) (fun iv _ => 32 - (intOf iv).toNat)
      case atStart => exact ⟨0, by omega, rfl, HST.out _ (by rw [jpart_zero]; rfl)⟩
      case round =>
        obtain ⟨i, hi, rfl, HK⟩ := hrel
        clear HST
        have hi0 : (0 : Int) ≤ i := by omega
        by_cases hlt : i < 32
        · have hlt1 : (i : Int) < 32 := by omega
          have hf := HK.out.1.free i
          have hc := (HK.out.1.cell i).trans (bvs_getElem _ _ (by rw [jpart_length]; omega))
          have hd := (HK.out.2.1.cell (i / 4)).trans (wvs_get L (i / 4) (by rw [HLL.out]; omega))
          have h0 : (0 : Int) ≤ (i : Int) / 4 := by omega
          have h1 : (i : Int) / 4 < 8 := by omega
          have h2 : (0 : Int) ≤ 24 - 8 * ((i : Int) % 4) := by omega
          unfold bv at hc
          go_wp2_with fail
          go_roundw
          case rel =>
            refine ⟨i + 1, by omega, by go_num, ?_⟩
            have hv := jbyte_val L (i / 4) (i % 4) (Nat.mod_lt _ (by omega))
            rw [show 4 * (i / 4) + i % 4 = i from Nat.div_add_mod _ _, List.getD_eq_getElem?_getD] at hv
            rw [hv, ← jpart_next L i (by omega), ← bvs_set]
            exact ⟨HK.out.1.set _ _, HK.out.2.1.setCell (Ne.symm HGW.out.1) _, HK.out.2.2.1.setCell (Nat.ne_of_lt HGW.out.2) _, HK.out.2.2.2.setCell (Nat.le_of_lt HGW.out.2) _⟩
          case measure => simp [intOf]; omega
        · rw [show (i : Int) = 32 by omega]
          have HK2 : Hid (Arr wr 23 wo.heap.size (bvs (digest l)) ∧ Arr wr 23 w.heap.size (bvs (jpart L 0)) ∧ Below w.heap.size w wr) := by
            rw [← HDS.out, ← HJD.out, show 32 = i by omega]; exact ⟨HK.out.1, HK.out.2.2⟩
          clear HK hlt hi hi0
          obtain ⟨R, hR⟩ : ∃ R, R = digest l := ⟨_, rfl⟩
          have HRL : Hid (R.length = 32) := by rw [hR, ← HDS.out]; exact joinS_length S
          rw [← hR] at HK2
          have HRE := Lib.hid hR
          clear hR
          have hM := HK2.out.1
          have hO := HK2.out.2.1
          have HO : Hid ((bvs (jpart L 0)).length = 32) := by show _ = _; rw [bvs_length, jpart_length]
          go_wp2_with (first
            | ((with_reducible refine load32b (x := .tmp 7) (o := ⟨some 51, _, _, _, _, _⟩) hM HRL.out ?_ ?_); exact ⟨rfl, rfl, rfl⟩)
            | ((with_reducible refine store32b (x := .tmp 2) (y := .tmp 51) (l := R) (o := ⟨none, .store _ _ _, _, _, _, _⟩) hO HO.out HRL.out ?_ ?_); exact ⟨rfl, rfl, rfl, rfl⟩))
          exact bodyPost_ret (res32b rfl (hO.row _) HRL.out rfl) rfl ⟨by rw [HRE.out], below_row HK2.out.2.2 (Nat.le_refl _) _⟩
end Go.Proofs.YtlngicddojoogaaGreatDoor
/-
  vestryref25.Footer.
-/
namespace Go.Proofs.YtlngicddojoogaaGreatDoor
open Go.ChangeShapes Go.WideShapes Go.ChangeAt Go.RowKit
open errAs (ErrT)
set_option linter.unusedVariables false

theorem flat_len : ∀ ls : List (List UInt8), ls.flatten.length = total ls
  | [] => rfl
  | l :: ls => by rw [List.flatten_cons, List.length_append, flat_len ls]; simp [total]
set_option maxRecDepth 100000 in
set_option maxHeartbeats 1000000 in
theorem rsfoot_any {B : Nat} {w : World} {oa : Option Addr} {cap : Nat} {ls : List (List UInt8)} (hr : RdAll B w oa ls) (hB : B ≤ w.heap.size) (hn : ls.length ≤ 1000000) (ht : total ls ≤ 1000000) :
    Calls Tryz.prog 16 #[.slice oa ls.length cap] w fun e w' => ∃ v, e = .returned v ∧ Rd w'.heap.size w' v (footL ls) ∧ Below w.heap.size w w' := by
  have HJ := Lib.hid (rjoin_any (cap := cap) hr hB (by omega) (by omega))
  have HNL : Hid (ls.length < lim64) := by show _ < _; unfold lim64; omega
  have HCV : Hid (∀ w, (convert 3 22 (.int .i64 (ls.length : Nat))).run Tryz.prog w = .ok (.int .u64 ls.length) w) := convN ls.length (by omega)
  have HFL : Hid (ls.flatten.length ≤ 1000000) := by show _ ≤ _; rw [flat_len]; exact ht
  obtain ⟨T, hT⟩ : ∃ T, T = ls.flatten := ⟨_, rfl⟩
  obtain ⟨D, hD⟩ : ∃ D, D = digest T := ⟨_, rfl⟩
  have HDL : Hid (D.length = 32) := by rw [hD]; exact joinS_length _
  have HF : Hid (footL ls = vend ++ (put ls.length ++ D)) := by show _ = _; rw [hD, hT]; rfl
  have HDD := Lib.hid hD
  rw [← hT] at HJ HFL
  obtain ⟨n, hnn⟩ : ∃ n, n = ls.length := ⟨_, rfl⟩
  rw [← hnn] at HJ HNL HCV HF ⊢
  clear hD hT hr hn ht hnn
  go_enter Tryz.func16, Tryz.ntmps16
  go_wp2_with fail
  refine HJ.out.mono ?_
  rintro e w1 ⟨v1, rfl, o1, b1⟩
  have HR1 := Lib.hid (Rd.of_own o1)
  have HB1 := Lib.hid b1
  obtain ⟨q1, c1, rfl⟩ := rd_form HR1.out
  clear o1 b1 HJ
  go_wp2_with fail
  refine (rsum_any HR1.out HFL.out).mono ?_
  rintro e w2 ⟨rfl, b2⟩
  rw [← HDD.out]
  have HB2 := Lib.hid (HB1.out.trans (b2.mono HB1.out.size))
  clear b2 HB1 HR1
  have hA : Arr (w2.alloc (.cells (bvs D).toArray 23)) 23 w2.heap.size (bvs D) := Arr.new' w2 _ _ _ (by simp)
  have hsz : (w2.alloc (.cells (bvs D).toArray 23)).heap.size = w2.heap.size + 1 := by simp
  have hcl := Joins.run_convert_bytes_const_at (P := Tryz.prog) (w2.alloc (.cells (bvs D).toArray 23)) 27 5 #[.int .u8 86, .int .u8 69, .int .u8 78, .int .u8 68] 4 4 (w2.heap.size + 1) hsz.symm Tryz.underlying27 Tryz.underlying5
  have HM := Lib.hid (held_marked (w2.alloc (.cells (bvs D).toArray 23)) (w2.heap.size + 1) (Nat.le_of_eq hsz.symm) vend #[.int .u8 86, .int .u8 69, .int .u8 78, .int .u8 68] 4 rfl rfl (by decide))
  rw [hsz] at HM
  have hb2 : Below w2.heap.size w2 (w2.alloc (.cells (bvs D).toArray 23)) := (Below.refl _ _).alloc (Nat.le_refl _) _
  have hb3 : Below (w2.alloc (.cells (bvs D).toArray 23)).heap.size (w2.alloc (.cells (bvs D).toArray 23)) ((w2.alloc (.cells (bvs D).toArray 23)).alloc (.cells #[.int .u8 86, .int .u8 69, .int .u8 78, .int .u8 68] 5 (4, 5))) := (Below.refl _ _).alloc (Nat.le_refl _) _
  have HA3 := Lib.hid (hA.later hb3)
  have hb23 := hb2.trans (hb3.mono hb2.size)
  have HB3 := Lib.hid (HB2.out.trans (hb23.mono HB2.out.size))
  have HS2 : Hid (w.heap.size ≤ w2.heap.size) := HB2.out.size
  have hcv := HCV.out
  clear hb2 hb3 hb23 hA hsz HB2
  go_wp2_with ((with_reducible refine at32b w2.heap.size (x := .tmp 3) (y := .tmp 7) (l := D) (o := ⟨none, .store _ _ _, _, _, _, _⟩) HDL.out ?_ ?_); exact ⟨rfl, rfl, rfl, rfl, rfl, rfl⟩)
  refine (rput n HNL.out _).mono ?_
  rintro e w4 ⟨v4, rfl, o4, b4⟩
  have HA4 := Lib.hid (HA3.out.later b4)
  have HB4 := Lib.hid (HB3.out.trans (b4.mono HB3.out.size))
  have HH4 := Lib.hid (HM.out.later b4)
  have HP4 := Lib.hid (Rd.of_own o4)
  obtain ⟨qb, cb, rfl⟩ := rd_form HP4.out
  have HG4 : Hid (w2.heap.size + 1 ≤ w4.heap.size) := HA4.out.lt
  have HL4 : Hid (vend.length + (put n).length ≤ 140737488355328) := by have := put_len10 (x := n) HNL.out; show _ ≤ _; simp [vend]; omega
  clear o4 b4 HA3 HB3 HM hcl hcv
  go_wp2_with (at_builtin; refine app_held rfl (.tmp 9) (.tmp 13) rfl rfl HH4.out rfl HP4.out HL4.out HG4.out ?_)
  intro v5 w5 h5 b5
  have HA5 := Lib.hid (HA4.out.below b5 (by omega))
  have HB5 := Lib.hid (HB4.out.trans (b5.mono (by have := HS2.out; omega)))
  have HG5 := Lib.hid (Nat.le_trans HG4.out b5.size)
  have HR5 : Hid (Rd w5.heap.size w5 (.slice (some ⟨w2.heap.size, 0, none⟩) 32 32) D) := rd_bvs HA5.out HDL.out
  have HL5 : Hid ((vend ++ put n).length + D.length ≤ 140737488355328) := by have := put_len10 (x := n) HNL.out; have := HDL.out; show _ ≤ _; rw [List.length_append]; simp [vend]; omega
  have HH5 := Lib.hid h5
  clear b5 h5 HA4 HB4 HH4 HG4 HL4 HP4
  go_wp2_with (at_builtin; refine app_held rfl (.tmp 15) (.tmp 16) rfl rfl HH5.out rfl HR5.out HL5.out HG5.out ?_)
  intro v6 w6 h6 b6
  have HB6 := Lib.hid (HB5.out.trans (b6.mono (by have := HS2.out; omega)))
  have HR6 : Hid (Rd w6.heap.size w6 v6 (footL ls)) := by
    have := h6.rd
    rw [HF.out]
    show Rd _ _ _ _
    simpa [List.append_assoc] using this
  clear b6 h6 HA5 HB5 HH5 HG5 HL5 HR5
  obtain ⟨qd, cd, rfl⟩ := rd_form HR6.out
  go_wp2_with fail
  go_ret
  exact ⟨_, rfl, HR6.out, HB6.out⟩
end Go.Proofs.YtlngicddojoogaaGreatDoor
