/-
  An empty schema: Clone, canon.Schema; the store that New makes.
-/
import Derived.Test.YtlngicddojoogaaGreatDoorMs0
import Derived.Test.YtlngicddojoogaaGreatDoorStepW
import Derived.Deep.RegionHeld3
import Derived.Deep.RegionLaw
import Derived.Deep.Cut
import Derived.Test.YtlngicddojoogaaGreatDoorRefNumAt
import Derived.Test.YtlngicddojoogaaGreatDoorTold
namespace Go.Proofs.YtlngicddojoogaaGreatDoor
open Go.ChangeShapes Go.WideShapes Go.ChangeAt Go.RowKit
set_option linter.unusedVariables false

section
variable {ops : Array Oper} {rest : List Oper} {o : Oper} {a : Act} {Q : Exit → Act → World → Prop} {w : World} {g : Nat} {x y : Operand}
theorem loadS {t : TypeId} (hA : Arr w t g [.slice none 0 0]) (hs : o.guard = none ∧ o.op = .load 72 x ∧ a.eval x = .pointer (some ⟨g, 0, none⟩))
    (hk : wpList Tryz.prog ops Q rest (a.put o.dst (.agg #[.slice none 0 0])) w) : wpList Tryz.prog ops Q (o :: rest) a w :=
  load_arr hs.1 _ x hs.2.1 hA hs.2.2 Tryz.underlying72 rfl (by kernel_rfl) hk
theorem storeS {t : TypeId} (hA : Arr w t g [.slice none 0 0]) (hs : o.guard = none ∧ o.op = .store 72 x y ∧ a.eval x = .pointer (some ⟨g, 0, none⟩) ∧ a.eval y = .agg #[.slice none 0 0])
    (hk : wpList Tryz.prog ops Q rest (a.put o.dst undef) w) : wpList Tryz.prog ops Q (o :: rest) a w :=
  store_arr hs.1 _ x y hs.2.1 hA (cs := [.slice none 0 0]) hs.2.2.1 hs.2.2.2 (by kernel_rfl) rfl (by simp [Value.oneCell']) (by
    have e : w.setRow g [Value.slice none 0 0].toArray = w := by
      have hg : g < w.heap.size := hA.lt
      cases w
      simp only [World.setRow] at *
      congr 1
      apply Array.ext_getElem?
      intro i
      rw [Array.getElem?_modify]
      split
      · next h => subst h; rw [show _ = _ from hA]; rfl
      · rfl
    rw [e]; exact hk)
end
set_option maxRecDepth 100000 in
theorem sclone_nil (w : World) : Calls Tryz.prog 89 #[.agg #[.slice none 0 0]] w fun e w' => e = .returned (.agg #[.slice none 0 0]) ∧ Below w.heap.size w w' := by
  have h2 : Below w.heap.size w ((w.alloc (.cells #[.slice none 0 0] 72)).alloc (.cells #[.slice none 0 0] 72)) := ((Below.refl _ _).alloc (Nat.le_refl _) _).alloc (by simp) _
  have hA1 : Arr ((w.alloc (.cells #[.slice none 0 0] 72)).alloc (.cells #[.slice none 0 0] 72)) 72 (w.heap.size + 1) [.slice none 0 0] := Arr.new2 w _ _ _ _ rfl
  have hA0 : Arr ((w.alloc (.cells #[.slice none 0 0] 72)).alloc (.cells #[.slice none 0 0] 72)) 72 w.heap.size [.slice none 0 0] := (Arr.new' w _ _ _ rfl).alloc _
  have hc0 := hA0.cell 0
  simp only [List.getElem?_cons_zero] at hc0
  have HB := Lib.hid h2
  have HA1 := Lib.hid hA1
  clear h2 hA1 hA0
  go_enter Tryz.func89, Tryz.ntmps89
  go_wp2_with fail
  refine (cloneD_nil _).mono ?_
  rintro e w1 ⟨rfl, h1⟩
  have HB1 : Hid (Below w.heap.size w w1) := by show Below _ _ _; rw [← h1]; exact HB.out
  have HA2 : Hid (Arr w1 72 (w.heap.size + 1) [.slice none 0 0]) := by show Arr _ _ _ _; rw [← h1]; exact HA1.out
  clear h1 hc0 HB HA1
  go_wp2_with fail
  go_loopw [11] (fun iv wr => iv = .int .i64 0 ∧ wr = w1) (fun _ _ => 0)
  case atStart => exact ⟨rfl, rfl⟩
  case round =>
    obtain ⟨rfl, rfl⟩ := hrel
    go_wp2_with ((with_reducible refine storeS (x := .tmp 2) (y := .tmp 25) (o := ⟨none, .store _ _ _, _, _, _, _⟩) HA2.out ?_ ?_); exact ⟨rfl, rfl, rfl, rfl⟩)
    refine bodyPost_ret (results_cell_row rfl _ _ (w.heap.size + 1) 72 #[.slice none 0 0] (0, 0) _ rfl HA2.out Tryz.underlying72 rfl (by kernel_rfl)) rfl ⟨rfl, HB1.out⟩
set_option maxRecDepth 100000 in
theorem canon_nil (w : World) : Calls Tryz.prog 73 #[.agg #[.slice none 0 0]] w fun e w' => e = .returned (.agg #[.slice none 0 0]) ∧ Below w.heap.size w w' := by
  have h2 : Below w.heap.size w ((w.alloc (.cells #[.slice none 0 0] 72)).alloc (.cells #[.slice none 0 0] 72)) := ((Below.refl _ _).alloc (Nat.le_refl _) _).alloc (by simp) _
  have hA1 : Arr ((w.alloc (.cells #[.slice none 0 0] 72)).alloc (.cells #[.slice none 0 0] 72)) 72 (w.heap.size + 1) [.slice none 0 0] := Arr.new2 w _ _ _ _ rfl
  have hA0 : Arr ((w.alloc (.cells #[.slice none 0 0] 72)).alloc (.cells #[.slice none 0 0] 72)) 72 w.heap.size [.slice none 0 0] := (Arr.new' w _ _ _ rfl).alloc _
  have HB := Lib.hid h2
  have HA1 := Lib.hid hA1
  have HA0 := Lib.hid hA0
  clear h2 hA1 hA0
  go_enter Tryz.func73, Tryz.ntmps73
  go_wp2_with ((with_reducible refine loadS (x := .tmp 1) (o := ⟨some 8, _, _, _, _, _⟩) HA0.out ?_ ?_); exact ⟨rfl, rfl, rfl⟩)
  refine (sclone_nil _).mono ?_
  rintro e w1 ⟨rfl, b1⟩
  have HB1 := Lib.hid (HB.out.trans (b1.mono HB.out.size))
  have HA2 := Lib.hid (HA1.out.later b1)
  clear b1 HB HA1 HA0
  have hA3 : Arr (w1.alloc (.cells #[.slice none 0 0] 72)) 72 w1.heap.size [.slice none 0 0] := Arr.new' w1 _ _ _ rfl
  have hb3 : Below w1.heap.size w1 (w1.alloc (.cells #[.slice none 0 0] 72)) := (Below.refl _ _).alloc (Nat.le_refl _) _
  have hc3 := hA3.cell 0
  simp only [List.getElem?_cons_zero] at hc3
  have HA3 := Lib.hid hA3
  have HB3 := Lib.hid (HB1.out.trans (hb3.mono HB1.out.size))
  have HA4 := Lib.hid (HA2.out.later hb3)
  clear hb3 hA3 HB1 HA2
  go_wp2_with ((with_reducible refine storeS (x := .tmp 3) (y := .tmp 9) (o := ⟨none, .store _ _ _, _, _, _, _⟩) HA3.out ?_ ?_); exact ⟨rfl, rfl, rfl, rfl⟩)
  refine (sorts_nil _ _).mono ?_
  rintro e w2 ⟨rfl, h2⟩
  rw [h2] at HA3 HB3 HA4 hc3
  clear h2
  go_wp2_with fail
  go_loopw [16] (fun iv wr => iv = .int .i64 0 ∧ wr = w2) (fun _ _ => 0)
  case atStart => exact ⟨rfl, rfl⟩
  case round =>
    obtain ⟨rfl, rfl⟩ := hrel
    go_wp2_with (first
      | ((with_reducible refine loadS (x := .tmp 3) (o := ⟨some 49, _, _, _, _, _⟩) HA3.out ?_ ?_); exact ⟨rfl, rfl, rfl⟩)
      | ((with_reducible refine storeS (x := .tmp 2) (y := .tmp 49) (o := ⟨none, .store _ _ _, _, _, _, _⟩) HA4.out ?_ ?_); exact ⟨rfl, rfl, rfl, rfl⟩))
    refine bodyPost_ret (results_cell_row rfl _ _ (w.heap.size + 1) 72 #[.slice none 0 0] (0, 0) _ rfl HA4.out Tryz.underlying72 rfl (by kernel_rfl)) rfl ⟨rfl, HB3.out⟩
end Go.Proofs.YtlngicddojoogaaGreatDoor
/-
  The store that New makes: what it holds is handed out.
-/
namespace Go.Proofs.YtlngicddojoogaaGreatDoor
open Go.ChangeShapes Go.WideShapes Go.ChangeAt Go.RowKit
set_option linter.unusedVariables false

def cc0 : List Value := [.bool false, .slice none 0 0, .slice none 0 0, .int .u64 0]
abbrev cV : Value := .agg #[.bool false, .slice none 0 0, .slice none 0 0, .int .u64 0]
theorem setRow_same {w : World} {t : TypeId} {g : Nat} {cs : List Value} (hA : Arr w t g cs) : w.setRow g cs.toArray = w := by
  have hg : g < w.heap.size := hA.lt
  cases w
  simp only [World.setRow] at *
  congr 1
  apply Array.ext_getElem?
  intro i
  rw [Array.getElem?_modify]
  split
  · next h => subst h; rw [show _ = _ from hA]; rfl
  · rfl
section
variable {ops : Array Oper} {rest : List Oper} {o : Oper} {a : Act} {Q : Exit → Act → World → Prop} {w : World} {g : Nat} {x y : Operand}
theorem loadC {t : TypeId} (hA : Arr w t g cc0) (hs : o.guard = none ∧ o.op = .load 83 x ∧ a.eval x = .pointer (some ⟨g, 0, none⟩))
    (hk : wpList Tryz.prog ops Q rest (a.put o.dst cV) w) : wpList Tryz.prog ops Q (o :: rest) a w :=
  load_arr hs.1 _ x hs.2.1 hA hs.2.2 Tryz.underlying83 rfl (by kernel_rfl) hk
theorem storeC {t : TypeId} (hA : Arr w t g cc0) (hs : o.guard = none ∧ o.op = .store 83 x y ∧ a.eval x = .pointer (some ⟨g, 0, none⟩) ∧ a.eval y = cV)
    (hk : wpList Tryz.prog ops Q rest (a.put o.dst undef) w) : wpList Tryz.prog ops Q (o :: rest) a w :=
  store_arr hs.1 _ x y hs.2.1 hA (cs := cc0) hs.2.2.1 hs.2.2.2 (by kernel_rfl) rfl (by simp [cc0, Value.oneCell']) (by rw [setRow_same hA]; exact hk)
/-- The schema in the middle of a content. -/
theorem loadM {t : TypeId} (hA : Arr w t g cc0) (hs : o.guard = none ∧ o.op = .load 72 x ∧ a.eval x = .pointer (some ⟨g, 1, none⟩))
    (hk : wpList Tryz.prog ops Q rest (a.put o.dst (.agg #[.slice none 0 0])) w) : wpList Tryz.prog ops Q (o :: rest) a w :=
  wpList_load_mid hs.1 _ x hs.2.1 g 1 hs.2.2 [.slice none 0 0] _ (fun j u hu => by
    rw [hA.cell (1 + j)]
    have hj : j = 0 := by have := (List.getElem?_eq_some_iff.1 hu).1; simp at this; omega
    subst hj
    simpa [cc0] using hu) Tryz.underlying72 rfl (by kernel_rfl) hk
end
theorem cc0_cells {w : World} {t : TypeId} {g : Nat} (hA : Arr w t g cc0) : w.cell? ⟨g, 0, none⟩ = some (.bool false) ∧ w.cell? ⟨g, 2, none⟩ = some (.slice none 0 0) ∧ w.cell? ⟨g, 3, none⟩ = some (.int .u64 (0 : Nat)) := ⟨hA.cell 0, hA.cell 2, hA.cell 3⟩
set_option maxRecDepth 100000 in
theorem snew_any (w : World) : Calls Tryz.prog 18 #[] w fun e w' => e = .returned (.pointer (some ⟨w.heap.size, 0, none⟩)) ∧ Arr w' 85 w.heap.size cc0 ∧ Below w.heap.size w w' := by
  have hA : Arr (w.alloc (.cells #[.bool false, .slice none 0 0, .slice none 0 0, .int .u64 0] 85)) 85 w.heap.size cc0 := Arr.new' w _ _ _ rfl
  have hb : Below w.heap.size w (w.alloc (.cells #[.bool false, .slice none 0 0, .slice none 0 0, .int .u64 0] 85)) := (Below.refl _ _).alloc (Nat.le_refl _) _
  have HA := Lib.hid hA
  have HB := Lib.hid hb
  clear hA hb
  go_enter Tryz.func18, Tryz.ntmps18
  go_wp2_with fail
  go_ret
  exact ⟨rfl, HA.out, HB.out⟩
set_option maxRecDepth 100000 in
theorem slook_any {w : World} {t : TypeId} {g : Nat} (hA : Arr w t g cc0) : Calls Tryz.prog 55 #[.pointer (some ⟨g, 0, none⟩)] w fun e w' => e = .returned cV ∧ Below w.heap.size w w' := by
  have hA1 : Arr (w.alloc (.cells #[.bool false, .slice none 0 0, .slice none 0 0, .int .u64 0] 83)) 83 w.heap.size cc0 := Arr.new' w _ _ _ rfl
  have hb : Below w.heap.size w (w.alloc (.cells #[.bool false, .slice none 0 0, .slice none 0 0, .int .u64 0] 83)) := (Below.refl _ _).alloc (Nat.le_refl _) _
  have HA := Lib.hid (hA.later hb)
  have HA1 := Lib.hid hA1
  have HB := Lib.hid hb
  clear hA hA1 hb
  go_enter Tryz.func55, Tryz.ntmps55
  go_wp2_with (first
    | ((with_reducible refine loadC (x := .tmp 5) (o := ⟨some 6, _, _, _, _, _⟩) HA.out ?_ ?_); exact ⟨rfl, rfl, rfl⟩)
    | ((with_reducible refine storeC (x := .tmp 2) (y := .tmp 6) (o := ⟨none, .store _ _ _, _, _, _, _⟩) HA1.out ?_ ?_); exact ⟨rfl, rfl, rfl, rfl⟩))
  refine bodyPost_ret (results_cell_row rfl _ _ w.heap.size 83 #[.bool false, .slice none 0 0, .slice none 0 0, .int .u64 0] (0, 0) _ rfl HA1.out Tryz.underlying83 rfl (by kernel_rfl)) rfl ⟨rfl, HB.out⟩
set_option maxRecDepth 100000 in
theorem scopyS_any {w : World} {t : TypeId} {g : Nat} (hA : Arr w t g cc0) : Calls Tryz.prog 57 #[.pointer (some ⟨g, 0, none⟩)] w fun e w' => e = .returned (.agg #[.slice none 0 0]) ∧ Below w.heap.size w w' := by
  have hA1 : Arr (w.alloc (.cells #[.slice none 0 0] 72)) 72 w.heap.size [.slice none 0 0] := Arr.new' w _ _ _ rfl
  have hb : Below w.heap.size w (w.alloc (.cells #[.slice none 0 0] 72)) := (Below.refl _ _).alloc (Nat.le_refl _) _
  have HA := Lib.hid (hA.later hb)
  have HA1 := Lib.hid hA1
  have HB := Lib.hid hb
  clear hA hA1 hb
  go_enter Tryz.func57, Tryz.ntmps57
  go_wp2_with ((with_reducible refine loadM (x := .tmp 6) (o := ⟨some 7, _, _, _, _, _⟩) HA.out ?_ ?_); exact ⟨rfl, rfl, rfl⟩)
  refine (canon_nil _).mono ?_
  rintro e w1 ⟨rfl, b1⟩
  have HB1 := Lib.hid (HB.out.trans (b1.mono HB.out.size))
  have HA2 := Lib.hid (HA1.out.later b1)
  clear b1 HB HA HA1
  go_wp2_with ((with_reducible refine storeS (x := .tmp 2) (y := .tmp 8) (o := ⟨none, .store _ _ _, _, _, _, _⟩) HA2.out ?_ ?_); exact ⟨rfl, rfl, rfl, rfl⟩)
  refine bodyPost_ret (results_cell_row rfl _ _ w.heap.size 72 #[.slice none 0 0] (0, 0) _ rfl HA2.out Tryz.underlying72 rfl (by kernel_rfl)) rfl ⟨rfl, HB1.out⟩
set_option maxRecDepth 100000 in
theorem scopyT_any {w : World} {t : TypeId} {g : Nat} (hA : Arr w t g cc0) : Calls Tryz.prog 59 #[.pointer (some ⟨g, 0, none⟩)] w fun e w' => e = .returned (.slice none 0 0) ∧ w = w' := by
  have hq := (cc0_cells hA).2.1
  clear hA
  go_enter Tryz.func59, Tryz.ntmps59
  go_wp2_with fail
  refine (cloneT_nil _).mono ?_
  rintro e w1 ⟨rfl, rfl⟩
  go_wp2_with fail
  go_ret
  exact ⟨rfl, rfl⟩
set_option maxRecDepth 100000 in
theorem unlessC_any {w : World} {t : TypeId} {g : Nat} (hA : Arr w t g cc0) : Calls Tryz.prog 54 #[.pointer (some ⟨g, 0, none⟩), .func (.func 55) #[.pointer (some ⟨g, 0, none⟩)] #[]] w fun e w' => e = .returned cV ∧ Below w.heap.size w w' := by
  have hA1 : Arr (w.alloc (.cells #[.bool false, .slice none 0 0, .slice none 0 0, .int .u64 0] 83)) 83 w.heap.size cc0 := Arr.new' w _ _ _ rfl
  have hb : Below w.heap.size w (w.alloc (.cells #[.bool false, .slice none 0 0, .slice none 0 0, .int .u64 0] 83)) := (Below.refl _ _).alloc (Nat.le_refl _) _
  have HA := Lib.hid (hA.later hb)
  have HA1 := Lib.hid hA1
  have HB := Lib.hid hb
  clear hA hA1 hb
  go_enter Tryz.func54, Tryz.ntmps54
  go_wp2_with fail
  refine (slook_any HA.out).mono ?_
  rintro e w1 ⟨rfl, b1⟩
  have HB1 := Lib.hid (HB.out.trans (b1.mono HB.out.size))
  have HA2 := Lib.hid (HA1.out.later b1)
  clear b1 HB HA HA1
  go_wp2_with (first
    | ((with_reducible refine loadC (x := .tmp 4) (o := ⟨some 9, _, _, _, _, _⟩) HA2.out ?_ ?_); exact ⟨rfl, rfl, rfl⟩)
    | ((with_reducible refine storeC (x := .tmp 4) (y := .tmp 8) (o := ⟨none, .store _ _ _, _, _, _, _⟩) HA2.out ?_ ?_); exact ⟨rfl, rfl, rfl, rfl⟩)
    | ((with_reducible refine storeC (x := .tmp 4) (y := .tmp 9) (o := ⟨none, .store _ _ _, _, _, _, _⟩) HA2.out ?_ ?_); exact ⟨rfl, rfl, rfl, rfl⟩))
  refine bodyPost_ret (results_cell_row rfl _ _ w.heap.size 83 #[.bool false, .slice none 0 0, .slice none 0 0, .int .u64 0] (0, 0) _ rfl HA2.out Tryz.underlying83 rfl (by kernel_rfl)) rfl ⟨rfl, HB1.out⟩
set_option maxRecDepth 100000 in
theorem unlessS_any {w : World} {t : TypeId} {g : Nat} (hA : Arr w t g cc0) : Calls Tryz.prog 56 #[.pointer (some ⟨g, 0, none⟩), .func (.func 57) #[.pointer (some ⟨g, 0, none⟩)] #[]] w fun e w' => e = .returned (.agg #[.slice none 0 0]) ∧ Below w.heap.size w w' := by
  have hA1 : Arr (w.alloc (.cells #[.slice none 0 0] 72)) 72 w.heap.size [.slice none 0 0] := Arr.new' w _ _ _ rfl
  have hb : Below w.heap.size w (w.alloc (.cells #[.slice none 0 0] 72)) := (Below.refl _ _).alloc (Nat.le_refl _) _
  have HA := Lib.hid (hA.later hb)
  have HA1 := Lib.hid hA1
  have HB := Lib.hid hb
  clear hA hA1 hb
  go_enter Tryz.func56, Tryz.ntmps56
  go_wp2_with fail
  refine (scopyS_any HA.out).mono ?_
  rintro e w1 ⟨rfl, b1⟩
  have HB1 := Lib.hid (HB.out.trans (b1.mono HB.out.size))
  have HA2 := Lib.hid (HA1.out.later b1)
  clear b1 HB HA HA1
  go_wp2_with (first
    | ((with_reducible refine loadS (x := .tmp 4) (o := ⟨some 9, _, _, _, _, _⟩) HA2.out ?_ ?_); exact ⟨rfl, rfl, rfl⟩)
    | ((with_reducible refine storeS (x := .tmp 4) (y := .tmp 8) (o := ⟨none, .store _ _ _, _, _, _, _⟩) HA2.out ?_ ?_); exact ⟨rfl, rfl, rfl, rfl⟩)
    | ((with_reducible refine storeS (x := .tmp 4) (y := .tmp 9) (o := ⟨none, .store _ _ _, _, _, _, _⟩) HA2.out ?_ ?_); exact ⟨rfl, rfl, rfl, rfl⟩))
  refine bodyPost_ret (results_cell_row rfl _ _ w.heap.size 72 #[.slice none 0 0] (0, 0) _ rfl HA2.out Tryz.underlying72 rfl (by kernel_rfl)) rfl ⟨rfl, HB1.out⟩
set_option maxRecDepth 100000 in
theorem unlessT_any {w : World} {t : TypeId} {g : Nat} (hA : Arr w t g cc0) : Calls Tryz.prog 58 #[.pointer (some ⟨g, 0, none⟩), .func (.func 59) #[.pointer (some ⟨g, 0, none⟩)] #[]] w fun e w' => e = .returned (.slice none 0 0) ∧ w = w' := by
  have HA := Lib.hid hA
  clear hA
  go_enter Tryz.func58, Tryz.ntmps58
  go_wp2_with fail
  refine (scopyT_any HA.out).mono ?_
  rintro e w1 ⟨rfl, rfl⟩
  go_wp2_with fail
  go_ret
  exact ⟨rfl, rfl⟩
end Go.Proofs.YtlngicddojoogaaGreatDoor
/-
  The state and the export of the store that New makes.
-/
namespace Go.Proofs.YtlngicddojoogaaGreatDoor
open Go.ChangeShapes Go.WideShapes Go.ChangeAt Go.RowKit
set_option linter.unusedVariables false

theorem stepw_storeS {ops : Array Oper} {o : Oper} {a : Act} {w : World} {K : Act → World → Prop} {Q : Exit → Act → World → Prop} {E : Prop} {t : TypeId} {g : Nat} (hw : Region.wanted o (yielded ops a.tmps) = true) (x y : Operand) (ho : o.op = .store 72 x y) (hx : a.eval x = .pointer (some ⟨g, 0, none⟩)) (hy : a.eval y = .agg #[.slice none 0 0]) (hA : Arr w t g [.slice none 0 0])
    (hK : K (a.put o.dst undef) w) : if Region.wanted o (yielded ops a.tmps) = true then Oper.wp Tryz.prog o a w K Q else E := by
  rw [if_pos hw]
  exact wp_store_row _ x y ho g #[.slice none 0 0] hx hy t #[.slice none 0 0] hA (by kernel_rfl) rfl (by simp [Value.oneCell']) (by rw [show (#[Value.slice none 0 0] : Array Value) = [Value.slice none 0 0].toArray from rfl, setRow_same hA]; exact hK)
/-- What the region keeps. -/
def SS (w : World) (t : TypeId) (g m b : Nat) (W : World) : Prop := Arr W t g cc0 ∧ Arr W 83 m cc0 ∧ Arr W 72 b [.slice none 0 0] ∧ Below w.heap.size w W
theorem SS.later {w W W' : World} {t : TypeId} {g m b : Nat} (h : SS w t g m b W) (hb : Below W.heap.size W W') : SS w t g m b W' := ⟨h.1.later hb, h.2.1.later hb, h.2.2.1.later hb, h.2.2.2.trans (hb.mono h.2.2.2.size)⟩
theorem res4 {fn : Func} {p q1 q2 q3 : Tmp} {tmps : Array Value} {w : World} {g : Nat} {t : TypeId} (h : fn.results = #[.cell p 72, .tmp q1, .tmp q2, .tmp q3]) (hA : Arr w t g [.slice none 0 0]) (hp : tmps.getD p undef = .pointer (some ⟨g, 0, none⟩)) :
    (results fn tmps).run Tryz.prog w = .ok (.tuple #[.agg #[.slice none 0 0], tmps.getD q1 undef, tmps.getD q2 undef, tmps.getD q3 undef]) w := by
  have hp' : tmps[p]?.getD undef = .pointer (some ⟨g, 0, none⟩) := by simpa using hp
  have hl := run_loadVar_row (P := Tryz.prog) w g t 72 #[.slice none 0 0] (0, 0) _ hA Tryz.underlying72 rfl (by kernel_rfl)
  simp [results, h, hp', asAddr, hl]
set_option maxRecDepth 100000 in
theorem sstate_any {w : World} {t : TypeId} {g : Nat} (hA : Arr w t g cc0) : Calls Tryz.prog 35 #[.pointer (some ⟨g, 0, none⟩)] w fun e w' => e = .returned (.tuple #[.agg #[.slice none 0 0], .slice none 0 0, .int .u64 (0 : Nat), .bool false]) ∧ Below w.heap.size w w' := by
  have hA1 : Arr (w.alloc (.cells #[.slice none 0 0] 72)) 72 w.heap.size [.slice none 0 0] := Arr.new' w _ _ _ rfl
  have hb : Below w.heap.size w (w.alloc (.cells #[.slice none 0 0] 72)) := (Below.refl _ _).alloc (Nat.le_refl _) _
  have hmf : ∀ (fn : Fn) (first cap : Array Value) (w : World), (Instr.makeFunc fn first cap).run Tryz.prog w = .ok (.func fn first cap) w := fun _ _ _ _ => rfl
  have HA := Lib.hid (hA.later hb)
  have HA1 := Lib.hid hA1
  have HB := Lib.hid hb
  clear hA hA1 hb
  go_enter Tryz.func35, Tryz.ntmps35
  go_wp2_with fail
  refine (unlessC_any HA.out).mono ?_
  rintro e w1 ⟨rfl, b1⟩
  have hb3 : Below w1.heap.size w1 (w1.alloc (.cells #[.bool false, .slice none 0 0, .slice none 0 0, .int .u64 0] 83)) := (Below.refl _ _).alloc (Nat.le_refl _) _
  have HC3 : Hid (Arr (w1.alloc (.cells #[.bool false, .slice none 0 0, .slice none 0 0, .int .u64 0] 83)) 83 w1.heap.size cc0) := Arr.new' w1 _ _ _ rfl
  have HS3 : Hid (SS w t g w1.heap.size w.heap.size (w1.alloc (.cells #[.bool false, .slice none 0 0, .slice none 0 0, .int .u64 0] 83))) := ⟨(HA.out.later b1).later hb3, HC3.out, (HA1.out.later b1).later hb3, (HB.out.trans (b1.mono HB.out.size)).trans (hb3.mono (HB.out.trans (b1.mono HB.out.size)).size)⟩
  clear b1 hb3 HA HA1 HB
  go_upto_region 2 with ((with_reducible refine storeC (x := .tmp 6) (y := .tmp 10) (o := ⟨none, .store _ _ _, _, _, _, _⟩) HC3.out ?_ ?_); exact ⟨rfl, rfl, rfl, rfl⟩)
  obtain ⟨w2, hw2⟩ : ∃ w2, w2 = w1.alloc (.cells #[.bool false, .slice none 0 0, .slice none 0 0, .int .u64 0] 83) := ⟨_, rfl⟩
  rw [← hw2] at HS3 ⊢
  clear hw2 HC3
  obtain ⟨m, hm⟩ : ∃ m, m = w1.heap.size := ⟨_, rfl⟩
  rw [← hm] at HS3 ⊢
  clear hm
  obtain ⟨b, hbb⟩ : ∃ b, b = w.heap.size := ⟨_, rfl⟩
  rw [show SS w t g m w.heap.size w2 = SS w t g m b w2 by rw [hbb]] at HS3
  rw [← hbb]
  clear hbb
  refine wp_region_noPanic ?_
  refine wp_region_held_drew (S := SS w t g m b) (by kernel_rfl) (HS3.out.later (Below.refl _ _).drew) (fun hHeld => ?_)
  try simp only [Act.put]
  generalize w2.drew = w3 at hHeld ⊢
  clear HS3
  refine wpAnyH_take (i := 0) (oi := ⟨some 11, _, _, _, _, _⟩) (v := .pointer (some ⟨g, 0, none⟩)) rfl (by kernel_rfl) (by kernel_rfl) (by kernel_rfl) (fun _ _ _ h => h) (.inl ⟨by rfl, fun w' hSw => ?_⟩) hHeld ?_
  focus (skip; clear hHeld; go_simp)
  try simp only [Act.put, List.setIfInBounds_toArray, List.set_cons_zero, List.set_cons_succ]
  refine wpAnyH_take (i := 1) (oi := ⟨some 12, _, _, _, _, _⟩) (v := .pointer (some ⟨g, 0, none⟩)) rfl (by kernel_rfl) (by kernel_rfl) (by kernel_rfl) (fun _ _ _ h => h) (.inl ⟨by rfl, fun w' hSw => ?_⟩) hHeld ?_
  focus (skip; clear hHeld; go_simp)
  try simp only [Act.put, List.setIfInBounds_toArray, List.set_cons_zero, List.set_cons_succ]
  refine wpAnyH_take (i := 2) (oi := ⟨some 13, _, _, _, _, _⟩) (v := .func (.func 57) #[.pointer (some ⟨g, 0, none⟩)] #[]) rfl (by kernel_rfl) (by kernel_rfl) (by kernel_rfl) (fun _ _ _ h => h) (.inl ⟨by rfl, fun w' hSw => ?_⟩) hHeld ?_
  focus (skip; clear hHeld; go_simp)
  try simp only [Act.put, List.setIfInBounds_toArray, List.set_cons_zero, List.set_cons_succ]
  refine wpAnyH_take (i := 4) (oi := ⟨some 15, _, _, _, _, _⟩) (v := .pointer (some ⟨g, 0, none⟩)) rfl (by kernel_rfl) (by kernel_rfl) (by kernel_rfl) (fun _ _ _ h => h) (.inl ⟨by rfl, fun w' hSw => ?_⟩) hHeld ?_
  focus (skip; clear hHeld; go_simp)
  try simp only [Act.put, List.setIfInBounds_toArray, List.set_cons_zero, List.set_cons_succ]
  refine wpAnyH_take (i := 5) (oi := ⟨some 16, _, _, _, _, _⟩) (v := .pointer (some ⟨g, 0, none⟩)) rfl (by kernel_rfl) (by kernel_rfl) (by kernel_rfl) (fun _ _ _ h => h) (.inl ⟨by rfl, fun w' hSw => ?_⟩) hHeld ?_
  focus (skip; clear hHeld; go_simp)
  try simp only [Act.put, List.setIfInBounds_toArray, List.set_cons_zero, List.set_cons_succ]
  refine wpAnyH_take (i := 6) (oi := ⟨some 17, _, _, _, _, _⟩) (v := .func (.func 59) #[.pointer (some ⟨g, 0, none⟩)] #[]) rfl (by kernel_rfl) (by kernel_rfl) (by kernel_rfl) (fun _ _ _ h => h) (.inl ⟨by rfl, fun w' hSw => ?_⟩) hHeld ?_
  focus (skip; clear hHeld; go_simp)
  try simp only [Act.put, List.setIfInBounds_toArray, List.set_cons_zero, List.set_cons_succ]
  refine wpAnyH_take (i := 8) (oi := ⟨some 19, _, _, _, _, _⟩) (v := .pointer (some ⟨m, 3, none⟩)) rfl (by kernel_rfl) (by kernel_rfl) (by kernel_rfl) (fun _ _ _ h => h) (.inl ⟨by rfl, fun w' hSw => ?_⟩) hHeld ?_
  focus (skip; clear hHeld; go_simp)
  try simp only [Act.put, List.setIfInBounds_toArray, List.set_cons_zero, List.set_cons_succ]
  refine wpAnyH_take (i := 9) (oi := ⟨some 20, _, _, _, _, _⟩) (v := .int .u64 (0 : Nat)) rfl (by kernel_rfl) (by kernel_rfl) (by kernel_rfl) (fun _ _ _ h => h) (.inl ⟨by rfl, fun w' hSw => ?_⟩) hHeld ?_
  focus ((obtain ⟨q0, q2, q3⟩ := cc0_cells hSw.2.1); clear hHeld; go_simp)
  try simp only [Act.put, List.setIfInBounds_toArray, List.set_cons_zero, List.set_cons_succ]
  refine wpAnyH_take (i := 10) (oi := ⟨some 21, _, _, _, _, _⟩) (v := .pointer (some ⟨m, 0, none⟩)) rfl (by kernel_rfl) (by kernel_rfl) (by kernel_rfl) (fun _ _ _ h => h) (.inl ⟨by rfl, fun w' hSw => ?_⟩) hHeld ?_
  focus (skip; clear hHeld; go_simp)
  try simp only [Act.put, List.setIfInBounds_toArray, List.set_cons_zero, List.set_cons_succ]
  refine wpAnyH_take (i := 11) (oi := ⟨some 22, _, _, _, _, _⟩) (v := .bool false) rfl (by kernel_rfl) (by kernel_rfl) (by kernel_rfl) (fun _ _ _ h => h) (.inl ⟨by rfl, fun w' hSw => ?_⟩) hHeld ?_
  focus ((obtain ⟨q0, q2, q3⟩ := cc0_cells hSw.2.1); clear hHeld; go_simp)
  try simp only [Act.put, List.setIfInBounds_toArray, List.set_cons_zero, List.set_cons_succ]
  refine wpAnyH_ready (rs := [3]) (by kernel_rfl) (by simp) ?_
  refine AllReadyH.cons (o := ⟨some 14, _, _, _, _, _⟩) rfl (fun K' hK' => ?_) AllReadyH.nil
  refine stepw_call (R := fun v' w'' => v' = .agg #[.slice none 0 0] ∧ Below w3.heap.size w3 w'') (by rfl) ?_ ((unlessS_any hHeld.1).mono fun e w'' ⟨h1, h2⟩ => ⟨_, h1, rfl, h2⟩) ?_
  focus go_simp
  rintro v w4 ⟨rfl, b4⟩
  have hkn := hHeld.later b4
  clear b4
  refine hK'.out _ _ hkn (fun _ => ?_)
  clear hK' K' hHeld
  have hHeld := hkn
  clear hkn
  try simp only [Act.put, List.setIfInBounds_toArray, List.set_cons_zero, List.set_cons_succ]
  refine wpAnyH_ready (rs := [7]) (by kernel_rfl) (by simp) ?_
  refine AllReadyH.cons (o := ⟨some 18, _, _, _, _, _⟩) rfl (fun K' hK' => ?_) AllReadyH.nil
  refine stepw_call (R := fun v' w'' => v' = .slice none 0 0 ∧ w4 = w'') (by rfl) ?_ ((unlessT_any hHeld.1).mono fun e w'' ⟨h1, h2⟩ => ⟨_, h1, rfl, h2⟩) ?_
  focus go_simp
  rintro v w5 ⟨rfl, rfl⟩
  have hkn := hHeld
  refine hK'.out _ _ hkn (fun _ => ?_)
  clear hK' K' hHeld
  have hHeld := hkn
  clear hkn
  try simp only [Act.put, List.setIfInBounds_toArray, List.set_cons_zero, List.set_cons_succ]
  refine wpAnyH_ready (rs := [12]) (by kernel_rfl) (by simp) ?_
  refine AllReadyH.cons (o := ⟨none, _, _, _, _, _⟩) rfl (fun K' hK' => ?_) AllReadyH.nil
  refine stepw_storeS (by rfl) (.tmp 2) (.tmp 14) rfl rfl rfl hHeld.2.2.1 ?_
  have hkn := hHeld
  refine hK'.out _ _ hkn (fun _ => ?_)
  clear hK' K' hHeld
  have hHeld := hkn
  clear hkn
  try simp only [Act.put]
  refine wpAnyH_take (i := 13) (oi := ⟨some 3, _, _, _, _, _⟩) (v := .slice none 0 0) rfl (by kernel_rfl) (by kernel_rfl) (by kernel_rfl) (fun _ _ _ h => h) (.inl ⟨by rfl, fun w' hSw => ?_⟩) hHeld ?_
  focus (skip; clear hHeld; go_simp)
  try simp only [Act.put, List.setIfInBounds_toArray, List.set_cons_zero, List.set_cons_succ]
  refine wpAnyH_take (i := 14) (oi := ⟨some 4, _, _, _, _, _⟩) (v := .int .u64 (0 : Nat)) rfl (by kernel_rfl) (by kernel_rfl) (by kernel_rfl) (fun _ _ _ h => h) (.inl ⟨by rfl, fun w' hSw => ?_⟩) hHeld ?_
  focus (skip; clear hHeld; go_simp)
  try simp only [Act.put, List.setIfInBounds_toArray, List.set_cons_zero, List.set_cons_succ]
  refine wpAnyH_take (i := 15) (oi := ⟨some 5, _, _, _, _, _⟩) (v := .bool false) rfl (by kernel_rfl) (by kernel_rfl) (by kernel_rfl) (fun _ _ _ h => h) (.inl ⟨by rfl, fun w' hSw => ?_⟩) hHeld ?_
  focus (skip; clear hHeld; go_simp)
  try simp only [Act.put, List.setIfInBounds_toArray, List.set_cons_zero, List.set_cons_succ]
  refine wpAnyH_done (by kernel_rfl) ?_ _
  refine NoPanic.normal ?_
  go_wp2_with fail
  refine bodyPost_ret (res4 rfl hHeld.2.2.1 rfl) rfl ⟨rfl, hHeld.2.2.2⟩
set_option maxRecDepth 100000 in
theorem sexport_any {w : World} {t : TypeId} {g : Nat} (hA : Arr w t g cc0) : Calls Tryz.prog 17 #[.pointer (some ⟨g, 0, none⟩)] w fun e w' => e = .returned (.tuple #[.slice none 0 0, .iface 50 (.int .i64 14)]) ∧ Below w.heap.size w w' := by
  have HA := Lib.hid hA
  clear hA
  go_enter Tryz.func17, Tryz.ntmps17
  go_wp2_with fail
  refine (sstate_any HA.out).mono ?_
  rintro e w1 ⟨rfl, b1⟩
  have hb2 : Below w1.heap.size w1 (w1.alloc (.cells #[.slice none 0 0] 72)) := (Below.refl _ _).alloc (Nat.le_refl _) _
  have HA2 : Hid (Arr (w1.alloc (.cells #[.slice none 0 0] 72)) 72 w1.heap.size [.slice none 0 0]) := Arr.new' w1 _ _ _ rfl
  have HB2 := Lib.hid (b1.trans (hb2.mono b1.size))
  clear b1 hb2 HA
  go_wp2_with ((with_reducible refine storeS (x := .tmp 4) (y := .tmp 21) (o := ⟨none, .store _ _ _, _, _, _, _⟩) HA2.out ?_ ?_); exact ⟨rfl, rfl, rfl, rfl⟩)
  go_ret2
  exact ⟨rfl, HB2.out⟩
set_option maxRecDepth 100000 in
theorem spay_nil (w : World) : Calls Tryz.prog 40 #[.slice none 0 0] w fun e w' => e = .returned (.slice none 0 0) ∧ w = w' := by
  go_enter Tryz.func40, Tryz.ntmps40
  go_wp2_with fail
  go_loopw [2, 9] (fun rv iv wr => rv = .slice none 0 0 ∧ iv = .int .i64 0 ∧ wr = w) (fun _ _ _ => 0)
  case atStart => exact ⟨rfl, rfl, rfl⟩
  case round =>
    obtain ⟨rfl, rfl, rfl⟩ := hrel
    go_wp2_with fail
    go_ret
    exact ⟨rfl, rfl⟩
set_option maxRecDepth 100000 in
theorem ssize_nil (w : World) : Calls Tryz.prog 19 #[.slice none 0 0] w fun e w' => e = .returned (.int .i64 0) ∧ w = w' := by
  go_enter Tryz.func19, Tryz.ntmps19
  go_wp2_with fail
  refine (spay_nil _).mono ?_
  rintro e w1 ⟨rfl, rfl⟩
  go_wp2_with fail
  go_loopw [3, 9] (fun sv iv wr => sv = .int .i64 0 ∧ iv = .int .i64 0 ∧ wr = w) (fun _ _ _ => 0)
  case atStart => exact ⟨rfl, rfl, rfl⟩
  case round =>
    obtain ⟨rfl, rfl, rfl⟩ := hrel
    go_wp2_with fail
    go_ret
    exact ⟨rfl, rfl⟩
end Go.Proofs.YtlngicddojoogaaGreatDoor
/-
  vestryref25.ParseHeader.
-/
namespace Go.Proofs.YtlngicddojoogaaGreatDoor
open Go.ChangeShapes Go.WideShapes Go.ChangeAt Go.RowKit
open errAs (ErrT)
set_option linter.unusedVariables false

/-- A slice's first k bytes. -/
theorem rd_take {B : Nat} {w : World} {b off n c : Nat} {l : List UInt8} (h : Rd B w (.slice (some ⟨b, off, none⟩) n c) l) {k : Nat} (hk : k ≤ n) : Rd B w (.slice (some ⟨b, off, none⟩) k c) (l.take k) := by
  rcases h with ⟨oa, hv, rfl⟩ | ⟨b', off', cap', hv, h1, h2, h3, hc⟩
  · simp only [Value.slice.injEq] at hv
    obtain ⟨_, rfl, rfl⟩ := hv
    obtain rfl : k = 0 := by omega
    exact .inl ⟨_, rfl, rfl⟩
  · simp only [Value.slice.injEq, Option.some.injEq, Addr.mk.injEq] at hv
    obtain ⟨⟨rfl, rfl, _⟩, rfl, rfl⟩ := hv
    have hl : (l.take k).length = k := by rw [List.length_take]; omega
    refine .inr ⟨b, off, c, by rw [hl], by rw [hl]; omega, h2, h3, fun i hi => ?_⟩
    rw [hl] at hi
    rw [hc i (by omega)]
    simp [List.getD_eq_getElem?_getD, hi]
set_option maxRecDepth 100000 in
set_option maxHeartbeats 4000000 in
theorem rsparse_any {B : Nat} {w : World} {vb : Value} {l : List UInt8} (hr : Rd B w vb l) (hB : B ≤ w.heap.size) (hl : l.length ≤ 1000000) :
    Calls Tryz.prog 12 #[vb] w fun e w' => e = .returned (hR (parseH l)) ∧ Below w.heap.size w w' := by
  have HB0 : Hid (∀ z : Array Value, Below w.heap.size w (w.alloc (.cells z 25))) := fun z => (Below.refl _ _).alloc (Nat.le_refl _) _
  have HL := Lib.hid hl
  by_cases hl4 : l.length < 4
  · have HPZ : Hid (parseH l = badH 6 0) := parseH_sign (fun k => by have := congrArg List.length k; rw [List.length_take] at this; simp [vst] at this; omega)
    have h4 : (l.length : Int) < 4 := by omega
    obtain ⟨ov, cv, rfl⟩ := rd_form hr
    obtain ⟨n, hn⟩ : ∃ n, n = l.length := ⟨_, rfl⟩
    rw [← hn] at h4 ⊢
    clear hl4 hr hl hn
    go_enter Tryz.func12, Tryz.ntmps12
    go_wp2_with ((with_reducible refine atH2 w.heap.size (x := .tmp 2) (y := .tmp 19) (r := 0) (n := 0) (d := y32) (o := ⟨none, .store _ _ _, _, _, _, _⟩) y32_length ?_ ?_); exact ⟨rfl, rfl, rfl, rfl, rfl, rfl⟩)
    refine bodyPost_ret (resH22 rfl (Arr.new' w _ _ _ rfl) y32_length rfl) rfl ⟨?_, HB0.out _⟩
    rw [HPZ.out]
    rfl
  · obtain ⟨bk, of, cp, hv, hcp, hml, hbk, hcell⟩ : ∃ bk of cp, vb = .slice (some ⟨bk, of, none⟩) l.length cp ∧ l.length ≤ cp ∧ cp ≤ maxLen ∧ bk < B ∧ ∀ i, i < l.length → w.cell? ⟨bk, of + i, none⟩ = some (bv (l.getD i 0)) := by
      rcases hr with ⟨_, _, h⟩ | ⟨bk, of, cp, h0, h1, h2, h3, h4⟩
      · rw [h] at hl4; simp at hl4
      · exact ⟨bk, of, cp, h0, h1, h2, h3, h4⟩
    subst hv
    have HR := Lib.hid hr
    have hcv0 : ∀ o : Obj, (convert 27 9 (.slice (some ⟨bk, of, none⟩) 4 cp)).run Tryz.prog (w.alloc o) = .ok (.string (str (l.take 4))) (w.alloc o) := fun o =>
      conv_bytes (rd_take (hr.below ((Below.refl w.heap.size w).alloc (Nat.le_refl _) o) hB) (by omega))
    have h4 : ¬ (l.length : Int) < 4 := by omega
    have h4' : (4 : Int) ≤ l.length := by omega
    have hc4 : 4 ≤ cp := by omega
    obtain ⟨T, hT⟩ : ∃ T, T = l.take 4 := ⟨_, rfl⟩
    rw [← hT] at hcv0
    by_cases hx : T = vst
    · have hs : str T = ⟨#[86, 83, 84, 49]⟩ := (str_vst _).2 hx
      rw [hs] at hcv0
      rw [hT] at hx
      have HX := Lib.hid hx
      have HL4 : Hid (4 ≤ l.length) := by show _ ≤ _; omega
      clear hs hx hT
      have HNU : Hid (∀ z : Array Value, z.toList = hc 0 0 y32 → Calls Tryz.prog 30 #[.slice (some ⟨bk, of, none⟩) l.length cp, .int .i64 4] (w.alloc (.cells z 25)) fun e w1 => e = .returned (.tuple #[.int .u64 (num (l.drop 4)).1, .int .i64 ((4 + (num (l.drop 4)).2.1 : Nat) : Int), .int .i64 (num (l.drop 4)).2.2]) ∧ Arr w1 25 w.heap.size (hc 0 0 y32) ∧ Below w.heap.size w w1) := fun z hz => by
        refine (rnumber_at (hr.below (HB0.out z) hB) (by omega) 4 HL4.out).mono ?_
        rintro e w1 ⟨h1, rfl⟩
        exact ⟨h1, Arr.new' w _ z _ hz, HB0.out z⟩
      have HCP := Lib.hid (And.intro hcp hml)
      have HC := Lib.hid hcell
      obtain ⟨n, hn⟩ : ∃ n, n = l.length := ⟨_, rfl⟩
      rw [← hn] at h4 h4' HNU ⊢
      have HN := Lib.hid hn
      obtain ⟨⟨x, k, c⟩, hm⟩ : ∃ m, m = num (l.drop 4) := ⟨_, rfl⟩
      rw [← hm] at HNU
      have HM := Lib.hid hm
      clear hl4 hl hr hcell hcp hml hn hm
      go_enter Tryz.func12, Tryz.ntmps12
      go_wp2_with fail
      refine (HNU.out _ rfl).mono ?_
      rintro e w1 ⟨rfl, hA, hB1⟩
      have HA := Lib.hid hA
      have HB := Lib.hid hB1
      clear hA hB1 HNU hcv0 HB0
      by_cases hc0 : c = 0
      · subst hc0
        by_cases hlim : 9223372036854775808 ≤ x
        · have HPZ := Lib.hid (parseH_l1 HX.out HM.out rfl (by unfold limR; exact hlim))
          have hx1 : (9223372036854775808 : Int) ≤ x := by omega
          clear hlim
          go_wp2_with ((with_reducible refine storeH2 (x := .tmp 2) (y := .tmp 34) (r := 0) (n := 0) (d := y32) (o := ⟨none, .store _ _ _, _, _, _, _⟩) HA.out y32_length y32_length ?_ ?_); exact ⟨rfl, rfl, rfl, rfl⟩)
          refine bodyPost_ret (resH22 rfl (HA.out.row _) y32_length rfl) rfl ⟨?_, below_row HB.out (Nat.le_refl _) _⟩
          rw [HPZ.out]
          rfl
        · have HLM : Hid (¬ limR ≤ x) := by show ¬ _; unfold limR; exact hlim
          have hx1 : decide ((9223372036854775808 : Int) ≤ x) = false := decide_eq_false (by omega)
          have HAT0 := num_at (l := l.drop 4) (by rw [← HM.out])
          rw [← HM.out, List.length_drop] at HAT0
          obtain ⟨a, ha⟩ : ∃ a, a = 4 + k := ⟨_, rfl⟩
          rw [← ha]
          have HA1 := Lib.hid ha
          have HAL : Hid (a ≤ l.length) := by show _ ≤ _; have := HL4.out; simp at HAT0; omega
          clear ha HAT0 hlim
          have HNU := Lib.hid (rnumber_at (HR.out.below HB.out hB) (by have := HL.out; omega) a HAL.out)
          rw [← HN.out] at HNU
          obtain ⟨⟨y, k2, c2⟩, hm2⟩ : ∃ m, m = num (l.drop a) := ⟨_, rfl⟩
          rw [← hm2] at HNU
          have HM2 := Lib.hid hm2
          clear hm2
          go_wp2_with fail
          refine HNU.out.mono ?_
          rintro e w2 ⟨rfl, rfl⟩
          clear HNU hx1
          by_cases hc0 : c2 = 0
          · subst hc0
            by_cases hlim : 65536 < y
            · have HPZ := Lib.hid (parseH_l2 HX.out HM.out rfl HLM.out HA1.out HM2.out rfl (by unfold limC; exact hlim))
              have hx1 : (65536 : Int) < y := by omega
              clear hlim
              go_wp2_with ((with_reducible refine storeH2 (x := .tmp 2) (y := .tmp 51) (r := 0) (n := 0) (d := y32) (o := ⟨none, .store _ _ _, _, _, _, _⟩) HA.out y32_length y32_length ?_ ?_); exact ⟨rfl, rfl, rfl, rfl⟩)
              refine bodyPost_ret (resH22 rfl (HA.out.row _) y32_length rfl) rfl ⟨?_, below_row HB.out (Nat.le_refl _) _⟩
              rw [HPZ.out]
              rfl
            · have HLY : Hid (¬ limC < y) := by show ¬ _; unfold limC; exact hlim
              have hx1 : decide ((65536 : Int) < y) = false := decide_eq_false (by omega)
              have HAT0 := num_at (l := l.drop a) (by rw [← HM2.out])
              rw [← HM2.out, List.length_drop] at HAT0
              obtain ⟨a2, ha2⟩ : ∃ a2, a2 = a + k2 := ⟨_, rfl⟩
              rw [← ha2]
              have HA2 := Lib.hid ha2
              have HAL2 : Hid (a2 ≤ l.length) := by show _ ≤ _; have := HAL.out; simp at HAT0; omega
              have s0 : (-9223372036854775808 : Int) ≤ (n : Int) - a2 := by have := HAL2.out; have := HN.out; omega
              have s1 : (n : Int) - a2 ≤ 9223372036854775807 := by have := HL.out; have := HN.out; omega
              clear ha2 HAT0
              by_cases hs : l.length < a2 + 32
              · have HPZ := Lib.hid (parseH_short HX.out HM.out rfl HLM.out HA1.out HM2.out rfl HLY.out HA2.out hs)
                have s2 : (n : Int) - a2 < 32 := by have := HN.out; omega
                clear hs hlim
                go_wp2_with ((with_reducible refine storeH2 (x := .tmp 2) (y := .tmp 59) (r := 0) (n := 0) (d := y32) (o := ⟨none, .store _ _ _, _, _, _, _⟩) HA.out y32_length y32_length ?_ ?_); exact ⟨rfl, rfl, rfl, rfl⟩)
                refine bodyPost_ret (resH22 rfl (HA.out.row _) y32_length rfl) rfl ⟨?_, below_row HB.out (Nat.le_refl _) _⟩
                rw [HPZ.out]
                rfl
              · have s2 : decide ((n : Int) - a2 < 32) = false := decide_eq_false (by have := HN.out; omega)
                by_cases hlong : a2 + 32 < l.length
                · have HPZ := Lib.hid (parseH_long HX.out HM.out rfl HLM.out HA1.out HM2.out rfl HLY.out HA2.out hlong)
                  have s3 : (32 : Int) < (n : Int) - a2 := by have := HN.out; omega
                  have s4 : (-9223372036854775808 : Int) ≤ (a2 : Int) + 32 := by omega
                  have s5 : (a2 : Int) + 32 ≤ 9223372036854775807 := by have := HL.out; have := HAL2.out; omega
                  clear hs hlong hlim
                  go_wp2_with ((with_reducible refine storeH2 (x := .tmp 2) (y := .tmp 66) (r := 0) (n := 0) (d := y32) (o := ⟨none, .store _ _ _, _, _, _, _⟩) HA.out y32_length y32_length ?_ ?_); exact ⟨rfl, rfl, rfl, rfl⟩)
                  refine bodyPost_ret (resH22 rfl (HA.out.row _) y32_length rfl) rfl ⟨?_, below_row HB.out (Nat.le_refl _) _⟩
                  rw [HPZ.out]
                  rfl
                · have HPZ := Lib.hid (parseH_yes HX.out HM.out rfl HLM.out HA1.out HM2.out rfl HLY.out HA2.out (by omega))
                  have s3 : decide ((32 : Int) < (n : Int) - a2) = false := decide_eq_false (by have := HN.out; omega)
                  obtain ⟨d, hd⟩ : ∃ d, d = l.drop a2 := ⟨_, rfl⟩
                  rw [← hd] at HPZ
                  have HDL : Hid (d.length = 32) := by show _ = _; rw [hd, List.length_drop]; omega
                  have hnv : y ≤ 65536 := by omega
                  have hcv := fun w => convI y hnv w
                  have hsl : (a2 : Int) ≤ n := by have := HN.out; have := HAL2.out; omega
                  have hsl2 : a2 ≤ n := by have := HN.out; have := HAL2.out; omega
                  have hne : ¬ a2 = cp := by have := HCP.out; omega
                  have hle2 : a2 ≤ cp := by have := HCP.out; omega
                  have hcn : n ≤ cp := by have := HCP.out; have := HN.out; omega
                  have hn32 : n - a2 = 32 := by have := HN.out; omega
                  have hran : w1.rangeAt bk (of + a2) (bvs d) := fun j u hu => by
                    have hj : j < d.length := by have := (List.getElem?_eq_some_iff.1 hu).1; simpa [bvs] using this
                    rw [bvs_getElem d j hj] at hu
                    have h1 := HC.out (a2 + j) (by rw [hd, List.length_drop] at hj; omega)
                    rw [Nat.add_assoc, HB.out.cell (by show bk < _; omega), h1, ← hu, hd]
                    simp [List.getD_eq_getElem?_getD]
                  have HRA := Lib.hid hran
                  have har := arr_at32 ⟨bk, of + a2, none⟩ 32 (cp - a2) (by omega)
                  have hbl : (bvs d).length = 32 := by rw [bvs_length, HDL.out]
                  have HBZ := Lib.hid (buildH x (y : Nat) d HDL.out)
                  clear hran hs hlong hlim hd hnv
                  go_wp2_with (first
                    | ((with_reducible refine load32w (x := .tmp 75) (l := d) (o := ⟨some 76, _, _, _, _, _⟩) HRA.out HDL.out ?_ ?_); exact ⟨rfl, rfl, rfl⟩)
                    | ((with_reducible refine storeH2 (x := .tmp 2) (y := .tmp 77) (r := x) (n := (y : Nat)) (d := d) (o := ⟨none, .store _ _ _, _, _, _, _⟩) HA.out y32_length HDL.out ?_ ?_); exact ⟨rfl, rfl, rfl, congrArg Value.agg HBZ.out⟩))
                  refine bodyPost_ret (resH22 rfl (HA.out.row _) HDL.out rfl) rfl ⟨?_, below_row HB.out (Nat.le_refl _) _⟩
                  rw [HPZ.out]
                  rfl
          · have HPZ := Lib.hid (parseH_n2 HX.out HM.out rfl HLM.out HA1.out HM2.out hc0)
            have hc1 : ¬ (c2 : Int) = 0 := by omega
            clear hc0
            go_wp2_with ((with_reducible refine storeH2 (x := .tmp 2) (y := .tmp 51) (r := 0) (n := 0) (d := y32) (o := ⟨none, .store _ _ _, _, _, _, _⟩) HA.out y32_length y32_length ?_ ?_); exact ⟨rfl, rfl, rfl, rfl⟩)
            refine bodyPost_ret (resH22 rfl (HA.out.row _) y32_length rfl) rfl ⟨?_, below_row HB.out (Nat.le_refl _) _⟩
            rw [HPZ.out]
            rfl
      · have HPZ := Lib.hid (parseH_n1 HX.out HM.out hc0)
        have hc1 : ¬ (c : Int) = 0 := by omega
        clear hc0
        go_wp2_with ((with_reducible refine storeH2 (x := .tmp 2) (y := .tmp 34) (r := 0) (n := 0) (d := y32) (o := ⟨none, .store _ _ _, _, _, _, _⟩) HA.out y32_length y32_length ?_ ?_); exact ⟨rfl, rfl, rfl, rfl⟩)
        refine bodyPost_ret (resH22 rfl (HA.out.row _) y32_length rfl) rfl ⟨?_, below_row HB.out (Nat.le_refl _) _⟩
        rw [HPZ.out]
        rfl
    · have HPZ := Lib.hid (parseH_sign (b := l) (by rw [← hT]; exact hx))
      have hs : ((str T).toList == [86, 83, 84, 49]) = false := by
        rw [ByteArray.toList_eq, beq_eq_false_iff_ne]
        exact fun k => hx (by simpa [str, vst] using k)
      obtain ⟨n, hn⟩ : ∃ n, n = l.length := ⟨_, rfl⟩
      rw [← hn] at h4 h4' ⊢
      clear hx hT hl4 hl hr HR hcell hcp hml hn
      go_enter Tryz.func12, Tryz.ntmps12
      go_wp2_with ((with_reducible refine atH2 w.heap.size (x := .tmp 2) (y := .tmp 19) (r := 0) (n := 0) (d := y32) (o := ⟨none, .store _ _ _, _, _, _, _⟩) y32_length ?_ ?_); exact ⟨rfl, rfl, rfl, rfl, rfl, rfl⟩)
      refine bodyPost_ret (resH22 rfl (Arr.new' w _ _ _ rfl) y32_length rfl) rfl ⟨?_, HB0.out _⟩
      rw [HPZ.out]
      rfl
end Go.Proofs.YtlngicddojoogaaGreatDoor
/-
  vestrylaw25.awake.
-/
namespace Go.Proofs.YtlngicddojoogaaGreatDoor
open Go.ChangeShapes Go.WideShapes Go.ChangeAt Go.RowKit
open errAs (ErrT)
set_option linter.unusedVariables false

theorem rd_some {B : Nat} {w : World} {v : Value} {l : List UInt8} (h : Rd B w v l) (n : Nat) (hl : l.length = n) (hn : 0 < n) : ∃ bk off cp, v = .slice (some ⟨bk, off, none⟩) n cp ∧ n ≤ cp := by
  subst hl
  rcases h with ⟨_, _, h⟩ | ⟨b, off, cap, hv, h1, h2, h3, hc⟩
  · rw [h] at hn; simp at hn
  · exact ⟨b, off, cap, hv, h1⟩
theorem foot_nil : (footL []).length = 37 ∧ (footL []).take 5 = [86, 69, 78, 68, 0] := by
  have h : (digest []).length = 32 := joinS_length _
  have hp : put 0 = [0] := by unfold put; simp
  have e : footL [] = [86, 69, 78, 68, 0] ++ digest [] := by unfold footL vend; simp [hp]
  rw [e]
  refine ⟨?_, ?_⟩
  · rw [List.length_append, h]; rfl
  · exact List.take_left' rfl
theorem parseH_nil : parseH [] = badH 6 0 := parseH_sign (by decide)
abbrev LIT5 : Array Value := #[.int .u8 86, .int .u8 69, .int .u8 78, .int .u8 68, .int .u8 0]
set_option maxRecDepth 100000 in
set_option maxHeartbeats 2000000 in
theorem sawake_any (w : World) (hE : ErrT w) (he : Env w) : Calls Tryz.prog 6 #[] w fun e w' => e = .returned (.bool true) ∧ Below w.heap.size w w' := by
  have HE := Lib.hid hE
  have HV := Lib.hid he
  clear hE he
  go_enter Tryz.func6, Tryz.ntmps6
  go_wp2_with fail
  refine (snew_any w).mono ?_
  rintro e w1 ⟨rfl, a1, b1⟩
  have HX := Lib.hid (sexport_any a1)
  have HB1 := Lib.hid b1
  clear a1 b1
  go_wp2_with fail
  refine HX.out.mono ?_
  rintro e w2 ⟨rfl, b2⟩
  have HB2 := Lib.hid (HB1.out.trans (b2.mono HB1.out.size))
  have HFO := Lib.hid (sfoot_any (w := w2) (ls := []) (oa := none) (cap := 0) (B := 0) (fun h => absurd h (by simp)) (Nat.zero_le _) (by simp) (by decide) (HV.out.below HB2.out))
  clear b2 HB1 HX
  go_wp2_with fail
  refine HFO.out.mono ?_
  rintro e w3 ⟨v3, rfl, r3, b3⟩
  have HB3 := Lib.hid (HB2.out.trans (b3.mono HB2.out.size))
  obtain ⟨bk, off, cp, rfl, hcp⟩ := rd_some r3 37 foot_nil.1 (by omega)
  have HR3 := Lib.hid r3
  have HCP := Lib.hid hcp
  have hb4 : Below w3.heap.size w3 (w3.alloc (.cells (hc 3 (1 : Nat) y32).toArray 30)) := (Below.refl _ _).alloc (Nat.le_refl _) _
  have HB4 := Lib.hid (HB3.out.trans (hb4.mono HB3.out.size))
  have HR4 := Lib.hid (rd_now (B := 0) HR3.out hb4)
  have HA4 := Lib.hid (Arr.new' w3 30 (hc 3 (1 : Nat) y32).toArray _ rfl)
  clear r3 b3 hcp hb4 HFO HB2 HB3 HR3
  go_wp2_with (first
    | ((with_reducible refine atH1 w3.heap.size (x := .tmp 4) (y := .tmp 19) (r := 3) (n := (1 : Nat)) (d := y32) (o := ⟨none, .store _ _ _, _, _, _, _⟩) y32_length ?_ ?_); exact ⟨rfl, rfl, rfl, rfl, rfl, rfl⟩)
    | ((with_reducible refine loadH1 (x := .tmp 4) (o := ⟨some 21, _, _, _, _, _⟩) HA4.out y32_length ?_ ?_); exact ⟨rfl, rfl, rfl⟩))
  generalize w3.alloc (.cells (hc 3 (1 : Nat) y32).toArray 30) = w4 at HB4 HR4 HA4 ⊢
  generalize w3.heap.size = g4 at HA4 ⊢
  refine (sput_yes 3 1 y32 (by decide) (by decide) rfl w4).mono ?_
  rintro e w5 ⟨v5, rfl, r5, b5⟩
  have HB5 := Lib.hid (HB4.out.trans (b5.mono HB4.out.size))
  have HR5 := Lib.hid (rd_now (B := 0) HR4.out b5)
  have HA5 := Lib.hid (HA4.out.later b5)
  have HPA : Hid (Calls Tryz.prog 9 #[v5] w5 fun e w' => e = .returned (.tuple #[hV 3 (1 : Nat) y32, .nilIface]) ∧ Below w5.heap.size w5 w') := by
    have h := sparse_any r5 (Nat.le_refl _) (by have := payH_len (r := 3) (n := 1) (d := y32) (by decide) (by decide) rfl; omega) (errT_below HE.out HB5.out)
    rw [parseH_pay (by decide) (by decide) rfl] at h
    exact h
  obtain ⟨q5, c5, rfl⟩ := rd_form r5
  generalize (payH 3 1 y32).length = n5 at HPA ⊢
  clear r5 b5 HB4 HR4 HA4
  go_wp2_with fail
  refine HPA.out.mono ?_
  rintro e w6 ⟨rfl, b6⟩
  have hb7 : Below w6.heap.size w6 (w6.alloc (.cells (hc 3 (1 : Nat) y32).toArray 30)) := (Below.refl _ _).alloc (Nat.le_refl _) _
  have hb67 := b6.trans (hb7.mono b6.size)
  have HB7 := Lib.hid (HB5.out.trans (hb67.mono HB5.out.size))
  have HR7 := Lib.hid (rd_now (B := 0) HR5.out hb67)
  have HA7 := Lib.hid (HA5.out.later hb67)
  have HX7 := Lib.hid (Arr.new' w6 30 (hc 3 (1 : Nat) y32).toArray _ rfl)
  clear b6 hb7 hb67 HPA HB5 HR5 HA5
  go_upto_region 6 with ((with_reducible refine atH1 w6.heap.size (x := .tmp 7) (y := .tmp 28) (r := 3) (n := (1 : Nat)) (d := y32) (o := ⟨none, .store _ _ _, _, _, _, _⟩) y32_length ?_ ?_); exact ⟨rfl, rfl, rfl, rfl, rfl, rfl⟩)
  generalize w6.alloc (.cells (hc 3 (1 : Nat) y32).toArray 30) = w7 at HB7 HR7 HA7 HX7 ⊢
  generalize w6.heap.size = g7 at HX7 ⊢
  have HPN : Hid (Calls Tryz.prog 9 #[.slice none 0 0] w7 fun e w' => e = .returned (.tuple #[hV 0 (0 : Nat) y32, faultN 6 0]) ∧ Below w7.heap.size w7 w') := by
    have h := sparse_any (B := 0) (vb := .slice none 0 0) (l := []) (.inl ⟨none, rfl, rfl⟩) (Nat.zero_le w7.heap.size) (by simp) (errT_below HE.out HB7.out)
    rw [parseH_nil] at h
    exact h
  go_wp2_with fail
  refine HPN.out.mono ?_
  rintro e w8 ⟨rfl, b8⟩
  have hb9 : Below w8.heap.size w8 (w8.alloc (.cells (hc 0 (0 : Nat) y32).toArray 30)) := (Below.refl _ _).alloc (Nat.le_refl _) _
  have hb89 := b8.trans (hb9.mono b8.size)
  have HB9 := Lib.hid (HB7.out.trans (hb89.mono HB7.out.size))
  have HR9 := Lib.hid (rd_now (B := 0) HR7.out hb89)
  have HA9 := Lib.hid (HA7.out.later hb89)
  have HX9 := Lib.hid (HX7.out.later hb89)
  clear b8 hb9 hb89 HPN HB7 HR7 HA7 HX7
  go_upto_region 7 with ((with_reducible refine atH1 w8.heap.size (x := .tmp 9) (y := .tmp 32) (r := 0) (n := (0 : Nat)) (d := y32) (o := ⟨none, .store _ _ _, _, _, _, _⟩) y32_length ?_ ?_); exact ⟨rfl, rfl, rfl, rfl, rfl, rfl⟩)
  generalize w8.alloc (.cells (hc 0 (0 : Nat) y32).toArray 30) = w9 at HB9 HR9 HA9 HX9 ⊢
  generalize w8.heap.size = g9
  go_wp2_with fail
  refine (sput_no 0 (-1) y32 rfl (.inr (.inl (by decide))) w9).mono ?_
  rintro e w10 ⟨rfl, b10⟩
  have hb11 : Below w10.heap.size w10 (w10.alloc (.cells LIT5 5 (5, 6))) := (Below.refl _ _).alloc (Nat.le_refl _) _
  have hb := b10.trans (hb11.mono b10.size)
  have HB11 := Lib.hid (HB9.out.trans (hb.mono HB9.out.size))
  have HR11 := Lib.hid (rd_now (B := 0) HR9.out hb)
  have HA11 := Lib.hid (HA9.out.later hb)
  have HX11 := Lib.hid (HX9.out.later hb)
  have HL11 := Lib.hid (held_marked w10 0 (Nat.zero_le _) [86, 69, 78, 68, 0] LIT5 5 rfl rfl (by decide)).rd
  have hcl := Joins.run_convert_bytes_const_at (P := Tryz.prog) w10 27 5 LIT5 5 5 w10.heap.size rfl Tryz.underlying27 Tryz.underlying5
  have HSM := Lib.hid (same_any (rd_take HR11.out (k := 5) (by omega)) HL11.out)
  rw [foot_nil.2, show eqB [86, 69, 78, 68, 0] [86, 69, 78, 68, 0] = true from by decide] at HSM
  have hq := eqlCC
  have h5 : 5 ≤ cp := by have := HCP.out; omega
  have h37 : 37 ≤ cp := HCP.out
  clear b10 hb11 hb HB9 HR9 HA9 HX9 HR11 HL11
  go_wp2_with fail
  refine HSM.out.mono ?_
  rintro e w12 ⟨rfl, n12, rfl⟩
  have hb12 := below_drewN (Below.refl (w10.alloc (.cells LIT5 5 (5, 6))).heap.size (w10.alloc (.cells LIT5 5 (5, 6)))) n12
  have HB12 := Lib.hid (HB11.out.trans (hb12.mono HB11.out.size))
  have HA12 := Lib.hid (HA11.out.later hb12)
  have HX12 := Lib.hid (HX11.out.later hb12)
  generalize (w10.alloc (.cells LIT5 5 (5, 6))).drewN n12 = w12 at HB12 HA12 HX12 ⊢
  have hq2 := fun w => equalH1 (r := 3) (n := (1 : Int)) (r' := 3) (n' := (1 : Int)) y32_length y32_length w
  rw [eqH_refl] at hq2
  have HTO : Hid (Calls Tryz.prog 13 #[faultN 6 0, .int .i64 (6 : Nat), .int .i64 (0 : Nat)] w12 fun e w' => e = .returned (.bool true) ∧ Below w12.heap.size w12 w') := told_fault 6 0 (by decide) w12 (errT_below HE.out HB12.out)
  clear hb12 HB11 HA11 HX11 hcl HSM h5 h37
  go_wp2_with (first
    | ((with_reducible refine loadH1 (x := .tmp 7) (o := ⟨some 58, _, _, _, _, _⟩) HX12.out y32_length ?_ ?_); exact ⟨rfl, rfl, rfl⟩)
    | ((with_reducible refine loadH1 (x := .tmp 4) (o := ⟨some 59, _, _, _, _, _⟩) HA12.out y32_length ?_ ?_); exact ⟨rfl, rfl, rfl⟩))
  refine HTO.out.mono ?_
  rintro e w13 ⟨rfl, b13⟩
  have HB13 := Lib.hid (HB12.out.trans (b13.mono HB12.out.size))
  clear b13 HTO HB12 HA12 HX12
  go_wp2_with fail
  refine (ssize_nil _).mono ?_
  rintro e w14 ⟨rfl, rfl⟩
  go_wp2_with fail
  go_ret
  exact ⟨rfl, HB13.out⟩
end Go.Proofs.YtlngicddojoogaaGreatDoor
/-
  vestrylaw25.StreamParses: the walk.
-/
namespace Go.Proofs.YtlngicddojoogaaGreatDoor
open Go.ChangeShapes Go.WideShapes Go.ChangeAt Go.RowKit
open errAs (ErrT)
set_option linter.unusedVariables false

set_option maxRecDepth 100000 in
set_option maxHeartbeats 2000000 in
theorem parses_law (v0 : Value) (l : List UInt8) (w : World) (hr : Rd w.heap.size w v0 l) (hE : ErrT w) (he : Env w) :
    Calls Tryz.prog 4 #[v0] w fun e w' => e = .returned (.bool true) ∧ Below w.heap.size w w' := by
  have HE := Lib.hid hE
  have HV := Lib.hid he
  have HR := Lib.hid hr
  have HAW := Lib.hid (sawake_any w hE he)
  obtain ⟨q, cp, rfl⟩ := rd_form hr
  clear hE he hr
  by_cases hbig : 500 < l.length
  · have h1 : (500 : Int) < l.length := by omega
    go_enter Tryz.func4, Tryz.ntmps4
    go_wp2_with fail
    refine HAW.out.mono ?_
    rintro e w1 ⟨rfl, b1⟩
    have HB1 := Lib.hid b1
    have HAW2 := Lib.hid (sawake_any _ (errT_below HE.out b1) (HV.out.below b1))
    clear b1
    go_wp2_with fail
    refine HAW2.out.mono ?_
    rintro e w2 ⟨rfl, b2⟩
    have HB2 := Lib.hid (HB1.out.trans (b2.mono HB1.out.size))
    clear b2
    go_wp2_with fail
    go_ret
    exact ⟨rfl, HB2.out⟩
  · have h1 : ¬ (500 : Int) < l.length := by omega
    rcases parseH_cases l with ⟨c, n, hc, hpz⟩ | ⟨r, n, d, hr, hn, hd, hl, hpz⟩
    · have HC := Lib.hid hc
      have HPZ := Lib.hid hpz
      clear hc hpz
      go_enter Tryz.func4, Tryz.ntmps4
      go_wp2_with fail
      refine HAW.out.mono ?_
      rintro e w1 ⟨rfl, b1⟩
      have HB1 := Lib.hid b1
      have HR1 := Lib.hid (rd_now (B := 0) HR.out b1)
      have HPA : Hid (Calls Tryz.prog 9 #[.slice q l.length cp] w1 fun e w' => e = .returned (.tuple #[hV 0 (0 : Nat) y32, faultN c n]) ∧ Below w1.heap.size w1 w') := by
        have h := sparse_any HR1.out (Nat.le_refl _) (by omega) (errT_below HE.out b1)
        rw [HPZ.out, hE_bad _ _ HC.out] at h
        exact h
      clear b1 HR HAW
      go_wp2_with fail
      refine HPA.out.mono ?_
      rintro e w2 ⟨rfl, b2⟩
      have hb3 : Below w2.heap.size w2 (w2.alloc (.cells (hc 0 (0 : Nat) y32).toArray 30)) := (Below.refl _ _).alloc (Nat.le_refl _) _
      have HB3 := Lib.hid ((HB1.out.trans (b2.mono HB1.out.size)).trans (hb3.mono (HB1.out.trans (b2.mono HB1.out.size)).size))
      have HR3 := Lib.hid (rd_now (B := 0) (rd_now (B := 0) HR1.out b2) hb3)
      have HA3 := Lib.hid (Arr.new' w2 30 (hc 0 (0 : Nat) y32).toArray _ rfl)
      clear b2 hb3 HPA HB1 HR1
      go_upto_region 4 with ((with_reducible refine atH1 w2.heap.size (x := .tmp 3) (y := .tmp 21) (r := 0) (n := (0 : Nat)) (d := y32) (o := ⟨none, .store _ _ _, _, _, _, _⟩) y32_length ?_ ?_); exact ⟨rfl, rfl, rfl, rfl, rfl, rfl⟩)
      generalize w2.alloc (.cells (hc 0 (0 : Nat) y32).toArray 30) = w3 at HB3 HR3 HA3 ⊢
      generalize w2.heap.size = g3 at HA3 ⊢
      have HRP : Hid (Calls Tryz.prog 12 #[.slice q l.length cp] w3 fun e w' => e = .returned (.tuple #[hV 0 (0 : Nat) y32, .int .i64 (c : Nat), .int .i64 (n : Nat)]) ∧ Below w3.heap.size w3 w') := by
        have h := rsparse_any HR3.out (Nat.le_refl _) (by omega)
        rw [HPZ.out] at h
        exact h
      go_wp2_with fail
      refine HRP.out.mono ?_
      rintro e w4 ⟨rfl, b4⟩
      have hb5 : Below w4.heap.size w4 (w4.alloc (.cells (hc 0 (0 : Nat) y32).toArray 25)) := (Below.refl _ _).alloc (Nat.le_refl _) _
      have HB5 := Lib.hid ((HB3.out.trans (b4.mono HB3.out.size)).trans (hb5.mono (HB3.out.trans (b4.mono HB3.out.size)).size))
      have HA5 := Lib.hid ((HA3.out.later b4).later hb5)
      have HX5 := Lib.hid (Arr.new' w4 25 (hc 0 (0 : Nat) y32).toArray _ rfl)
      clear b4 hb5 HRP HB3 HR3 HA3
      go_upto_region 5 with ((with_reducible refine atH2 w4.heap.size (x := .tmp 5) (y := .tmp 26) (r := 0) (n := (0 : Nat)) (d := y32) (o := ⟨none, .store _ _ _, _, _, _, _⟩) y32_length ?_ ?_); exact ⟨rfl, rfl, rfl, rfl, rfl, rfl⟩)
      generalize w4.alloc (.cells (hc 0 (0 : Nat) y32).toArray 25) = w5 at HB5 HA5 HX5 ⊢
      generalize w4.heap.size = g5 at HX5 ⊢
      have hq2 := fun w => equalH2 (r := 0) (n := (0 : Int)) (r' := 0) (n' := (0 : Int)) y32_length y32_length w
      rw [eqH_refl] at hq2
      have HTO : Hid (Calls Tryz.prog 13 #[faultN c n, .int .i64 (c : Nat), .int .i64 (n : Nat)] w5 fun e w' => e = .returned (.bool true) ∧ Below w5.heap.size w5 w') := told_fault c n HC.out w5 (errT_below HE.out HB5.out)
      go_wp2_with (first
        | ((with_reducible refine loadH1 (x := .tmp 3) (o := ⟨some 29, _, _, _, _, _⟩) HA5.out y32_length ?_ ?_); exact ⟨rfl, rfl, rfl⟩)
        | ((with_reducible refine loadH2 (x := .tmp 3) (o := ⟨some 29, _, _, _, _, _⟩) HA5.out y32_length ?_ ?_); exact ⟨rfl, rfl, rfl⟩)
        | ((with_reducible refine loadH2 (x := .tmp 5) (o := ⟨some 30, _, _, _, _, _⟩) HX5.out y32_length ?_ ?_); exact ⟨rfl, rfl, rfl⟩))
      refine HTO.out.mono ?_
      rintro e w6 ⟨rfl, b6⟩
      have HB6 := Lib.hid (HB5.out.trans (b6.mono HB5.out.size))
      have HA6 := Lib.hid (HA5.out.later b6)
      clear b6 HTO HB5 HA5 HX5 hq2
      go_wp2_with ((with_reducible refine loadH1 (x := .tmp 3) (o := ⟨some 40, _, _, _, _, _⟩) HA6.out y32_length ?_ ?_); exact ⟨rfl, rfl, rfl⟩)
      refine (sput_yes 0 0 y32 (by decide) (by decide) rfl _).mono ?_
      rintro e w7 ⟨v7, rfl, r7, b7⟩
      have HB7 := Lib.hid (HB6.out.trans (b7.mono HB6.out.size))
      have hc0 : ¬ (c : Int) = 0 := by have := HC.out; omega
      have hc1 : ((c : Int) != 0) = true := by rw [bne_iff_ne]; exact hc0
      clear b7 HB6 HA6 r7
      go_wp2_with fail
      go_ret
      exact ⟨rfl, HB7.out⟩
    · have HRL := Lib.hid hr
      have HNL := Lib.hid hn
      have HD := Lib.hid hd
      have HPL := Lib.hid hl
      have HPZ := Lib.hid hpz
      clear hr hn hd hl hpz
      go_enter Tryz.func4, Tryz.ntmps4
      go_wp2_with fail
      refine HAW.out.mono ?_
      rintro e w1 ⟨rfl, b1⟩
      have HB1 := Lib.hid b1
      have HR1 := Lib.hid (rd_now (B := 0) HR.out b1)
      have HPA : Hid (Calls Tryz.prog 9 #[.slice q l.length cp] w1 fun e w' => e = .returned (.tuple #[hV r (n : Nat) d, .nilIface]) ∧ Below w1.heap.size w1 w') := by
        have h := sparse_any HR1.out (Nat.le_refl _) (by omega) (errT_below HE.out b1)
        rw [HPZ.out] at h
        exact h
      clear b1 HR HAW
      go_wp2_with fail
      refine HPA.out.mono ?_
      rintro e w2 ⟨rfl, b2⟩
      have hb3 : Below w2.heap.size w2 (w2.alloc (.cells (hc r (n : Nat) d).toArray 30)) := (Below.refl _ _).alloc (Nat.le_refl _) _
      have HB3 := Lib.hid ((HB1.out.trans (b2.mono HB1.out.size)).trans (hb3.mono (HB1.out.trans (b2.mono HB1.out.size)).size))
      have HR3 := Lib.hid (rd_now (B := 0) (rd_now (B := 0) HR1.out b2) hb3)
      have HA3 := Lib.hid (Arr.new' w2 30 (hc r (n : Nat) d).toArray _ rfl)
      clear b2 hb3 HPA HB1 HR1
      go_upto_region 4 with ((with_reducible refine atH1 w2.heap.size (x := .tmp 3) (y := .tmp 21) (r := r) (n := (n : Nat)) (d := d) (o := ⟨none, .store _ _ _, _, _, _, _⟩) HD.out ?_ ?_); exact ⟨rfl, rfl, rfl, rfl, rfl, rfl⟩)
      generalize w2.alloc (.cells (hc r (n : Nat) d).toArray 30) = w3 at HB3 HR3 HA3 ⊢
      generalize w2.heap.size = g3 at HA3 ⊢
      have HRP : Hid (Calls Tryz.prog 12 #[.slice q l.length cp] w3 fun e w' => e = .returned (.tuple #[hV r (n : Nat) d, .int .i64 (0 : Nat), .int .i64 (0 : Nat)]) ∧ Below w3.heap.size w3 w') := by
        have h := rsparse_any HR3.out (Nat.le_refl _) (by omega)
        rw [HPZ.out] at h
        exact h
      go_wp2_with fail
      refine HRP.out.mono ?_
      rintro e w4 ⟨rfl, b4⟩
      have hb5 : Below w4.heap.size w4 (w4.alloc (.cells (hc r (n : Nat) d).toArray 25)) := (Below.refl _ _).alloc (Nat.le_refl _) _
      have HB5 := Lib.hid ((HB3.out.trans (b4.mono HB3.out.size)).trans (hb5.mono (HB3.out.trans (b4.mono HB3.out.size)).size))
      have HR5 := Lib.hid (rd_now (B := 0) (rd_now (B := 0) HR3.out b4) hb5)
      have HA5 := Lib.hid ((HA3.out.later b4).later hb5)
      have HX5 := Lib.hid (Arr.new' w4 25 (hc r (n : Nat) d).toArray _ rfl)
      clear b4 hb5 HRP HB3 HR3 HA3
      go_upto_region 5 with ((with_reducible refine atH2 w4.heap.size (x := .tmp 5) (y := .tmp 26) (r := r) (n := (n : Nat)) (d := d) (o := ⟨none, .store _ _ _, _, _, _, _⟩) HD.out ?_ ?_); exact ⟨rfl, rfl, rfl, rfl, rfl, rfl⟩)
      generalize w4.alloc (.cells (hc r (n : Nat) d).toArray 25) = w5 at HB5 HR5 HA5 HX5 ⊢
      generalize w4.heap.size = g5 at HX5 ⊢
      have hq2 := fun w => equalH2 (r := r) (n := (n : Nat)) (r' := r) (n' := (n : Nat)) HD.out HD.out w
      rw [eqH_refl] at hq2
      have HTO : Hid (Calls Tryz.prog 13 #[.nilIface, .int .i64 (0 : Nat), .int .i64 (0 : Nat)] w5 fun e w' => e = .returned (.bool true) ∧ Below w5.heap.size w5 w') := (told_none 0 w5).mono fun e w' ⟨h1, h2⟩ => ⟨h1, h2 ▸ Below.refl _ _⟩
      go_wp2_with (first
        | ((with_reducible refine loadH1 (x := .tmp 3) (o := ⟨some 29, _, _, _, _, _⟩) HA5.out HD.out ?_ ?_); exact ⟨rfl, rfl, rfl⟩)
        | ((with_reducible refine loadH2 (x := .tmp 3) (o := ⟨some 29, _, _, _, _, _⟩) HA5.out HD.out ?_ ?_); exact ⟨rfl, rfl, rfl⟩)
        | ((with_reducible refine loadH2 (x := .tmp 5) (o := ⟨some 30, _, _, _, _, _⟩) HX5.out HD.out ?_ ?_); exact ⟨rfl, rfl, rfl⟩))
      refine HTO.out.mono ?_
      rintro e w6 ⟨rfl, b6⟩
      have HB6 := Lib.hid (HB5.out.trans (b6.mono HB5.out.size))
      have HR6 := Lib.hid (rd_now (B := 0) HR5.out b6)
      have HA6 := Lib.hid (HA5.out.later b6)
      clear b6 HTO HB5 HR5 HA5 HX5 hq2
      go_wp2_with ((with_reducible refine loadH1 (x := .tmp 3) (o := ⟨some 40, _, _, _, _, _⟩) HA6.out HD.out ?_ ?_); exact ⟨rfl, rfl, rfl⟩)
      refine (sput_yes r n d HRL.out HNL.out HD.out _).mono ?_
      rintro e w7 ⟨v7, rfl, r7, b7⟩
      rw [← HPL.out] at r7
      have HB7 := Lib.hid (HB6.out.trans (b7.mono HB6.out.size))
      have HSM := Lib.hid (same_any r7 (rd_now (B := 0) HR6.out b7))
      rw [eqB_refl] at HSM
      obtain ⟨q7, c7, rfl⟩ := rd_form r7
      clear b7 r7 HB6 HR6 HA6
      go_wp2_with fail
      refine HSM.out.mono ?_
      rintro e w8 ⟨rfl, n8, rfl⟩
      have HB8 := Lib.hid (below_drewN HB7.out n8)
      clear HSM HB7
      go_wp2_with fail
      go_ret
      exact ⟨rfl, HB8.out⟩
end Go.Proofs.YtlngicddojoogaaGreatDoor
