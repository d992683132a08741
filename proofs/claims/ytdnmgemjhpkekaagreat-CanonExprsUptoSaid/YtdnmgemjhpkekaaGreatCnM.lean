/-
  canon.Schema on two definitions without members.
-/
import Derived.Test.YtdnmgemjhpkekaaGreatCnL
namespace Go.Proofs.YtdnmgemjhpkekaaGreat
open Go.ChangeShapes Go.WideShapes Go.ChangeAt Go.RowKit Go.Lib Go.Sort
set_option linter.unusedVariables false

set_option maxRecDepth 100000 in
set_option maxHeartbeats 4000000 in
theorem stableD2 {w : World} {g c : Nat} {n1 n2 : ByteArray} (h : DR w g n1 n2) : Calls Tryz.prog 40 #[.slice (some ⟨g, 0, none⟩) 2 c, .int .i64 2, .func (.func 24) #[] #[]] w fun e w' => e = .returned (.tuple #[]) ∧ w.grownBy w' (some g) ∧ SD w' g n1 n2 := by
  have HI := Lib.hid (isortD2 (c := c) h)
  clear h
  go_enter Tryz.func40, Tryz.ntmps40
  go_wp2_with fail
  go_loopw [7, 8] (fun av bv wr => av = .int .i64 0 ∧ bv = .int .i64 20 ∧ wr = w) (fun _ _ _ => 0)
  case atStart => exact ⟨rfl, rfl, rfl⟩
  case round =>
    obtain ⟨rfl, rfl, rfl⟩ := hrel
    go_wp2_with fail
    refine HI.out.mono ?_
    rintro e w1 ⟨rfl, b1, s1⟩
    have HB1 := Lib.hid b1
    have HS1 := Lib.hid s1
    clear b1 s1 HI
    go_wp2_with fail
    go_loopw [6] (fun kv wr' => kv = .int .i64 20 ∧ wr' = w1) (fun _ _ => 0)
    case atStart => exact ⟨rfl, rfl⟩
    case round =>
      obtain ⟨rfl, rfl⟩ := hrel
      go_wp2_with fail
      go_end0
      exact ⟨rfl, HB1.out, HS1.out⟩
set_option maxRecDepth 100000 in
set_option maxHeartbeats 4000000 in
theorem sortsD2 {w : World} {g c : Nat} {n1 n2 : ByteArray} (h : DR w g n1 n2) : Calls Tryz.prog 23 #[.slice (some ⟨g, 0, none⟩) 2 c, .func (.func 24) #[] #[]] w fun e w' => e = .returned (.tuple #[]) ∧ w.grownBy w' (some g) ∧ SD w' g n1 n2 := by
  have HI := Lib.hid (stableD2 (c := c) h)
  clear h
  go_enter Tryz.func23, Tryz.ntmps23
  go_wp2_with fail
  refine HI.out.mono ?_
  rintro e w1 ⟨rfl, b1, s1⟩
  have HB1 := Lib.hid b1
  have HS1 := Lib.hid s1
  clear b1 s1 HI
  go_wp2_with fail
  go_end0
  exact ⟨rfl, HB1.out, HS1.out⟩
section
variable {ops : Array Oper} {rest : List Oper} {o : Oper} {a : Act} {Q : Exit → Act → World → Prop} {w : World} {g : Nat} {x y : Operand} {u v : Value}
theorem loadS2 {t : TypeId} (hA : Arr w t g [u]) (hs : o.guard = none ∧ o.op = .load 32 x ∧ a.eval x = .pointer (some ⟨g, 0, none⟩))
    (hk : wpList Tryz.prog ops Q rest (a.put o.dst (.agg #[u])) w) : wpList Tryz.prog ops Q (o :: rest) a w :=
  load_arr hs.1 _ x hs.2.1 hA hs.2.2 Tryz.underlying32 rfl (by kernel_rfl) hk
theorem storeS2 {t : TypeId} (hA : Arr w t g [u]) (ho : v.oneCell' = true) (hs : o.guard = none ∧ o.op = .store 32 x y ∧ a.eval x = .pointer (some ⟨g, 0, none⟩) ∧ a.eval y = .agg #[v])
    (hk : wpList Tryz.prog ops Q rest (a.put o.dst undef) (w.setRow g #[v])) : wpList Tryz.prog ops Q (o :: rest) a w :=
  store_arr hs.1 _ x y hs.2.1 hA (cs := [v]) hs.2.2.1 hs.2.2.2 (by kernel_rfl) rfl (by simp [ho]) hk
end
theorem DR.row {w : World} {g k : Nat} {n1 n2 : ByteArray} (h : DR w g n1 n2) (hne : g ≠ k) (c : Array Value) : DR (w.setRow k c) g n1 n2 := by
  have hb : (w.setRow k c).heap[g]? = w.heap[g]? := by
    simp only [World.setRow, Array.getElem?_modify]
    rw [if_neg (fun e => hne e.symm)]
  have hk : ∀ j, (w.setRow k c).cell? ⟨g, j, none⟩ = w.cell? ⟨g, j, none⟩ := fun j => World.cell?_of_block (a := ⟨g, j, none⟩) hb
  have hf : ∀ j, (w.setRow k c).frozen? ⟨g, j, none⟩ = w.frozen? ⟨g, j, none⟩ := fun j => World.frozen?_of_block (a := ⟨g, j, none⟩) hb
  exact ⟨by simpa [World.setRow] using h.1, ⟨(hk 0).trans h.2.1.1, (hk 1).trans h.2.1.2.1, (hk 2).trans h.2.1.2.2.1, (hk 3).trans h.2.1.2.2.2⟩, fun j => (hf j).trans (h.2.2 j)⟩
set_option maxRecDepth 100000 in
set_option maxHeartbeats 4000000 in
theorem sclone2 {w : World} {g c : Nat} {n1 n2 : ByteArray} (h : DR w g n1 n2) : Calls Tryz.prog 22 #[.agg #[.slice (some ⟨g, 0, none⟩) 2 c]] w fun e w' => ∃ g' c', e = .returned (.agg #[.slice (some ⟨g', 0, none⟩) 2 c']) ∧ w.heap.size ≤ g' ∧ DR w' g' n1 n2 ∧ Below w.heap.size w w' := by
  have h2 : Below w.heap.size w ((w.alloc (.cells #[.slice (some ⟨g, 0, none⟩) 2 c] 32)).alloc (.cells #[.slice none 0 0] 32)) := ((Below.refl _ _).alloc (Nat.le_refl _) _).alloc (by simp) _
  have hA1 : Arr ((w.alloc (.cells #[.slice (some ⟨g, 0, none⟩) 2 c] 32)).alloc (.cells #[.slice none 0 0] 32)) 32 (w.heap.size + 1) [.slice none 0 0] := Arr.new2 w _ _ _ _ rfl
  have hA0 : Arr ((w.alloc (.cells #[.slice (some ⟨g, 0, none⟩) 2 c] 32)).alloc (.cells #[.slice none 0 0] 32)) 32 w.heap.size [.slice (some ⟨g, 0, none⟩) 2 c] := (Arr.new' w _ _ _ rfl).alloc _
  have hc0 := hA0.cell 0
  simp only [List.getElem?_cons_zero] at hc0
  have hz : ((w.alloc (.cells #[.slice (some ⟨g, 0, none⟩) 2 c] 32)).alloc (.cells #[.slice none 0 0] 32)).heap.size = w.heap.size + 2 := by simp
  have HCL := Lib.hid (cloneD2 (c := c) (h.later h2))
  rw [hz] at HCL
  have HB := Lib.hid h2
  have HA1 := Lib.hid hA1
  have HZ := Lib.hid hz
  clear h2 hA1 hA0 h hz
  go_enter Tryz.func22, Tryz.ntmps22
  go_wp2_with fail
  refine HCL.out.mono ?_
  rintro e w1 ⟨g1, c1, rfl, hg1, hd1, b1⟩
  have HD1 := Lib.hid hd1
  have HG1 := Lib.hid hg1
  have HB1 : Hid (Below w.heap.size w w1) := HB.out.trans (b1.mono (by omega))
  have HR1 : Hid (Arr w1 32 (w.heap.size + 1) [.slice none 0 0]) := HA1.out.below b1 (by omega)
  clear hd1 hg1 b1 hc0 HB HA1 HCL HZ
  go_wp2_with fail
  go_loopw [11] (fun iv wr => ∃ i : Nat, i ≤ 2 ∧ iv = .int .i64 i ∧ Hid (DR wr g1 n1 n2) ∧ Hid (Below w.heap.size w wr) ∧ Hid (Arr wr 32 (w.heap.size + 1) [.slice none 0 0])) (fun iv _ => 2 - (intOf iv).toNat)
  case atStart => exact ⟨0, by omega, rfl, HD1.out, HB1.out, HR1.out⟩
  case round =>
    obtain ⟨i, hi, rfl, HD, HB, HR⟩ := hrel
    clear HD1 HB1 HR1
    by_cases h0 : i = 0
    · subst h0
      have ba : Below wr.heap.size wr (wr.alloc (.cells #[.string n1, .slice none 0 0] 36)) := (Below.refl _ _).alloc (Nat.le_refl _) _
      have HDa := Lib.hid (HD.out.later ba)
      have HBa := Lib.hid (HB.out.trans (ba.mono HB.out.size))
      have HRa := Lib.hid (HR.out.later ba)
      have k0 := HD.out.2.1.1
      have k1 := HD.out.2.1.2.1
      have k2 := HDa.out.2.1.2.1
      have f2 := HDa.out.2.2 1
      clear ba HD HB HR
      go_wp2_with fail
      refine (cms_nil _).mono ?_
      rintro e w5 ⟨rfl, hw5⟩
      rw [hw5] at HDa HBa HRa k2 f2
      clear hw5 k0 k1
      go_wp2_with fail
      have HD5 := Lib.hid HDa.out.nil1
      have HB5 := Lib.hid (HBa.out.setCell (p := ⟨g1, 1, none⟩) (show w.heap.size ≤ g1 by have := HG1.out; omega) (.slice none 0 0))
      have HR5 := Lib.hid (HRa.out.setCell (a := ⟨g1, 1, none⟩) (show w.heap.size + 1 ≠ g1 by have := HG1.out; omega) (.slice none 0 0))
      go_roundw
      case rel => exact ⟨1, by omega, by go_num, HD5.out, HB5.out, HR5.out⟩
      case measure => simp [intOf]
    · by_cases h1 : i = 1
      · subst h1
        have ba : Below wr.heap.size wr (wr.alloc (.cells #[.string n2, .slice none 0 0] 36)) := (Below.refl _ _).alloc (Nat.le_refl _) _
        have HDa := Lib.hid (HD.out.later ba)
        have HBa := Lib.hid (HB.out.trans (ba.mono HB.out.size))
        have HRa := Lib.hid (HR.out.later ba)
        have k0 := HD.out.2.1.2.2.1
        have k1 := HD.out.2.1.2.2.2
        have k2 := HDa.out.2.1.2.2.2
        have f2 := HDa.out.2.2 3
        clear ba HD HB HR
        go_wp2_with fail
        refine (cms_nil _).mono ?_
        rintro e w5 ⟨rfl, hw5⟩
        rw [hw5] at HDa HBa HRa k2 f2
        clear hw5 k0 k1
        go_wp2_with fail
        have HD5 := Lib.hid HDa.out.nil3
        have HB5 := Lib.hid (HBa.out.setCell (p := ⟨g1, 3, none⟩) (show w.heap.size ≤ g1 by have := HG1.out; omega) (.slice none 0 0))
        have HR5 := Lib.hid (HRa.out.setCell (a := ⟨g1, 3, none⟩) (show w.heap.size + 1 ≠ g1 by have := HG1.out; omega) (.slice none 0 0))
        go_roundw
        case rel => exact ⟨2, by omega, by go_num, HD5.out, HB5.out, HR5.out⟩
        case measure => simp [intOf]
      · obtain rfl : i = 2 := by omega
        clear h0 h1 hi
        go_wp2_with ((with_reducible refine storeS2 (v := .slice (some ⟨g1, 0, none⟩) 2 c1) (x := .tmp 2) (y := .tmp 25) (o := ⟨none, .store _ _ _, _, _, _, _⟩) HR.out rfl ?_ ?_); exact ⟨rfl, rfl, rfl, rfl⟩)
        have hA := HR.out.row [.slice (some ⟨g1, 0, none⟩) 2 c1]
        have hD := HD.out.row (k := w.heap.size + 1) (by have := HG1.out; omega) #[.slice (some ⟨g1, 0, none⟩) 2 c1]
        have hB := below_row HB.out (g := w.heap.size + 1) (by omega) #[.slice (some ⟨g1, 0, none⟩) 2 c1]
        refine bodyPost_ret (results_cell_row rfl _ _ (w.heap.size + 1) 32 #[.slice (some ⟨g1, 0, none⟩) 2 c1] (0, 0) _ rfl hA Tryz.underlying32 rfl (by kernel_rfl)) rfl ⟨g1, c1, rfl, by have := HG1.out; omega, hD, hB⟩
set_option maxRecDepth 100000 in
set_option maxHeartbeats 4000000 in
theorem csch2 {w : World} {g c : Nat} {n1 n2 : ByteArray} (h : DR w g n1 n2) : Calls Tryz.prog 11 #[.agg #[.slice (some ⟨g, 0, none⟩) 2 c]] w fun e w' => ∃ g' c', e = .returned (.agg #[.slice (some ⟨g', 0, none⟩) 2 c']) ∧ w.heap.size ≤ g' ∧ SD w' g' n1 n2 ∧ Below w.heap.size w w' := by
  have h2 : Below w.heap.size w ((w.alloc (.cells #[.slice (some ⟨g, 0, none⟩) 2 c] 32)).alloc (.cells #[.slice none 0 0] 32)) := ((Below.refl _ _).alloc (Nat.le_refl _) _).alloc (by simp) _
  have hA1 : Arr ((w.alloc (.cells #[.slice (some ⟨g, 0, none⟩) 2 c] 32)).alloc (.cells #[.slice none 0 0] 32)) 32 (w.heap.size + 1) [.slice none 0 0] := Arr.new2 w _ _ _ _ rfl
  have hA0 : Arr ((w.alloc (.cells #[.slice (some ⟨g, 0, none⟩) 2 c] 32)).alloc (.cells #[.slice none 0 0] 32)) 32 w.heap.size [.slice (some ⟨g, 0, none⟩) 2 c] := (Arr.new' w _ _ _ rfl).alloc _
  have hz : ((w.alloc (.cells #[.slice (some ⟨g, 0, none⟩) 2 c] 32)).alloc (.cells #[.slice none 0 0] 32)).heap.size = w.heap.size + 2 := by simp
  have HCL := Lib.hid (sclone2 (c := c) (h.later h2))
  rw [hz] at HCL
  have HB := Lib.hid h2
  have HA1 := Lib.hid hA1
  have HA0 := Lib.hid hA0
  clear h2 hA1 hA0 h hz
  go_enter Tryz.func11, Tryz.ntmps11
  go_wp2_with ((with_reducible refine loadS2 (x := .tmp 1) (o := ⟨some 8, _, _, _, _, _⟩) HA0.out ?_ ?_); exact ⟨rfl, rfl, rfl⟩)
  refine HCL.out.mono ?_
  rintro e w1 ⟨g1, c1, rfl, hg1, hd1, b1⟩
  have HB1 : Hid (Below w.heap.size w w1) := HB.out.trans (b1.mono (by omega))
  have HR1 : Hid (Arr w1 32 (w.heap.size + 1) [.slice none 0 0]) := HA1.out.below b1 (by omega)
  have hglt : g1 < w1.heap.size := hd1.1
  have ba : Below w1.heap.size w1 (w1.alloc (.cells #[.slice (some ⟨g1, 0, none⟩) 2 c1] 32)) := (Below.refl _ _).alloc (Nat.le_refl _) _
  have HG1 := Lib.hid hg1
  have HLT := Lib.hid hglt
  have hA3 : Arr (w1.alloc (.cells #[.slice (some ⟨g1, 0, none⟩) 2 c1] 32)) 32 w1.heap.size [.slice (some ⟨g1, 0, none⟩) 2 c1] := Arr.new' w1 _ _ _ rfl
  have HD3 := Lib.hid (hd1.later ba)
  have HB3 := Lib.hid (HB1.out.trans (ba.mono HB1.out.size))
  have HR3 := Lib.hid (HR1.out.later ba)
  have HA3 := Lib.hid hA3
  have HS1 : Hid (w.heap.size + 2 ≤ w1.heap.size) := by show _ ≤ _; omega
  have HSO := Lib.hid (sortsD2 (c := c1) (hd1.later ba))
  have hc3 := hA3.cell 0
  simp only [List.getElem?_cons_zero] at hc3
  clear hd1 hg1 b1 HB HA1 HCL hglt hA3 HB1 HR1 ba HA0
  go_wp2_with fail
  refine HSO.out.mono ?_
  rintro e w2 ⟨rfl, b2, s2⟩
  have HS2 := Lib.hid s2
  have HGR := Lib.hid b2
  have HB2 : Hid (Below w.heap.size w w2) := HB3.out.trans ⟨b2.os, b2.tape, b2.output, b2.size, fun k hk => b2.block k (Nat.lt_of_lt_of_le hk HB3.out.size) fun e => by have := HG1.out; have := Option.some.inj e; omega⟩
  have HR2 : Hid (Arr w2 32 (w.heap.size + 1) [.slice none 0 0]) := (b2.block _ HR3.out.lt fun e => by have := HG1.out; have := Option.some.inj e; omega).trans HR3.out
  have HA2 : Hid (Arr w2 32 w1.heap.size [.slice (some ⟨g1, 0, none⟩) 2 c1]) := (b2.block _ HA3.out.lt fun e => by have := HLT.out; have := Option.some.inj e; omega).trans HA3.out
  have HA2c := HA2.out.cell 0
  simp only [List.getElem?_cons_zero] at HA2c
  obtain ⟨m1, m2, hm, hdm⟩ : ∃ m1 m2, (∀ w', DR w' g1 m1 m2 → SD w' g1 n1 n2) ∧ DR w2 g1 m1 m2 := by
    unfold SD at s2
    by_cases hq : ord n2 n1 < 0
    · rw [if_pos hq] at s2
      exact ⟨n2, n1, fun w' hd => by unfold SD; rw [if_pos hq]; exact hd, s2⟩
    · rw [if_neg hq] at s2
      exact ⟨n1, n2, fun w' hd => by unfold SD; rw [if_neg hq]; exact hd, s2⟩
  have HM := Lib.hid hm
  have HD2 := Lib.hid hdm
  clear b2 s2 hm hdm HSO HB3 HR3 HA3 HD3 hc3
  go_wp2_with fail
  go_loopw [16] (fun iv wr => ∃ i : Nat, i ≤ 2 ∧ iv = .int .i64 i ∧ Hid (DR wr g1 m1 m2) ∧ Hid (Below w.heap.size w wr) ∧ Hid (Arr wr 32 (w.heap.size + 1) [.slice none 0 0]) ∧ Hid (Arr wr 32 w1.heap.size [.slice (some ⟨g1, 0, none⟩) 2 c1])) (fun iv _ => 2 - (intOf iv).toNat)
  case atStart => exact ⟨0, by omega, rfl, HD2.out, HB2.out, HR2.out, HA2.out⟩
  case round =>
    obtain ⟨i, hi, rfl, HD, HB, HR, HA⟩ := hrel
    clear HD2 HB2 HR2 HA2 HA2c HS2 HGR
    by_cases h0 : i = 0
    · subst h0
      have ba : Below wr.heap.size wr (wr.alloc (.cells #[.string m1, .slice none 0 0] 36)) := (Below.refl _ _).alloc (Nat.le_refl _) _
      have HDa := Lib.hid (HD.out.later ba)
      have HBa := Lib.hid (HB.out.trans (ba.mono HB.out.size))
      have HRa := Lib.hid (HR.out.later ba)
      have HAa := Lib.hid (HA.out.later ba)
      have k0 := HD.out.2.1.1
      have k1 := HD.out.2.1.2.1
      have ka := HA.out.cell 0
      have kb := HAa.out.cell 0
      have hd5 : Arr (wr.alloc (.cells #[.string m1, .slice none 0 0] 36)) 36 wr.heap.size [.string m1, .slice none 0 0] := Arr.new' wr _ _ _ rfl
      have kc := hd5.cell 1
      simp only [List.getElem?_cons_zero, List.getElem?_cons_succ] at ka kb kc
      clear ba HD HB HR HA hd5
      go_wp2_with fail
      refine (sortsM_nil _ _).mono ?_
      rintro e w5 ⟨rfl, hw5⟩
      rw [hw5] at HDa HBa HRa HAa kb kc
      clear hw5 k0 k1 ka
      go_wp2_with fail
      go_loopw [26] (fun iv wr' => iv = .int .i64 0 ∧ wr' = w5) (fun _ _ => 0)
      case atStart => exact ⟨rfl, rfl⟩
      case round =>
        obtain ⟨rfl, rfl⟩ := hrel
        go_wp2_with fail
        go_roundw
        case rel => exact ⟨1, by omega, by go_num, HDa.out, HBa.out, HRa.out, HAa.out⟩
        case measure => simp [intOf]
    · by_cases h1 : i = 1
      · subst h1
        have ba : Below wr.heap.size wr (wr.alloc (.cells #[.string m2, .slice none 0 0] 36)) := (Below.refl _ _).alloc (Nat.le_refl _) _
        have HDa := Lib.hid (HD.out.later ba)
        have HBa := Lib.hid (HB.out.trans (ba.mono HB.out.size))
        have HRa := Lib.hid (HR.out.later ba)
        have HAa := Lib.hid (HA.out.later ba)
        have k0 := HD.out.2.1.2.2.1
        have k1 := HD.out.2.1.2.2.2
        have ka := HA.out.cell 0
        have kb := HAa.out.cell 0
        have hd5 : Arr (wr.alloc (.cells #[.string m2, .slice none 0 0] 36)) 36 wr.heap.size [.string m2, .slice none 0 0] := Arr.new' wr _ _ _ rfl
        have kc := hd5.cell 1
        simp only [List.getElem?_cons_zero, List.getElem?_cons_succ] at ka kb kc
        clear ba HD HB HR HA hd5
        go_wp2_with fail
        refine (sortsM_nil _ _).mono ?_
        rintro e w5 ⟨rfl, hw5⟩
        rw [hw5] at HDa HBa HRa HAa kb kc
        clear hw5 k0 k1 ka
        go_wp2_with fail
        go_loopw [26] (fun iv wr' => iv = .int .i64 0 ∧ wr' = w5) (fun _ _ => 0)
        case atStart => exact ⟨rfl, rfl⟩
        case round =>
          obtain ⟨rfl, rfl⟩ := hrel
          go_wp2_with fail
          go_roundw
          case rel => exact ⟨2, by omega, by go_num, HDa.out, HBa.out, HRa.out, HAa.out⟩
          case measure => simp [intOf]
      · obtain rfl : i = 2 := by omega
        clear h0 h1 hi
        go_wp2_with (first
          | ((with_reducible refine loadS2 (x := .tmp 3) (o := ⟨some 49, _, _, _, _, _⟩) HA.out ?_ ?_); exact ⟨rfl, rfl, rfl⟩)
          | ((with_reducible refine storeS2 (v := .slice (some ⟨g1, 0, none⟩) 2 c1) (x := .tmp 2) (y := .tmp 49) (o := ⟨none, .store _ _ _, _, _, _, _⟩) HR.out rfl ?_ ?_); exact ⟨rfl, rfl, rfl, rfl⟩))
        have hA := HR.out.row [.slice (some ⟨g1, 0, none⟩) 2 c1]
        have hD := HD.out.row (k := w.heap.size + 1) (by have := HG1.out; omega) #[.slice (some ⟨g1, 0, none⟩) 2 c1]
        have hB := below_row HB.out (g := w.heap.size + 1) (by omega) #[.slice (some ⟨g1, 0, none⟩) 2 c1]
        refine bodyPost_ret (results_cell_row rfl _ _ (w.heap.size + 1) 32 #[.slice (some ⟨g1, 0, none⟩) 2 c1] (0, 0) _ rfl hA Tryz.underlying32 rfl (by kernel_rfl)) rfl ⟨g1, c1, rfl, by have := HG1.out; omega, HM.out _ hD, hB⟩
end Go.Proofs.YtdnmgemjhpkekaaGreat
