/-
  part: an expression that is read.
-/
import Derived.Test.YtdnmgemjhpkekaaGreatDoorMg2
namespace Go.Proofs.YtdnmgemjhpkekaaGreatDoor
open Go.ChangeShapes Go.WideShapes Go.ChangeAt Go.RowKit
set_option linter.unusedVariables false

/-- The boxes of part's arguments. -/
def SB (g rb D : Nat) (w : World) : Prop := Arr w 54 g [.pointer (some ⟨rb, 0, none⟩)] ∧ Arr w 3 (g + 1) [.int .i64 (D : Nat)]
theorem sLater {g rb D : Nat} {w w' : World} (h : SB g rb D w) (hb : Below w.heap.size w w') : SB g rb D w' := ⟨h.1.later hb, h.2.later hb⟩
theorem sDrew {g rb D : Nat} {w : World} (h : SB g rb D w) : SB g rb D w.drew := ⟨h.1.drew, h.2.drew⟩
theorem sK2 {g rb D cb : Nat} {w w' : World} (h : SB g rb D w) (hk : K2 cb rb w w') (hl : cb < rb ∧ rb < g) : SB g rb D w' := ⟨hk.arr h.1 (by omega) (by omega), hk.arr h.2 (by omega) (by omega)⟩
theorem sGrown {g rb D B : Nat} {w w' : World} {row : Option Nat} (h : SB g rb D w) (hg : w.grownBy w' row) (hr : ∀ k, row = some k → B ≤ k) (hB : g + 1 < B) : SB g rb D w' :=
  ⟨(hg.block _ h.1.lt (fun e => absurd (hr _ e.symm) (by omega))).trans h.1, (hg.block _ h.2.lt (fun e => absurd (hr _ e.symm) (by omega))).trans h.2⟩
theorem sBox {g0 rb D g : Nat} {w : World} (h : SB g0 rb D w) (i : Nat) (v : Value) (hg : g0 + 1 < g) : SB g0 rb D (w.setCell ⟨g, i, none⟩ v) := ⟨h.1.setCell (by show _ ≠ g; omega) v, h.2.setCell (by show _ ≠ g; omega) v⟩
theorem resX {fn : Func} {p : Tmp} (h : fn.results = #[.cell p 42]) {tmps : Array Value} {w : World} {g : Nat} {x0 x1 x2 x3 : Value} (hA : Arr w 42 g [x0, x1, x2, x3]) (hp : tmps.getD p undef = .pointer (some ⟨g, 0, none⟩)) :
    (results fn tmps).run Tryz.prog w = .ok (.agg #[x0, x1, x2, x3]) w :=
  results_cell_row h tmps w g 42 #[x0, x1, x2, x3] (0, 0) _ hp hA Tryz.underlying42 rfl (by kernel_rfl)
theorem Arr.set4x {w : World} {t : TypeId} {g : Nat} {y0 y1 y2 y3 : Value} (h : Arr w t g [y0, y1, y2, y3]) (x0 x1 x2 x3 : Value) : Arr ((((w.setCell ⟨g, 0, none⟩ x0).setCell ⟨g, 1, none⟩ x1).setCell ⟨g, 2, none⟩ x2).setCell ⟨g, 3, none⟩ x3) t g [x0, x1, x2, x3] := (((h.set 0 x0).set 1 x1).set 2 x2).set 3 x3
theorem kindC_0 {d lv x : Nat} (h : kindC d lv x = 0) : 1 ≤ x ∧ x ≤ 5 ∧ d ≠ 0 ∧ (x = 1 ∨ x = 2 → lv < 32) := by
  unfold kindC at h
  split at h
  · cases h
  split at h
  · cases h
  split at h
  · cases h
  refine ⟨by omega, by omega, by omega, fun h => by omega⟩
theorem kind_le {b : List UInt8} {d lv : Nat} (s : St) : (numC b (kindC d lv) s).1 ≤ 5 := numC_le (fun x h => (kindC_0 h).2.1) s
theorem kind_leaf {b : List UInt8} {d lv : Nat} {s : St} (h : (numC b (kindC d lv) s).1 = 1 ∨ (numC b (kindC d lv) s).1 = 2) : lv < 32 := by
  cases s with
  | er c a => rcases h with h | h <;> cases h
  | go o =>
    by_cases h1 : (num (b.drop o)).2.2 ≠ 0
    · rw [numC_1 h1] at h; rcases h with h | h <;> cases h
    · by_cases h2 : kindC d lv (num (b.drop o)).1 ≠ 0
      · rw [numC_2 h1 h2] at h; rcases h with h | h <;> cases h
      · rw [numC_3 h1 h2] at h
        exact (kindC_0 (Classical.not_not.1 h2)).2.2.2 h
theorem kind_none {b : List UInt8} {lv : Nat} (s : St) : (numC b (kindC 0 lv) s).1 = 0 := by
  cases s with
  | er c a => rfl
  | go o =>
    by_cases h1 : (num (b.drop o)).2.2 ≠ 0
    · rw [numC_1 h1]
    · by_cases h2 : kindC 0 lv (num (b.drop o)).1 ≠ 0
      · rw [numC_2 h1 h2]
      · exact absurd rfl (kindC_0 (Classical.not_not.1 h2)).2.2.1
section
variable {cb rb lv : Nat} {b : List UInt8} {s : St} {W : World}
/-- What part hands back. -/
def PPost (cb rb : Nat) (b : List UInt8) (W : World) (r : Ex × St × Nat) (e : Ending) (w' : World) : Prop := ∃ v, e = .returned v ∧ VE W.heap.size r.1 w' v ∧ RS cb rb b r.2.2 r.2.1 w' ∧ K2 cb rb W w'
set_option maxRecDepth 100000 in
set_option maxHeartbeats 2000000 in
theorem part_zero {D : Nat} (hd : D = 17) (h : RS cb rb b lv s W) : Calls Tryz.prog 67 #[.pointer (some ⟨rb, 0, none⟩), .int .i64 (D : Nat)] W (PPost cb rb b W (partC b 0 s lv)) := by
  have HD : Hid (D = 17 - 0) := hd
  have hb : Below W.heap.size W (((W.alloc (.cells #[.pointer (some ⟨rb, 0, none⟩)] 54)).alloc (.cells #[.int .i64 (D : Nat)] 3)).alloc (.cells #[.int .i64 0, .string ⟨#[]⟩, .string ⟨#[]⟩, .slice none 0 0] 42)) := (((Below.refl _ _).alloc (Nat.le_refl _) _).alloc (by simp) _).alloc (by simp; omega) _
  have HS := Lib.hid (h.later hb)
  have HK : Hid (K2 cb rb W (((W.alloc (.cells #[.pointer (some ⟨rb, 0, none⟩)] 54)).alloc (.cells #[.int .i64 (D : Nat)] 3)).alloc (.cells #[.int .i64 0, .string ⟨#[]⟩, .string ⟨#[]⟩, .slice none 0 0] 42))) := K2.of hb
  have HL : Hid (cb < rb ∧ rb < W.heap.size) := h.lt
  have HB : Hid (SB W.heap.size rb D (((W.alloc (.cells #[.pointer (some ⟨rb, 0, none⟩)] 54)).alloc (.cells #[.int .i64 (D : Nat)] 3)).alloc (.cells #[.int .i64 0, .string ⟨#[]⟩, .string ⟨#[]⟩, .slice none 0 0] 42))) := ⟨((Arr.new' _ _ _ _ rfl).alloc _).alloc _, (Arr.new2 _ _ _ _ _ rfl).alloc _⟩
  have HG : Hid (Arr (((W.alloc (.cells #[.pointer (some ⟨rb, 0, none⟩)] 54)).alloc (.cells #[.int .i64 (D : Nat)] 3)).alloc (.cells #[.int .i64 0, .string ⟨#[]⟩, .string ⟨#[]⟩, .slice none 0 0] 42)) 42 (W.heap.size + 2) [.int .i64 0, .string ⟨#[]⟩, .string ⟨#[]⟩, .slice none 0 0]) := Arr.new3 _ _ _ _ _ _ rfl
  have HN := Lib.hid (numberP (p1 := .pointer (some ⟨W.heap.size, 0, none⟩)) (p2 := .pointer (some ⟨W.heap.size + 1, 0, none⟩)) (chk := kindC 0 lv) HS.out (fun x hx => by have := kindC_0 hx; omega) (fun x W' s' hk hs => by
    have h2 := sK2 HB.out hk HL.out
    exact partK x 0 (by omega) hs h2.1 (by have := h2.2; rw [HD.out] at this; exact this)))
  have HKN : Hid ((numC b (kindC 0 lv) s).1 = 0) := kind_none s
  have HE : Hid (partC b 0 s lv = (ex0, (numC b (kindC 0 lv) s).2, lv)) := rfl
  rw [HKN.out] at HN
  obtain ⟨s1, hs1⟩ : ∃ x, x = (numC b (kindC 0 lv) s).2 := ⟨_, rfl⟩
  rw [← hs1] at HN HE
  clear h hb hs1 hd HKN
  have b0 := HB.out.1.cell 0
  simp only [List.getElem?_cons_zero] at b0
  go_enter Tryz.func67, Tryz.ntmps67
  go_wp2_with fail
  refine HN.out.mono ?_
  rintro e w1 ⟨rfl, h1, k1⟩
  have HS1 := Lib.hid h1
  have HK1 := Lib.hid (HK.out.trans k1)
  have HB1 := Lib.hid (sK2 HB.out k1 HL.out)
  have HG1 := Lib.hid (k1.arr HG.out (by have := HL.out; omega) (by have := HL.out; omega))
  clear h1 k1 HN HS HK HB HG b0
  have x0 := HG1.out.cell 0
  have y0 := HG1.out.free 0
  have x1 := HG1.out.cell 1
  have y1 := HG1.out.free 1
  have x2 := HG1.out.cell 2
  have y2 := HG1.out.free 2
  have x3 := HG1.out.cell 3
  have y3 := HG1.out.free 3
  simp only [List.getElem?_cons_zero, List.getElem?_cons_succ] at x0 x1 x2 x3
  go_wp2_with fail
  refine wp_loop_rounds 1 ?_
  rw [rounds_succ]
  clear x0 x1 x2 x3 y0 y1 y2 y3
  have HGZ : Hid (Arr (w1.setCell ⟨W.heap.size + 2, 0, none⟩ (.int .i64 0)) 42 (W.heap.size + 2) [.int .i64 0, .string ⟨#[]⟩, .string ⟨#[]⟩, .slice none 0 0]) := HG1.out.set 0 _
  have HSZ := Lib.hid (HS1.out.box (g := W.heap.size + 2) (by have := HL.out; omega) 0 (.int .i64 0))
  have HKZ := Lib.hid (HK1.out.box (g := W.heap.size + 2) (by omega) 0 (.int .i64 0))
  generalize w1.setCell ⟨W.heap.size + 2, 0, none⟩ (.int .i64 0) = wz at HGZ HSZ HKZ ⊢
  have x0 := HGZ.out.cell 0
  have y0 := HGZ.out.free 0
  have x1 := HGZ.out.cell 1
  have y1 := HGZ.out.free 1
  have x2 := HGZ.out.cell 2
  have y2 := HGZ.out.free 2
  have x3 := HGZ.out.cell 3
  have y3 := HGZ.out.free 3
  simp only [List.getElem?_cons_zero, List.getElem?_cons_succ] at x0 x1 x2 x3
  go_wp2_with fail
  have hk := kp_set4 wz (W.heap.size + 2) (.int .i64 0) (.string ⟨#[]⟩) (.string ⟨#[]⟩) (.slice none 0 0)
  have hA := HGZ.out.set4x (.int .i64 0) (.string ⟨#[]⟩) (.string ⟨#[]⟩) (.slice none 0 0)
  refine bodyPost_ret (resX rfl hA rfl) rfl ?_
  rw [HE.out]
  exact ⟨_, rfl, VE.leaf _ _ _ _ _, RS.box (RS.box (RS.box (RS.box HSZ.out (by have := HL.out; omega) _ _) (by have := HL.out; omega) _ _) (by have := HL.out; omega) _ _) (by have := HL.out; omega) _ _, K2.box (K2.box (K2.box (K2.box HKZ.out (by omega) _ _) (by omega) _ _) (by omega) _ _) (by omega) _ _⟩
set_option maxRecDepth 100000 in
set_option maxHeartbeats 8000000 in
theorem part_step {d D : Nat} (hd : D = 17 - (d + 1)) (hd16 : d + 1 ≤ 16) (IH : ∀ W s lv, RS cb rb b lv s W → Calls Tryz.prog 67 #[.pointer (some ⟨rb, 0, none⟩), .int .i64 ((D : Int) + 1)] W (PPost cb rb b W (partC b d s lv))) (h : RS cb rb b lv s W) : Calls Tryz.prog 67 #[.pointer (some ⟨rb, 0, none⟩), .int .i64 (D : Nat)] W (PPost cb rb b W (partC b (d + 1) s lv)) := by
  have HD : Hid (D = 17 - (d + 1)) := hd
  have HDW : Hid (IntKind.i64.wrap ((D : Int) + 1) = (D : Int) + 1) := by show _ = _; rw [IntKind.wrap_i64]; omega
  have IH := Lib.hid IH
  clear hd
  have hb : Below W.heap.size W (((W.alloc (.cells #[.pointer (some ⟨rb, 0, none⟩)] 54)).alloc (.cells #[.int .i64 (D : Nat)] 3)).alloc (.cells #[.int .i64 0, .string ⟨#[]⟩, .string ⟨#[]⟩, .slice none 0 0] 42)) := (((Below.refl _ _).alloc (Nat.le_refl _) _).alloc (by simp) _).alloc (by simp; omega) _
  have HS := Lib.hid (h.later hb)
  have HK : Hid (K2 cb rb W (((W.alloc (.cells #[.pointer (some ⟨rb, 0, none⟩)] 54)).alloc (.cells #[.int .i64 (D : Nat)] 3)).alloc (.cells #[.int .i64 0, .string ⟨#[]⟩, .string ⟨#[]⟩, .slice none 0 0] 42))) := K2.of hb
  have HL : Hid (cb < rb ∧ rb < W.heap.size) := h.lt
  have HB : Hid (SB W.heap.size rb D (((W.alloc (.cells #[.pointer (some ⟨rb, 0, none⟩)] 54)).alloc (.cells #[.int .i64 (D : Nat)] 3)).alloc (.cells #[.int .i64 0, .string ⟨#[]⟩, .string ⟨#[]⟩, .slice none 0 0] 42))) := ⟨((Arr.new' _ _ _ _ rfl).alloc _).alloc _, (Arr.new2 _ _ _ _ _ rfl).alloc _⟩
  have HG : Hid (Arr (((W.alloc (.cells #[.pointer (some ⟨rb, 0, none⟩)] 54)).alloc (.cells #[.int .i64 (D : Nat)] 3)).alloc (.cells #[.int .i64 0, .string ⟨#[]⟩, .string ⟨#[]⟩, .slice none 0 0] 42)) 42 (W.heap.size + 2) [.int .i64 0, .string ⟨#[]⟩, .string ⟨#[]⟩, .slice none 0 0]) := Arr.new3 _ _ _ _ _ _ rfl
  have HN := Lib.hid (numberP (p1 := .pointer (some ⟨W.heap.size, 0, none⟩)) (p2 := .pointer (some ⟨W.heap.size + 1, 0, none⟩)) (chk := kindC (d + 1) lv) HS.out (fun x hx => by have := kindC_0 hx; omega) (fun x W' s' hk hs => by
    have h2 := sK2 HB.out hk HL.out
    exact partK x (d + 1) (by omega) hs h2.1 (by have := h2.2; rw [HD.out] at this; exact this)))
  have HE : Hid (partC b (d + 1) s lv = bodyC b (partC b d) (numC b (kindC (d + 1) lv) s).1 (numC b (kindC (d + 1) lv) s).2 lv) := rfl
  have HK5 : Hid ((numC b (kindC (d + 1) lv) s).1 ≤ 5) := kind_le s
  have HLF : Hid ((numC b (kindC (d + 1) lv) s).1 = 1 ∨ (numC b (kindC (d + 1) lv) s).1 = 2 → lv < 32) := kind_leaf
  obtain ⟨k, hk⟩ : ∃ x, x = (numC b (kindC (d + 1) lv) s).1 := ⟨_, rfl⟩
  obtain ⟨s1, hs1⟩ : ∃ x, x = (numC b (kindC (d + 1) lv) s).2 := ⟨_, rfl⟩
  rw [← hk, ← hs1] at HN HE
  rw [← hk] at HK5 HLF
  clear h hb hs1 hk hd16
  have b0 := HB.out.1.cell 0
  simp only [List.getElem?_cons_zero] at b0
  go_enter Tryz.func67, Tryz.ntmps67
  go_wp2_with fail
  refine HN.out.mono ?_
  rintro e w1 ⟨rfl, h1, k1⟩
  have HS1 := Lib.hid h1
  have HK1 := Lib.hid (HK.out.trans k1)
  have HB1 := Lib.hid (sK2 HB.out k1 HL.out)
  have HG1 := Lib.hid (k1.arr HG.out (by have := HL.out; omega) (by have := HL.out; omega))
  clear h1 k1 HK HB HG HS
  clear HN b0
  have hk6 : k = 0 ∨ k = 1 ∨ k = 2 ∨ k = 3 ∨ k = 4 ∨ k = 5 := by have := HK5.out; omega
  clear HK5
  rcases hk6 with rfl | rfl | rfl | rfl | rfl | rfl
  · clear HLF IH
    have x0 := HG1.out.cell 0
    have y0 := HG1.out.free 0
    have x1 := HG1.out.cell 1
    have y1 := HG1.out.free 1
    have x2 := HG1.out.cell 2
    have y2 := HG1.out.free 2
    have x3 := HG1.out.cell 3
    have y3 := HG1.out.free 3
    simp only [List.getElem?_cons_zero, List.getElem?_cons_succ] at x0 x1 x2 x3
    go_wp2_with fail
    refine wp_loop_rounds 1 ?_
    rw [rounds_succ]
    clear x0 y0 x1 y1 x2 y2 x3 y3
    have HG2 : Hid (Arr (w1.setCell ⟨W.heap.size + 2, 0, none⟩ (.int .i64 0)) 42 (W.heap.size + 2) [.int .i64 0, .string ⟨#[]⟩, .string ⟨#[]⟩, .slice none 0 0]) := HG1.out.set 0 _
    have HS2 := Lib.hid (HS1.out.box (g := W.heap.size + 2) (by have := HL.out; omega) 0 (.int .i64 0))
    have HK2 := Lib.hid (HK1.out.box (g := W.heap.size + 2) (by omega) 0 (.int .i64 0))
    have HB2 := Lib.hid (sBox HB1.out (g := W.heap.size + 2) 0 (.int .i64 0) (by omega))
    clear HG1 HS1 HK1 HB1
    generalize w1.setCell ⟨W.heap.size + 2, 0, none⟩ (.int .i64 0) = w2 at HG2 HS2 HK2 HB2 ⊢
    have HGZ := HG2
    have HE3 : Hid (partC b (d + 1) s lv = (.mk 0 [] [] [], s1, lv)) := HE.out
    have x0 := HGZ.out.cell 0
    have y0 := HGZ.out.free 0
    have x1 := HGZ.out.cell 1
    have y1 := HGZ.out.free 1
    have x2 := HGZ.out.cell 2
    have y2 := HGZ.out.free 2
    have x3 := HGZ.out.cell 3
    have y3 := HGZ.out.free 3
    simp only [List.getElem?_cons_zero, List.getElem?_cons_succ] at x0 x1 x2 x3
    go_wp2_with fail
    have hk := kp_set4 w2 (W.heap.size + 2) (.int .i64 0) (.string ⟨#[]⟩) (.string ⟨#[]⟩) (.slice none 0 0)
    have hA := HGZ.out.set4x (.int .i64 0) (.string ⟨#[]⟩) (.string ⟨#[]⟩) (.slice none 0 0)
    refine bodyPost_ret (resX rfl hA rfl) rfl ?_
    rw [HE3.out]
    exact ⟨_, rfl, VE.leaf _ _ _ _ _, RS.box (RS.box (RS.box (RS.box HS2.out (by have := HL.out; omega) _ _) (by have := HL.out; omega) _ _) (by have := HL.out; omega) _ _) (by have := HL.out; omega) _ _, K2.box (K2.box (K2.box (K2.box HK2.out (by omega) _ _) (by omega) _ _) (by omega) _ _) (by omega) _ _⟩
  · clear IH
    have HLV : Hid (lv < 32) := HLF.out (.inl rfl)
    clear HLF
    have x0 := HG1.out.cell 0
    have y0 := HG1.out.free 0
    have x1 := HG1.out.cell 1
    have y1 := HG1.out.free 1
    have x2 := HG1.out.cell 2
    have y2 := HG1.out.free 2
    have x3 := HG1.out.cell 3
    have y3 := HG1.out.free 3
    simp only [List.getElem?_cons_zero, List.getElem?_cons_succ] at x0 x1 x2 x3
    go_upto_region 10 with (fail)
    clear x0 y0 x1 y1 x2 y2 x3 y3
    have HG2 : Hid (Arr (w1.setCell ⟨W.heap.size + 2, 0, none⟩ (.int .i64 1)) 42 (W.heap.size + 2) [.int .i64 1, .string ⟨#[]⟩, .string ⟨#[]⟩, .slice none 0 0]) := HG1.out.set 0 _
    have HS2 := Lib.hid (HS1.out.box (g := W.heap.size + 2) (by have := HL.out; omega) 0 (.int .i64 1))
    have HK2 := Lib.hid (HK1.out.box (g := W.heap.size + 2) (by omega) 0 (.int .i64 1))
    have HB2 := Lib.hid (sBox HB1.out (g := W.heap.size + 2) 0 (.int .i64 1) (by omega))
    clear HG1 HS1 HK1 HB1
    generalize w1.setCell ⟨W.heap.size + 2, 0, none⟩ (.int .i64 1) = w2 at HG2 HS2 HK2 HB2 ⊢
    have HE3 : Hid (partC b (d + 1) s lv = (.mk 1 [] (nameC b false s1).1 [], (nameC b false s1).2, lv + 1)) := HE.out
    clear HE
    have HAR : Hid (Arr w2 92 rb [.pointer (some ⟨cb, 0, none⟩), stV s1, .int .i64 (lv : Nat)]) := HS2.out.arr
    have hwl : wrap64 ((lv : Int) + 1) = (lv : Int) + 1 := by unfold wrap64; have := HLV.out; omega
    have x0 := HAR.out.cell 0
    have y0 := HAR.out.free 0
    have x1 := HAR.out.cell 1
    have y1 := HAR.out.free 1
    have x2 := HAR.out.cell 2
    have y2 := HAR.out.free 2
    simp only [List.getElem?_cons_zero, List.getElem?_cons_succ] at x0 x1 x2
    have b0 := HB2.out.1.cell 0
    simp only [List.getElem?_cons_zero] at b0
    go_upto_region 11 with (fail)
    clear x0 y0 x1 y1 x2 y2
    clear b0 HAR hwl
    have HG3 : Hid (Arr (w2.setCell ⟨rb, 2, none⟩ (.int .i64 ((lv : Int) + 1))) 42 (W.heap.size + 2) [.int .i64 1, .string ⟨#[]⟩, .string ⟨#[]⟩, .slice none 0 0]) := HG2.out.setCell (by show _ ≠ rb; have := HL.out; omega) _
    have HS3 : Hid (RS cb rb b (lv + 1) s1 (w2.setCell ⟨rb, 2, none⟩ (.int .i64 ((lv : Int) + 1)))) := HS2.out.leaves (n := lv + 1) (by have := HLV.out; omega)
    have HK3 := Lib.hid (HK2.out.set 2 (.int .i64 ((lv : Int) + 1)))
    have HB3 : Hid (SB W.heap.size rb D (w2.setCell ⟨rb, 2, none⟩ (.int .i64 ((lv : Int) + 1)))) := ⟨HB2.out.1.setCell (by show _ ≠ rb; have := HL.out; omega) _, HB2.out.2.setCell (by show _ ≠ rb; have := HL.out; omega) _⟩
    clear HG2 HS2 HK2 HB2
    generalize w2.setCell ⟨rb, 2, none⟩ (.int .i64 ((lv : Int) + 1)) = w3 at HG3 HS3 HK3 HB3 ⊢
    obtain ⟨nn, hnn⟩ : ∃ x, x = (nameC b false s1).1 := ⟨_, rfl⟩
    obtain ⟨s6, hs6⟩ : ∃ x, x = (nameC b false s1).2 := ⟨_, rfl⟩
    have HN6 := Lib.hid (cName_any false HS3.out)
    rw [← hnn, ← hs6] at HN6 HE3
    clear hnn hs6
    have b0 := HB3.out.1.cell 0
    simp only [List.getElem?_cons_zero] at b0
    go_wp2_with fail
    refine HN6.out.mono ?_
    rintro e w4 ⟨rfl, h4, k4⟩
    have HS4 := Lib.hid h4
    have HK4 := Lib.hid (HK3.out.trans k4)
    have HB4 := Lib.hid (sK2 HB3.out k4 HL.out)
    have HG4 := Lib.hid (k4.arr HG3.out (by have := HL.out; omega) (by have := HL.out; omega))
    clear h4 k4 HK3 HB3 HG3 HS3
    clear HN6 b0
    have x0 := HG4.out.cell 0
    have y0 := HG4.out.free 0
    have x1 := HG4.out.cell 1
    have y1 := HG4.out.free 1
    have x2 := HG4.out.cell 2
    have y2 := HG4.out.free 2
    have x3 := HG4.out.cell 3
    have y3 := HG4.out.free 3
    simp only [List.getElem?_cons_zero, List.getElem?_cons_succ] at x0 x1 x2 x3
    go_wp2_with fail
    refine wp_loop_rounds 1 ?_
    rw [rounds_succ]
    clear x0 y0 x1 y1 x2 y2 x3 y3
    have HG5 : Hid (Arr (w4.setCell ⟨W.heap.size + 2, 2, none⟩ (.string (bstr nn))) 42 (W.heap.size + 2) [.int .i64 1, .string ⟨#[]⟩, .string (bstr nn), .slice none 0 0]) := HG4.out.set 2 _
    have HS5 := Lib.hid (HS4.out.box (g := W.heap.size + 2) (by have := HL.out; omega) 2 (.string (bstr nn)))
    have HK5 := Lib.hid (HK4.out.box (g := W.heap.size + 2) (by omega) 2 (.string (bstr nn)))
    have HB5 := Lib.hid (sBox HB4.out (g := W.heap.size + 2) 2 (.string (bstr nn)) (by omega))
    clear HG4 HS4 HK4 HB4
    generalize w4.setCell ⟨W.heap.size + 2, 2, none⟩ (.string (bstr nn)) = w5 at HG5 HS5 HK5 HB5 ⊢
    have HGZ := HG5
    have x0 := HGZ.out.cell 0
    have y0 := HGZ.out.free 0
    have x1 := HGZ.out.cell 1
    have y1 := HGZ.out.free 1
    have x2 := HGZ.out.cell 2
    have y2 := HGZ.out.free 2
    have x3 := HGZ.out.cell 3
    have y3 := HGZ.out.free 3
    simp only [List.getElem?_cons_zero, List.getElem?_cons_succ] at x0 x1 x2 x3
    go_wp2_with fail
    have hk := kp_set4 w5 (W.heap.size + 2) (.int .i64 1) (.string ⟨#[]⟩) (.string (bstr nn)) (.slice none 0 0)
    have hA := HGZ.out.set4x (.int .i64 1) (.string ⟨#[]⟩) (.string (bstr nn)) (.slice none 0 0)
    refine bodyPost_ret (resX rfl hA rfl) rfl ?_
    rw [HE3.out]
    exact ⟨_, rfl, VE.leaf _ _ _ _ _, RS.box (RS.box (RS.box (RS.box HS5.out (by have := HL.out; omega) _ _) (by have := HL.out; omega) _ _) (by have := HL.out; omega) _ _) (by have := HL.out; omega) _ _, K2.box (K2.box (K2.box (K2.box HK5.out (by omega) _ _) (by omega) _ _) (by omega) _ _) (by omega) _ _⟩
  · clear IH
    have HLV : Hid (lv < 32) := HLF.out (.inr rfl)
    clear HLF
    have x0 := HG1.out.cell 0
    have y0 := HG1.out.free 0
    have x1 := HG1.out.cell 1
    have y1 := HG1.out.free 1
    have x2 := HG1.out.cell 2
    have y2 := HG1.out.free 2
    have x3 := HG1.out.cell 3
    have y3 := HG1.out.free 3
    simp only [List.getElem?_cons_zero, List.getElem?_cons_succ] at x0 x1 x2 x3
    go_upto_region 9 with (fail)
    clear x0 y0 x1 y1 x2 y2 x3 y3
    have HG2 : Hid (Arr (w1.setCell ⟨W.heap.size + 2, 0, none⟩ (.int .i64 2)) 42 (W.heap.size + 2) [.int .i64 2, .string ⟨#[]⟩, .string ⟨#[]⟩, .slice none 0 0]) := HG1.out.set 0 _
    have HS2 := Lib.hid (HS1.out.box (g := W.heap.size + 2) (by have := HL.out; omega) 0 (.int .i64 2))
    have HK2 := Lib.hid (HK1.out.box (g := W.heap.size + 2) (by omega) 0 (.int .i64 2))
    have HB2 := Lib.hid (sBox HB1.out (g := W.heap.size + 2) 0 (.int .i64 2) (by omega))
    clear HG1 HS1 HK1 HB1
    generalize w1.setCell ⟨W.heap.size + 2, 0, none⟩ (.int .i64 2) = w2 at HG2 HS2 HK2 HB2 ⊢
    obtain ⟨vn, hvn⟩ : ∃ x, x = (nameC b false s1).1 := ⟨_, rfl⟩
    obtain ⟨s3, hs3⟩ : ∃ x, x = (nameC b false s1).2 := ⟨_, rfl⟩
    have HN3 := Lib.hid (cName_any false HS2.out)
    rw [← hvn, ← hs3] at HN3
    have HE3 : Hid (partC b (d + 1) s lv = (.mk 2 vn (nameC b false s3).1 [], (nameC b false s3).2, lv + 1)) := by
      show _ = _
      rw [HE.out, hvn, hs3]; rfl
    clear hvn hs3 HE
    have b0 := HB2.out.1.cell 0
    simp only [List.getElem?_cons_zero] at b0
    go_wp2_with fail
    refine HN3.out.mono ?_
    rintro e w3 ⟨rfl, h3, k3⟩
    have HS3 := Lib.hid h3
    have HK3 := Lib.hid (HK2.out.trans k3)
    have HB3 := Lib.hid (sK2 HB2.out k3 HL.out)
    have HG3 := Lib.hid (k3.arr HG2.out (by have := HL.out; omega) (by have := HL.out; omega))
    clear h3 k3 HK2 HB2 HG2 HS2
    clear HN3 b0
    have x0 := HG3.out.cell 0
    have y0 := HG3.out.free 0
    have x1 := HG3.out.cell 1
    have y1 := HG3.out.free 1
    have x2 := HG3.out.cell 2
    have y2 := HG3.out.free 2
    have x3 := HG3.out.cell 3
    have y3 := HG3.out.free 3
    simp only [List.getElem?_cons_zero, List.getElem?_cons_succ] at x0 x1 x2 x3
    go_upto_region 10 with (fail)
    clear x0 y0 x1 y1 x2 y2 x3 y3
    have HG4 : Hid (Arr (w3.setCell ⟨W.heap.size + 2, 1, none⟩ (.string (bstr vn))) 42 (W.heap.size + 2) [.int .i64 2, .string (bstr vn), .string ⟨#[]⟩, .slice none 0 0]) := HG3.out.set 1 _
    have HS4 := Lib.hid (HS3.out.box (g := W.heap.size + 2) (by have := HL.out; omega) 1 (.string (bstr vn)))
    have HK4 := Lib.hid (HK3.out.box (g := W.heap.size + 2) (by omega) 1 (.string (bstr vn)))
    have HB4 := Lib.hid (sBox HB3.out (g := W.heap.size + 2) 1 (.string (bstr vn)) (by omega))
    clear HG3 HS3 HK3 HB3
    generalize w3.setCell ⟨W.heap.size + 2, 1, none⟩ (.string (bstr vn)) = w4 at HG4 HS4 HK4 HB4 ⊢
    have HAR : Hid (Arr w4 92 rb [.pointer (some ⟨cb, 0, none⟩), stV s3, .int .i64 (lv : Nat)]) := HS4.out.arr
    have hwl : wrap64 ((lv : Int) + 1) = (lv : Int) + 1 := by unfold wrap64; have := HLV.out; omega
    have x0 := HAR.out.cell 0
    have y0 := HAR.out.free 0
    have x1 := HAR.out.cell 1
    have y1 := HAR.out.free 1
    have x2 := HAR.out.cell 2
    have y2 := HAR.out.free 2
    simp only [List.getElem?_cons_zero, List.getElem?_cons_succ] at x0 x1 x2
    have b0 := HB4.out.1.cell 0
    simp only [List.getElem?_cons_zero] at b0
    go_upto_region 11 with (fail)
    clear x0 y0 x1 y1 x2 y2
    clear b0 HAR hwl
    have HG5 : Hid (Arr (w4.setCell ⟨rb, 2, none⟩ (.int .i64 ((lv : Int) + 1))) 42 (W.heap.size + 2) [.int .i64 2, .string (bstr vn), .string ⟨#[]⟩, .slice none 0 0]) := HG4.out.setCell (by show _ ≠ rb; have := HL.out; omega) _
    have HS5 : Hid (RS cb rb b (lv + 1) s3 (w4.setCell ⟨rb, 2, none⟩ (.int .i64 ((lv : Int) + 1)))) := HS4.out.leaves (n := lv + 1) (by have := HLV.out; omega)
    have HK5 := Lib.hid (HK4.out.set 2 (.int .i64 ((lv : Int) + 1)))
    have HB5 : Hid (SB W.heap.size rb D (w4.setCell ⟨rb, 2, none⟩ (.int .i64 ((lv : Int) + 1)))) := ⟨HB4.out.1.setCell (by show _ ≠ rb; have := HL.out; omega) _, HB4.out.2.setCell (by show _ ≠ rb; have := HL.out; omega) _⟩
    clear HG4 HS4 HK4 HB4
    generalize w4.setCell ⟨rb, 2, none⟩ (.int .i64 ((lv : Int) + 1)) = w5 at HG5 HS5 HK5 HB5 ⊢
    obtain ⟨nn, hnn⟩ : ∃ x, x = (nameC b false s3).1 := ⟨_, rfl⟩
    obtain ⟨s6, hs6⟩ : ∃ x, x = (nameC b false s3).2 := ⟨_, rfl⟩
    have HN6 := Lib.hid (cName_any false HS5.out)
    rw [← hnn, ← hs6] at HN6 HE3
    clear hnn hs6
    have b0 := HB5.out.1.cell 0
    simp only [List.getElem?_cons_zero] at b0
    go_wp2_with fail
    refine HN6.out.mono ?_
    rintro e w6 ⟨rfl, h6, k6⟩
    have HS6 := Lib.hid h6
    have HK6 := Lib.hid (HK5.out.trans k6)
    have HB6 := Lib.hid (sK2 HB5.out k6 HL.out)
    have HG6 := Lib.hid (k6.arr HG5.out (by have := HL.out; omega) (by have := HL.out; omega))
    clear h6 k6 HK5 HB5 HG5 HS5
    clear HN6 b0
    have x0 := HG6.out.cell 0
    have y0 := HG6.out.free 0
    have x1 := HG6.out.cell 1
    have y1 := HG6.out.free 1
    have x2 := HG6.out.cell 2
    have y2 := HG6.out.free 2
    have x3 := HG6.out.cell 3
    have y3 := HG6.out.free 3
    simp only [List.getElem?_cons_zero, List.getElem?_cons_succ] at x0 x1 x2 x3
    go_wp2_with fail
    refine wp_loop_rounds 1 ?_
    rw [rounds_succ]
    clear x0 y0 x1 y1 x2 y2 x3 y3
    have HG7 : Hid (Arr (w6.setCell ⟨W.heap.size + 2, 2, none⟩ (.string (bstr nn))) 42 (W.heap.size + 2) [.int .i64 2, .string (bstr vn), .string (bstr nn), .slice none 0 0]) := HG6.out.set 2 _
    have HS7 := Lib.hid (HS6.out.box (g := W.heap.size + 2) (by have := HL.out; omega) 2 (.string (bstr nn)))
    have HK7 := Lib.hid (HK6.out.box (g := W.heap.size + 2) (by omega) 2 (.string (bstr nn)))
    have HB7 := Lib.hid (sBox HB6.out (g := W.heap.size + 2) 2 (.string (bstr nn)) (by omega))
    clear HG6 HS6 HK6 HB6
    generalize w6.setCell ⟨W.heap.size + 2, 2, none⟩ (.string (bstr nn)) = w7 at HG7 HS7 HK7 HB7 ⊢
    have HGZ := HG7
    have x0 := HGZ.out.cell 0
    have y0 := HGZ.out.free 0
    have x1 := HGZ.out.cell 1
    have y1 := HGZ.out.free 1
    have x2 := HGZ.out.cell 2
    have y2 := HGZ.out.free 2
    have x3 := HGZ.out.cell 3
    have y3 := HGZ.out.free 3
    simp only [List.getElem?_cons_zero, List.getElem?_cons_succ] at x0 x1 x2 x3
    go_wp2_with fail
    have hk := kp_set4 w7 (W.heap.size + 2) (.int .i64 2) (.string (bstr vn)) (.string (bstr nn)) (.slice none 0 0)
    have hA := HGZ.out.set4x (.int .i64 2) (.string (bstr vn)) (.string (bstr nn)) (.slice none 0 0)
    refine bodyPost_ret (resX rfl hA rfl) rfl ?_
    rw [HE3.out]
    exact ⟨_, rfl, VE.leaf _ _ _ _ _, RS.box (RS.box (RS.box (RS.box HS7.out (by have := HL.out; omega) _ _) (by have := HL.out; omega) _ _) (by have := HL.out; omega) _ _) (by have := HL.out; omega) _ _, K2.box (K2.box (K2.box (K2.box HK7.out (by omega) _ _) (by omega) _ _) (by omega) _ _) (by omega) _ _⟩
  · clear HLF
    have x0 := HG1.out.cell 0
    have y0 := HG1.out.free 0
    have x1 := HG1.out.cell 1
    have y1 := HG1.out.free 1
    have x2 := HG1.out.cell 2
    have y2 := HG1.out.free 2
    have x3 := HG1.out.cell 3
    have y3 := HG1.out.free 3
    simp only [List.getElem?_cons_zero, List.getElem?_cons_succ] at x0 x1 x2 x3
    go_upto_region 12 with (fail)
    clear x0 y0 x1 y1 x2 y2 x3 y3
    have HG2 : Hid (Arr (w1.setCell ⟨W.heap.size + 2, 0, none⟩ (.int .i64 3)) 42 (W.heap.size + 2) [.int .i64 3, .string ⟨#[]⟩, .string ⟨#[]⟩, .slice none 0 0]) := HG1.out.set 0 _
    have HS2 := Lib.hid (HS1.out.box (g := W.heap.size + 2) (by have := HL.out; omega) 0 (.int .i64 3))
    have HK2 := Lib.hid (HK1.out.box (g := W.heap.size + 2) (by omega) 0 (.int .i64 3))
    have HB2 := Lib.hid (sBox HB1.out (g := W.heap.size + 2) 0 (.int .i64 3) (by omega))
    clear HG1 HS1 HK1 HB1
    generalize w1.setCell ⟨W.heap.size + 2, 0, none⟩ (.int .i64 3) = w2 at HG2 HS2 HK2 HB2 ⊢
    obtain ⟨n, hn⟩ : ∃ x, x = (numC b (chkC 2 32) s1).1 := ⟨_, rfl⟩
    obtain ⟨s3, hs3⟩ : ∃ x, x = (numC b (chkC 2 32) s1).2 := ⟨_, rfl⟩
    have HNN : Hid (n ≤ 32) := by rw [hn]; exact numC_le (fun x hx => (chkC_0 hx).2) s1
    have HN3 := Lib.hid (cCount_any 2 32 HS2.out (by decide))
    rw [← hn, ← hs3] at HN3
    have HE3 : Hid (partC b (d + 1) s lv = (.mk 3 [] [] (loopC (partC b d) (n - 0) [] s3 lv).1, (loopC (partC b d) (n - 0) [] s3 lv).2)) := by
      show _ = _
      rw [HE.out, hn, hs3, Nat.sub_zero]; rfl
    clear hn hs3 HE
    have b0 := HB2.out.1.cell 0
    simp only [List.getElem?_cons_zero] at b0
    go_wp2_with fail
    refine HN3.out.mono ?_
    rintro e w3 ⟨rfl, h3, k3⟩
    have HS3 := Lib.hid h3
    have HK3 := Lib.hid (HK2.out.trans k3)
    have HB3 := Lib.hid (sK2 HB2.out k3 HL.out)
    have HG3 := Lib.hid (k3.arr HG2.out (by have := HL.out; omega) (by have := HL.out; omega))
    clear h3 k3 HK2 HB2 HG2 HS2
    clear HN3 b0
    go_upto_region 14 with (fail)
    go_wp2_with fail
    go_loopw [37] (fun iv wr => ∃ (i : Nat) (acc : List Ex) (s2 : St) (lv2 : Nat) (q : Option Addr) (cc : Nat), i ≤ n ∧ iv = .int .i64 (i : Nat) ∧ Hid (acc.length = i) ∧ Hid (PRow kdEx (W.heap.size + 3) (fun _ => False) wr (.slice q acc.length cc) acc) ∧ Hid (Arr wr 42 (W.heap.size + 2) [.int .i64 3, .string ⟨#[]⟩, .string ⟨#[]⟩, .slice q acc.length cc]) ∧ Hid (SB W.heap.size rb D wr) ∧ Hid (RS cb rb b lv2 s2 wr) ∧ Hid (K2 cb rb W wr) ∧ Hid (partC b (d + 1) s lv = (.mk 3 [] [] (loopC (partC b d) (n - i) acc s2 lv2).1, (loopC (partC b d) (n - i) acc s2 lv2).2))) (fun iv _ => n - (intOf iv).toNat)
    case atStart => exact ⟨0, [], s3, lv, none, 0, Nat.zero_le _, rfl, rfl, PRow.nil _ _ _ _, HG3.out, HB3.out, HS3.out, HK3.out, HE3.out⟩
    case round =>
      obtain ⟨i, acc, s2, lv2, q, cc, hi, rfl, HLEN, HRW6, HG6, HB6, HS6, HK6, HE6⟩ := hrel
      by_cases hlt : i < n
      · have hlt' : (i : Int) < n := by omega
        have hw : wrap64 ((i : Int) + 1) = (i : Int) + 1 := by unfold wrap64; have := HNN.out; omega
        have HLT : Hid (i < n) := hlt
        obtain ⟨x, hx⟩ : ∃ x, x = (partC b d s2 lv2).1 := ⟨_, rfl⟩
        obtain ⟨s4, hs4⟩ : ∃ x, x = (partC b d s2 lv2).2.1 := ⟨_, rfl⟩
        obtain ⟨lv4, hl4⟩ : ∃ x, x = (partC b d s2 lv2).2.2 := ⟨_, rfl⟩
        obtain ⟨mk, mv, mn, ms⟩ := x
        have HE7 : Hid (partC b (d + 1) s lv = (.mk 3 [] [] (loopC (partC b d) (n - (i + 1)) (acc ++ [.mk mk mv mn ms]) s4 lv4).1, (loopC (partC b d) (n - (i + 1)) (acc ++ [.mk mk mv mn ms]) s4 lv4).2)) := by
          show _ = _
          rw [HE6.out, show n - i = (n - (i + 1)) + 1 by omega, loopC, ← hx, ← hs4, ← hl4]
        have HCT : Hid (∀ w7, RS cb rb b lv2 s2 w7 → Calls Tryz.prog 67 #[.pointer (some ⟨rb, 0, none⟩), .int .i64 ((D : Int) + 1)] w7 fun e w' => ∃ v, e = .returned v ∧ (VE w7.heap.size (.mk mk mv mn ms) w' v ∧ RS cb rb b lv4 s4 w' ∧ K2 cb rb w7 w')) := fun w7 hw7 => by
          have h := IH.out w7 s2 lv2 hw7
          unfold PPost at h
          rw [← hx, ← hs4, ← hl4] at h
          exact h
        have HAC : Hid (acc.length + 1 ≤ 200000) := by show _ ≤ _; have := HNN.out; have := HLEN.out; omega
        have HGW : Hid (W.heap.size + 2 < W.heap.size + 3) := Nat.lt_succ_self _
        clear HE6 hx hs4 hl4 hlt IH
        go_upto_region 16 with (fail)
        generalize hwr : wr = w6 at HRW6 HG6 HB6 HS6 HK6 ⊢
        clear hwr
        refine wp_region_noPanic ?_
        refine wp_region_held_drew (S := fun W' => SB W.heap.size rb D W') (by kernel_rfl) (sDrew HB6.out) (fun hHeld => ?_)
        try simp only [Act.put]
        have hb7 : Below w6.heap.size w6 w6.drew := (Below.refl _ _).drew
        have HRW7 := Lib.hid (HRW6.out.later hb7)
        have HG7 := Lib.hid (HG6.out.later hb7)
        have HS7 := Lib.hid (HS6.out.later hb7)
        have HK7 := Lib.hid (HK6.out.trans (K2.of hb7))
        have HB7 := Lib.hid (sLater HB6.out hb7)
        clear hb7
        generalize w6.drew = w7 at HRW7 HG7 HS7 HK7 HB7 hHeld ⊢
        have HN7 := Lib.hid (HCT.out w7 HS7.out)
        have HGL : Hid (W.heap.size + 3 ≤ w7.heap.size) := by show _ ≤ _; have := HG7.out.lt; omega
        have HBL : Hid (∀ b, (Value.slice q acc.length cc).ownBlock = some b → b < w7.heap.size) := fun b hb => by obtain ⟨_, h, _⟩ := HRW7.out; exact (h.lt b hb).2
        refine wpAnyH_take (i := 0) (oi := ⟨some 39, _, _, _, _, _⟩) (v := .pointer (some ⟨W.heap.size + 2, 3, none⟩)) rfl (by kernel_rfl) (by kernel_rfl) (by kernel_rfl) (fun _ _ _ h => h) (.inl ⟨by rfl, fun w' hSw => ?_⟩) hHeld ?_
        focus (skip; clear hHeld; go_simp)
        try simp only [Act.put, List.setIfInBounds_toArray, List.set_cons_zero, List.set_cons_succ]
        refine wpAnyH_take (i := 2) (oi := ⟨some 41, _, _, _, _, _⟩) (v := .pointer (some ⟨rb, 0, none⟩)) rfl (by kernel_rfl) (by kernel_rfl) (by kernel_rfl) (fun _ _ _ h => h) (.inl ⟨by rfl, fun w' hSw => ?_⟩) hHeld ?_
        focus (have a1 := hSw.1.cell 0; have a2 := hSw.2.cell 0; simp only [List.getElem?_cons_zero] at a1 a2; clear hHeld; go_simp)
        try simp only [Act.put, List.setIfInBounds_toArray, List.set_cons_zero, List.set_cons_succ]
        refine wpAnyH_take (i := 3) (oi := ⟨some 42, _, _, _, _, _⟩) (v := .int .i64 (D : Nat)) rfl (by kernel_rfl) (by kernel_rfl) (by kernel_rfl) (fun _ _ _ h => h) (.inl ⟨by rfl, fun w' hSw => ?_⟩) hHeld ?_
        focus (have a1 := hSw.1.cell 0; have a2 := hSw.2.cell 0; simp only [List.getElem?_cons_zero] at a1 a2; clear hHeld; go_simp)
        try simp only [Act.put, List.setIfInBounds_toArray, List.set_cons_zero, List.set_cons_succ]
        refine wpAnyH_take (i := 4) (oi := ⟨some 43, _, _, _, _, _⟩) (v := .int .i64 ((D : Int) + 1)) rfl (by kernel_rfl) (by kernel_rfl) (by kernel_rfl) (fun _ _ _ h => h) (.inl ⟨by rfl, fun w' hSw => ?_⟩) hHeld ?_
        focus (skip; clear hHeld; go_simp; exact HDW.out)
        try simp only [Act.put, List.setIfInBounds_toArray, List.set_cons_zero, List.set_cons_succ]
        refine wpAnyH_ready (rs := [1, 5]) (by kernel_rfl) (by simp) ?_
        refine AllReadyH.cons (o := ⟨some 40, _, _, _, _, _⟩) rfl (fun K' hK' => ?_) (AllReadyH.cons (o := ⟨some 44, _, _, _, _, _⟩) rfl (fun K' hK' => ?_) AllReadyH.nil)
        · have x0 := HG7.out.cell 0
          have y0 := HG7.out.free 0
          have x1 := HG7.out.cell 1
          have y1 := HG7.out.free 1
          have x2 := HG7.out.cell 2
          have y2 := HG7.out.free 2
          have x3 := HG7.out.cell 3
          have y3 := HG7.out.free 3
          simp only [List.getElem?_cons_zero, List.getElem?_cons_succ] at x0 x1 x2 x3
          go_simp
          clear x0 y0 x1 y1 x2 y2 x3 y3
          refine hK'.out _ _ HB7.out (fun _ => ?_)
          clear hK' K' hHeld
          have hHeld := HB7.out
          try simp only [Act.put, List.setIfInBounds_toArray, List.set_cons_zero, List.set_cons_succ]
          refine wpAnyH_ready (rs := [5]) (by kernel_rfl) (by simp) ?_
          refine AllReadyH.cons (o := ⟨some 44, _, _, _, _, _⟩) rfl (fun K' hK' => ?_) AllReadyH.nil
          refine stepw_call (by rfl) ?_ HN7.out ?_
          focus go_simp
          rintro v w8 ⟨r8, s8, k8⟩
          have r8' : VE w7.heap.size (.mk mk mv mn ms) w8 v := r8
          obtain ⟨q4, c4, rfl, _, _⟩ := RdE.form r8
          unfold exv at r8' ⊢
          dsimp only [Ex.kind, Ex.via, Ex.nm, Ex.kids] at r8' ⊢
          have HR8 : Hid (rdEx (Bt w7.heap.size w8.heap.size) w8 (.mk mk mv mn ms) [.int .i64 mk, .string (bstr mv), .string (bstr mn), .slice q4 ms.length c4]) := ⟨_, _, _, _, rfl, r8'⟩
          clear r8'
          have HRW8 := Lib.hid (HRW7.out.turn (w' := w8) k8.2.2.2.1 (fun b hb hl _ => k8.2.2.2.2 b hl (by have := HL.out; omega) (by have := HL.out; omega)))
          have HG8 := Lib.hid (k8.arr HG7.out (by have := HL.out; omega) (by have := HL.out; omega))
          have HS8 := Lib.hid s8
          have HK8 := Lib.hid (HK7.out.trans k8)
          have HB8 := Lib.hid (sK2 HB7.out k8 HL.out)
          clear s8 k8 r8
          refine hK'.out _ _ HB8.out (fun _ => ?_)
          clear hK' K' hHeld
          have hHeld := HB8.out
          try simp only [Act.put, List.setIfInBounds_toArray, List.set_cons_zero, List.set_cons_succ]
          refine wpAnyH_ready (rs := [6]) (by kernel_rfl) (by simp) ?_
          refine AllReadyH.cons (o := ⟨some 45, _, _, _, _, _⟩) rfl (fun K' hK' => ?_) AllReadyH.nil
          go_simp
          have hb9 : Below w8.heap.size w8 (w8.alloc (.cells #[.int .i64 mk, .string (bstr mv), .string (bstr mn), .slice q4 ms.length c4] 42)) := (Below.refl _ _).alloc (Nat.le_refl _) _
          have HRW9 := Lib.hid (HRW8.out.later hb9)
          have HG9 := Lib.hid (HG8.out.later hb9)
          have HS9 := Lib.hid (HS8.out.later hb9)
          have HK9 := Lib.hid (HK8.out.trans (K2.of hb9))
          have HB9 := Lib.hid (sLater HB8.out hb9)
          have HE9 : Hid (Arr (w8.alloc (.cells #[.int .i64 mk, .string (bstr mv), .string (bstr mn), .slice q4 ms.length c4] 42)) 42 w8.heap.size [.int .i64 mk, .string (bstr mv), .string (bstr mn), .slice q4 ms.length c4]) := Arr.new' _ _ _ _ rfl
          have HR9 : Hid (kdEx.rd (SubX (W.heap.size + 3) (fun _ => False) (w8.alloc (.cells #[.int .i64 mk, .string (bstr mv), .string (bstr mn), .slice q4 ms.length c4] 42)) (.slice q acc.length cc)) (w8.alloc (.cells #[.int .i64 mk, .string (bstr mv), .string (bstr mn), .slice q4 ms.length c4] 42)) (.mk mk mv mn ms) [.int .i64 mk, .string (bstr mv), .string (bstr mn), .slice q4 ms.length c4]) := kdEx.imp (fun b hb => ⟨by have := HGL.out; have := hb.1; omega, Nat.lt_of_lt_of_le hb.2 hb9.size, fun e => by have h1 := (HBL.out b e.symm); have := hb.1; omega, fun h => h⟩) (kdEx.keep (fun b hb n => hb9.cell (p := ⟨b, n, none⟩) hb.2) HR8.out)
          clear hb9
          generalize w8.alloc (.cells #[.int .i64 mk, .string (bstr mv), .string (bstr mn), .slice q4 ms.length c4] 42) = w9 at HRW9 HG9 HS9 HK9 HE9 HR9 HB9 hK' ⊢
          refine hK'.out _ _ HB9.out (fun _ => ?_)
          clear hK' K' hHeld
          have hHeld := HB9.out
          try simp only [Act.put, List.setIfInBounds_toArray, List.set_cons_zero, List.set_cons_succ]
          refine wpAnyH_ready (rs := [7]) (by kernel_rfl) (by simp) ?_
          refine AllReadyH.cons (o := ⟨some 46, _, _, _, _, _⟩) rfl (fun K' hK' => ?_) AllReadyH.nil
          refine step_row (K := kdEx) rfl (.tmp 40) (.tmp 45) rfl rfl HRW9.out rfl HE9.out HR9.out HAC.out (by have := HGW.out; have := HG9.out.lt; omega) (fun b h => h.elim) ?_
          intro v10 w10 r10 g10 o10
          have HS10 := Lib.hid (HS9.out.grown g10 (B := W.heap.size + 3) (by have := HL.out; omega) (by have := HGW.out; have := HG9.out.lt; omega) (fun k hk => (o10 k hk).1))
          have HK10 := Lib.hid (HK9.out.grownR g10 (fun k hk => Nat.le_trans (by omega) (o10 k hk).1))
          have HG10 : Hid (Arr w10 42 (W.heap.size + 2) [.int .i64 3, .string ⟨#[]⟩, .string ⟨#[]⟩, .slice q acc.length cc]) := (g10.block _ HG9.out.lt (fun e => absurd (o10 _ e.symm).1 (by omega))).trans HG9.out
          have HB10 := Lib.hid (sGrown HB9.out g10 (fun k hk => (o10 k hk).1) (by omega))
          have HRW10 := Lib.hid r10
          obtain ⟨q10, c10, hv10⟩ := r10.form
          rw [List.length_append, List.length_singleton] at hv10
          subst hv10
          clear r10 g10 o10
          refine hK'.out _ _ HB10.out (fun _ => ?_)
          clear hK' K' hHeld
          have hHeld := HB10.out
          try simp only [Act.put, List.setIfInBounds_toArray, List.set_cons_zero, List.set_cons_succ]
          refine wpAnyH_take (i := 8) (oi := ⟨some 47, _, _, _, _, _⟩) (v := .pointer (some ⟨W.heap.size + 2, 3, none⟩)) rfl (by kernel_rfl) (by kernel_rfl) (by kernel_rfl) (fun _ _ _ h => h) (.inl ⟨by rfl, fun w' hSw => ?_⟩) hHeld ?_
          focus (skip; clear hHeld; go_simp)
          try simp only [Act.put, List.setIfInBounds_toArray, List.set_cons_zero, List.set_cons_succ]
          refine wpAnyH_ready (rs := [9]) (by kernel_rfl) (by simp) ?_
          refine AllReadyH.cons (o := ⟨none, _, _, _, _, _⟩) rfl (fun K' hK' => ?_) AllReadyH.nil
          have x0 := HG10.out.cell 0
          have y0 := HG10.out.free 0
          have x1 := HG10.out.cell 1
          have y1 := HG10.out.free 1
          have x2 := HG10.out.cell 2
          have y2 := HG10.out.free 2
          have x3 := HG10.out.cell 3
          have y3 := HG10.out.free 3
          simp only [List.getElem?_cons_zero, List.getElem?_cons_succ] at x0 x1 x2 x3
          go_simp
          clear x0 y0 x1 y1 x2 y2 x3 y3
          have HB11 := Lib.hid (sBox HB10.out (g := W.heap.size + 2) 3 (.slice q10 (acc.length + 1) c10) (by omega))
          refine hK'.out _ _ HB11.out (fun _ => ?_)
          clear hK' K' hHeld
          have hHeld := HB11.out
          try simp only [Act.put, List.setIfInBounds_toArray, List.set_cons_zero, List.set_cons_succ]
          have HG11 : Hid (Arr (w10.setCell ⟨W.heap.size + 2, 3, none⟩ (.slice q10 (acc.length + 1) c10)) 42 (W.heap.size + 2) [.int .i64 3, .string ⟨#[]⟩, .string ⟨#[]⟩, .slice q10 (acc.length + 1) c10]) := HG10.out.set 3 _
          have HRW11 := Lib.hid (HRW10.out.box (g := W.heap.size + 2) (.inl (by omega)) 3 (.slice q10 (acc.length + 1) c10))
          have HS11 := Lib.hid (HS10.out.box (g := W.heap.size + 2) (by have := HL.out; omega) 3 (.slice q10 (acc.length + 1) c10))
          have HK11 := Lib.hid (HK10.out.box (g := W.heap.size + 2) (by omega) 3 (.slice q10 (acc.length + 1) c10))
          refine wpAnyH_done (by kernel_rfl) ?_ _
          refine NoPanic.normal ?_
          clear HRW10 HG10 HS10 HK10 HRW9 HG9 HS9 HK9 HE9 HR9 HRW8 HG8 HS8 HK8 HR8 HB10 HB9 HB8
          generalize (w10.setCell ⟨W.heap.size + 2, 3, none⟩ (.slice q10 (acc.length + 1) c10)) = w11 at HG11 HRW11 HS11 HK11 HB11 ⊢
          go_wp2_with fail
          go_roundw
          case rel => exact ⟨i + 1, acc ++ [Ex.mk mk mv mn ms], s4, lv4, q10, c10, HLT.out, by go_num, by rw [List.length_append, HLEN.out]; rfl, by rw [List.length_append]; exact HRW11.out, by rw [List.length_append]; exact HG11.out, HB11.out, HS11.out, HK11.out, HE7.out⟩
          case measure => first | exact meas HLT.out (Nat.le_trans HNN.out (by decide)) | exact meas' HLT.out
        · refine stepw_call (by rfl) ?_ HN7.out ?_
          focus go_simp
          rintro v w8 ⟨r8, s8, k8⟩
          have r8' : VE w7.heap.size (.mk mk mv mn ms) w8 v := r8
          obtain ⟨q4, c4, rfl, _, _⟩ := RdE.form r8
          unfold exv at r8' ⊢
          dsimp only [Ex.kind, Ex.via, Ex.nm, Ex.kids] at r8' ⊢
          have HR8 : Hid (rdEx (Bt w7.heap.size w8.heap.size) w8 (.mk mk mv mn ms) [.int .i64 mk, .string (bstr mv), .string (bstr mn), .slice q4 ms.length c4]) := ⟨_, _, _, _, rfl, r8'⟩
          clear r8'
          have HRW8 := Lib.hid (HRW7.out.turn (w' := w8) k8.2.2.2.1 (fun b hb hl _ => k8.2.2.2.2 b hl (by have := HL.out; omega) (by have := HL.out; omega)))
          have HG8 := Lib.hid (k8.arr HG7.out (by have := HL.out; omega) (by have := HL.out; omega))
          have HS8 := Lib.hid s8
          have HK8 := Lib.hid (HK7.out.trans k8)
          have HB8 := Lib.hid (sK2 HB7.out k8 HL.out)
          clear s8 k8 r8
          refine hK'.out _ _ HB8.out (fun _ => ?_)
          clear hK' K' hHeld
          have hHeld := HB8.out
          try simp only [Act.put, List.setIfInBounds_toArray, List.set_cons_zero, List.set_cons_succ]
          refine wpAnyH_ready (rs := [1, 6]) (by kernel_rfl) (by simp) ?_
          refine AllReadyH.cons (o := ⟨some 40, _, _, _, _, _⟩) rfl (fun K' hK' => ?_) (AllReadyH.cons (o := ⟨some 45, _, _, _, _, _⟩) rfl (fun K' hK' => ?_) AllReadyH.nil)
          · have x0 := HG8.out.cell 0
            have y0 := HG8.out.free 0
            have x1 := HG8.out.cell 1
            have y1 := HG8.out.free 1
            have x2 := HG8.out.cell 2
            have y2 := HG8.out.free 2
            have x3 := HG8.out.cell 3
            have y3 := HG8.out.free 3
            simp only [List.getElem?_cons_zero, List.getElem?_cons_succ] at x0 x1 x2 x3
            go_simp
            clear x0 y0 x1 y1 x2 y2 x3 y3
            refine hK'.out _ _ HB8.out (fun _ => ?_)
            clear hK' K' hHeld
            have hHeld := HB8.out
            try simp only [Act.put, List.setIfInBounds_toArray, List.set_cons_zero, List.set_cons_succ]
            refine wpAnyH_ready (rs := [6]) (by kernel_rfl) (by simp) ?_
            refine AllReadyH.cons (o := ⟨some 45, _, _, _, _, _⟩) rfl (fun K' hK' => ?_) AllReadyH.nil
            go_simp
            have hb9 : Below w8.heap.size w8 (w8.alloc (.cells #[.int .i64 mk, .string (bstr mv), .string (bstr mn), .slice q4 ms.length c4] 42)) := (Below.refl _ _).alloc (Nat.le_refl _) _
            have HRW9 := Lib.hid (HRW8.out.later hb9)
            have HG9 := Lib.hid (HG8.out.later hb9)
            have HS9 := Lib.hid (HS8.out.later hb9)
            have HK9 := Lib.hid (HK8.out.trans (K2.of hb9))
            have HB9 := Lib.hid (sLater HB8.out hb9)
            have HE9 : Hid (Arr (w8.alloc (.cells #[.int .i64 mk, .string (bstr mv), .string (bstr mn), .slice q4 ms.length c4] 42)) 42 w8.heap.size [.int .i64 mk, .string (bstr mv), .string (bstr mn), .slice q4 ms.length c4]) := Arr.new' _ _ _ _ rfl
            have HR9 : Hid (kdEx.rd (SubX (W.heap.size + 3) (fun _ => False) (w8.alloc (.cells #[.int .i64 mk, .string (bstr mv), .string (bstr mn), .slice q4 ms.length c4] 42)) (.slice q acc.length cc)) (w8.alloc (.cells #[.int .i64 mk, .string (bstr mv), .string (bstr mn), .slice q4 ms.length c4] 42)) (.mk mk mv mn ms) [.int .i64 mk, .string (bstr mv), .string (bstr mn), .slice q4 ms.length c4]) := kdEx.imp (fun b hb => ⟨by have := HGL.out; have := hb.1; omega, Nat.lt_of_lt_of_le hb.2 hb9.size, fun e => by have h1 := (HBL.out b e.symm); have := hb.1; omega, fun h => h⟩) (kdEx.keep (fun b hb n => hb9.cell (p := ⟨b, n, none⟩) hb.2) HR8.out)
            clear hb9
            generalize w8.alloc (.cells #[.int .i64 mk, .string (bstr mv), .string (bstr mn), .slice q4 ms.length c4] 42) = w9 at HRW9 HG9 HS9 HK9 HE9 HR9 HB9 hK' ⊢
            refine hK'.out _ _ HB9.out (fun _ => ?_)
            clear hK' K' hHeld
            have hHeld := HB9.out
            try simp only [Act.put, List.setIfInBounds_toArray, List.set_cons_zero, List.set_cons_succ]
            refine wpAnyH_ready (rs := [7]) (by kernel_rfl) (by simp) ?_
            refine AllReadyH.cons (o := ⟨some 46, _, _, _, _, _⟩) rfl (fun K' hK' => ?_) AllReadyH.nil
            refine step_row (K := kdEx) rfl (.tmp 40) (.tmp 45) rfl rfl HRW9.out rfl HE9.out HR9.out HAC.out (by have := HGW.out; have := HG9.out.lt; omega) (fun b h => h.elim) ?_
            intro v10 w10 r10 g10 o10
            have HS10 := Lib.hid (HS9.out.grown g10 (B := W.heap.size + 3) (by have := HL.out; omega) (by have := HGW.out; have := HG9.out.lt; omega) (fun k hk => (o10 k hk).1))
            have HK10 := Lib.hid (HK9.out.grownR g10 (fun k hk => Nat.le_trans (by omega) (o10 k hk).1))
            have HG10 : Hid (Arr w10 42 (W.heap.size + 2) [.int .i64 3, .string ⟨#[]⟩, .string ⟨#[]⟩, .slice q acc.length cc]) := (g10.block _ HG9.out.lt (fun e => absurd (o10 _ e.symm).1 (by omega))).trans HG9.out
            have HB10 := Lib.hid (sGrown HB9.out g10 (fun k hk => (o10 k hk).1) (by omega))
            have HRW10 := Lib.hid r10
            obtain ⟨q10, c10, hv10⟩ := r10.form
            rw [List.length_append, List.length_singleton] at hv10
            subst hv10
            clear r10 g10 o10
            refine hK'.out _ _ HB10.out (fun _ => ?_)
            clear hK' K' hHeld
            have hHeld := HB10.out
            try simp only [Act.put, List.setIfInBounds_toArray, List.set_cons_zero, List.set_cons_succ]
            refine wpAnyH_take (i := 8) (oi := ⟨some 47, _, _, _, _, _⟩) (v := .pointer (some ⟨W.heap.size + 2, 3, none⟩)) rfl (by kernel_rfl) (by kernel_rfl) (by kernel_rfl) (fun _ _ _ h => h) (.inl ⟨by rfl, fun w' hSw => ?_⟩) hHeld ?_
            focus (skip; clear hHeld; go_simp)
            try simp only [Act.put, List.setIfInBounds_toArray, List.set_cons_zero, List.set_cons_succ]
            refine wpAnyH_ready (rs := [9]) (by kernel_rfl) (by simp) ?_
            refine AllReadyH.cons (o := ⟨none, _, _, _, _, _⟩) rfl (fun K' hK' => ?_) AllReadyH.nil
            have x0 := HG10.out.cell 0
            have y0 := HG10.out.free 0
            have x1 := HG10.out.cell 1
            have y1 := HG10.out.free 1
            have x2 := HG10.out.cell 2
            have y2 := HG10.out.free 2
            have x3 := HG10.out.cell 3
            have y3 := HG10.out.free 3
            simp only [List.getElem?_cons_zero, List.getElem?_cons_succ] at x0 x1 x2 x3
            go_simp
            clear x0 y0 x1 y1 x2 y2 x3 y3
            have HB11 := Lib.hid (sBox HB10.out (g := W.heap.size + 2) 3 (.slice q10 (acc.length + 1) c10) (by omega))
            refine hK'.out _ _ HB11.out (fun _ => ?_)
            clear hK' K' hHeld
            have hHeld := HB11.out
            try simp only [Act.put, List.setIfInBounds_toArray, List.set_cons_zero, List.set_cons_succ]
            have HG11 : Hid (Arr (w10.setCell ⟨W.heap.size + 2, 3, none⟩ (.slice q10 (acc.length + 1) c10)) 42 (W.heap.size + 2) [.int .i64 3, .string ⟨#[]⟩, .string ⟨#[]⟩, .slice q10 (acc.length + 1) c10]) := HG10.out.set 3 _
            have HRW11 := Lib.hid (HRW10.out.box (g := W.heap.size + 2) (.inl (by omega)) 3 (.slice q10 (acc.length + 1) c10))
            have HS11 := Lib.hid (HS10.out.box (g := W.heap.size + 2) (by have := HL.out; omega) 3 (.slice q10 (acc.length + 1) c10))
            have HK11 := Lib.hid (HK10.out.box (g := W.heap.size + 2) (by omega) 3 (.slice q10 (acc.length + 1) c10))
            refine wpAnyH_done (by kernel_rfl) ?_ _
            refine NoPanic.normal ?_
            clear HRW10 HG10 HS10 HK10 HRW9 HG9 HS9 HK9 HE9 HR9 HRW8 HG8 HS8 HK8 HR8 HB10 HB9 HB8
            generalize (w10.setCell ⟨W.heap.size + 2, 3, none⟩ (.slice q10 (acc.length + 1) c10)) = w11 at HG11 HRW11 HS11 HK11 HB11 ⊢
            go_wp2_with fail
            go_roundw
            case rel => exact ⟨i + 1, acc ++ [Ex.mk mk mv mn ms], s4, lv4, q10, c10, HLT.out, by go_num, by rw [List.length_append, HLEN.out]; rfl, by rw [List.length_append]; exact HRW11.out, by rw [List.length_append]; exact HG11.out, HB11.out, HS11.out, HK11.out, HE7.out⟩
            case measure => first | exact meas HLT.out (Nat.le_trans HNN.out (by decide)) | exact meas' HLT.out
          · go_simp
            have hb9 : Below w8.heap.size w8 (w8.alloc (.cells #[.int .i64 mk, .string (bstr mv), .string (bstr mn), .slice q4 ms.length c4] 42)) := (Below.refl _ _).alloc (Nat.le_refl _) _
            have HRW9 := Lib.hid (HRW8.out.later hb9)
            have HG9 := Lib.hid (HG8.out.later hb9)
            have HS9 := Lib.hid (HS8.out.later hb9)
            have HK9 := Lib.hid (HK8.out.trans (K2.of hb9))
            have HB9 := Lib.hid (sLater HB8.out hb9)
            have HE9 : Hid (Arr (w8.alloc (.cells #[.int .i64 mk, .string (bstr mv), .string (bstr mn), .slice q4 ms.length c4] 42)) 42 w8.heap.size [.int .i64 mk, .string (bstr mv), .string (bstr mn), .slice q4 ms.length c4]) := Arr.new' _ _ _ _ rfl
            have HR9 : Hid (kdEx.rd (SubX (W.heap.size + 3) (fun _ => False) (w8.alloc (.cells #[.int .i64 mk, .string (bstr mv), .string (bstr mn), .slice q4 ms.length c4] 42)) (.slice q acc.length cc)) (w8.alloc (.cells #[.int .i64 mk, .string (bstr mv), .string (bstr mn), .slice q4 ms.length c4] 42)) (.mk mk mv mn ms) [.int .i64 mk, .string (bstr mv), .string (bstr mn), .slice q4 ms.length c4]) := kdEx.imp (fun b hb => ⟨by have := HGL.out; have := hb.1; omega, Nat.lt_of_lt_of_le hb.2 hb9.size, fun e => by have h1 := (HBL.out b e.symm); have := hb.1; omega, fun h => h⟩) (kdEx.keep (fun b hb n => hb9.cell (p := ⟨b, n, none⟩) hb.2) HR8.out)
            clear hb9
            generalize w8.alloc (.cells #[.int .i64 mk, .string (bstr mv), .string (bstr mn), .slice q4 ms.length c4] 42) = w9 at HRW9 HG9 HS9 HK9 HE9 HR9 HB9 hK' ⊢
            refine hK'.out _ _ HB9.out (fun _ => ?_)
            clear hK' K' hHeld
            have hHeld := HB9.out
            try simp only [Act.put, List.setIfInBounds_toArray, List.set_cons_zero, List.set_cons_succ]
            refine wpAnyH_ready (rs := [1]) (by kernel_rfl) (by simp) ?_
            refine AllReadyH.cons (o := ⟨some 40, _, _, _, _, _⟩) rfl (fun K' hK' => ?_) AllReadyH.nil
            have x0 := HG9.out.cell 0
            have y0 := HG9.out.free 0
            have x1 := HG9.out.cell 1
            have y1 := HG9.out.free 1
            have x2 := HG9.out.cell 2
            have y2 := HG9.out.free 2
            have x3 := HG9.out.cell 3
            have y3 := HG9.out.free 3
            simp only [List.getElem?_cons_zero, List.getElem?_cons_succ] at x0 x1 x2 x3
            go_simp
            clear x0 y0 x1 y1 x2 y2 x3 y3
            refine hK'.out _ _ HB9.out (fun _ => ?_)
            clear hK' K' hHeld
            have hHeld := HB9.out
            try simp only [Act.put, List.setIfInBounds_toArray, List.set_cons_zero, List.set_cons_succ]
            refine wpAnyH_ready (rs := [7]) (by kernel_rfl) (by simp) ?_
            refine AllReadyH.cons (o := ⟨some 46, _, _, _, _, _⟩) rfl (fun K' hK' => ?_) AllReadyH.nil
            refine step_row (K := kdEx) rfl (.tmp 40) (.tmp 45) rfl rfl HRW9.out rfl HE9.out HR9.out HAC.out (by have := HGW.out; have := HG9.out.lt; omega) (fun b h => h.elim) ?_
            intro v10 w10 r10 g10 o10
            have HS10 := Lib.hid (HS9.out.grown g10 (B := W.heap.size + 3) (by have := HL.out; omega) (by have := HGW.out; have := HG9.out.lt; omega) (fun k hk => (o10 k hk).1))
            have HK10 := Lib.hid (HK9.out.grownR g10 (fun k hk => Nat.le_trans (by omega) (o10 k hk).1))
            have HG10 : Hid (Arr w10 42 (W.heap.size + 2) [.int .i64 3, .string ⟨#[]⟩, .string ⟨#[]⟩, .slice q acc.length cc]) := (g10.block _ HG9.out.lt (fun e => absurd (o10 _ e.symm).1 (by omega))).trans HG9.out
            have HB10 := Lib.hid (sGrown HB9.out g10 (fun k hk => (o10 k hk).1) (by omega))
            have HRW10 := Lib.hid r10
            obtain ⟨q10, c10, hv10⟩ := r10.form
            rw [List.length_append, List.length_singleton] at hv10
            subst hv10
            clear r10 g10 o10
            refine hK'.out _ _ HB10.out (fun _ => ?_)
            clear hK' K' hHeld
            have hHeld := HB10.out
            try simp only [Act.put, List.setIfInBounds_toArray, List.set_cons_zero, List.set_cons_succ]
            refine wpAnyH_take (i := 8) (oi := ⟨some 47, _, _, _, _, _⟩) (v := .pointer (some ⟨W.heap.size + 2, 3, none⟩)) rfl (by kernel_rfl) (by kernel_rfl) (by kernel_rfl) (fun _ _ _ h => h) (.inl ⟨by rfl, fun w' hSw => ?_⟩) hHeld ?_
            focus (skip; clear hHeld; go_simp)
            try simp only [Act.put, List.setIfInBounds_toArray, List.set_cons_zero, List.set_cons_succ]
            refine wpAnyH_ready (rs := [9]) (by kernel_rfl) (by simp) ?_
            refine AllReadyH.cons (o := ⟨none, _, _, _, _, _⟩) rfl (fun K' hK' => ?_) AllReadyH.nil
            have x0 := HG10.out.cell 0
            have y0 := HG10.out.free 0
            have x1 := HG10.out.cell 1
            have y1 := HG10.out.free 1
            have x2 := HG10.out.cell 2
            have y2 := HG10.out.free 2
            have x3 := HG10.out.cell 3
            have y3 := HG10.out.free 3
            simp only [List.getElem?_cons_zero, List.getElem?_cons_succ] at x0 x1 x2 x3
            go_simp
            clear x0 y0 x1 y1 x2 y2 x3 y3
            have HB11 := Lib.hid (sBox HB10.out (g := W.heap.size + 2) 3 (.slice q10 (acc.length + 1) c10) (by omega))
            refine hK'.out _ _ HB11.out (fun _ => ?_)
            clear hK' K' hHeld
            have hHeld := HB11.out
            try simp only [Act.put, List.setIfInBounds_toArray, List.set_cons_zero, List.set_cons_succ]
            have HG11 : Hid (Arr (w10.setCell ⟨W.heap.size + 2, 3, none⟩ (.slice q10 (acc.length + 1) c10)) 42 (W.heap.size + 2) [.int .i64 3, .string ⟨#[]⟩, .string ⟨#[]⟩, .slice q10 (acc.length + 1) c10]) := HG10.out.set 3 _
            have HRW11 := Lib.hid (HRW10.out.box (g := W.heap.size + 2) (.inl (by omega)) 3 (.slice q10 (acc.length + 1) c10))
            have HS11 := Lib.hid (HS10.out.box (g := W.heap.size + 2) (by have := HL.out; omega) 3 (.slice q10 (acc.length + 1) c10))
            have HK11 := Lib.hid (HK10.out.box (g := W.heap.size + 2) (by omega) 3 (.slice q10 (acc.length + 1) c10))
            refine wpAnyH_done (by kernel_rfl) ?_ _
            refine NoPanic.normal ?_
            clear HRW10 HG10 HS10 HK10 HRW9 HG9 HS9 HK9 HE9 HR9 HRW8 HG8 HS8 HK8 HR8 HB10 HB9 HB8
            generalize (w10.setCell ⟨W.heap.size + 2, 3, none⟩ (.slice q10 (acc.length + 1) c10)) = w11 at HG11 HRW11 HS11 HK11 HB11 ⊢
            go_wp2_with fail
            go_roundw
            case rel => exact ⟨i + 1, acc ++ [Ex.mk mk mv mn ms], s4, lv4, q10, c10, HLT.out, by go_num, by rw [List.length_append, HLEN.out]; rfl, by rw [List.length_append]; exact HRW11.out, by rw [List.length_append]; exact HG11.out, HB11.out, HS11.out, HK11.out, HE7.out⟩
            case measure => first | exact meas HLT.out (Nat.le_trans HNN.out (by decide)) | exact meas' HLT.out
      · have hlt' : ¬ (i : Int) < n := by omega
        have HE7 : Hid (partC b (d + 1) s lv = (.mk 3 [] [] acc, s2, lv2)) := by
          show _ = _
          rw [HE6.out, show n - i = 0 by omega]; rfl
        have HGZ := HG6
        have x0 := HGZ.out.cell 0
        have y0 := HGZ.out.free 0
        have x1 := HGZ.out.cell 1
        have y1 := HGZ.out.free 1
        have x2 := HGZ.out.cell 2
        have y2 := HGZ.out.free 2
        have x3 := HGZ.out.cell 3
        have y3 := HGZ.out.free 3
        simp only [List.getElem?_cons_zero, List.getElem?_cons_succ] at x0 x1 x2 x3
        go_wp2_with fail
        have hk := kp_set4 wr (W.heap.size + 2) (.int .i64 3) (.string ⟨#[]⟩) (.string ⟨#[]⟩) (.slice q acc.length cc)
        have hA := HGZ.out.set4x (.int .i64 3) (.string ⟨#[]⟩) (.string ⟨#[]⟩) (.slice q acc.length cc)
        refine bodyPost_ret (resX rfl hA rfl) rfl ?_
        rw [HE7.out]
        exact ⟨_, rfl, (VE.kp (HRW6.out.rdE 3 [] []) hk (Nat.lt_succ_self _)).low (by omega), RS.box (RS.box (RS.box (RS.box HS6.out (by have := HL.out; omega) _ _) (by have := HL.out; omega) _ _) (by have := HL.out; omega) _ _) (by have := HL.out; omega) _ _, K2.box (K2.box (K2.box (K2.box HK6.out (by omega) _ _) (by omega) _ _) (by omega) _ _) (by omega) _ _⟩
  · clear HLF
    have x0 := HG1.out.cell 0
    have y0 := HG1.out.free 0
    have x1 := HG1.out.cell 1
    have y1 := HG1.out.free 1
    have x2 := HG1.out.cell 2
    have y2 := HG1.out.free 2
    have x3 := HG1.out.cell 3
    have y3 := HG1.out.free 3
    simp only [List.getElem?_cons_zero, List.getElem?_cons_succ] at x0 x1 x2 x3
    go_upto_region 12 with (fail)
    clear x0 y0 x1 y1 x2 y2 x3 y3
    have HG2 : Hid (Arr (w1.setCell ⟨W.heap.size + 2, 0, none⟩ (.int .i64 4)) 42 (W.heap.size + 2) [.int .i64 4, .string ⟨#[]⟩, .string ⟨#[]⟩, .slice none 0 0]) := HG1.out.set 0 _
    have HS2 := Lib.hid (HS1.out.box (g := W.heap.size + 2) (by have := HL.out; omega) 0 (.int .i64 4))
    have HK2 := Lib.hid (HK1.out.box (g := W.heap.size + 2) (by omega) 0 (.int .i64 4))
    have HB2 := Lib.hid (sBox HB1.out (g := W.heap.size + 2) 0 (.int .i64 4) (by omega))
    clear HG1 HS1 HK1 HB1
    generalize w1.setCell ⟨W.heap.size + 2, 0, none⟩ (.int .i64 4) = w2 at HG2 HS2 HK2 HB2 ⊢
    obtain ⟨n, hn⟩ : ∃ x, x = (numC b (chkC 2 32) s1).1 := ⟨_, rfl⟩
    obtain ⟨s3, hs3⟩ : ∃ x, x = (numC b (chkC 2 32) s1).2 := ⟨_, rfl⟩
    have HNN : Hid (n ≤ 32) := by rw [hn]; exact numC_le (fun x hx => (chkC_0 hx).2) s1
    have HN3 := Lib.hid (cCount_any 2 32 HS2.out (by decide))
    rw [← hn, ← hs3] at HN3
    have HE3 : Hid (partC b (d + 1) s lv = (.mk 4 [] [] (loopC (partC b d) (n - 0) [] s3 lv).1, (loopC (partC b d) (n - 0) [] s3 lv).2)) := by
      show _ = _
      rw [HE.out, hn, hs3, Nat.sub_zero]; rfl
    clear hn hs3 HE
    have b0 := HB2.out.1.cell 0
    simp only [List.getElem?_cons_zero] at b0
    go_wp2_with fail
    refine HN3.out.mono ?_
    rintro e w3 ⟨rfl, h3, k3⟩
    have HS3 := Lib.hid h3
    have HK3 := Lib.hid (HK2.out.trans k3)
    have HB3 := Lib.hid (sK2 HB2.out k3 HL.out)
    have HG3 := Lib.hid (k3.arr HG2.out (by have := HL.out; omega) (by have := HL.out; omega))
    clear h3 k3 HK2 HB2 HG2 HS2
    clear HN3 b0
    go_upto_region 14 with (fail)
    go_wp2_with fail
    go_loopw [37] (fun iv wr => ∃ (i : Nat) (acc : List Ex) (s2 : St) (lv2 : Nat) (q : Option Addr) (cc : Nat), i ≤ n ∧ iv = .int .i64 (i : Nat) ∧ Hid (acc.length = i) ∧ Hid (PRow kdEx (W.heap.size + 3) (fun _ => False) wr (.slice q acc.length cc) acc) ∧ Hid (Arr wr 42 (W.heap.size + 2) [.int .i64 4, .string ⟨#[]⟩, .string ⟨#[]⟩, .slice q acc.length cc]) ∧ Hid (SB W.heap.size rb D wr) ∧ Hid (RS cb rb b lv2 s2 wr) ∧ Hid (K2 cb rb W wr) ∧ Hid (partC b (d + 1) s lv = (.mk 4 [] [] (loopC (partC b d) (n - i) acc s2 lv2).1, (loopC (partC b d) (n - i) acc s2 lv2).2))) (fun iv _ => n - (intOf iv).toNat)
    case atStart => exact ⟨0, [], s3, lv, none, 0, Nat.zero_le _, rfl, rfl, PRow.nil _ _ _ _, HG3.out, HB3.out, HS3.out, HK3.out, HE3.out⟩
    case round =>
      obtain ⟨i, acc, s2, lv2, q, cc, hi, rfl, HLEN, HRW6, HG6, HB6, HS6, HK6, HE6⟩ := hrel
      by_cases hlt : i < n
      · have hlt' : (i : Int) < n := by omega
        have hw : wrap64 ((i : Int) + 1) = (i : Int) + 1 := by unfold wrap64; have := HNN.out; omega
        have HLT : Hid (i < n) := hlt
        obtain ⟨x, hx⟩ : ∃ x, x = (partC b d s2 lv2).1 := ⟨_, rfl⟩
        obtain ⟨s4, hs4⟩ : ∃ x, x = (partC b d s2 lv2).2.1 := ⟨_, rfl⟩
        obtain ⟨lv4, hl4⟩ : ∃ x, x = (partC b d s2 lv2).2.2 := ⟨_, rfl⟩
        obtain ⟨mk, mv, mn, ms⟩ := x
        have HE7 : Hid (partC b (d + 1) s lv = (.mk 4 [] [] (loopC (partC b d) (n - (i + 1)) (acc ++ [.mk mk mv mn ms]) s4 lv4).1, (loopC (partC b d) (n - (i + 1)) (acc ++ [.mk mk mv mn ms]) s4 lv4).2)) := by
          show _ = _
          rw [HE6.out, show n - i = (n - (i + 1)) + 1 by omega, loopC, ← hx, ← hs4, ← hl4]
        have HCT : Hid (∀ w7, RS cb rb b lv2 s2 w7 → Calls Tryz.prog 67 #[.pointer (some ⟨rb, 0, none⟩), .int .i64 ((D : Int) + 1)] w7 fun e w' => ∃ v, e = .returned v ∧ (VE w7.heap.size (.mk mk mv mn ms) w' v ∧ RS cb rb b lv4 s4 w' ∧ K2 cb rb w7 w')) := fun w7 hw7 => by
          have h := IH.out w7 s2 lv2 hw7
          unfold PPost at h
          rw [← hx, ← hs4, ← hl4] at h
          exact h
        have HAC : Hid (acc.length + 1 ≤ 200000) := by show _ ≤ _; have := HNN.out; have := HLEN.out; omega
        have HGW : Hid (W.heap.size + 2 < W.heap.size + 3) := Nat.lt_succ_self _
        clear HE6 hx hs4 hl4 hlt IH
        go_upto_region 16 with (fail)
        generalize hwr : wr = w6 at HRW6 HG6 HB6 HS6 HK6 ⊢
        clear hwr
        refine wp_region_noPanic ?_
        refine wp_region_held_drew (S := fun W' => SB W.heap.size rb D W') (by kernel_rfl) (sDrew HB6.out) (fun hHeld => ?_)
        try simp only [Act.put]
        have hb7 : Below w6.heap.size w6 w6.drew := (Below.refl _ _).drew
        have HRW7 := Lib.hid (HRW6.out.later hb7)
        have HG7 := Lib.hid (HG6.out.later hb7)
        have HS7 := Lib.hid (HS6.out.later hb7)
        have HK7 := Lib.hid (HK6.out.trans (K2.of hb7))
        have HB7 := Lib.hid (sLater HB6.out hb7)
        clear hb7
        generalize w6.drew = w7 at HRW7 HG7 HS7 HK7 HB7 hHeld ⊢
        have HN7 := Lib.hid (HCT.out w7 HS7.out)
        have HGL : Hid (W.heap.size + 3 ≤ w7.heap.size) := by show _ ≤ _; have := HG7.out.lt; omega
        have HBL : Hid (∀ b, (Value.slice q acc.length cc).ownBlock = some b → b < w7.heap.size) := fun b hb => by obtain ⟨_, h, _⟩ := HRW7.out; exact (h.lt b hb).2
        refine wpAnyH_take (i := 0) (oi := ⟨some 39, _, _, _, _, _⟩) (v := .pointer (some ⟨W.heap.size + 2, 3, none⟩)) rfl (by kernel_rfl) (by kernel_rfl) (by kernel_rfl) (fun _ _ _ h => h) (.inl ⟨by rfl, fun w' hSw => ?_⟩) hHeld ?_
        focus (skip; clear hHeld; go_simp)
        try simp only [Act.put, List.setIfInBounds_toArray, List.set_cons_zero, List.set_cons_succ]
        refine wpAnyH_take (i := 2) (oi := ⟨some 41, _, _, _, _, _⟩) (v := .pointer (some ⟨rb, 0, none⟩)) rfl (by kernel_rfl) (by kernel_rfl) (by kernel_rfl) (fun _ _ _ h => h) (.inl ⟨by rfl, fun w' hSw => ?_⟩) hHeld ?_
        focus (have a1 := hSw.1.cell 0; have a2 := hSw.2.cell 0; simp only [List.getElem?_cons_zero] at a1 a2; clear hHeld; go_simp)
        try simp only [Act.put, List.setIfInBounds_toArray, List.set_cons_zero, List.set_cons_succ]
        refine wpAnyH_take (i := 3) (oi := ⟨some 42, _, _, _, _, _⟩) (v := .int .i64 (D : Nat)) rfl (by kernel_rfl) (by kernel_rfl) (by kernel_rfl) (fun _ _ _ h => h) (.inl ⟨by rfl, fun w' hSw => ?_⟩) hHeld ?_
        focus (have a1 := hSw.1.cell 0; have a2 := hSw.2.cell 0; simp only [List.getElem?_cons_zero] at a1 a2; clear hHeld; go_simp)
        try simp only [Act.put, List.setIfInBounds_toArray, List.set_cons_zero, List.set_cons_succ]
        refine wpAnyH_take (i := 4) (oi := ⟨some 43, _, _, _, _, _⟩) (v := .int .i64 ((D : Int) + 1)) rfl (by kernel_rfl) (by kernel_rfl) (by kernel_rfl) (fun _ _ _ h => h) (.inl ⟨by rfl, fun w' hSw => ?_⟩) hHeld ?_
        focus (skip; clear hHeld; go_simp; exact HDW.out)
        try simp only [Act.put, List.setIfInBounds_toArray, List.set_cons_zero, List.set_cons_succ]
        refine wpAnyH_ready (rs := [1, 5]) (by kernel_rfl) (by simp) ?_
        refine AllReadyH.cons (o := ⟨some 40, _, _, _, _, _⟩) rfl (fun K' hK' => ?_) (AllReadyH.cons (o := ⟨some 44, _, _, _, _, _⟩) rfl (fun K' hK' => ?_) AllReadyH.nil)
        · have x0 := HG7.out.cell 0
          have y0 := HG7.out.free 0
          have x1 := HG7.out.cell 1
          have y1 := HG7.out.free 1
          have x2 := HG7.out.cell 2
          have y2 := HG7.out.free 2
          have x3 := HG7.out.cell 3
          have y3 := HG7.out.free 3
          simp only [List.getElem?_cons_zero, List.getElem?_cons_succ] at x0 x1 x2 x3
          go_simp
          clear x0 y0 x1 y1 x2 y2 x3 y3
          refine hK'.out _ _ HB7.out (fun _ => ?_)
          clear hK' K' hHeld
          have hHeld := HB7.out
          try simp only [Act.put, List.setIfInBounds_toArray, List.set_cons_zero, List.set_cons_succ]
          refine wpAnyH_ready (rs := [5]) (by kernel_rfl) (by simp) ?_
          refine AllReadyH.cons (o := ⟨some 44, _, _, _, _, _⟩) rfl (fun K' hK' => ?_) AllReadyH.nil
          refine stepw_call (by rfl) ?_ HN7.out ?_
          focus go_simp
          rintro v w8 ⟨r8, s8, k8⟩
          have r8' : VE w7.heap.size (.mk mk mv mn ms) w8 v := r8
          obtain ⟨q4, c4, rfl, _, _⟩ := RdE.form r8
          unfold exv at r8' ⊢
          dsimp only [Ex.kind, Ex.via, Ex.nm, Ex.kids] at r8' ⊢
          have HR8 : Hid (rdEx (Bt w7.heap.size w8.heap.size) w8 (.mk mk mv mn ms) [.int .i64 mk, .string (bstr mv), .string (bstr mn), .slice q4 ms.length c4]) := ⟨_, _, _, _, rfl, r8'⟩
          clear r8'
          have HRW8 := Lib.hid (HRW7.out.turn (w' := w8) k8.2.2.2.1 (fun b hb hl _ => k8.2.2.2.2 b hl (by have := HL.out; omega) (by have := HL.out; omega)))
          have HG8 := Lib.hid (k8.arr HG7.out (by have := HL.out; omega) (by have := HL.out; omega))
          have HS8 := Lib.hid s8
          have HK8 := Lib.hid (HK7.out.trans k8)
          have HB8 := Lib.hid (sK2 HB7.out k8 HL.out)
          clear s8 k8 r8
          refine hK'.out _ _ HB8.out (fun _ => ?_)
          clear hK' K' hHeld
          have hHeld := HB8.out
          try simp only [Act.put, List.setIfInBounds_toArray, List.set_cons_zero, List.set_cons_succ]
          refine wpAnyH_ready (rs := [6]) (by kernel_rfl) (by simp) ?_
          refine AllReadyH.cons (o := ⟨some 45, _, _, _, _, _⟩) rfl (fun K' hK' => ?_) AllReadyH.nil
          go_simp
          have hb9 : Below w8.heap.size w8 (w8.alloc (.cells #[.int .i64 mk, .string (bstr mv), .string (bstr mn), .slice q4 ms.length c4] 42)) := (Below.refl _ _).alloc (Nat.le_refl _) _
          have HRW9 := Lib.hid (HRW8.out.later hb9)
          have HG9 := Lib.hid (HG8.out.later hb9)
          have HS9 := Lib.hid (HS8.out.later hb9)
          have HK9 := Lib.hid (HK8.out.trans (K2.of hb9))
          have HB9 := Lib.hid (sLater HB8.out hb9)
          have HE9 : Hid (Arr (w8.alloc (.cells #[.int .i64 mk, .string (bstr mv), .string (bstr mn), .slice q4 ms.length c4] 42)) 42 w8.heap.size [.int .i64 mk, .string (bstr mv), .string (bstr mn), .slice q4 ms.length c4]) := Arr.new' _ _ _ _ rfl
          have HR9 : Hid (kdEx.rd (SubX (W.heap.size + 3) (fun _ => False) (w8.alloc (.cells #[.int .i64 mk, .string (bstr mv), .string (bstr mn), .slice q4 ms.length c4] 42)) (.slice q acc.length cc)) (w8.alloc (.cells #[.int .i64 mk, .string (bstr mv), .string (bstr mn), .slice q4 ms.length c4] 42)) (.mk mk mv mn ms) [.int .i64 mk, .string (bstr mv), .string (bstr mn), .slice q4 ms.length c4]) := kdEx.imp (fun b hb => ⟨by have := HGL.out; have := hb.1; omega, Nat.lt_of_lt_of_le hb.2 hb9.size, fun e => by have h1 := (HBL.out b e.symm); have := hb.1; omega, fun h => h⟩) (kdEx.keep (fun b hb n => hb9.cell (p := ⟨b, n, none⟩) hb.2) HR8.out)
          clear hb9
          generalize w8.alloc (.cells #[.int .i64 mk, .string (bstr mv), .string (bstr mn), .slice q4 ms.length c4] 42) = w9 at HRW9 HG9 HS9 HK9 HE9 HR9 HB9 hK' ⊢
          refine hK'.out _ _ HB9.out (fun _ => ?_)
          clear hK' K' hHeld
          have hHeld := HB9.out
          try simp only [Act.put, List.setIfInBounds_toArray, List.set_cons_zero, List.set_cons_succ]
          refine wpAnyH_ready (rs := [7]) (by kernel_rfl) (by simp) ?_
          refine AllReadyH.cons (o := ⟨some 46, _, _, _, _, _⟩) rfl (fun K' hK' => ?_) AllReadyH.nil
          refine step_row (K := kdEx) rfl (.tmp 40) (.tmp 45) rfl rfl HRW9.out rfl HE9.out HR9.out HAC.out (by have := HGW.out; have := HG9.out.lt; omega) (fun b h => h.elim) ?_
          intro v10 w10 r10 g10 o10
          have HS10 := Lib.hid (HS9.out.grown g10 (B := W.heap.size + 3) (by have := HL.out; omega) (by have := HGW.out; have := HG9.out.lt; omega) (fun k hk => (o10 k hk).1))
          have HK10 := Lib.hid (HK9.out.grownR g10 (fun k hk => Nat.le_trans (by omega) (o10 k hk).1))
          have HG10 : Hid (Arr w10 42 (W.heap.size + 2) [.int .i64 4, .string ⟨#[]⟩, .string ⟨#[]⟩, .slice q acc.length cc]) := (g10.block _ HG9.out.lt (fun e => absurd (o10 _ e.symm).1 (by omega))).trans HG9.out
          have HB10 := Lib.hid (sGrown HB9.out g10 (fun k hk => (o10 k hk).1) (by omega))
          have HRW10 := Lib.hid r10
          obtain ⟨q10, c10, hv10⟩ := r10.form
          rw [List.length_append, List.length_singleton] at hv10
          subst hv10
          clear r10 g10 o10
          refine hK'.out _ _ HB10.out (fun _ => ?_)
          clear hK' K' hHeld
          have hHeld := HB10.out
          try simp only [Act.put, List.setIfInBounds_toArray, List.set_cons_zero, List.set_cons_succ]
          refine wpAnyH_take (i := 8) (oi := ⟨some 47, _, _, _, _, _⟩) (v := .pointer (some ⟨W.heap.size + 2, 3, none⟩)) rfl (by kernel_rfl) (by kernel_rfl) (by kernel_rfl) (fun _ _ _ h => h) (.inl ⟨by rfl, fun w' hSw => ?_⟩) hHeld ?_
          focus (skip; clear hHeld; go_simp)
          try simp only [Act.put, List.setIfInBounds_toArray, List.set_cons_zero, List.set_cons_succ]
          refine wpAnyH_ready (rs := [9]) (by kernel_rfl) (by simp) ?_
          refine AllReadyH.cons (o := ⟨none, _, _, _, _, _⟩) rfl (fun K' hK' => ?_) AllReadyH.nil
          have x0 := HG10.out.cell 0
          have y0 := HG10.out.free 0
          have x1 := HG10.out.cell 1
          have y1 := HG10.out.free 1
          have x2 := HG10.out.cell 2
          have y2 := HG10.out.free 2
          have x3 := HG10.out.cell 3
          have y3 := HG10.out.free 3
          simp only [List.getElem?_cons_zero, List.getElem?_cons_succ] at x0 x1 x2 x3
          go_simp
          clear x0 y0 x1 y1 x2 y2 x3 y3
          have HB11 := Lib.hid (sBox HB10.out (g := W.heap.size + 2) 3 (.slice q10 (acc.length + 1) c10) (by omega))
          refine hK'.out _ _ HB11.out (fun _ => ?_)
          clear hK' K' hHeld
          have hHeld := HB11.out
          try simp only [Act.put, List.setIfInBounds_toArray, List.set_cons_zero, List.set_cons_succ]
          have HG11 : Hid (Arr (w10.setCell ⟨W.heap.size + 2, 3, none⟩ (.slice q10 (acc.length + 1) c10)) 42 (W.heap.size + 2) [.int .i64 4, .string ⟨#[]⟩, .string ⟨#[]⟩, .slice q10 (acc.length + 1) c10]) := HG10.out.set 3 _
          have HRW11 := Lib.hid (HRW10.out.box (g := W.heap.size + 2) (.inl (by omega)) 3 (.slice q10 (acc.length + 1) c10))
          have HS11 := Lib.hid (HS10.out.box (g := W.heap.size + 2) (by have := HL.out; omega) 3 (.slice q10 (acc.length + 1) c10))
          have HK11 := Lib.hid (HK10.out.box (g := W.heap.size + 2) (by omega) 3 (.slice q10 (acc.length + 1) c10))
          refine wpAnyH_done (by kernel_rfl) ?_ _
          refine NoPanic.normal ?_
          clear HRW10 HG10 HS10 HK10 HRW9 HG9 HS9 HK9 HE9 HR9 HRW8 HG8 HS8 HK8 HR8 HB10 HB9 HB8
          generalize (w10.setCell ⟨W.heap.size + 2, 3, none⟩ (.slice q10 (acc.length + 1) c10)) = w11 at HG11 HRW11 HS11 HK11 HB11 ⊢
          go_wp2_with fail
          go_roundw
          case rel => exact ⟨i + 1, acc ++ [Ex.mk mk mv mn ms], s4, lv4, q10, c10, HLT.out, by go_num, by rw [List.length_append, HLEN.out]; rfl, by rw [List.length_append]; exact HRW11.out, by rw [List.length_append]; exact HG11.out, HB11.out, HS11.out, HK11.out, HE7.out⟩
          case measure => first | exact meas HLT.out (Nat.le_trans HNN.out (by decide)) | exact meas' HLT.out
        · refine stepw_call (by rfl) ?_ HN7.out ?_
          focus go_simp
          rintro v w8 ⟨r8, s8, k8⟩
          have r8' : VE w7.heap.size (.mk mk mv mn ms) w8 v := r8
          obtain ⟨q4, c4, rfl, _, _⟩ := RdE.form r8
          unfold exv at r8' ⊢
          dsimp only [Ex.kind, Ex.via, Ex.nm, Ex.kids] at r8' ⊢
          have HR8 : Hid (rdEx (Bt w7.heap.size w8.heap.size) w8 (.mk mk mv mn ms) [.int .i64 mk, .string (bstr mv), .string (bstr mn), .slice q4 ms.length c4]) := ⟨_, _, _, _, rfl, r8'⟩
          clear r8'
          have HRW8 := Lib.hid (HRW7.out.turn (w' := w8) k8.2.2.2.1 (fun b hb hl _ => k8.2.2.2.2 b hl (by have := HL.out; omega) (by have := HL.out; omega)))
          have HG8 := Lib.hid (k8.arr HG7.out (by have := HL.out; omega) (by have := HL.out; omega))
          have HS8 := Lib.hid s8
          have HK8 := Lib.hid (HK7.out.trans k8)
          have HB8 := Lib.hid (sK2 HB7.out k8 HL.out)
          clear s8 k8 r8
          refine hK'.out _ _ HB8.out (fun _ => ?_)
          clear hK' K' hHeld
          have hHeld := HB8.out
          try simp only [Act.put, List.setIfInBounds_toArray, List.set_cons_zero, List.set_cons_succ]
          refine wpAnyH_ready (rs := [1, 6]) (by kernel_rfl) (by simp) ?_
          refine AllReadyH.cons (o := ⟨some 40, _, _, _, _, _⟩) rfl (fun K' hK' => ?_) (AllReadyH.cons (o := ⟨some 45, _, _, _, _, _⟩) rfl (fun K' hK' => ?_) AllReadyH.nil)
          · have x0 := HG8.out.cell 0
            have y0 := HG8.out.free 0
            have x1 := HG8.out.cell 1
            have y1 := HG8.out.free 1
            have x2 := HG8.out.cell 2
            have y2 := HG8.out.free 2
            have x3 := HG8.out.cell 3
            have y3 := HG8.out.free 3
            simp only [List.getElem?_cons_zero, List.getElem?_cons_succ] at x0 x1 x2 x3
            go_simp
            clear x0 y0 x1 y1 x2 y2 x3 y3
            refine hK'.out _ _ HB8.out (fun _ => ?_)
            clear hK' K' hHeld
            have hHeld := HB8.out
            try simp only [Act.put, List.setIfInBounds_toArray, List.set_cons_zero, List.set_cons_succ]
            refine wpAnyH_ready (rs := [6]) (by kernel_rfl) (by simp) ?_
            refine AllReadyH.cons (o := ⟨some 45, _, _, _, _, _⟩) rfl (fun K' hK' => ?_) AllReadyH.nil
            go_simp
            have hb9 : Below w8.heap.size w8 (w8.alloc (.cells #[.int .i64 mk, .string (bstr mv), .string (bstr mn), .slice q4 ms.length c4] 42)) := (Below.refl _ _).alloc (Nat.le_refl _) _
            have HRW9 := Lib.hid (HRW8.out.later hb9)
            have HG9 := Lib.hid (HG8.out.later hb9)
            have HS9 := Lib.hid (HS8.out.later hb9)
            have HK9 := Lib.hid (HK8.out.trans (K2.of hb9))
            have HB9 := Lib.hid (sLater HB8.out hb9)
            have HE9 : Hid (Arr (w8.alloc (.cells #[.int .i64 mk, .string (bstr mv), .string (bstr mn), .slice q4 ms.length c4] 42)) 42 w8.heap.size [.int .i64 mk, .string (bstr mv), .string (bstr mn), .slice q4 ms.length c4]) := Arr.new' _ _ _ _ rfl
            have HR9 : Hid (kdEx.rd (SubX (W.heap.size + 3) (fun _ => False) (w8.alloc (.cells #[.int .i64 mk, .string (bstr mv), .string (bstr mn), .slice q4 ms.length c4] 42)) (.slice q acc.length cc)) (w8.alloc (.cells #[.int .i64 mk, .string (bstr mv), .string (bstr mn), .slice q4 ms.length c4] 42)) (.mk mk mv mn ms) [.int .i64 mk, .string (bstr mv), .string (bstr mn), .slice q4 ms.length c4]) := kdEx.imp (fun b hb => ⟨by have := HGL.out; have := hb.1; omega, Nat.lt_of_lt_of_le hb.2 hb9.size, fun e => by have h1 := (HBL.out b e.symm); have := hb.1; omega, fun h => h⟩) (kdEx.keep (fun b hb n => hb9.cell (p := ⟨b, n, none⟩) hb.2) HR8.out)
            clear hb9
            generalize w8.alloc (.cells #[.int .i64 mk, .string (bstr mv), .string (bstr mn), .slice q4 ms.length c4] 42) = w9 at HRW9 HG9 HS9 HK9 HE9 HR9 HB9 hK' ⊢
            refine hK'.out _ _ HB9.out (fun _ => ?_)
            clear hK' K' hHeld
            have hHeld := HB9.out
            try simp only [Act.put, List.setIfInBounds_toArray, List.set_cons_zero, List.set_cons_succ]
            refine wpAnyH_ready (rs := [7]) (by kernel_rfl) (by simp) ?_
            refine AllReadyH.cons (o := ⟨some 46, _, _, _, _, _⟩) rfl (fun K' hK' => ?_) AllReadyH.nil
            refine step_row (K := kdEx) rfl (.tmp 40) (.tmp 45) rfl rfl HRW9.out rfl HE9.out HR9.out HAC.out (by have := HGW.out; have := HG9.out.lt; omega) (fun b h => h.elim) ?_
            intro v10 w10 r10 g10 o10
            have HS10 := Lib.hid (HS9.out.grown g10 (B := W.heap.size + 3) (by have := HL.out; omega) (by have := HGW.out; have := HG9.out.lt; omega) (fun k hk => (o10 k hk).1))
            have HK10 := Lib.hid (HK9.out.grownR g10 (fun k hk => Nat.le_trans (by omega) (o10 k hk).1))
            have HG10 : Hid (Arr w10 42 (W.heap.size + 2) [.int .i64 4, .string ⟨#[]⟩, .string ⟨#[]⟩, .slice q acc.length cc]) := (g10.block _ HG9.out.lt (fun e => absurd (o10 _ e.symm).1 (by omega))).trans HG9.out
            have HB10 := Lib.hid (sGrown HB9.out g10 (fun k hk => (o10 k hk).1) (by omega))
            have HRW10 := Lib.hid r10
            obtain ⟨q10, c10, hv10⟩ := r10.form
            rw [List.length_append, List.length_singleton] at hv10
            subst hv10
            clear r10 g10 o10
            refine hK'.out _ _ HB10.out (fun _ => ?_)
            clear hK' K' hHeld
            have hHeld := HB10.out
            try simp only [Act.put, List.setIfInBounds_toArray, List.set_cons_zero, List.set_cons_succ]
            refine wpAnyH_take (i := 8) (oi := ⟨some 47, _, _, _, _, _⟩) (v := .pointer (some ⟨W.heap.size + 2, 3, none⟩)) rfl (by kernel_rfl) (by kernel_rfl) (by kernel_rfl) (fun _ _ _ h => h) (.inl ⟨by rfl, fun w' hSw => ?_⟩) hHeld ?_
            focus (skip; clear hHeld; go_simp)
            try simp only [Act.put, List.setIfInBounds_toArray, List.set_cons_zero, List.set_cons_succ]
            refine wpAnyH_ready (rs := [9]) (by kernel_rfl) (by simp) ?_
            refine AllReadyH.cons (o := ⟨none, _, _, _, _, _⟩) rfl (fun K' hK' => ?_) AllReadyH.nil
            have x0 := HG10.out.cell 0
            have y0 := HG10.out.free 0
            have x1 := HG10.out.cell 1
            have y1 := HG10.out.free 1
            have x2 := HG10.out.cell 2
            have y2 := HG10.out.free 2
            have x3 := HG10.out.cell 3
            have y3 := HG10.out.free 3
            simp only [List.getElem?_cons_zero, List.getElem?_cons_succ] at x0 x1 x2 x3
            go_simp
            clear x0 y0 x1 y1 x2 y2 x3 y3
            have HB11 := Lib.hid (sBox HB10.out (g := W.heap.size + 2) 3 (.slice q10 (acc.length + 1) c10) (by omega))
            refine hK'.out _ _ HB11.out (fun _ => ?_)
            clear hK' K' hHeld
            have hHeld := HB11.out
            try simp only [Act.put, List.setIfInBounds_toArray, List.set_cons_zero, List.set_cons_succ]
            have HG11 : Hid (Arr (w10.setCell ⟨W.heap.size + 2, 3, none⟩ (.slice q10 (acc.length + 1) c10)) 42 (W.heap.size + 2) [.int .i64 4, .string ⟨#[]⟩, .string ⟨#[]⟩, .slice q10 (acc.length + 1) c10]) := HG10.out.set 3 _
            have HRW11 := Lib.hid (HRW10.out.box (g := W.heap.size + 2) (.inl (by omega)) 3 (.slice q10 (acc.length + 1) c10))
            have HS11 := Lib.hid (HS10.out.box (g := W.heap.size + 2) (by have := HL.out; omega) 3 (.slice q10 (acc.length + 1) c10))
            have HK11 := Lib.hid (HK10.out.box (g := W.heap.size + 2) (by omega) 3 (.slice q10 (acc.length + 1) c10))
            refine wpAnyH_done (by kernel_rfl) ?_ _
            refine NoPanic.normal ?_
            clear HRW10 HG10 HS10 HK10 HRW9 HG9 HS9 HK9 HE9 HR9 HRW8 HG8 HS8 HK8 HR8 HB10 HB9 HB8
            generalize (w10.setCell ⟨W.heap.size + 2, 3, none⟩ (.slice q10 (acc.length + 1) c10)) = w11 at HG11 HRW11 HS11 HK11 HB11 ⊢
            go_wp2_with fail
            go_roundw
            case rel => exact ⟨i + 1, acc ++ [Ex.mk mk mv mn ms], s4, lv4, q10, c10, HLT.out, by go_num, by rw [List.length_append, HLEN.out]; rfl, by rw [List.length_append]; exact HRW11.out, by rw [List.length_append]; exact HG11.out, HB11.out, HS11.out, HK11.out, HE7.out⟩
            case measure => first | exact meas HLT.out (Nat.le_trans HNN.out (by decide)) | exact meas' HLT.out
          · go_simp
            have hb9 : Below w8.heap.size w8 (w8.alloc (.cells #[.int .i64 mk, .string (bstr mv), .string (bstr mn), .slice q4 ms.length c4] 42)) := (Below.refl _ _).alloc (Nat.le_refl _) _
            have HRW9 := Lib.hid (HRW8.out.later hb9)
            have HG9 := Lib.hid (HG8.out.later hb9)
            have HS9 := Lib.hid (HS8.out.later hb9)
            have HK9 := Lib.hid (HK8.out.trans (K2.of hb9))
            have HB9 := Lib.hid (sLater HB8.out hb9)
            have HE9 : Hid (Arr (w8.alloc (.cells #[.int .i64 mk, .string (bstr mv), .string (bstr mn), .slice q4 ms.length c4] 42)) 42 w8.heap.size [.int .i64 mk, .string (bstr mv), .string (bstr mn), .slice q4 ms.length c4]) := Arr.new' _ _ _ _ rfl
            have HR9 : Hid (kdEx.rd (SubX (W.heap.size + 3) (fun _ => False) (w8.alloc (.cells #[.int .i64 mk, .string (bstr mv), .string (bstr mn), .slice q4 ms.length c4] 42)) (.slice q acc.length cc)) (w8.alloc (.cells #[.int .i64 mk, .string (bstr mv), .string (bstr mn), .slice q4 ms.length c4] 42)) (.mk mk mv mn ms) [.int .i64 mk, .string (bstr mv), .string (bstr mn), .slice q4 ms.length c4]) := kdEx.imp (fun b hb => ⟨by have := HGL.out; have := hb.1; omega, Nat.lt_of_lt_of_le hb.2 hb9.size, fun e => by have h1 := (HBL.out b e.symm); have := hb.1; omega, fun h => h⟩) (kdEx.keep (fun b hb n => hb9.cell (p := ⟨b, n, none⟩) hb.2) HR8.out)
            clear hb9
            generalize w8.alloc (.cells #[.int .i64 mk, .string (bstr mv), .string (bstr mn), .slice q4 ms.length c4] 42) = w9 at HRW9 HG9 HS9 HK9 HE9 HR9 HB9 hK' ⊢
            refine hK'.out _ _ HB9.out (fun _ => ?_)
            clear hK' K' hHeld
            have hHeld := HB9.out
            try simp only [Act.put, List.setIfInBounds_toArray, List.set_cons_zero, List.set_cons_succ]
            refine wpAnyH_ready (rs := [1]) (by kernel_rfl) (by simp) ?_
            refine AllReadyH.cons (o := ⟨some 40, _, _, _, _, _⟩) rfl (fun K' hK' => ?_) AllReadyH.nil
            have x0 := HG9.out.cell 0
            have y0 := HG9.out.free 0
            have x1 := HG9.out.cell 1
            have y1 := HG9.out.free 1
            have x2 := HG9.out.cell 2
            have y2 := HG9.out.free 2
            have x3 := HG9.out.cell 3
            have y3 := HG9.out.free 3
            simp only [List.getElem?_cons_zero, List.getElem?_cons_succ] at x0 x1 x2 x3
            go_simp
            clear x0 y0 x1 y1 x2 y2 x3 y3
            refine hK'.out _ _ HB9.out (fun _ => ?_)
            clear hK' K' hHeld
            have hHeld := HB9.out
            try simp only [Act.put, List.setIfInBounds_toArray, List.set_cons_zero, List.set_cons_succ]
            refine wpAnyH_ready (rs := [7]) (by kernel_rfl) (by simp) ?_
            refine AllReadyH.cons (o := ⟨some 46, _, _, _, _, _⟩) rfl (fun K' hK' => ?_) AllReadyH.nil
            refine step_row (K := kdEx) rfl (.tmp 40) (.tmp 45) rfl rfl HRW9.out rfl HE9.out HR9.out HAC.out (by have := HGW.out; have := HG9.out.lt; omega) (fun b h => h.elim) ?_
            intro v10 w10 r10 g10 o10
            have HS10 := Lib.hid (HS9.out.grown g10 (B := W.heap.size + 3) (by have := HL.out; omega) (by have := HGW.out; have := HG9.out.lt; omega) (fun k hk => (o10 k hk).1))
            have HK10 := Lib.hid (HK9.out.grownR g10 (fun k hk => Nat.le_trans (by omega) (o10 k hk).1))
            have HG10 : Hid (Arr w10 42 (W.heap.size + 2) [.int .i64 4, .string ⟨#[]⟩, .string ⟨#[]⟩, .slice q acc.length cc]) := (g10.block _ HG9.out.lt (fun e => absurd (o10 _ e.symm).1 (by omega))).trans HG9.out
            have HB10 := Lib.hid (sGrown HB9.out g10 (fun k hk => (o10 k hk).1) (by omega))
            have HRW10 := Lib.hid r10
            obtain ⟨q10, c10, hv10⟩ := r10.form
            rw [List.length_append, List.length_singleton] at hv10
            subst hv10
            clear r10 g10 o10
            refine hK'.out _ _ HB10.out (fun _ => ?_)
            clear hK' K' hHeld
            have hHeld := HB10.out
            try simp only [Act.put, List.setIfInBounds_toArray, List.set_cons_zero, List.set_cons_succ]
            refine wpAnyH_take (i := 8) (oi := ⟨some 47, _, _, _, _, _⟩) (v := .pointer (some ⟨W.heap.size + 2, 3, none⟩)) rfl (by kernel_rfl) (by kernel_rfl) (by kernel_rfl) (fun _ _ _ h => h) (.inl ⟨by rfl, fun w' hSw => ?_⟩) hHeld ?_
            focus (skip; clear hHeld; go_simp)
            try simp only [Act.put, List.setIfInBounds_toArray, List.set_cons_zero, List.set_cons_succ]
            refine wpAnyH_ready (rs := [9]) (by kernel_rfl) (by simp) ?_
            refine AllReadyH.cons (o := ⟨none, _, _, _, _, _⟩) rfl (fun K' hK' => ?_) AllReadyH.nil
            have x0 := HG10.out.cell 0
            have y0 := HG10.out.free 0
            have x1 := HG10.out.cell 1
            have y1 := HG10.out.free 1
            have x2 := HG10.out.cell 2
            have y2 := HG10.out.free 2
            have x3 := HG10.out.cell 3
            have y3 := HG10.out.free 3
            simp only [List.getElem?_cons_zero, List.getElem?_cons_succ] at x0 x1 x2 x3
            go_simp
            clear x0 y0 x1 y1 x2 y2 x3 y3
            have HB11 := Lib.hid (sBox HB10.out (g := W.heap.size + 2) 3 (.slice q10 (acc.length + 1) c10) (by omega))
            refine hK'.out _ _ HB11.out (fun _ => ?_)
            clear hK' K' hHeld
            have hHeld := HB11.out
            try simp only [Act.put, List.setIfInBounds_toArray, List.set_cons_zero, List.set_cons_succ]
            have HG11 : Hid (Arr (w10.setCell ⟨W.heap.size + 2, 3, none⟩ (.slice q10 (acc.length + 1) c10)) 42 (W.heap.size + 2) [.int .i64 4, .string ⟨#[]⟩, .string ⟨#[]⟩, .slice q10 (acc.length + 1) c10]) := HG10.out.set 3 _
            have HRW11 := Lib.hid (HRW10.out.box (g := W.heap.size + 2) (.inl (by omega)) 3 (.slice q10 (acc.length + 1) c10))
            have HS11 := Lib.hid (HS10.out.box (g := W.heap.size + 2) (by have := HL.out; omega) 3 (.slice q10 (acc.length + 1) c10))
            have HK11 := Lib.hid (HK10.out.box (g := W.heap.size + 2) (by omega) 3 (.slice q10 (acc.length + 1) c10))
            refine wpAnyH_done (by kernel_rfl) ?_ _
            refine NoPanic.normal ?_
            clear HRW10 HG10 HS10 HK10 HRW9 HG9 HS9 HK9 HE9 HR9 HRW8 HG8 HS8 HK8 HR8 HB10 HB9 HB8
            generalize (w10.setCell ⟨W.heap.size + 2, 3, none⟩ (.slice q10 (acc.length + 1) c10)) = w11 at HG11 HRW11 HS11 HK11 HB11 ⊢
            go_wp2_with fail
            go_roundw
            case rel => exact ⟨i + 1, acc ++ [Ex.mk mk mv mn ms], s4, lv4, q10, c10, HLT.out, by go_num, by rw [List.length_append, HLEN.out]; rfl, by rw [List.length_append]; exact HRW11.out, by rw [List.length_append]; exact HG11.out, HB11.out, HS11.out, HK11.out, HE7.out⟩
            case measure => first | exact meas HLT.out (Nat.le_trans HNN.out (by decide)) | exact meas' HLT.out
      · have hlt' : ¬ (i : Int) < n := by omega
        have HE7 : Hid (partC b (d + 1) s lv = (.mk 4 [] [] acc, s2, lv2)) := by
          show _ = _
          rw [HE6.out, show n - i = 0 by omega]; rfl
        have HGZ := HG6
        have x0 := HGZ.out.cell 0
        have y0 := HGZ.out.free 0
        have x1 := HGZ.out.cell 1
        have y1 := HGZ.out.free 1
        have x2 := HGZ.out.cell 2
        have y2 := HGZ.out.free 2
        have x3 := HGZ.out.cell 3
        have y3 := HGZ.out.free 3
        simp only [List.getElem?_cons_zero, List.getElem?_cons_succ] at x0 x1 x2 x3
        go_wp2_with fail
        have hk := kp_set4 wr (W.heap.size + 2) (.int .i64 4) (.string ⟨#[]⟩) (.string ⟨#[]⟩) (.slice q acc.length cc)
        have hA := HGZ.out.set4x (.int .i64 4) (.string ⟨#[]⟩) (.string ⟨#[]⟩) (.slice q acc.length cc)
        refine bodyPost_ret (resX rfl hA rfl) rfl ?_
        rw [HE7.out]
        exact ⟨_, rfl, (VE.kp (HRW6.out.rdE 4 [] []) hk (Nat.lt_succ_self _)).low (by omega), RS.box (RS.box (RS.box (RS.box HS6.out (by have := HL.out; omega) _ _) (by have := HL.out; omega) _ _) (by have := HL.out; omega) _ _) (by have := HL.out; omega) _ _, K2.box (K2.box (K2.box (K2.box HK6.out (by omega) _ _) (by omega) _ _) (by omega) _ _) (by omega) _ _⟩
  · clear HLF
    have x0 := HG1.out.cell 0
    have y0 := HG1.out.free 0
    have x1 := HG1.out.cell 1
    have y1 := HG1.out.free 1
    have x2 := HG1.out.cell 2
    have y2 := HG1.out.free 2
    have x3 := HG1.out.cell 3
    have y3 := HG1.out.free 3
    simp only [List.getElem?_cons_zero, List.getElem?_cons_succ] at x0 x1 x2 x3
    go_upto_region 14 with (fail)
    clear x0 y0 x1 y1 x2 y2 x3 y3
    have HG2 : Hid (Arr (w1.setCell ⟨W.heap.size + 2, 0, none⟩ (.int .i64 5)) 42 (W.heap.size + 2) [.int .i64 5, .string ⟨#[]⟩, .string ⟨#[]⟩, .slice none 0 0]) := HG1.out.set 0 _
    have HS2 := Lib.hid (HS1.out.box (g := W.heap.size + 2) (by have := HL.out; omega) 0 (.int .i64 5))
    have HK2 := Lib.hid (HK1.out.box (g := W.heap.size + 2) (by omega) 0 (.int .i64 5))
    have HB2 := Lib.hid (sBox HB1.out (g := W.heap.size + 2) 0 (.int .i64 5) (by omega))
    clear HG1 HS1 HK1 HB1
    generalize w1.setCell ⟨W.heap.size + 2, 0, none⟩ (.int .i64 5) = w2 at HG2 HS2 HK2 HB2 ⊢
    obtain ⟨n, hn⟩ : ∃ n : Nat, n = 2 := ⟨_, rfl⟩
    have HNN : Hid (n ≤ 32) := by show _ ≤ _; omega
    have HNQ : (2 : Int) = (n : Int) := by omega
    have HE3 : Hid (partC b (d + 1) s lv = (.mk 5 [] [] (loopC (partC b d) (n - 0) [] s1 lv).1, (loopC (partC b d) (n - 0) [] s1 lv).2)) := by
      show _ = _
      rw [HE.out, hn]; rfl
    rw [show (Value.int .i64 2) = Value.int .i64 (n : Int) by rw [HNQ]]
    clear hn HE HNQ
    go_wp2_with fail
    go_loopw [37] (fun iv wr => ∃ (i : Nat) (acc : List Ex) (s2 : St) (lv2 : Nat) (q : Option Addr) (cc : Nat), i ≤ n ∧ iv = .int .i64 (i : Nat) ∧ Hid (acc.length = i) ∧ Hid (PRow kdEx (W.heap.size + 3) (fun _ => False) wr (.slice q acc.length cc) acc) ∧ Hid (Arr wr 42 (W.heap.size + 2) [.int .i64 5, .string ⟨#[]⟩, .string ⟨#[]⟩, .slice q acc.length cc]) ∧ Hid (SB W.heap.size rb D wr) ∧ Hid (RS cb rb b lv2 s2 wr) ∧ Hid (K2 cb rb W wr) ∧ Hid (partC b (d + 1) s lv = (.mk 5 [] [] (loopC (partC b d) (n - i) acc s2 lv2).1, (loopC (partC b d) (n - i) acc s2 lv2).2))) (fun iv _ => n - (intOf iv).toNat)
    case atStart => exact ⟨0, [], s1, lv, none, 0, Nat.zero_le _, rfl, rfl, PRow.nil _ _ _ _, HG2.out, HB2.out, HS2.out, HK2.out, HE3.out⟩
    case round =>
      obtain ⟨i, acc, s2, lv2, q, cc, hi, rfl, HLEN, HRW6, HG6, HB6, HS6, HK6, HE6⟩ := hrel
      by_cases hlt : i < n
      · have hlt' : (i : Int) < n := by omega
        have hw : wrap64 ((i : Int) + 1) = (i : Int) + 1 := by unfold wrap64; have := HNN.out; omega
        have HLT : Hid (i < n) := hlt
        obtain ⟨x, hx⟩ : ∃ x, x = (partC b d s2 lv2).1 := ⟨_, rfl⟩
        obtain ⟨s4, hs4⟩ : ∃ x, x = (partC b d s2 lv2).2.1 := ⟨_, rfl⟩
        obtain ⟨lv4, hl4⟩ : ∃ x, x = (partC b d s2 lv2).2.2 := ⟨_, rfl⟩
        obtain ⟨mk, mv, mn, ms⟩ := x
        have HE7 : Hid (partC b (d + 1) s lv = (.mk 5 [] [] (loopC (partC b d) (n - (i + 1)) (acc ++ [.mk mk mv mn ms]) s4 lv4).1, (loopC (partC b d) (n - (i + 1)) (acc ++ [.mk mk mv mn ms]) s4 lv4).2)) := by
          show _ = _
          rw [HE6.out, show n - i = (n - (i + 1)) + 1 by omega, loopC, ← hx, ← hs4, ← hl4]
        have HCT : Hid (∀ w7, RS cb rb b lv2 s2 w7 → Calls Tryz.prog 67 #[.pointer (some ⟨rb, 0, none⟩), .int .i64 ((D : Int) + 1)] w7 fun e w' => ∃ v, e = .returned v ∧ (VE w7.heap.size (.mk mk mv mn ms) w' v ∧ RS cb rb b lv4 s4 w' ∧ K2 cb rb w7 w')) := fun w7 hw7 => by
          have h := IH.out w7 s2 lv2 hw7
          unfold PPost at h
          rw [← hx, ← hs4, ← hl4] at h
          exact h
        have HAC : Hid (acc.length + 1 ≤ 200000) := by show _ ≤ _; have := HNN.out; have := HLEN.out; omega
        have HGW : Hid (W.heap.size + 2 < W.heap.size + 3) := Nat.lt_succ_self _
        clear HE6 hx hs4 hl4 hlt IH
        go_upto_region 16 with (fail)
        generalize hwr : wr = w6 at HRW6 HG6 HB6 HS6 HK6 ⊢
        clear hwr
        refine wp_region_noPanic ?_
        refine wp_region_held_drew (S := fun W' => SB W.heap.size rb D W') (by kernel_rfl) (sDrew HB6.out) (fun hHeld => ?_)
        try simp only [Act.put]
        have hb7 : Below w6.heap.size w6 w6.drew := (Below.refl _ _).drew
        have HRW7 := Lib.hid (HRW6.out.later hb7)
        have HG7 := Lib.hid (HG6.out.later hb7)
        have HS7 := Lib.hid (HS6.out.later hb7)
        have HK7 := Lib.hid (HK6.out.trans (K2.of hb7))
        have HB7 := Lib.hid (sLater HB6.out hb7)
        clear hb7
        generalize w6.drew = w7 at HRW7 HG7 HS7 HK7 HB7 hHeld ⊢
        have HN7 := Lib.hid (HCT.out w7 HS7.out)
        have HGL : Hid (W.heap.size + 3 ≤ w7.heap.size) := by show _ ≤ _; have := HG7.out.lt; omega
        have HBL : Hid (∀ b, (Value.slice q acc.length cc).ownBlock = some b → b < w7.heap.size) := fun b hb => by obtain ⟨_, h, _⟩ := HRW7.out; exact (h.lt b hb).2
        refine wpAnyH_take (i := 0) (oi := ⟨some 39, _, _, _, _, _⟩) (v := .pointer (some ⟨W.heap.size + 2, 3, none⟩)) rfl (by kernel_rfl) (by kernel_rfl) (by kernel_rfl) (fun _ _ _ h => h) (.inl ⟨by rfl, fun w' hSw => ?_⟩) hHeld ?_
        focus (skip; clear hHeld; go_simp)
        try simp only [Act.put, List.setIfInBounds_toArray, List.set_cons_zero, List.set_cons_succ]
        refine wpAnyH_take (i := 2) (oi := ⟨some 41, _, _, _, _, _⟩) (v := .pointer (some ⟨rb, 0, none⟩)) rfl (by kernel_rfl) (by kernel_rfl) (by kernel_rfl) (fun _ _ _ h => h) (.inl ⟨by rfl, fun w' hSw => ?_⟩) hHeld ?_
        focus (have a1 := hSw.1.cell 0; have a2 := hSw.2.cell 0; simp only [List.getElem?_cons_zero] at a1 a2; clear hHeld; go_simp)
        try simp only [Act.put, List.setIfInBounds_toArray, List.set_cons_zero, List.set_cons_succ]
        refine wpAnyH_take (i := 3) (oi := ⟨some 42, _, _, _, _, _⟩) (v := .int .i64 (D : Nat)) rfl (by kernel_rfl) (by kernel_rfl) (by kernel_rfl) (fun _ _ _ h => h) (.inl ⟨by rfl, fun w' hSw => ?_⟩) hHeld ?_
        focus (have a1 := hSw.1.cell 0; have a2 := hSw.2.cell 0; simp only [List.getElem?_cons_zero] at a1 a2; clear hHeld; go_simp)
        try simp only [Act.put, List.setIfInBounds_toArray, List.set_cons_zero, List.set_cons_succ]
        refine wpAnyH_take (i := 4) (oi := ⟨some 43, _, _, _, _, _⟩) (v := .int .i64 ((D : Int) + 1)) rfl (by kernel_rfl) (by kernel_rfl) (by kernel_rfl) (fun _ _ _ h => h) (.inl ⟨by rfl, fun w' hSw => ?_⟩) hHeld ?_
        focus (skip; clear hHeld; go_simp; exact HDW.out)
        try simp only [Act.put, List.setIfInBounds_toArray, List.set_cons_zero, List.set_cons_succ]
        refine wpAnyH_ready (rs := [1, 5]) (by kernel_rfl) (by simp) ?_
        refine AllReadyH.cons (o := ⟨some 40, _, _, _, _, _⟩) rfl (fun K' hK' => ?_) (AllReadyH.cons (o := ⟨some 44, _, _, _, _, _⟩) rfl (fun K' hK' => ?_) AllReadyH.nil)
        · have x0 := HG7.out.cell 0
          have y0 := HG7.out.free 0
          have x1 := HG7.out.cell 1
          have y1 := HG7.out.free 1
          have x2 := HG7.out.cell 2
          have y2 := HG7.out.free 2
          have x3 := HG7.out.cell 3
          have y3 := HG7.out.free 3
          simp only [List.getElem?_cons_zero, List.getElem?_cons_succ] at x0 x1 x2 x3
          go_simp
          clear x0 y0 x1 y1 x2 y2 x3 y3
          refine hK'.out _ _ HB7.out (fun _ => ?_)
          clear hK' K' hHeld
          have hHeld := HB7.out
          try simp only [Act.put, List.setIfInBounds_toArray, List.set_cons_zero, List.set_cons_succ]
          refine wpAnyH_ready (rs := [5]) (by kernel_rfl) (by simp) ?_
          refine AllReadyH.cons (o := ⟨some 44, _, _, _, _, _⟩) rfl (fun K' hK' => ?_) AllReadyH.nil
          refine stepw_call (by rfl) ?_ HN7.out ?_
          focus go_simp
          rintro v w8 ⟨r8, s8, k8⟩
          have r8' : VE w7.heap.size (.mk mk mv mn ms) w8 v := r8
          obtain ⟨q4, c4, rfl, _, _⟩ := RdE.form r8
          unfold exv at r8' ⊢
          dsimp only [Ex.kind, Ex.via, Ex.nm, Ex.kids] at r8' ⊢
          have HR8 : Hid (rdEx (Bt w7.heap.size w8.heap.size) w8 (.mk mk mv mn ms) [.int .i64 mk, .string (bstr mv), .string (bstr mn), .slice q4 ms.length c4]) := ⟨_, _, _, _, rfl, r8'⟩
          clear r8'
          have HRW8 := Lib.hid (HRW7.out.turn (w' := w8) k8.2.2.2.1 (fun b hb hl _ => k8.2.2.2.2 b hl (by have := HL.out; omega) (by have := HL.out; omega)))
          have HG8 := Lib.hid (k8.arr HG7.out (by have := HL.out; omega) (by have := HL.out; omega))
          have HS8 := Lib.hid s8
          have HK8 := Lib.hid (HK7.out.trans k8)
          have HB8 := Lib.hid (sK2 HB7.out k8 HL.out)
          clear s8 k8 r8
          refine hK'.out _ _ HB8.out (fun _ => ?_)
          clear hK' K' hHeld
          have hHeld := HB8.out
          try simp only [Act.put, List.setIfInBounds_toArray, List.set_cons_zero, List.set_cons_succ]
          refine wpAnyH_ready (rs := [6]) (by kernel_rfl) (by simp) ?_
          refine AllReadyH.cons (o := ⟨some 45, _, _, _, _, _⟩) rfl (fun K' hK' => ?_) AllReadyH.nil
          go_simp
          have hb9 : Below w8.heap.size w8 (w8.alloc (.cells #[.int .i64 mk, .string (bstr mv), .string (bstr mn), .slice q4 ms.length c4] 42)) := (Below.refl _ _).alloc (Nat.le_refl _) _
          have HRW9 := Lib.hid (HRW8.out.later hb9)
          have HG9 := Lib.hid (HG8.out.later hb9)
          have HS9 := Lib.hid (HS8.out.later hb9)
          have HK9 := Lib.hid (HK8.out.trans (K2.of hb9))
          have HB9 := Lib.hid (sLater HB8.out hb9)
          have HE9 : Hid (Arr (w8.alloc (.cells #[.int .i64 mk, .string (bstr mv), .string (bstr mn), .slice q4 ms.length c4] 42)) 42 w8.heap.size [.int .i64 mk, .string (bstr mv), .string (bstr mn), .slice q4 ms.length c4]) := Arr.new' _ _ _ _ rfl
          have HR9 : Hid (kdEx.rd (SubX (W.heap.size + 3) (fun _ => False) (w8.alloc (.cells #[.int .i64 mk, .string (bstr mv), .string (bstr mn), .slice q4 ms.length c4] 42)) (.slice q acc.length cc)) (w8.alloc (.cells #[.int .i64 mk, .string (bstr mv), .string (bstr mn), .slice q4 ms.length c4] 42)) (.mk mk mv mn ms) [.int .i64 mk, .string (bstr mv), .string (bstr mn), .slice q4 ms.length c4]) := kdEx.imp (fun b hb => ⟨by have := HGL.out; have := hb.1; omega, Nat.lt_of_lt_of_le hb.2 hb9.size, fun e => by have h1 := (HBL.out b e.symm); have := hb.1; omega, fun h => h⟩) (kdEx.keep (fun b hb n => hb9.cell (p := ⟨b, n, none⟩) hb.2) HR8.out)
          clear hb9
          generalize w8.alloc (.cells #[.int .i64 mk, .string (bstr mv), .string (bstr mn), .slice q4 ms.length c4] 42) = w9 at HRW9 HG9 HS9 HK9 HE9 HR9 HB9 hK' ⊢
          refine hK'.out _ _ HB9.out (fun _ => ?_)
          clear hK' K' hHeld
          have hHeld := HB9.out
          try simp only [Act.put, List.setIfInBounds_toArray, List.set_cons_zero, List.set_cons_succ]
          refine wpAnyH_ready (rs := [7]) (by kernel_rfl) (by simp) ?_
          refine AllReadyH.cons (o := ⟨some 46, _, _, _, _, _⟩) rfl (fun K' hK' => ?_) AllReadyH.nil
          refine step_row (K := kdEx) rfl (.tmp 40) (.tmp 45) rfl rfl HRW9.out rfl HE9.out HR9.out HAC.out (by have := HGW.out; have := HG9.out.lt; omega) (fun b h => h.elim) ?_
          intro v10 w10 r10 g10 o10
          have HS10 := Lib.hid (HS9.out.grown g10 (B := W.heap.size + 3) (by have := HL.out; omega) (by have := HGW.out; have := HG9.out.lt; omega) (fun k hk => (o10 k hk).1))
          have HK10 := Lib.hid (HK9.out.grownR g10 (fun k hk => Nat.le_trans (by omega) (o10 k hk).1))
          have HG10 : Hid (Arr w10 42 (W.heap.size + 2) [.int .i64 5, .string ⟨#[]⟩, .string ⟨#[]⟩, .slice q acc.length cc]) := (g10.block _ HG9.out.lt (fun e => absurd (o10 _ e.symm).1 (by omega))).trans HG9.out
          have HB10 := Lib.hid (sGrown HB9.out g10 (fun k hk => (o10 k hk).1) (by omega))
          have HRW10 := Lib.hid r10
          obtain ⟨q10, c10, hv10⟩ := r10.form
          rw [List.length_append, List.length_singleton] at hv10
          subst hv10
          clear r10 g10 o10
          refine hK'.out _ _ HB10.out (fun _ => ?_)
          clear hK' K' hHeld
          have hHeld := HB10.out
          try simp only [Act.put, List.setIfInBounds_toArray, List.set_cons_zero, List.set_cons_succ]
          refine wpAnyH_take (i := 8) (oi := ⟨some 47, _, _, _, _, _⟩) (v := .pointer (some ⟨W.heap.size + 2, 3, none⟩)) rfl (by kernel_rfl) (by kernel_rfl) (by kernel_rfl) (fun _ _ _ h => h) (.inl ⟨by rfl, fun w' hSw => ?_⟩) hHeld ?_
          focus (skip; clear hHeld; go_simp)
          try simp only [Act.put, List.setIfInBounds_toArray, List.set_cons_zero, List.set_cons_succ]
          refine wpAnyH_ready (rs := [9]) (by kernel_rfl) (by simp) ?_
          refine AllReadyH.cons (o := ⟨none, _, _, _, _, _⟩) rfl (fun K' hK' => ?_) AllReadyH.nil
          have x0 := HG10.out.cell 0
          have y0 := HG10.out.free 0
          have x1 := HG10.out.cell 1
          have y1 := HG10.out.free 1
          have x2 := HG10.out.cell 2
          have y2 := HG10.out.free 2
          have x3 := HG10.out.cell 3
          have y3 := HG10.out.free 3
          simp only [List.getElem?_cons_zero, List.getElem?_cons_succ] at x0 x1 x2 x3
          go_simp
          clear x0 y0 x1 y1 x2 y2 x3 y3
          have HB11 := Lib.hid (sBox HB10.out (g := W.heap.size + 2) 3 (.slice q10 (acc.length + 1) c10) (by omega))
          refine hK'.out _ _ HB11.out (fun _ => ?_)
          clear hK' K' hHeld
          have hHeld := HB11.out
          try simp only [Act.put, List.setIfInBounds_toArray, List.set_cons_zero, List.set_cons_succ]
          have HG11 : Hid (Arr (w10.setCell ⟨W.heap.size + 2, 3, none⟩ (.slice q10 (acc.length + 1) c10)) 42 (W.heap.size + 2) [.int .i64 5, .string ⟨#[]⟩, .string ⟨#[]⟩, .slice q10 (acc.length + 1) c10]) := HG10.out.set 3 _
          have HRW11 := Lib.hid (HRW10.out.box (g := W.heap.size + 2) (.inl (by omega)) 3 (.slice q10 (acc.length + 1) c10))
          have HS11 := Lib.hid (HS10.out.box (g := W.heap.size + 2) (by have := HL.out; omega) 3 (.slice q10 (acc.length + 1) c10))
          have HK11 := Lib.hid (HK10.out.box (g := W.heap.size + 2) (by omega) 3 (.slice q10 (acc.length + 1) c10))
          refine wpAnyH_done (by kernel_rfl) ?_ _
          refine NoPanic.normal ?_
          clear HRW10 HG10 HS10 HK10 HRW9 HG9 HS9 HK9 HE9 HR9 HRW8 HG8 HS8 HK8 HR8 HB10 HB9 HB8
          generalize (w10.setCell ⟨W.heap.size + 2, 3, none⟩ (.slice q10 (acc.length + 1) c10)) = w11 at HG11 HRW11 HS11 HK11 HB11 ⊢
          go_wp2_with fail
          go_roundw
          case rel => exact ⟨i + 1, acc ++ [Ex.mk mk mv mn ms], s4, lv4, q10, c10, HLT.out, by go_num, by rw [List.length_append, HLEN.out]; rfl, by rw [List.length_append]; exact HRW11.out, by rw [List.length_append]; exact HG11.out, HB11.out, HS11.out, HK11.out, HE7.out⟩
          case measure => first | exact meas HLT.out (Nat.le_trans HNN.out (by decide)) | exact meas' HLT.out
        · refine stepw_call (by rfl) ?_ HN7.out ?_
          focus go_simp
          rintro v w8 ⟨r8, s8, k8⟩
          have r8' : VE w7.heap.size (.mk mk mv mn ms) w8 v := r8
          obtain ⟨q4, c4, rfl, _, _⟩ := RdE.form r8
          unfold exv at r8' ⊢
          dsimp only [Ex.kind, Ex.via, Ex.nm, Ex.kids] at r8' ⊢
          have HR8 : Hid (rdEx (Bt w7.heap.size w8.heap.size) w8 (.mk mk mv mn ms) [.int .i64 mk, .string (bstr mv), .string (bstr mn), .slice q4 ms.length c4]) := ⟨_, _, _, _, rfl, r8'⟩
          clear r8'
          have HRW8 := Lib.hid (HRW7.out.turn (w' := w8) k8.2.2.2.1 (fun b hb hl _ => k8.2.2.2.2 b hl (by have := HL.out; omega) (by have := HL.out; omega)))
          have HG8 := Lib.hid (k8.arr HG7.out (by have := HL.out; omega) (by have := HL.out; omega))
          have HS8 := Lib.hid s8
          have HK8 := Lib.hid (HK7.out.trans k8)
          have HB8 := Lib.hid (sK2 HB7.out k8 HL.out)
          clear s8 k8 r8
          refine hK'.out _ _ HB8.out (fun _ => ?_)
          clear hK' K' hHeld
          have hHeld := HB8.out
          try simp only [Act.put, List.setIfInBounds_toArray, List.set_cons_zero, List.set_cons_succ]
          refine wpAnyH_ready (rs := [1, 6]) (by kernel_rfl) (by simp) ?_
          refine AllReadyH.cons (o := ⟨some 40, _, _, _, _, _⟩) rfl (fun K' hK' => ?_) (AllReadyH.cons (o := ⟨some 45, _, _, _, _, _⟩) rfl (fun K' hK' => ?_) AllReadyH.nil)
          · have x0 := HG8.out.cell 0
            have y0 := HG8.out.free 0
            have x1 := HG8.out.cell 1
            have y1 := HG8.out.free 1
            have x2 := HG8.out.cell 2
            have y2 := HG8.out.free 2
            have x3 := HG8.out.cell 3
            have y3 := HG8.out.free 3
            simp only [List.getElem?_cons_zero, List.getElem?_cons_succ] at x0 x1 x2 x3
            go_simp
            clear x0 y0 x1 y1 x2 y2 x3 y3
            refine hK'.out _ _ HB8.out (fun _ => ?_)
            clear hK' K' hHeld
            have hHeld := HB8.out
            try simp only [Act.put, List.setIfInBounds_toArray, List.set_cons_zero, List.set_cons_succ]
            refine wpAnyH_ready (rs := [6]) (by kernel_rfl) (by simp) ?_
            refine AllReadyH.cons (o := ⟨some 45, _, _, _, _, _⟩) rfl (fun K' hK' => ?_) AllReadyH.nil
            go_simp
            have hb9 : Below w8.heap.size w8 (w8.alloc (.cells #[.int .i64 mk, .string (bstr mv), .string (bstr mn), .slice q4 ms.length c4] 42)) := (Below.refl _ _).alloc (Nat.le_refl _) _
            have HRW9 := Lib.hid (HRW8.out.later hb9)
            have HG9 := Lib.hid (HG8.out.later hb9)
            have HS9 := Lib.hid (HS8.out.later hb9)
            have HK9 := Lib.hid (HK8.out.trans (K2.of hb9))
            have HB9 := Lib.hid (sLater HB8.out hb9)
            have HE9 : Hid (Arr (w8.alloc (.cells #[.int .i64 mk, .string (bstr mv), .string (bstr mn), .slice q4 ms.length c4] 42)) 42 w8.heap.size [.int .i64 mk, .string (bstr mv), .string (bstr mn), .slice q4 ms.length c4]) := Arr.new' _ _ _ _ rfl
            have HR9 : Hid (kdEx.rd (SubX (W.heap.size + 3) (fun _ => False) (w8.alloc (.cells #[.int .i64 mk, .string (bstr mv), .string (bstr mn), .slice q4 ms.length c4] 42)) (.slice q acc.length cc)) (w8.alloc (.cells #[.int .i64 mk, .string (bstr mv), .string (bstr mn), .slice q4 ms.length c4] 42)) (.mk mk mv mn ms) [.int .i64 mk, .string (bstr mv), .string (bstr mn), .slice q4 ms.length c4]) := kdEx.imp (fun b hb => ⟨by have := HGL.out; have := hb.1; omega, Nat.lt_of_lt_of_le hb.2 hb9.size, fun e => by have h1 := (HBL.out b e.symm); have := hb.1; omega, fun h => h⟩) (kdEx.keep (fun b hb n => hb9.cell (p := ⟨b, n, none⟩) hb.2) HR8.out)
            clear hb9
            generalize w8.alloc (.cells #[.int .i64 mk, .string (bstr mv), .string (bstr mn), .slice q4 ms.length c4] 42) = w9 at HRW9 HG9 HS9 HK9 HE9 HR9 HB9 hK' ⊢
            refine hK'.out _ _ HB9.out (fun _ => ?_)
            clear hK' K' hHeld
            have hHeld := HB9.out
            try simp only [Act.put, List.setIfInBounds_toArray, List.set_cons_zero, List.set_cons_succ]
            refine wpAnyH_ready (rs := [7]) (by kernel_rfl) (by simp) ?_
            refine AllReadyH.cons (o := ⟨some 46, _, _, _, _, _⟩) rfl (fun K' hK' => ?_) AllReadyH.nil
            refine step_row (K := kdEx) rfl (.tmp 40) (.tmp 45) rfl rfl HRW9.out rfl HE9.out HR9.out HAC.out (by have := HGW.out; have := HG9.out.lt; omega) (fun b h => h.elim) ?_
            intro v10 w10 r10 g10 o10
            have HS10 := Lib.hid (HS9.out.grown g10 (B := W.heap.size + 3) (by have := HL.out; omega) (by have := HGW.out; have := HG9.out.lt; omega) (fun k hk => (o10 k hk).1))
            have HK10 := Lib.hid (HK9.out.grownR g10 (fun k hk => Nat.le_trans (by omega) (o10 k hk).1))
            have HG10 : Hid (Arr w10 42 (W.heap.size + 2) [.int .i64 5, .string ⟨#[]⟩, .string ⟨#[]⟩, .slice q acc.length cc]) := (g10.block _ HG9.out.lt (fun e => absurd (o10 _ e.symm).1 (by omega))).trans HG9.out
            have HB10 := Lib.hid (sGrown HB9.out g10 (fun k hk => (o10 k hk).1) (by omega))
            have HRW10 := Lib.hid r10
            obtain ⟨q10, c10, hv10⟩ := r10.form
            rw [List.length_append, List.length_singleton] at hv10
            subst hv10
            clear r10 g10 o10
            refine hK'.out _ _ HB10.out (fun _ => ?_)
            clear hK' K' hHeld
            have hHeld := HB10.out
            try simp only [Act.put, List.setIfInBounds_toArray, List.set_cons_zero, List.set_cons_succ]
            refine wpAnyH_take (i := 8) (oi := ⟨some 47, _, _, _, _, _⟩) (v := .pointer (some ⟨W.heap.size + 2, 3, none⟩)) rfl (by kernel_rfl) (by kernel_rfl) (by kernel_rfl) (fun _ _ _ h => h) (.inl ⟨by rfl, fun w' hSw => ?_⟩) hHeld ?_
            focus (skip; clear hHeld; go_simp)
            try simp only [Act.put, List.setIfInBounds_toArray, List.set_cons_zero, List.set_cons_succ]
            refine wpAnyH_ready (rs := [9]) (by kernel_rfl) (by simp) ?_
            refine AllReadyH.cons (o := ⟨none, _, _, _, _, _⟩) rfl (fun K' hK' => ?_) AllReadyH.nil
            have x0 := HG10.out.cell 0
            have y0 := HG10.out.free 0
            have x1 := HG10.out.cell 1
            have y1 := HG10.out.free 1
            have x2 := HG10.out.cell 2
            have y2 := HG10.out.free 2
            have x3 := HG10.out.cell 3
            have y3 := HG10.out.free 3
            simp only [List.getElem?_cons_zero, List.getElem?_cons_succ] at x0 x1 x2 x3
            go_simp
            clear x0 y0 x1 y1 x2 y2 x3 y3
            have HB11 := Lib.hid (sBox HB10.out (g := W.heap.size + 2) 3 (.slice q10 (acc.length + 1) c10) (by omega))
            refine hK'.out _ _ HB11.out (fun _ => ?_)
            clear hK' K' hHeld
            have hHeld := HB11.out
            try simp only [Act.put, List.setIfInBounds_toArray, List.set_cons_zero, List.set_cons_succ]
            have HG11 : Hid (Arr (w10.setCell ⟨W.heap.size + 2, 3, none⟩ (.slice q10 (acc.length + 1) c10)) 42 (W.heap.size + 2) [.int .i64 5, .string ⟨#[]⟩, .string ⟨#[]⟩, .slice q10 (acc.length + 1) c10]) := HG10.out.set 3 _
            have HRW11 := Lib.hid (HRW10.out.box (g := W.heap.size + 2) (.inl (by omega)) 3 (.slice q10 (acc.length + 1) c10))
            have HS11 := Lib.hid (HS10.out.box (g := W.heap.size + 2) (by have := HL.out; omega) 3 (.slice q10 (acc.length + 1) c10))
            have HK11 := Lib.hid (HK10.out.box (g := W.heap.size + 2) (by omega) 3 (.slice q10 (acc.length + 1) c10))
            refine wpAnyH_done (by kernel_rfl) ?_ _
            refine NoPanic.normal ?_
            clear HRW10 HG10 HS10 HK10 HRW9 HG9 HS9 HK9 HE9 HR9 HRW8 HG8 HS8 HK8 HR8 HB10 HB9 HB8
            generalize (w10.setCell ⟨W.heap.size + 2, 3, none⟩ (.slice q10 (acc.length + 1) c10)) = w11 at HG11 HRW11 HS11 HK11 HB11 ⊢
            go_wp2_with fail
            go_roundw
            case rel => exact ⟨i + 1, acc ++ [Ex.mk mk mv mn ms], s4, lv4, q10, c10, HLT.out, by go_num, by rw [List.length_append, HLEN.out]; rfl, by rw [List.length_append]; exact HRW11.out, by rw [List.length_append]; exact HG11.out, HB11.out, HS11.out, HK11.out, HE7.out⟩
            case measure => first | exact meas HLT.out (Nat.le_trans HNN.out (by decide)) | exact meas' HLT.out
          · go_simp
            have hb9 : Below w8.heap.size w8 (w8.alloc (.cells #[.int .i64 mk, .string (bstr mv), .string (bstr mn), .slice q4 ms.length c4] 42)) := (Below.refl _ _).alloc (Nat.le_refl _) _
            have HRW9 := Lib.hid (HRW8.out.later hb9)
            have HG9 := Lib.hid (HG8.out.later hb9)
            have HS9 := Lib.hid (HS8.out.later hb9)
            have HK9 := Lib.hid (HK8.out.trans (K2.of hb9))
            have HB9 := Lib.hid (sLater HB8.out hb9)
            have HE9 : Hid (Arr (w8.alloc (.cells #[.int .i64 mk, .string (bstr mv), .string (bstr mn), .slice q4 ms.length c4] 42)) 42 w8.heap.size [.int .i64 mk, .string (bstr mv), .string (bstr mn), .slice q4 ms.length c4]) := Arr.new' _ _ _ _ rfl
            have HR9 : Hid (kdEx.rd (SubX (W.heap.size + 3) (fun _ => False) (w8.alloc (.cells #[.int .i64 mk, .string (bstr mv), .string (bstr mn), .slice q4 ms.length c4] 42)) (.slice q acc.length cc)) (w8.alloc (.cells #[.int .i64 mk, .string (bstr mv), .string (bstr mn), .slice q4 ms.length c4] 42)) (.mk mk mv mn ms) [.int .i64 mk, .string (bstr mv), .string (bstr mn), .slice q4 ms.length c4]) := kdEx.imp (fun b hb => ⟨by have := HGL.out; have := hb.1; omega, Nat.lt_of_lt_of_le hb.2 hb9.size, fun e => by have h1 := (HBL.out b e.symm); have := hb.1; omega, fun h => h⟩) (kdEx.keep (fun b hb n => hb9.cell (p := ⟨b, n, none⟩) hb.2) HR8.out)
            clear hb9
            generalize w8.alloc (.cells #[.int .i64 mk, .string (bstr mv), .string (bstr mn), .slice q4 ms.length c4] 42) = w9 at HRW9 HG9 HS9 HK9 HE9 HR9 HB9 hK' ⊢
            refine hK'.out _ _ HB9.out (fun _ => ?_)
            clear hK' K' hHeld
            have hHeld := HB9.out
            try simp only [Act.put, List.setIfInBounds_toArray, List.set_cons_zero, List.set_cons_succ]
            refine wpAnyH_ready (rs := [1]) (by kernel_rfl) (by simp) ?_
            refine AllReadyH.cons (o := ⟨some 40, _, _, _, _, _⟩) rfl (fun K' hK' => ?_) AllReadyH.nil
            have x0 := HG9.out.cell 0
            have y0 := HG9.out.free 0
            have x1 := HG9.out.cell 1
            have y1 := HG9.out.free 1
            have x2 := HG9.out.cell 2
            have y2 := HG9.out.free 2
            have x3 := HG9.out.cell 3
            have y3 := HG9.out.free 3
            simp only [List.getElem?_cons_zero, List.getElem?_cons_succ] at x0 x1 x2 x3
            go_simp
            clear x0 y0 x1 y1 x2 y2 x3 y3
            refine hK'.out _ _ HB9.out (fun _ => ?_)
            clear hK' K' hHeld
            have hHeld := HB9.out
            try simp only [Act.put, List.setIfInBounds_toArray, List.set_cons_zero, List.set_cons_succ]
            refine wpAnyH_ready (rs := [7]) (by kernel_rfl) (by simp) ?_
            refine AllReadyH.cons (o := ⟨some 46, _, _, _, _, _⟩) rfl (fun K' hK' => ?_) AllReadyH.nil
            refine step_row (K := kdEx) rfl (.tmp 40) (.tmp 45) rfl rfl HRW9.out rfl HE9.out HR9.out HAC.out (by have := HGW.out; have := HG9.out.lt; omega) (fun b h => h.elim) ?_
            intro v10 w10 r10 g10 o10
            have HS10 := Lib.hid (HS9.out.grown g10 (B := W.heap.size + 3) (by have := HL.out; omega) (by have := HGW.out; have := HG9.out.lt; omega) (fun k hk => (o10 k hk).1))
            have HK10 := Lib.hid (HK9.out.grownR g10 (fun k hk => Nat.le_trans (by omega) (o10 k hk).1))
            have HG10 : Hid (Arr w10 42 (W.heap.size + 2) [.int .i64 5, .string ⟨#[]⟩, .string ⟨#[]⟩, .slice q acc.length cc]) := (g10.block _ HG9.out.lt (fun e => absurd (o10 _ e.symm).1 (by omega))).trans HG9.out
            have HB10 := Lib.hid (sGrown HB9.out g10 (fun k hk => (o10 k hk).1) (by omega))
            have HRW10 := Lib.hid r10
            obtain ⟨q10, c10, hv10⟩ := r10.form
            rw [List.length_append, List.length_singleton] at hv10
            subst hv10
            clear r10 g10 o10
            refine hK'.out _ _ HB10.out (fun _ => ?_)
            clear hK' K' hHeld
            have hHeld := HB10.out
            try simp only [Act.put, List.setIfInBounds_toArray, List.set_cons_zero, List.set_cons_succ]
            refine wpAnyH_take (i := 8) (oi := ⟨some 47, _, _, _, _, _⟩) (v := .pointer (some ⟨W.heap.size + 2, 3, none⟩)) rfl (by kernel_rfl) (by kernel_rfl) (by kernel_rfl) (fun _ _ _ h => h) (.inl ⟨by rfl, fun w' hSw => ?_⟩) hHeld ?_
            focus (skip; clear hHeld; go_simp)
            try simp only [Act.put, List.setIfInBounds_toArray, List.set_cons_zero, List.set_cons_succ]
            refine wpAnyH_ready (rs := [9]) (by kernel_rfl) (by simp) ?_
            refine AllReadyH.cons (o := ⟨none, _, _, _, _, _⟩) rfl (fun K' hK' => ?_) AllReadyH.nil
            have x0 := HG10.out.cell 0
            have y0 := HG10.out.free 0
            have x1 := HG10.out.cell 1
            have y1 := HG10.out.free 1
            have x2 := HG10.out.cell 2
            have y2 := HG10.out.free 2
            have x3 := HG10.out.cell 3
            have y3 := HG10.out.free 3
            simp only [List.getElem?_cons_zero, List.getElem?_cons_succ] at x0 x1 x2 x3
            go_simp
            clear x0 y0 x1 y1 x2 y2 x3 y3
            have HB11 := Lib.hid (sBox HB10.out (g := W.heap.size + 2) 3 (.slice q10 (acc.length + 1) c10) (by omega))
            refine hK'.out _ _ HB11.out (fun _ => ?_)
            clear hK' K' hHeld
            have hHeld := HB11.out
            try simp only [Act.put, List.setIfInBounds_toArray, List.set_cons_zero, List.set_cons_succ]
            have HG11 : Hid (Arr (w10.setCell ⟨W.heap.size + 2, 3, none⟩ (.slice q10 (acc.length + 1) c10)) 42 (W.heap.size + 2) [.int .i64 5, .string ⟨#[]⟩, .string ⟨#[]⟩, .slice q10 (acc.length + 1) c10]) := HG10.out.set 3 _
            have HRW11 := Lib.hid (HRW10.out.box (g := W.heap.size + 2) (.inl (by omega)) 3 (.slice q10 (acc.length + 1) c10))
            have HS11 := Lib.hid (HS10.out.box (g := W.heap.size + 2) (by have := HL.out; omega) 3 (.slice q10 (acc.length + 1) c10))
            have HK11 := Lib.hid (HK10.out.box (g := W.heap.size + 2) (by omega) 3 (.slice q10 (acc.length + 1) c10))
            refine wpAnyH_done (by kernel_rfl) ?_ _
            refine NoPanic.normal ?_
            clear HRW10 HG10 HS10 HK10 HRW9 HG9 HS9 HK9 HE9 HR9 HRW8 HG8 HS8 HK8 HR8 HB10 HB9 HB8
            generalize (w10.setCell ⟨W.heap.size + 2, 3, none⟩ (.slice q10 (acc.length + 1) c10)) = w11 at HG11 HRW11 HS11 HK11 HB11 ⊢
            go_wp2_with fail
            go_roundw
            case rel => exact ⟨i + 1, acc ++ [Ex.mk mk mv mn ms], s4, lv4, q10, c10, HLT.out, by go_num, by rw [List.length_append, HLEN.out]; rfl, by rw [List.length_append]; exact HRW11.out, by rw [List.length_append]; exact HG11.out, HB11.out, HS11.out, HK11.out, HE7.out⟩
            case measure => first | exact meas HLT.out (Nat.le_trans HNN.out (by decide)) | exact meas' HLT.out
      · have hlt' : ¬ (i : Int) < n := by omega
        have HE7 : Hid (partC b (d + 1) s lv = (.mk 5 [] [] acc, s2, lv2)) := by
          show _ = _
          rw [HE6.out, show n - i = 0 by omega]; rfl
        have HGZ := HG6
        have x0 := HGZ.out.cell 0
        have y0 := HGZ.out.free 0
        have x1 := HGZ.out.cell 1
        have y1 := HGZ.out.free 1
        have x2 := HGZ.out.cell 2
        have y2 := HGZ.out.free 2
        have x3 := HGZ.out.cell 3
        have y3 := HGZ.out.free 3
        simp only [List.getElem?_cons_zero, List.getElem?_cons_succ] at x0 x1 x2 x3
        go_wp2_with fail
        have hk := kp_set4 wr (W.heap.size + 2) (.int .i64 5) (.string ⟨#[]⟩) (.string ⟨#[]⟩) (.slice q acc.length cc)
        have hA := HGZ.out.set4x (.int .i64 5) (.string ⟨#[]⟩) (.string ⟨#[]⟩) (.slice q acc.length cc)
        refine bodyPost_ret (resX rfl hA rfl) rfl ?_
        rw [HE7.out]
        exact ⟨_, rfl, (VE.kp (HRW6.out.rdE 5 [] []) hk (Nat.lt_succ_self _)).low (by omega), RS.box (RS.box (RS.box (RS.box HS6.out (by have := HL.out; omega) _ _) (by have := HL.out; omega) _ _) (by have := HL.out; omega) _ _) (by have := HL.out; omega) _ _, K2.box (K2.box (K2.box (K2.box HK6.out (by omega) _ _) (by omega) _ _) (by omega) _ _) (by omega) _ _⟩
theorem part_all : ∀ (d : Nat), d ≤ 16 → ∀ (W : World) (s : St) (lv : Nat), RS cb rb b lv s W → Calls Tryz.prog 67 #[.pointer (some ⟨rb, 0, none⟩), .int .i64 ((17 - d : Nat) : Int)] W (PPost cb rb b W (partC b d s lv))
  | 0, _, W, s, lv, h => part_zero rfl h
  | d + 1, hd, W, s, lv, h => part_step rfl hd (fun W s lv h => by
    have := part_all d (by omega) W s lv h
    rw [show 17 - d = (17 - (d + 1)) + 1 by omega, Int.natCast_add] at this
    exact this) h
end
end Go.Proofs.YtdnmgemjhpkekaaGreatDoor
/-
  expression and member.
-/
namespace Go.Proofs.YtdnmgemjhpkekaaGreatDoor
open Go.ChangeShapes Go.WideShapes Go.ChangeAt Go.RowKit
set_option linter.unusedVariables false

section
variable {cb rb lv : Nat} {b : List UInt8} {s : St} {W : World}
set_option maxRecDepth 100000 in
set_option maxHeartbeats 2000000 in
theorem expr16_any (h : RS cb rb b lv s W) : Calls Tryz.prog 42 #[.pointer (some ⟨rb, 0, none⟩)] W (PPost cb rb b W (partC b 16 s 0)) := by
  have hb : Below W.heap.size W (W.alloc (.cells #[.int .i64 0, .string ⟨#[]⟩, .string ⟨#[]⟩, .slice none 0 0] 42)) := (Below.refl _ _).alloc (Nat.le_refl _) _
  have HL : Hid (cb < rb ∧ rb < W.heap.size) := h.lt
  have HS := Lib.hid (h.later hb)
  have HK : Hid (K2 cb rb W (W.alloc (.cells #[.int .i64 0, .string ⟨#[]⟩, .string ⟨#[]⟩, .slice none 0 0] 42))) := K2.of hb
  have HG : Hid (Arr (W.alloc (.cells #[.int .i64 0, .string ⟨#[]⟩, .string ⟨#[]⟩, .slice none 0 0] 42)) 42 W.heap.size [.int .i64 0, .string ⟨#[]⟩, .string ⟨#[]⟩, .slice none 0 0]) := Arr.new' _ _ _ _ rfl
  have HAR := Lib.hid HS.out.arr
  have HS1 : Hid (RS cb rb b 0 s ((W.alloc (.cells #[.int .i64 0, .string ⟨#[]⟩, .string ⟨#[]⟩, .slice none 0 0] 42)).setCell ⟨rb, 2, none⟩ (.int .i64 0))) := HS.out.leaves (n := 0) (by decide)
  have HK1 := Lib.hid (HK.out.set 2 (.int .i64 0))
  have HG1 : Hid (Arr ((W.alloc (.cells #[.int .i64 0, .string ⟨#[]⟩, .string ⟨#[]⟩, .slice none 0 0] 42)).setCell ⟨rb, 2, none⟩ (.int .i64 0)) 42 W.heap.size [.int .i64 0, .string ⟨#[]⟩, .string ⟨#[]⟩, .slice none 0 0]) := HG.out.setCell (by show _ ≠ rb; have := HL.out; omega) _
  clear h hb HS HK HG
  obtain ⟨x, hx⟩ : ∃ x, x = (partC b 16 s 0).1 := ⟨_, rfl⟩
  obtain ⟨s2, hs2⟩ : ∃ x, x = (partC b 16 s 0).2.1 := ⟨_, rfl⟩
  obtain ⟨lv2, hl2⟩ : ∃ x, x = (partC b 16 s 0).2.2 := ⟨_, rfl⟩
  obtain ⟨mk, mv, mn, ms⟩ := x
  have HPA : Hid (∀ w1, RS cb rb b 0 s w1 → Calls Tryz.prog 67 #[.pointer (some ⟨rb, 0, none⟩), .int .i64 1] w1 fun e w' => ∃ v, e = .returned v ∧ VE w1.heap.size (.mk mk mv mn ms) w' v ∧ RS cb rb b lv2 s2 w' ∧ K2 cb rb w1 w') := fun w1 hw => by
    have h := part_all 16 (by decide) w1 s 0 hw
    unfold PPost at h
    rw [← hx, ← hs2, ← hl2] at h
    exact h
  unfold PPost
  rw [← hx, ← hs2, ← hl2]
  clear hx hs2 hl2
  have x0 := HAR.out.cell 0
  have y0 := HAR.out.free 0
  have x1 := HAR.out.cell 1
  have y1 := HAR.out.free 1
  have x2 := HAR.out.cell 2
  have y2 := HAR.out.free 2
  simp only [List.getElem?_cons_zero, List.getElem?_cons_succ] at x0 x1 x2
  go_enter Tryz.func42, Tryz.ntmps42
  go_upto_region 2 with (fail)
  clear x0 x1 x2 y0 y1 y2 HAR
  have hsz : ((W.alloc (.cells #[.int .i64 0, .string ⟨#[]⟩, .string ⟨#[]⟩, .slice none 0 0] 42)).setCell ⟨rb, 2, none⟩ (.int .i64 0)).heap.size = W.heap.size + 1 := by simp [World.setCell]
  have HZ := Lib.hid hsz
  clear hsz
  generalize (W.alloc (.cells #[.int .i64 0, .string ⟨#[]⟩, .string ⟨#[]⟩, .slice none 0 0] 42)).setCell ⟨rb, 2, none⟩ (.int .i64 0) = w1 at HS1 HK1 HG1 HZ ⊢
  have HP := Lib.hid (HPA.out w1 HS1.out)
  go_wp2_with fail
  refine HP.out.mono ?_
  rintro e w2 ⟨v, rfl, r2, h2, k2⟩
  have HS2 := Lib.hid h2
  have HK2 := Lib.hid (HK1.out.trans k2)
  have HG2 := Lib.hid (k2.arr HG1.out (by have := HL.out; omega) (by have := HL.out; omega))
  obtain ⟨q4, c4, rfl, _, _⟩ := RdE.form r2
  unfold exv at r2 ⊢
  dsimp only [Ex.kind, Ex.via, Ex.nm, Ex.kids] at r2 ⊢
  have HR2 := Lib.hid r2
  clear r2 h2 k2 HP HS1 HK1 HG1
  have x0 := HG2.out.cell 0
  have y0 := HG2.out.free 0
  have x1 := HG2.out.cell 1
  have y1 := HG2.out.free 1
  have x2 := HG2.out.cell 2
  have y2 := HG2.out.free 2
  have x3 := HG2.out.cell 3
  have y3 := HG2.out.free 3
  simp only [List.getElem?_cons_zero, List.getElem?_cons_succ] at x0 x1 x2 x3
  go_wp2_with fail
  have hk := kp_set4 w2 W.heap.size (.int .i64 mk) (.string (bstr mv)) (.string (bstr mn)) (.slice q4 ms.length c4)
  have hA := HG2.out.set4x (.int .i64 mk) (.string (bstr mv)) (.string (bstr mn)) (.slice q4 ms.length c4)
  refine bodyPost_ret (resX rfl hA rfl) rfl ?_
  exact ⟨_, rfl, (VE.kp HR2.out hk (by have := HZ.out; omega)).low (by have := HZ.out; omega), RS.box (RS.box (RS.box (RS.box HS2.out (by have := HL.out; omega) _ _) (by have := HL.out; omega) _ _) (by have := HL.out; omega) _ _) (by have := HL.out; omega) _ _, K2.box (K2.box (K2.box (K2.box HK2.out (by omega) _ _) (by omega) _ _) (by omega) _ _) (by omega) _ _⟩
theorem chkM_0 {x : Nat} (h : chkM x = 0) : x = 1 ∨ x = 2 := by
  unfold chkM at h
  split at h
  · cases h
  omega
theorem chkM_val {b : List UInt8} (s : St) : (numC b chkM s).1 = 0 ∨ (numC b chkM s).1 = 1 ∨ (numC b chkM s).1 = 2 := by
  cases s with
  | er c a => exact .inl rfl
  | go o =>
    by_cases h1 : (num (b.drop o)).2.2 ≠ 0
    · rw [numC_1 h1]; exact .inl rfl
    · by_cases h2 : chkM (num (b.drop o)).1 ≠ 0
      · rw [numC_2 h1 h2]; exact .inl rfl
      · rw [numC_3 h1 h2]; exact .inr (chkM_0 (Classical.not_not.1 h2))
/-- What member hands back. -/
def MPost (cb rb : Nat) (b : List UInt8) (W : World) (r : MemB × St × Nat) (e : Ending) (w' : World) : Prop := ∃ v, e = .returned v ∧ VM W.heap.size r.1 w' v ∧ RS cb rb b r.2.2 r.2.1 w' ∧ K2 cb rb W w'
set_option maxRecDepth 100000 in
set_option maxHeartbeats 4000000 in
theorem cMember_any (h : RS cb rb b lv s W) : Calls Tryz.prog 48 #[.pointer (some ⟨rb, 0, none⟩)] W (MPost cb rb b W (memC b s lv)) := by
  have hb : Below W.heap.size W (W.alloc (.cells #[.string ⟨#[]⟩, .int .i64 0, .slice none 0 0, .int .i64 0, .string ⟨#[]⟩, .string ⟨#[]⟩, .slice none 0 0] 66)) := (Below.refl _ _).alloc (Nat.le_refl _) _
  have HL : Hid (cb < rb ∧ rb < W.heap.size) := h.lt
  have HS0 := Lib.hid (h.later hb)
  have HK0 : Hid (K2 cb rb W (W.alloc (.cells #[.string ⟨#[]⟩, .int .i64 0, .slice none 0 0, .int .i64 0, .string ⟨#[]⟩, .string ⟨#[]⟩, .slice none 0 0] 66))) := K2.of hb
  have HG0 : Hid (Arr (W.alloc (.cells #[.string ⟨#[]⟩, .int .i64 0, .slice none 0 0, .int .i64 0, .string ⟨#[]⟩, .string ⟨#[]⟩, .slice none 0 0] 66)) 66 W.heap.size [.string ⟨#[]⟩, .int .i64 0, .slice none 0 0, .int .i64 0, .string ⟨#[]⟩, .string ⟨#[]⟩, .slice none 0 0]) := Arr.new' _ _ _ _ rfl
  have HE : Hid (memC b s lv = memK b (nameC b false s).1 (numC b chkM (nameC b false s).2).1 (numC b chkM (nameC b false s).2).2 lv) := rfl
  obtain ⟨nn, hnn⟩ : ∃ x, x = (nameC b false s).1 := ⟨_, rfl⟩
  obtain ⟨s1, hs1⟩ : ∃ x, x = (nameC b false s).2 := ⟨_, rfl⟩
  have HN := Lib.hid (cName_any false HS0.out)
  rw [← hnn, ← hs1] at HN HE
  obtain ⟨k, hk⟩ : ∃ x, x = (numC b chkM s1).1 := ⟨_, rfl⟩
  obtain ⟨s2, hs2⟩ : ∃ x, x = (numC b chkM s1).2 := ⟨_, rfl⟩
  have hk3 : k = 0 ∨ k = 1 ∨ k = 2 := by rw [hk]; exact chkM_val s1
  have HKT := Lib.hid hk3
  rw [← hk, ← hs2] at HE
  have HNM : Hid (∀ w, RS cb rb b lv s1 w → Calls Tryz.prog 69 #[.pointer (some ⟨rb, 0, none⟩), .func (.func 74) #[] #[]] w fun e w' => e = .returned (.int .i64 (k : Nat)) ∧ RS cb rb b lv s2 w' ∧ K2 cb rb w w') := fun w hw => by
    have := numberM hw (fun x hx => by have := chkM_0 hx; omega) (fun x W' s' _ _ => memberC x)
    rw [← hk, ← hs2] at this
    exact this
  clear h hb hnn hs1 hk hs2 hk3
  go_enter Tryz.func48, Tryz.ntmps48
  go_wp2_with fail
  refine HN.out.mono ?_
  rintro e w1 ⟨rfl, h1, k1⟩
  have HS1 := Lib.hid h1
  have HK1 := Lib.hid (HK0.out.trans k1)
  have HG1 := Lib.hid (k1.arr HG0.out (by have := HL.out; omega) (by have := HL.out; omega))
  have HZ1 : Hid (W.heap.size < w1.heap.size) := HG1.out.lt
  clear h1 k1 HK0 HG0 HS0
  clear HN
  have x0 := HG1.out.cell 0
  have y0 := HG1.out.free 0
  have x1 := HG1.out.cell 1
  have y1 := HG1.out.free 1
  have x2 := HG1.out.cell 2
  have y2 := HG1.out.free 2
  have x3 := HG1.out.cell 3
  have y3 := HG1.out.free 3
  have x4 := HG1.out.cell 4
  have y4 := HG1.out.free 4
  have x5 := HG1.out.cell 5
  have y5 := HG1.out.free 5
  have x6 := HG1.out.cell 6
  have y6 := HG1.out.free 6
  simp only [List.getElem?_cons_zero, List.getElem?_cons_succ] at x0 x1 x2 x3 x4 x5 x6
  go_upto_region 2 with (fail)
  clear x0 y0 x1 y1 x2 y2 x3 y3 x4 y4 x5 y5 x6 y6
  have HG2 : Hid (Arr (w1.setCell ⟨W.heap.size, 0, none⟩ (.string (bstr nn))) 66 W.heap.size [.string (bstr nn), .int .i64 0, .slice none 0 0, .int .i64 0, .string ⟨#[]⟩, .string ⟨#[]⟩, .slice none 0 0]) := HG1.out.set 0 _
  have HS2 := Lib.hid (HS1.out.box (g := W.heap.size) HL.out.2 0 (.string (bstr nn)))
  have HK2 := Lib.hid (HK1.out.box (g := W.heap.size) (Nat.le_refl _) 0 (.string (bstr nn)))
  have HZ2 : Hid (W.heap.size < (w1.setCell ⟨W.heap.size, 0, none⟩ (.string (bstr nn))).heap.size) := by have := HG2.out.lt; exact this
  clear HG1 HS1 HK1 HZ1
  generalize w1.setCell ⟨W.heap.size, 0, none⟩ (.string (bstr nn)) = w2 at HG2 HS2 HK2 HZ2 ⊢
  have HNX := Lib.hid (HNM.out w2 HS2.out)
  go_wp2_with fail
  refine HNX.out.mono ?_
  rintro e w3 ⟨rfl, h3, k3⟩
  have HS3 := Lib.hid h3
  have HK3 := Lib.hid (HK2.out.trans k3)
  have HG3 := Lib.hid (k3.arr HG2.out (by have := HL.out; omega) (by have := HL.out; omega))
  have HZ3 : Hid (W.heap.size < w3.heap.size) := HG3.out.lt
  clear h3 k3 HK2 HG2 HS2
  clear HNX HNM
  have x0 := HG3.out.cell 0
  have y0 := HG3.out.free 0
  have x1 := HG3.out.cell 1
  have y1 := HG3.out.free 1
  have x2 := HG3.out.cell 2
  have y2 := HG3.out.free 2
  have x3 := HG3.out.cell 3
  have y3 := HG3.out.free 3
  have x4 := HG3.out.cell 4
  have y4 := HG3.out.free 4
  have x5 := HG3.out.cell 5
  have y5 := HG3.out.free 5
  have x6 := HG3.out.cell 6
  have y6 := HG3.out.free 6
  simp only [List.getElem?_cons_zero, List.getElem?_cons_succ] at x0 x1 x2 x3 x4 x5 x6
  rcases HKT.out with rfl | rfl | rfl
  · clear HKT
    clear x1
    have x1 := HG3.out.cell 1
    simp only [List.getElem?_cons_zero, List.getElem?_cons_succ] at x1
    go_upto_region 8 with (fail)
    clear x0 y0 x1 y1 x2 y2 x3 y3 x4 y4 x5 y5 x6 y6
    have HG4 : Hid (Arr (w3.setCell ⟨W.heap.size, 1, none⟩ (.int .i64 0)) 66 W.heap.size [.string (bstr nn), .int .i64 0, .slice none 0 0, .int .i64 0, .string ⟨#[]⟩, .string ⟨#[]⟩, .slice none 0 0]) := HG3.out.set 1 _
    have HS4 := Lib.hid (HS3.out.box (g := W.heap.size) HL.out.2 1 (.int .i64 0))
    have HK4 := Lib.hid (HK3.out.box (g := W.heap.size) (Nat.le_refl _) 1 (.int .i64 0))
    have HZ4 : Hid (W.heap.size < (w3.setCell ⟨W.heap.size, 1, none⟩ (.int .i64 0)).heap.size) := by have := HG4.out.lt; exact this
    clear HG3 HS3 HK3 HZ3
    generalize w3.setCell ⟨W.heap.size, 1, none⟩ (.int .i64 0) = w4 at HG4 HS4 HK4 HZ4 ⊢
    have HE : Hid (memC b s lv = ((nn, 0, [], ex0), s2, lv)) := HE.out
    have x0 := HG4.out.cell 0
    have y0 := HG4.out.free 0
    have x1 := HG4.out.cell 1
    have y1 := HG4.out.free 1
    have x2 := HG4.out.cell 2
    have y2 := HG4.out.free 2
    have x3 := HG4.out.cell 3
    have y3 := HG4.out.free 3
    have x4 := HG4.out.cell 4
    have y4 := HG4.out.free 4
    have x5 := HG4.out.cell 5
    have y5 := HG4.out.free 5
    have x6 := HG4.out.cell 6
    have y6 := HG4.out.free 6
    simp only [List.getElem?_cons_zero, List.getElem?_cons_succ] at x0 x1 x2 x3 x4 x5 x6
    go_wp2_with fail
    have hk := kp_setM w4 W.heap.size (.string (bstr nn)) (.int .i64 0) (.slice none 0 0) (.int .i64 0) (.string ⟨#[]⟩) (.string ⟨#[]⟩) (.slice none 0 0)
    have hA := HG4.out.setM (.string (bstr nn)) (.int .i64 0) (.slice none 0 0) (.int .i64 0) (.string ⟨#[]⟩) (.string ⟨#[]⟩) (.slice none 0 0)
    refine bodyPost_ret (resM rfl hA rfl) rfl ?_
    rw [HE.out]
    exact ⟨_, rfl, ⟨_, rfl, _, _, _, _, _, rfl, RdA.nil _ _, VE.leaf _ _ _ _ _⟩, RS.box (RS.box (RS.box (RS.box (RS.box (RS.box (RS.box (HS4.out) HL.out.2 _ _) HL.out.2 _ _) HL.out.2 _ _) HL.out.2 _ _) HL.out.2 _ _) HL.out.2 _ _) HL.out.2 _ _, K2.box (K2.box (K2.box (K2.box (K2.box (K2.box (K2.box (HK4.out) (Nat.le_refl _) _ _) (Nat.le_refl _) _ _) (Nat.le_refl _) _ _) (Nat.le_refl _) _ _) (Nat.le_refl _) _ _) (Nat.le_refl _) _ _) (Nat.le_refl _) _ _⟩
  · clear HKT
    go_upto_region 5 with (fail)
    clear x0 y0 x1 y1 x2 y2 x3 y3 x4 y4 x5 y5 x6 y6
    have HG4 : Hid (Arr (w3.setCell ⟨W.heap.size, 1, none⟩ (.int .i64 1)) 66 W.heap.size [.string (bstr nn), .int .i64 1, .slice none 0 0, .int .i64 0, .string ⟨#[]⟩, .string ⟨#[]⟩, .slice none 0 0]) := HG3.out.set 1 _
    have HS4 := Lib.hid (HS3.out.box (g := W.heap.size) HL.out.2 1 (.int .i64 1))
    have HK4 := Lib.hid (HK3.out.box (g := W.heap.size) (Nat.le_refl _) 1 (.int .i64 1))
    have HZ4 : Hid (W.heap.size < (w3.setCell ⟨W.heap.size, 1, none⟩ (.int .i64 1)).heap.size) := by have := HG4.out.lt; exact this
    clear HG3 HS3 HK3 HZ3
    generalize w3.setCell ⟨W.heap.size, 1, none⟩ (.int .i64 1) = w4 at HG4 HS4 HK4 HZ4 ⊢
    have HE : Hid (memC b s lv = ((nn, 1, (typesC b s2 lv).1, ex0), (typesC b s2 lv).2)) := HE.out
    have HT := Lib.hid (types_any HS4.out)
    have HTL : Hid ((typesC b s2 lv).2.2 = lv) := types_lv b s2 lv
    obtain ⟨l, hl⟩ : ∃ x, x = (typesC b s2 lv).1 := ⟨_, rfl⟩
    obtain ⟨R, hR⟩ : ∃ x, x = (typesC b s2 lv).2 := ⟨_, rfl⟩
    rw [← hl, ← hR] at HT HE
    rw [← hR] at HTL
    obtain ⟨s5, lv5⟩ := R
    obtain rfl : lv5 = lv := HTL.out
    clear hl hR HTL
    go_wp2_with fail
    refine HT.out.mono ?_
    rintro e w5 ⟨v, rfl, r5, h5, k5⟩
    obtain ⟨q5, c5, rfl⟩ := r5.form
    have HR5 := Lib.hid (RdA.low r5.rd (Nat.le_of_lt HZ4.out))
    have HB5 : Hid (Bt w4.heap.size w5.heap.size = Bt w4.heap.size w5.heap.size) := rfl
    have HRR := Lib.hid r5.rd
    clear r5 HB5
    have HS5 := Lib.hid h5
    have HK5 := Lib.hid (HK4.out.trans k5)
    have HG5 := Lib.hid (k5.arr HG4.out (by have := HL.out; omega) (by have := HL.out; omega))
    have HZ5 : Hid (W.heap.size < w5.heap.size) := HG5.out.lt
    clear h5 k5 HK4 HG4 HS4
    clear HT
    have x0 := HG5.out.cell 0
    have y0 := HG5.out.free 0
    have x1 := HG5.out.cell 1
    have y1 := HG5.out.free 1
    have x2 := HG5.out.cell 2
    have y2 := HG5.out.free 2
    have x3 := HG5.out.cell 3
    have y3 := HG5.out.free 3
    have x4 := HG5.out.cell 4
    have y4 := HG5.out.free 4
    have x5 := HG5.out.cell 5
    have y5 := HG5.out.free 5
    have x6 := HG5.out.cell 6
    have y6 := HG5.out.free 6
    simp only [List.getElem?_cons_zero, List.getElem?_cons_succ] at x0 x1 x2 x3 x4 x5 x6
    go_upto_region 8 with (fail)
    clear x0 y0 x1 y1 x2 y2 x3 y3 x4 y4 x5 y5 x6 y6
    have HG6 : Hid (Arr (w5.setCell ⟨W.heap.size, 2, none⟩ (.slice q5 l.length c5)) 66 W.heap.size [.string (bstr nn), .int .i64 1, .slice q5 l.length c5, .int .i64 0, .string ⟨#[]⟩, .string ⟨#[]⟩, .slice none 0 0]) := HG5.out.set 2 _
    have HS6 := Lib.hid (HS5.out.box (g := W.heap.size) HL.out.2 2 (.slice q5 l.length c5))
    have HK6 := Lib.hid (HK5.out.box (g := W.heap.size) (Nat.le_refl _) 2 (.slice q5 l.length c5))
    have HZ6 : Hid (W.heap.size < (w5.setCell ⟨W.heap.size, 2, none⟩ (.slice q5 l.length c5)).heap.size) := by have := HG6.out.lt; exact this
    have HRX : Hid (RdA (Bt w4.heap.size (w5.setCell ⟨W.heap.size, 2, none⟩ (.slice q5 l.length c5)).heap.size) (w5.setCell ⟨W.heap.size, 2, none⟩ (.slice q5 l.length c5)) l (.slice q5 l.length c5)) := RdA.kp HRR.out ((Kp.of (pb := W.heap.size) (Below.refl _ _)).set 2 _) HZ4.out
    clear HG5 HS5 HK5 HZ5 HR5 HRR
    generalize w5.setCell ⟨W.heap.size, 2, none⟩ (.slice q5 l.length c5) = w6 at HG6 HS6 HK6 HZ6 HRX ⊢
    have x0 := HG6.out.cell 0
    have y0 := HG6.out.free 0
    have x1 := HG6.out.cell 1
    have y1 := HG6.out.free 1
    have x2 := HG6.out.cell 2
    have y2 := HG6.out.free 2
    have x3 := HG6.out.cell 3
    have y3 := HG6.out.free 3
    have x4 := HG6.out.cell 4
    have y4 := HG6.out.free 4
    have x5 := HG6.out.cell 5
    have y5 := HG6.out.free 5
    have x6 := HG6.out.cell 6
    have y6 := HG6.out.free 6
    simp only [List.getElem?_cons_zero, List.getElem?_cons_succ] at x0 x1 x2 x3 x4 x5 x6
    go_wp2_with fail
    have hk := kp_setM w6 W.heap.size (.string (bstr nn)) (.int .i64 1) (.slice q5 l.length c5) (.int .i64 0) (.string ⟨#[]⟩) (.string ⟨#[]⟩) (.slice none 0 0)
    have hA := HG6.out.setM (.string (bstr nn)) (.int .i64 1) (.slice q5 l.length c5) (.int .i64 0) (.string ⟨#[]⟩) (.string ⟨#[]⟩) (.slice none 0 0)
    refine bodyPost_ret (resM rfl hA rfl) rfl ?_
    rw [HE.out]
    exact ⟨_, rfl, ⟨_, rfl, _, _, _, _, _, rfl, (RdA.kp HRX.out hk HZ4.out).low (Nat.le_of_lt HZ4.out), VE.leaf _ _ _ _ _⟩, RS.box (RS.box (RS.box (RS.box (RS.box (RS.box (RS.box (HS6.out) HL.out.2 _ _) HL.out.2 _ _) HL.out.2 _ _) HL.out.2 _ _) HL.out.2 _ _) HL.out.2 _ _) HL.out.2 _ _, K2.box (K2.box (K2.box (K2.box (K2.box (K2.box (K2.box (HK6.out) (Nat.le_refl _) _ _) (Nat.le_refl _) _ _) (Nat.le_refl _) _ _) (Nat.le_refl _) _ _) (Nat.le_refl _) _ _) (Nat.le_refl _) _ _) (Nat.le_refl _) _ _⟩
  · clear HKT
    go_upto_region 7 with (fail)
    clear x0 y0 x1 y1 x2 y2 x3 y3 x4 y4 x5 y5 x6 y6
    have HG4 : Hid (Arr (w3.setCell ⟨W.heap.size, 1, none⟩ (.int .i64 2)) 66 W.heap.size [.string (bstr nn), .int .i64 2, .slice none 0 0, .int .i64 0, .string ⟨#[]⟩, .string ⟨#[]⟩, .slice none 0 0]) := HG3.out.set 1 _
    have HS4 := Lib.hid (HS3.out.box (g := W.heap.size) HL.out.2 1 (.int .i64 2))
    have HK4 := Lib.hid (HK3.out.box (g := W.heap.size) (Nat.le_refl _) 1 (.int .i64 2))
    have HZ4 : Hid (W.heap.size < (w3.setCell ⟨W.heap.size, 1, none⟩ (.int .i64 2)).heap.size) := by have := HG4.out.lt; exact this
    clear HG3 HS3 HK3 HZ3
    generalize w3.setCell ⟨W.heap.size, 1, none⟩ (.int .i64 2) = w4 at HG4 HS4 HK4 HZ4 ⊢
    have HE : Hid (memC b s lv = ((nn, 2, [], (partC b 16 s2 0).1), (partC b 16 s2 0).2)) := HE.out
    have HT := Lib.hid (expr16_any HS4.out)
    obtain ⟨x, hx⟩ : ∃ x, x = (partC b 16 s2 0).1 := ⟨_, rfl⟩
    obtain ⟨R, hR⟩ : ∃ x, x = (partC b 16 s2 0).2 := ⟨_, rfl⟩
    unfold PPost at HT
    rw [← hx, ← hR] at HT HE
    obtain ⟨s5, lv5⟩ := R
    obtain ⟨mk, mv, mn, ms⟩ := x
    clear hx hR
    go_wp2_with fail
    refine HT.out.mono ?_
    rintro e w5 ⟨v, rfl, r5, h5, k5⟩
    obtain ⟨q4, c4, rfl, _, _⟩ := RdE.form r5
    unfold exv at r5 ⊢
    dsimp only [Ex.kind, Ex.via, Ex.nm, Ex.kids] at r5 h5 ⊢
    have HRR := Lib.hid r5
    clear r5
    have HS5 := Lib.hid h5
    have HK5 := Lib.hid (HK4.out.trans k5)
    have HG5 := Lib.hid (k5.arr HG4.out (by have := HL.out; omega) (by have := HL.out; omega))
    have HZ5 : Hid (W.heap.size < w5.heap.size) := HG5.out.lt
    clear h5 k5 HK4 HG4 HS4
    clear HT
    have x0 := HG5.out.cell 0
    have y0 := HG5.out.free 0
    have x1 := HG5.out.cell 1
    have y1 := HG5.out.free 1
    have x2 := HG5.out.cell 2
    have y2 := HG5.out.free 2
    have x3 := HG5.out.cell 3
    have y3 := HG5.out.free 3
    have x4 := HG5.out.cell 4
    have y4 := HG5.out.free 4
    have x5 := HG5.out.cell 5
    have y5 := HG5.out.free 5
    have x6 := HG5.out.cell 6
    have y6 := HG5.out.free 6
    simp only [List.getElem?_cons_zero, List.getElem?_cons_succ] at x0 x1 x2 x3 x4 x5 x6
    go_upto_region 8 with (fail)
    clear x0 y0 x1 y1 x2 y2 x3 y3 x4 y4 x5 y5 x6 y6
    have HG6 : Hid (Arr ((((w5.setCell ⟨W.heap.size, 3, none⟩ (.int .i64 mk)).setCell ⟨W.heap.size, 4, none⟩ (.string (bstr mv))).setCell ⟨W.heap.size, 5, none⟩ (.string (bstr mn))).setCell ⟨W.heap.size, 6, none⟩ (.slice q4 ms.length c4)) 66 W.heap.size [.string (bstr nn), .int .i64 2, .slice none 0 0, .int .i64 mk, .string (bstr mv), .string (bstr mn), .slice q4 ms.length c4]) := (((HG5.out.set 3 (.int .i64 mk)).set 4 (.string (bstr mv))).set 5 (.string (bstr mn))).set 6 (.slice q4 ms.length c4)
    have HS6 : Hid (RS cb rb b lv5 s5 ((((w5.setCell ⟨W.heap.size, 3, none⟩ (.int .i64 mk)).setCell ⟨W.heap.size, 4, none⟩ (.string (bstr mv))).setCell ⟨W.heap.size, 5, none⟩ (.string (bstr mn))).setCell ⟨W.heap.size, 6, none⟩ (.slice q4 ms.length c4))) := RS.box (RS.box (RS.box (RS.box HS5.out HL.out.2 _ _) HL.out.2 _ _) HL.out.2 _ _) HL.out.2 _ _
    have HK6 : Hid (K2 cb rb W ((((w5.setCell ⟨W.heap.size, 3, none⟩ (.int .i64 mk)).setCell ⟨W.heap.size, 4, none⟩ (.string (bstr mv))).setCell ⟨W.heap.size, 5, none⟩ (.string (bstr mn))).setCell ⟨W.heap.size, 6, none⟩ (.slice q4 ms.length c4))) := K2.box (K2.box (K2.box (K2.box HK5.out (Nat.le_refl _) _ _) (Nat.le_refl _) _ _) (Nat.le_refl _) _ _) (Nat.le_refl _) _ _
    have HRX : Hid (VE w4.heap.size (.mk mk mv mn ms) ((((w5.setCell ⟨W.heap.size, 3, none⟩ (.int .i64 mk)).setCell ⟨W.heap.size, 4, none⟩ (.string (bstr mv))).setCell ⟨W.heap.size, 5, none⟩ (.string (bstr mn))).setCell ⟨W.heap.size, 6, none⟩ (.slice q4 ms.length c4)) (.agg #[.int .i64 mk, .string (bstr mv), .string (bstr mn), .slice q4 ms.length c4])) := VE.kp HRR.out (kp_set43 _ _ _ _ _ _) HZ4.out
    clear HG5 HS5 HK5 HZ5 HRR
    generalize ((((w5.setCell ⟨W.heap.size, 3, none⟩ (.int .i64 mk)).setCell ⟨W.heap.size, 4, none⟩ (.string (bstr mv))).setCell ⟨W.heap.size, 5, none⟩ (.string (bstr mn))).setCell ⟨W.heap.size, 6, none⟩ (.slice q4 ms.length c4)) = w6 at HG6 HS6 HK6 HRX ⊢
    have x0 := HG6.out.cell 0
    have y0 := HG6.out.free 0
    have x1 := HG6.out.cell 1
    have y1 := HG6.out.free 1
    have x2 := HG6.out.cell 2
    have y2 := HG6.out.free 2
    have x3 := HG6.out.cell 3
    have y3 := HG6.out.free 3
    have x4 := HG6.out.cell 4
    have y4 := HG6.out.free 4
    have x5 := HG6.out.cell 5
    have y5 := HG6.out.free 5
    have x6 := HG6.out.cell 6
    have y6 := HG6.out.free 6
    simp only [List.getElem?_cons_zero, List.getElem?_cons_succ] at x0 x1 x2 x3 x4 x5 x6
    go_wp2_with fail
    have hk := kp_setM w6 W.heap.size (.string (bstr nn)) (.int .i64 2) (.slice none 0 0) (.int .i64 mk) (.string (bstr mv)) (.string (bstr mn)) (.slice q4 ms.length c4)
    have hA := HG6.out.setM (.string (bstr nn)) (.int .i64 2) (.slice none 0 0) (.int .i64 mk) (.string (bstr mv)) (.string (bstr mn)) (.slice q4 ms.length c4)
    refine bodyPost_ret (resM rfl hA rfl) rfl ?_
    rw [HE.out]
    exact ⟨_, rfl, ⟨_, rfl, _, _, _, _, _, rfl, RdA.nil _ _, (VE.kp HRX.out hk HZ4.out).low (Nat.le_of_lt HZ4.out)⟩, RS.box (RS.box (RS.box (RS.box (RS.box (RS.box (RS.box (HS6.out) HL.out.2 _ _) HL.out.2 _ _) HL.out.2 _ _) HL.out.2 _ _) HL.out.2 _ _) HL.out.2 _ _) HL.out.2 _ _, K2.box (K2.box (K2.box (K2.box (K2.box (K2.box (K2.box (HK6.out) (Nat.le_refl _) _ _) (Nat.le_refl _) _ _) (Nat.le_refl _) _ _) (Nat.le_refl _) _ _) (Nat.le_refl _) _ _) (Nat.le_refl _) _ _) (Nat.le_refl _) _ _⟩
end
end Go.Proofs.YtdnmgemjhpkekaaGreatDoor
