/-
  part: an expression that is read.
-/
import Derived.Test.YtdnmgemjhpkekaaGreatDoorMk1
namespace Go.Proofs.YtdnmgemjhpkekaaGreatDoor
open Go.ChangeShapes Go.WideShapes Go.ChangeAt Go.RowKit
set_option linter.unusedVariables false

def SB (g rb D : Nat) (w : World) : Prop := Arr w 54 g [.pointer (some ⟨rb, 0, none⟩)] ∧ Arr w 3 (g + 1) [.int .i64 (D : Nat)]
theorem sLater {g rb D : Nat} {w w' : World} (h : SB g rb D w) (hb : Below w.heap.size w w') : SB g rb D w' := ⟨h.1.later hb, h.2.later hb⟩
theorem sDrew {g rb D : Nat} {w : World} (h : SB g rb D w) : SB g rb D w.drew := ⟨h.1.drew, h.2.drew⟩
theorem sK2 {g rb D cb : Nat} {w w' : World} (h : SB g rb D w) (hk : K2 cb rb w w') (hl : cb < rb ∧ rb < g) : SB g rb D w' := ⟨hk.arr h.1 (by omega) (by omega), hk.arr h.2 (by omega) (by omega)⟩
theorem sGrown {g rb D B : Nat} {w w' : World} {row : Option Nat} (h : SB g rb D w) (hg : w.grownBy w' row) (hr : ∀ k, row = some k → B ≤ k) (hB : g + 1 < B) : SB g rb D w' :=
  ⟨(hg.block _ h.1.lt (fun e => absurd (hr _ e.symm) (by omega))).trans h.1, (hg.block _ h.2.lt (fun e => absurd (hr _ e.symm) (by omega))).trans h.2⟩
theorem sBox {g0 rb D g : Nat} {w : World} (h : SB g0 rb D w) (i : Nat) (v : Value) (hg : g0 + 1 < g) : SB g0 rb D (w.setCell ⟨g, i, none⟩ v) := ⟨h.1.setCell (by show _ ≠ g; omega) v, h.2.setCell (by show _ ≠ g; omega) v⟩
theorem resX {fn : Func} {p : Tmp} (h : fn.results = #[.cell p 42]) {tmps : Array Value} {w : World} {g : Nat} {x0 x1 x2 x3 : Value} (hA : Arr w 42 g [x0, x1, x2, x3]) (hp : tmps.getD p undef = .pointer (some ⟨g, 0, none⟩)) :
    (results fn tmps).run Tryz.prog w = .ok (.agg #[x0, x1, x2, x3]) w :=
  results_cell_row h tmps w g 42 #[x0, x1, x2, x3] (0, 0) _ hp hA Tryz.underlying42 rfl (by kernel_rfl)
theorem Arr.set4x {w : World} {t : TypeId} {g : Nat} {y0 y1 y2 y3 : Value} (h : Arr w t g [y0, y1, y2, y3]) (x0 x1 x2 x3 : Value) : Arr ((((w.setCell ⟨g, 0, none⟩ x0).setCell ⟨g, 1, none⟩ x1).setCell ⟨g, 2, none⟩ x2).setCell ⟨g, 3, none⟩ x3) t g [x0, x1, x2, x3] := (((h.set 0 x0).set 1 x1).set 2 x2).set 3 x3
theorem kindC_0 {d lv x : Nat} (h : kindC d lv x = 0) : 1 ≤ x ∧ x ≤ 5 ∧ d ≠ 0 ∧ (x = 1 ∨ x = 2 → lv < 32) := by
  unfold kindC at h
  split at h
  · cases h
  split at h
  · cases h
  split at h
  · cases h
  refine ⟨by omega, by omega, by omega, fun h => by omega⟩
theorem kind_le {b : List UInt8} {d lv : Nat} (s : St) : (numC b (kindC d lv) s).1 ≤ 5 := numC_le (fun x h => (kindC_0 h).2.1) s
theorem kind_leaf {b : List UInt8} {d lv : Nat} {s : St} (h : (numC b (kindC d lv) s).1 = 1 ∨ (numC b (kindC d lv) s).1 = 2) : lv < 32 := by
  cases s with
  | er c a => rcases h with h | h <;> cases h
  | go o =>
    by_cases h1 : (num (b.drop o)).2.2 ≠ 0
    · rw [numC_1 h1] at h; rcases h with h | h <;> cases h
    · by_cases h2 : kindC d lv (num (b.drop o)).1 ≠ 0
      · rw [numC_2 h1 h2] at h; rcases h with h | h <;> cases h
      · rw [numC_3 h1 h2] at h
        exact (kindC_0 (Classical.not_not.1 h2)).2.2.2 h
theorem kind_none {b : List UInt8} {lv : Nat} (s : St) : (numC b (kindC 0 lv) s).1 = 0 := by
  cases s with
  | er c a => rfl
  | go o =>
    by_cases h1 : (num (b.drop o)).2.2 ≠ 0
    · rw [numC_1 h1]
    · by_cases h2 : kindC 0 lv (num (b.drop o)).1 ≠ 0
      · rw [numC_2 h1 h2]
      · exact absurd rfl (kindC_0 (Classical.not_not.1 h2)).2.2.1
section
variable {cb rb lv : Nat} {b : List UInt8} {s : St} {W : World}
def PPost (cb rb : Nat) (b : List UInt8) (W : World) (r : Ex × St × Nat) (e : Ending) (w' : World) : Prop := ∃ v, e = .returned v ∧ VE W.heap.size r.1 w' v ∧ RS cb rb b r.2.2 r.2.1 w' ∧ K2 cb rb W w'
set_option maxRecDepth 100000 in
set_option maxHeartbeats 2000000 in
theorem part_zero {D : Nat} (hd : D = 17) (h : RS cb rb b lv s W) : Calls Tryz.prog 67 #[.pointer (some ⟨rb, 0, none⟩), .int .i64 (D : Nat)] W (PPost cb rb b W (partC b 0 s lv)) := by
  have HD : Hid (D = 17 - 0) := hd
  have hb : Below W.heap.size W (((W.alloc (.cells #[.pointer (some ⟨rb, 0, none⟩)] 54)).alloc (.cells #[.int .i64 (D : Nat)] 3)).alloc (.cells #[.int .i64 0, .string ⟨#[]⟩, .string ⟨#[]⟩, .slice none 0 0] 42)) := (((Below.refl _ _).alloc (Nat.le_refl _) _).alloc (by simp) _).alloc (by simp; omega) _
  have HS := hiD (h.later hb)
  have HK : Hid (K2 cb rb W (((W.alloc (.cells #[.pointer (some ⟨rb, 0, none⟩)] 54)).alloc (.cells #[.int .i64 (D : Nat)] 3)).alloc (.cells #[.int .i64 0, .string ⟨#[]⟩, .string ⟨#[]⟩, .slice none 0 0] 42))) := K2.of hb
  have HL : Hid (cb < rb ∧ rb < W.heap.size) := h.lt
  have HB : Hid (SB W.heap.size rb D (((W.alloc (.cells #[.pointer (some ⟨rb, 0, none⟩)] 54)).alloc (.cells #[.int .i64 (D : Nat)] 3)).alloc (.cells #[.int .i64 0, .string ⟨#[]⟩, .string ⟨#[]⟩, .slice none 0 0] 42))) := ⟨((Arr.new' _ _ _ _ rfl).alloc _).alloc _, (Arr.new2 _ _ _ _ _ rfl).alloc _⟩
  have HG : Hid (Arr (((W.alloc (.cells #[.pointer (some ⟨rb, 0, none⟩)] 54)).alloc (.cells #[.int .i64 (D : Nat)] 3)).alloc (.cells #[.int .i64 0, .string ⟨#[]⟩, .string ⟨#[]⟩, .slice none 0 0] 42)) 42 (W.heap.size + 2) [.int .i64 0, .string ⟨#[]⟩, .string ⟨#[]⟩, .slice none 0 0]) := Arr.new3 _ _ _ _ _ _ rfl
  have HN := hiD (numberP (p1 := .pointer (some ⟨W.heap.size, 0, none⟩)) (p2 := .pointer (some ⟨W.heap.size + 1, 0, none⟩)) (chk := kindC 0 lv) HS.out (fun x hx => by have := kindC_0 hx; omega) (fun x W' s' hk hs => by
    have h2 := sK2 HB.out hk HL.out
    exact partK x 0 (by omega) hs h2.1 (by have := h2.2; rw [HD.out] at this; exact this)))
  have HKN : Hid ((numC b (kindC 0 lv) s).1 = 0) := kind_none s
  have HE : Hid (partC b 0 s lv = (ex0, (numC b (kindC 0 lv) s).2, lv)) := rfl
  rw [HKN.out] at HN
  obtain ⟨s1, hs1⟩ : ∃ x, x = (numC b (kindC 0 lv) s).2 := ⟨_, rfl⟩
  rw [← hs1] at HN HE
  clear h hb hs1 hd HKN
  have b0 := HB.out.1.cell 0
  simp only [List.getElem?_cons_zero] at b0
  go_enter Tryz.func67, Tryz.ntmps67
  go_wp2_with fail
  refine HN.out.mono ?_
  rintro e w1 ⟨rfl, h1, k1⟩
  have HS1 := hiD h1
  have HK1 := hiD (HK.out.trans k1)
  have HB1 := hiD (sK2 HB.out k1 HL.out)
  have HG1 := hiD (k1.arr HG.out (by have := HL.out; omega) (by have := HL.out; omega))
  clear h1 k1 HN HS HK HB HG b0
  obtain ⟨x0, y0, x1, y1, x2, y2, x3, y3⟩ := HG1.out.all4
  go_wp2_with fail
  refine wp_loop_rounds 1 ?_
  rw [rounds_succ]
  clear x0 x1 x2 x3 y0 y1 y2 y3
  have HGZ : Hid (Arr (w1.setCell ⟨W.heap.size + 2, 0, none⟩ (.int .i64 0)) 42 (W.heap.size + 2) [.int .i64 0, .string ⟨#[]⟩, .string ⟨#[]⟩, .slice none 0 0]) := HG1.out.set 0 _
  have HSZ := hiD (HS1.out.box (g := W.heap.size + 2) (by have := HL.out; omega) 0 (.int .i64 0))
  have HKZ := hiD (HK1.out.box (g := W.heap.size + 2) (by omega) 0 (.int .i64 0))
  generalize w1.setCell ⟨W.heap.size + 2, 0, none⟩ (.int .i64 0) = wz at HGZ HSZ HKZ ⊢
  obtain ⟨x0, y0, x1, y1, x2, y2, x3, y3⟩ := HGZ.out.all4
  go_wp2_with fail
  have hk := kp_set4 wz (W.heap.size + 2) (.int .i64 0) (.string ⟨#[]⟩) (.string ⟨#[]⟩) (.slice none 0 0)
  have hA := HGZ.out.set4x (.int .i64 0) (.string ⟨#[]⟩) (.string ⟨#[]⟩) (.slice none 0 0)
  refine bodyPost_ret (resX rfl hA rfl) rfl ?_
  rw [HE.out]
  exact ⟨_, rfl, VE.leaf _ _ _ _ _, RS.box (RS.box (RS.box (RS.box HSZ.out (by have := HL.out; omega) _ _) (by have := HL.out; omega) _ _) (by have := HL.out; omega) _ _) (by have := HL.out; omega) _ _, K2.box (K2.box (K2.box (K2.box HKZ.out (by omega) _ _) (by omega) _ _) (by omega) _ _) (by omega) _ _⟩
set_option maxRecDepth 100000 in
set_option maxHeartbeats 8000000 in
theorem part_step {d D : Nat} (hd : D = 17 - (d + 1)) (hd16 : d + 1 ≤ 16) (IH : ∀ W s lv, RS cb rb b lv s W → Calls Tryz.prog 67 #[.pointer (some ⟨rb, 0, none⟩), .int .i64 ((D : Int) + 1)] W (PPost cb rb b W (partC b d s lv))) (h : RS cb rb b lv s W) : Calls Tryz.prog 67 #[.pointer (some ⟨rb, 0, none⟩), .int .i64 (D : Nat)] W (PPost cb rb b W (partC b (d + 1) s lv)) := by
  have HD : Hid (D = 17 - (d + 1)) := hd
  have HDW : Hid (IntKind.i64.wrap ((D : Int) + 1) = (D : Int) + 1) := by show _ = _; rw [IntKind.wrap_i64]; omega
  have IH := hiD IH
  clear hd
  have hb : Below W.heap.size W (((W.alloc (.cells #[.pointer (some ⟨rb, 0, none⟩)] 54)).alloc (.cells #[.int .i64 (D : Nat)] 3)).alloc (.cells #[.int .i64 0, .string ⟨#[]⟩, .string ⟨#[]⟩, .slice none 0 0] 42)) := (((Below.refl _ _).alloc (Nat.le_refl _) _).alloc (by simp) _).alloc (by simp; omega) _
  have HS := hiD (h.later hb)
  have HK : Hid (K2 cb rb W (((W.alloc (.cells #[.pointer (some ⟨rb, 0, none⟩)] 54)).alloc (.cells #[.int .i64 (D : Nat)] 3)).alloc (.cells #[.int .i64 0, .string ⟨#[]⟩, .string ⟨#[]⟩, .slice none 0 0] 42))) := K2.of hb
  have HL : Hid (cb < rb ∧ rb < W.heap.size) := h.lt
  have HB : Hid (SB W.heap.size rb D (((W.alloc (.cells #[.pointer (some ⟨rb, 0, none⟩)] 54)).alloc (.cells #[.int .i64 (D : Nat)] 3)).alloc (.cells #[.int .i64 0, .string ⟨#[]⟩, .string ⟨#[]⟩, .slice none 0 0] 42))) := ⟨((Arr.new' _ _ _ _ rfl).alloc _).alloc _, (Arr.new2 _ _ _ _ _ rfl).alloc _⟩
  have HG : Hid (Arr (((W.alloc (.cells #[.pointer (some ⟨rb, 0, none⟩)] 54)).alloc (.cells #[.int .i64 (D : Nat)] 3)).alloc (.cells #[.int .i64 0, .string ⟨#[]⟩, .string ⟨#[]⟩, .slice none 0 0] 42)) 42 (W.heap.size + 2) [.int .i64 0, .string ⟨#[]⟩, .string ⟨#[]⟩, .slice none 0 0]) := Arr.new3 _ _ _ _ _ _ rfl
  have HN := hiD (numberP (p1 := .pointer (some ⟨W.heap.size, 0, none⟩)) (p2 := .pointer (some ⟨W.heap.size + 1, 0, none⟩)) (chk := kindC (d + 1) lv) HS.out (fun x hx => by have := kindC_0 hx; omega) (fun x W' s' hk hs => by
    have h2 := sK2 HB.out hk HL.out
    exact partK x (d + 1) (by omega) hs h2.1 (by have := h2.2; rw [HD.out] at this; exact this)))
  have HE : Hid (partC b (d + 1) s lv = bodyC b (partC b d) (numC b (kindC (d + 1) lv) s).1 (numC b (kindC (d + 1) lv) s).2 lv) := rfl
  have HK5 : Hid ((numC b (kindC (d + 1) lv) s).1 ≤ 5) := kind_le s
  have HLF : Hid ((numC b (kindC (d + 1) lv) s).1 = 1 ∨ (numC b (kindC (d + 1) lv) s).1 = 2 → lv < 32) := kind_leaf
  obtain ⟨k, hk⟩ : ∃ x, x = (numC b (kindC (d + 1) lv) s).1 := ⟨_, rfl⟩
  obtain ⟨s1, hs1⟩ : ∃ x, x = (numC b (kindC (d + 1) lv) s).2 := ⟨_, rfl⟩
  rw [← hk, ← hs1] at HN HE
  rw [← hk] at HK5 HLF
  clear h hb hs1 hk hd16
  have b0 := HB.out.1.cell 0
  simp only [List.getElem?_cons_zero] at b0
  go_enter Tryz.func67, Tryz.ntmps67
  go_wp2_with fail
  refine HN.out.mono ?_
  rintro e w1 ⟨rfl, h1, k1⟩
  have HS1 := hiD h1
  have HK1 := hiD (HK.out.trans k1)
  have HB1 := hiD (sK2 HB.out k1 HL.out)
  have HG1 := hiD (k1.arr HG.out (by have := HL.out; omega) (by have := HL.out; omega))
  clear h1 k1 HK HB HG HS
  clear HN b0
  have hk6 : k = 0 ∨ k = 1 ∨ k = 2 ∨ k = 3 ∨ k = 4 ∨ k = 5 := by have := HK5.out; omega
  clear HK5
  rcases hk6 with rfl | rfl | rfl | rfl | rfl | rfl
  · clear HLF IH
    obtain ⟨x0, y0, x1, y1, x2, y2, x3, y3⟩ := HG1.out.all4
    go_wp2_with fail
    refine wp_loop_rounds 1 ?_
    rw [rounds_succ]
    clear x0 y0 x1 y1 x2 y2 x3 y3
    have HG2 : Hid (Arr (w1.setCell ⟨W.heap.size + 2, 0, none⟩ (.int .i64 0)) 42 (W.heap.size + 2) [.int .i64 0, .string ⟨#[]⟩, .string ⟨#[]⟩, .slice none 0 0]) := HG1.out.set 0 _
    have HS2 := hiD (HS1.out.box (g := W.heap.size + 2) (by have := HL.out; omega) 0 (.int .i64 0))
    have HK2 := hiD (HK1.out.box (g := W.heap.size + 2) (by omega) 0 (.int .i64 0))
    have HB2 := hiD (sBox HB1.out (g := W.heap.size + 2) 0 (.int .i64 0) (by omega))
    clear HG1 HS1 HK1 HB1
    generalize w1.setCell ⟨W.heap.size + 2, 0, none⟩ (.int .i64 0) = w2 at HG2 HS2 HK2 HB2 ⊢
    have HGZ := HG2
    have HE3 : Hid (partC b (d + 1) s lv = (.mk 0 [] [] [], s1, lv)) := HE.out
    obtain ⟨x0, y0, x1, y1, x2, y2, x3, y3⟩ := HGZ.out.all4
    go_wp2_with fail
    have hk := kp_set4 w2 (W.heap.size + 2) (.int .i64 0) (.string ⟨#[]⟩) (.string ⟨#[]⟩) (.slice none 0 0)
    have hA := HGZ.out.set4x (.int .i64 0) (.string ⟨#[]⟩) (.string ⟨#[]⟩) (.slice none 0 0)
    refine bodyPost_ret (resX rfl hA rfl) rfl ?_
    rw [HE3.out]
    exact ⟨_, rfl, VE.leaf _ _ _ _ _, RS.box (RS.box (RS.box (RS.box HS2.out (by have := HL.out; omega) _ _) (by have := HL.out; omega) _ _) (by have := HL.out; omega) _ _) (by have := HL.out; omega) _ _, K2.box (K2.box (K2.box (K2.box HK2.out (by omega) _ _) (by omega) _ _) (by omega) _ _) (by omega) _ _⟩
  · clear IH
    have HLV : Hid (lv < 32) := HLF.out (.inl rfl)
    clear HLF
    obtain ⟨x0, y0, x1, y1, x2, y2, x3, y3⟩ := HG1.out.all4
    go_upto_region 10 with (fail)
    clear x0 y0 x1 y1 x2 y2 x3 y3
    have HG2 : Hid (Arr (w1.setCell ⟨W.heap.size + 2, 0, none⟩ (.int .i64 1)) 42 (W.heap.size + 2) [.int .i64 1, .string ⟨#[]⟩, .string ⟨#[]⟩, .slice none 0 0]) := HG1.out.set 0 _
    have HS2 := hiD (HS1.out.box (g := W.heap.size + 2) (by have := HL.out; omega) 0 (.int .i64 1))
    have HK2 := hiD (HK1.out.box (g := W.heap.size + 2) (by omega) 0 (.int .i64 1))
    have HB2 := hiD (sBox HB1.out (g := W.heap.size + 2) 0 (.int .i64 1) (by omega))
    clear HG1 HS1 HK1 HB1
    generalize w1.setCell ⟨W.heap.size + 2, 0, none⟩ (.int .i64 1) = w2 at HG2 HS2 HK2 HB2 ⊢
    have HE3 : Hid (partC b (d + 1) s lv = (.mk 1 [] (nameC b false s1).1 [], (nameC b false s1).2, lv + 1)) := HE.out
    clear HE
    have HAR : Hid (Arr w2 92 rb [.pointer (some ⟨cb, 0, none⟩), stV s1, .int .i64 (lv : Nat)]) := HS2.out.arr
    have hwl : wrap64 ((lv : Int) + 1) = (lv : Int) + 1 := by unfold wrap64; have := HLV.out; omega
    obtain ⟨x0, y0, x1, y1, x2, y2⟩ := HAR.out.all3
    have b0 := HB2.out.1.cell 0
    simp only [List.getElem?_cons_zero] at b0
    go_upto_region 11 with (fail)
    clear x0 y0 x1 y1 x2 y2
    clear b0 HAR hwl
    have HG3 : Hid (Arr (w2.setCell ⟨rb, 2, none⟩ (.int .i64 ((lv : Int) + 1))) 42 (W.heap.size + 2) [.int .i64 1, .string ⟨#[]⟩, .string ⟨#[]⟩, .slice none 0 0]) := HG2.out.setCell (by show _ ≠ rb; have := HL.out; omega) _
    have HS3 : Hid (RS cb rb b (lv + 1) s1 (w2.setCell ⟨rb, 2, none⟩ (.int .i64 ((lv : Int) + 1)))) := HS2.out.leaves (n := lv + 1) (by have := HLV.out; omega)
    have HK3 := hiD (HK2.out.set 2 (.int .i64 ((lv : Int) + 1)))
    have HB3 : Hid (SB W.heap.size rb D (w2.setCell ⟨rb, 2, none⟩ (.int .i64 ((lv : Int) + 1)))) := ⟨HB2.out.1.setCell (by show _ ≠ rb; have := HL.out; omega) _, HB2.out.2.setCell (by show _ ≠ rb; have := HL.out; omega) _⟩
    clear HG2 HS2 HK2 HB2
    generalize w2.setCell ⟨rb, 2, none⟩ (.int .i64 ((lv : Int) + 1)) = w3 at HG3 HS3 HK3 HB3 ⊢
    obtain ⟨nn, hnn⟩ : ∃ x, x = (nameC b false s1).1 := ⟨_, rfl⟩
    obtain ⟨s6, hs6⟩ : ∃ x, x = (nameC b false s1).2 := ⟨_, rfl⟩
    have HN6 := hiD (cName_any false HS3.out)
    rw [← hnn, ← hs6] at HN6 HE3
    clear hnn hs6
    have b0 := HB3.out.1.cell 0
    simp only [List.getElem?_cons_zero] at b0
    go_wp2_with fail
    refine HN6.out.mono ?_
    rintro e w4 ⟨rfl, h4, k4⟩
    have HS4 := hiD h4
    have HK4 := hiD (HK3.out.trans k4)
    have HB4 := hiD (sK2 HB3.out k4 HL.out)
    have HG4 := hiD (k4.arr HG3.out (by have := HL.out; omega) (by have := HL.out; omega))
    clear h4 k4 HK3 HB3 HG3 HS3
    clear HN6 b0
    obtain ⟨x0, y0, x1, y1, x2, y2, x3, y3⟩ := HG4.out.all4
    go_wp2_with fail
    refine wp_loop_rounds 1 ?_
    rw [rounds_succ]
    clear x0 y0 x1 y1 x2 y2 x3 y3
    have HG5 : Hid (Arr (w4.setCell ⟨W.heap.size + 2, 2, none⟩ (.string (bstr nn))) 42 (W.heap.size + 2) [.int .i64 1, .string ⟨#[]⟩, .string (bstr nn), .slice none 0 0]) := HG4.out.set 2 _
    have HS5 := hiD (HS4.out.box (g := W.heap.size + 2) (by have := HL.out; omega) 2 (.string (bstr nn)))
    have HK5 := hiD (HK4.out.box (g := W.heap.size + 2) (by omega) 2 (.string (bstr nn)))
    have HB5 := hiD (sBox HB4.out (g := W.heap.size + 2) 2 (.string (bstr nn)) (by omega))
    clear HG4 HS4 HK4 HB4
    generalize w4.setCell ⟨W.heap.size + 2, 2, none⟩ (.string (bstr nn)) = w5 at HG5 HS5 HK5 HB5 ⊢
    have HGZ := HG5
    obtain ⟨x0, y0, x1, y1, x2, y2, x3, y3⟩ := HGZ.out.all4
    go_wp2_with fail
    have hk := kp_set4 w5 (W.heap.size + 2) (.int .i64 1) (.string ⟨#[]⟩) (.string (bstr nn)) (.slice none 0 0)
    have hA := HGZ.out.set4x (.int .i64 1) (.string ⟨#[]⟩) (.string (bstr nn)) (.slice none 0 0)
    refine bodyPost_ret (resX rfl hA rfl) rfl ?_
    rw [HE3.out]
    exact ⟨_, rfl, VE.leaf _ _ _ _ _, RS.box (RS.box (RS.box (RS.box HS5.out (by have := HL.out; omega) _ _) (by have := HL.out; omega) _ _) (by have := HL.out; omega) _ _) (by have := HL.out; omega) _ _, K2.box (K2.box (K2.box (K2.box HK5.out (by omega) _ _) (by omega) _ _) (by omega) _ _) (by omega) _ _⟩
  · clear IH
    have HLV : Hid (lv < 32) := HLF.out (.inr rfl)
    clear HLF
    obtain ⟨x0, y0, x1, y1, x2, y2, x3, y3⟩ := HG1.out.all4
    go_upto_region 9 with (fail)
    clear x0 y0 x1 y1 x2 y2 x3 y3
    have HG2 : Hid (Arr (w1.setCell ⟨W.heap.size + 2, 0, none⟩ (.int .i64 2)) 42 (W.heap.size + 2) [.int .i64 2, .string ⟨#[]⟩, .string ⟨#[]⟩, .slice none 0 0]) := HG1.out.set 0 _
    have HS2 := hiD (HS1.out.box (g := W.heap.size + 2) (by have := HL.out; omega) 0 (.int .i64 2))
    have HK2 := hiD (HK1.out.box (g := W.heap.size + 2) (by omega) 0 (.int .i64 2))
    have HB2 := hiD (sBox HB1.out (g := W.heap.size + 2) 0 (.int .i64 2) (by omega))
    clear HG1 HS1 HK1 HB1
    generalize w1.setCell ⟨W.heap.size + 2, 0, none⟩ (.int .i64 2) = w2 at HG2 HS2 HK2 HB2 ⊢
    obtain ⟨vn, hvn⟩ : ∃ x, x = (nameC b false s1).1 := ⟨_, rfl⟩
    obtain ⟨s3, hs3⟩ : ∃ x, x = (nameC b false s1).2 := ⟨_, rfl⟩
    have HN3 := hiD (cName_any false HS2.out)
    rw [← hvn, ← hs3] at HN3
    have HE3 : Hid (partC b (d + 1) s lv = (.mk 2 vn (nameC b false s3).1 [], (nameC b false s3).2, lv + 1)) := by
      show _ = _
      rw [HE.out, hvn, hs3]; rfl
    clear hvn hs3 HE
    have b0 := HB2.out.1.cell 0
    simp only [List.getElem?_cons_zero] at b0
    go_wp2_with fail
    refine HN3.out.mono ?_
    rintro e w3 ⟨rfl, h3, k3⟩
    have HS3 := hiD h3
    have HK3 := hiD (HK2.out.trans k3)
    have HB3 := hiD (sK2 HB2.out k3 HL.out)
    have HG3 := hiD (k3.arr HG2.out (by have := HL.out; omega) (by have := HL.out; omega))
    clear h3 k3 HK2 HB2 HG2 HS2
    clear HN3 b0
    obtain ⟨x0, y0, x1, y1, x2, y2, x3, y3⟩ := HG3.out.all4
    go_upto_region 10 with (fail)
    clear x0 y0 x1 y1 x2 y2 x3 y3
    have HG4 : Hid (Arr (w3.setCell ⟨W.heap.size + 2, 1, none⟩ (.string (bstr vn))) 42 (W.heap.size + 2) [.int .i64 2, .string (bstr vn), .string ⟨#[]⟩, .slice none 0 0]) := HG3.out.set 1 _
    have HS4 := hiD (HS3.out.box (g := W.heap.size + 2) (by have := HL.out; omega) 1 (.string (bstr vn)))
    have HK4 := hiD (HK3.out.box (g := W.heap.size + 2) (by omega) 1 (.string (bstr vn)))
    have HB4 := hiD (sBox HB3.out (g := W.heap.size + 2) 1 (.string (bstr vn)) (by omega))
    clear HG3 HS3 HK3 HB3
    generalize w3.setCell ⟨W.heap.size + 2, 1, none⟩ (.string (bstr vn)) = w4 at HG4 HS4 HK4 HB4 ⊢
    have HAR : Hid (Arr w4 92 rb [.pointer (some ⟨cb, 0, none⟩), stV s3, .int .i64 (lv : Nat)]) := HS4.out.arr
    have hwl : wrap64 ((lv : Int) + 1) = (lv : Int) + 1 := by unfold wrap64; have := HLV.out; omega
    obtain ⟨x0, y0, x1, y1, x2, y2⟩ := HAR.out.all3
    have b0 := HB4.out.1.cell 0
    simp only [List.getElem?_cons_zero] at b0
    go_upto_region 11 with (fail)
    clear x0 y0 x1 y1 x2 y2
    clear b0 HAR hwl
    have HG5 : Hid (Arr (w4.setCell ⟨rb, 2, none⟩ (.int .i64 ((lv : Int) + 1))) 42 (W.heap.size + 2) [.int .i64 2, .string (bstr vn), .string ⟨#[]⟩, .slice none 0 0]) := HG4.out.setCell (by show _ ≠ rb; have := HL.out; omega) _
    have HS5 : Hid (RS cb rb b (lv + 1) s3 (w4.setCell ⟨rb, 2, none⟩ (.int .i64 ((lv : Int) + 1)))) := HS4.out.leaves (n := lv + 1) (by have := HLV.out; omega)
    have HK5 := hiD (HK4.out.set 2 (.int .i64 ((lv : Int) + 1)))
    have HB5 : Hid (SB W.heap.size rb D (w4.setCell ⟨rb, 2, none⟩ (.int .i64 ((lv : Int) + 1)))) := ⟨HB4.out.1.setCell (by show _ ≠ rb; have := HL.out; omega) _, HB4.out.2.setCell (by show _ ≠ rb; have := HL.out; omega) _⟩
    clear HG4 HS4 HK4 HB4
    generalize w4.setCell ⟨rb, 2, none⟩ (.int .i64 ((lv : Int) + 1)) = w5 at HG5 HS5 HK5 HB5 ⊢
    obtain ⟨nn, hnn⟩ : ∃ x, x = (nameC b false s3).1 := ⟨_, rfl⟩
    obtain ⟨s6, hs6⟩ : ∃ x, x = (nameC b false s3).2 := ⟨_, rfl⟩
    have HN6 := hiD (cName_any false HS5.out)
    rw [← hnn, ← hs6] at HN6 HE3
    clear hnn hs6
    have b0 := HB5.out.1.cell 0
    simp only [List.getElem?_cons_zero] at b0
    go_wp2_with fail
    refine HN6.out.mono ?_
    rintro e w6 ⟨rfl, h6, k6⟩
    have HS6 := hiD h6
    have HK6 := hiD (HK5.out.trans k6)
    have HB6 := hiD (sK2 HB5.out k6 HL.out)
    have HG6 := hiD (k6.arr HG5.out (by have := HL.out; omega) (by have := HL.out; omega))
    clear h6 k6 HK5 HB5 HG5 HS5
    clear HN6 b0
    obtain ⟨x0, y0, x1, y1, x2, y2, x3, y3⟩ := HG6.out.all4
    go_wp2_with fail
    refine wp_loop_rounds 1 ?_
    rw [rounds_succ]
    clear x0 y0 x1 y1 x2 y2 x3 y3
    have HG7 : Hid (Arr (w6.setCell ⟨W.heap.size + 2, 2, none⟩ (.string (bstr nn))) 42 (W.heap.size + 2) [.int .i64 2, .string (bstr vn), .string (bstr nn), .slice none 0 0]) := HG6.out.set 2 _
    have HS7 := hiD (HS6.out.box (g := W.heap.size + 2) (by have := HL.out; omega) 2 (.string (bstr nn)))
    have HK7 := hiD (HK6.out.box (g := W.heap.size + 2) (by omega) 2 (.string (bstr nn)))
    have HB7 := hiD (sBox HB6.out (g := W.heap.size + 2) 2 (.string (bstr nn)) (by omega))
    clear HG6 HS6 HK6 HB6
    generalize w6.setCell ⟨W.heap.size + 2, 2, none⟩ (.string (bstr nn)) = w7 at HG7 HS7 HK7 HB7 ⊢
    have HGZ := HG7
    obtain ⟨x0, y0, x1, y1, x2, y2, x3, y3⟩ := HGZ.out.all4
    go_wp2_with fail
    have hk := kp_set4 w7 (W.heap.size + 2) (.int .i64 2) (.string (bstr vn)) (.string (bstr nn)) (.slice none 0 0)
    have hA := HGZ.out.set4x (.int .i64 2) (.string (bstr vn)) (.string (bstr nn)) (.slice none 0 0)
    refine bodyPost_ret (resX rfl hA rfl) rfl ?_
    rw [HE3.out]
    exact ⟨_, rfl, VE.leaf _ _ _ _ _, RS.box (RS.box (RS.box (RS.box HS7.out (by have := HL.out; omega) _ _) (by have := HL.out; omega) _ _) (by have := HL.out; omega) _ _) (by have := HL.out; omega) _ _, K2.box (K2.box (K2.box (K2.box HK7.out (by omega) _ _) (by omega) _ _) (by omega) _ _) (by omega) _ _⟩
  · clear HLF
    obtain ⟨x0, y0, x1, y1, x2, y2, x3, y3⟩ := HG1.out.all4
    go_upto_region 12 with (fail)
    clear x0 y0 x1 y1 x2 y2 x3 y3
    have HG2 : Hid (Arr (w1.setCell ⟨W.heap.size + 2, 0, none⟩ (.int .i64 3)) 42 (W.heap.size + 2) [.int .i64 3, .string ⟨#[]⟩, .string ⟨#[]⟩, .slice none 0 0]) := HG1.out.set 0 _
    have HS2 := hiD (HS1.out.box (g := W.heap.size + 2) (by have := HL.out; omega) 0 (.int .i64 3))
    have HK2 := hiD (HK1.out.box (g := W.heap.size + 2) (by omega) 0 (.int .i64 3))
    have HB2 := hiD (sBox HB1.out (g := W.heap.size + 2) 0 (.int .i64 3) (by omega))
    clear HG1 HS1 HK1 HB1
    generalize w1.setCell ⟨W.heap.size + 2, 0, none⟩ (.int .i64 3) = w2 at HG2 HS2 HK2 HB2 ⊢
    obtain ⟨n, hn⟩ : ∃ x, x = (numC b (chkC 2 32) s1).1 := ⟨_, rfl⟩
    obtain ⟨s3, hs3⟩ : ∃ x, x = (numC b (chkC 2 32) s1).2 := ⟨_, rfl⟩
    have HNN : Hid (n ≤ 32) := by rw [hn]; exact numC_le (fun x hx => (chkC_0 hx).2) s1
    have HN3 := hiD (cCount_any 2 32 HS2.out (by decide))
    rw [← hn, ← hs3] at HN3
    have HE3 : Hid (partC b (d + 1) s lv = (.mk 3 [] [] (loopC (partC b d) (n - 0) [] s3 lv).1, (loopC (partC b d) (n - 0) [] s3 lv).2)) := by
      show _ = _
      rw [HE.out, hn, hs3, Nat.sub_zero]; rfl
    clear hn hs3 HE
    have b0 := HB2.out.1.cell 0
    simp only [List.getElem?_cons_zero] at b0
    go_wp2_with fail
    refine HN3.out.mono ?_
    rintro e w3 ⟨rfl, h3, k3⟩
    have HS3 := hiD h3
    have HK3 := hiD (HK2.out.trans k3)
    have HB3 := hiD (sK2 HB2.out k3 HL.out)
    have HG3 := hiD (k3.arr HG2.out (by have := HL.out; omega) (by have := HL.out; omega))
    clear h3 k3 HK2 HB2 HG2 HS2
    clear HN3 b0
    go_upto_region 14 with (fail)
    go_wp2_with fail
    go_loopw [37] (fun iv wr => ∃ (i : Nat) (acc : List Ex) (s2 : St) (lv2 : Nat) (q : Option Addr) (cc : Nat), i ≤ n ∧ iv = .int .i64 (i : Nat) ∧ Hid (acc.length = i) ∧ Hid (PRow kdEx (W.heap.size + 3) (fun _ => False) wr (.slice q acc.length cc) acc) ∧ Hid (Arr wr 42 (W.heap.size + 2) [.int .i64 3, .string ⟨#[]⟩, .string ⟨#[]⟩, .slice q acc.length cc]) ∧ Hid (SB W.heap.size rb D wr) ∧ Hid (RS cb rb b lv2 s2 wr) ∧ Hid (K2 cb rb W wr) ∧ Hid (partC b (d + 1) s lv = (.mk 3 [] [] (loopC (partC b d) (n - i) acc s2 lv2).1, (loopC (partC b d) (n - i) acc s2 lv2).2))) (fun iv _ => n - (intOf iv).toNat)
    case atStart => exact ⟨0, [], s3, lv, none, 0, Nat.zero_le _, rfl, rfl, PRow.nil _ _ _ _, HG3.out, HB3.out, HS3.out, HK3.out, HE3.out⟩
    case round =>
      obtain ⟨i, acc, s2, lv2, q, cc, hi, rfl, HLEN, HRW6, HG6, HB6, HS6, HK6, HE6⟩ := hrel
      by_cases hlt : i < n
      · have hlt' : (i : Int) < n := by omega
        have hw : wrap64 ((i : Int) + 1) = (i : Int) + 1 := by unfold wrap64; have := HNN.out; omega
        have HLT : Hid (i < n) := hlt
        obtain ⟨x, hx⟩ : ∃ x, x = (partC b d s2 lv2).1 := ⟨_, rfl⟩
        obtain ⟨s4, hs4⟩ : ∃ x, x = (partC b d s2 lv2).2.1 := ⟨_, rfl⟩
        obtain ⟨lv4, hl4⟩ : ∃ x, x = (partC b d s2 lv2).2.2 := ⟨_, rfl⟩
        obtain ⟨mk, mv, mn, ms⟩ := x
        have HE7 : Hid (partC b (d + 1) s lv = (.mk 3 [] [] (loopC (partC b d) (n - (i + 1)) (acc ++ [.mk mk mv mn ms]) s4 lv4).1, (loopC (partC b d) (n - (i + 1)) (acc ++ [.mk mk mv mn ms]) s4 lv4).2)) := by
          show _ = _
          rw [HE6.out, show n - i = (n - (i + 1)) + 1 by omega, loopC, ← hx, ← hs4, ← hl4]
        have HCT : Hid (∀ w7, RS cb rb b lv2 s2 w7 → Calls Tryz.prog 67 #[.pointer (some ⟨rb, 0, none⟩), .int .i64 ((D : Int) + 1)] w7 fun e w' => ∃ v, e = .returned v ∧ (VE w7.heap.size (.mk mk mv mn ms) w' v ∧ RS cb rb b lv4 s4 w' ∧ K2 cb rb w7 w')) := fun w7 hw7 => by
          have h := IH.out w7 s2 lv2 hw7
          unfold PPost at h
          rw [← hx, ← hs4, ← hl4] at h
          exact h
        have HAC : Hid (acc.length + 1 ≤ 200000) := by show _ ≤ _; have := HNN.out; have := HLEN.out; omega
        have HGW : Hid (W.heap.size + 2 < W.heap.size + 3) := Nat.lt_succ_self _
        clear HE6 hx hs4 hl4 hlt IH
        go_upto_region 16 with (fail)
        generalize hwr : wr = w6 at HRW6 HG6 HB6 HS6 HK6 ⊢
        clear hwr
        refine wp_region_noPanic ?_
        refine wp_region_held_drew (S := fun W' => SB W.heap.size rb D W') (by kernel_rfl) (sDrew HB6.out) (fun hHeld => ?_)
        try simp only [Act.put]
        have hb7 : Below w6.heap.size w6 w6.drew := (Below.refl _ _).drew
        have HRW7 := hiD (HRW6.out.later hb7)
        have HG7 := hiD (HG6.out.later hb7)
        have HS7 := hiD (HS6.out.later hb7)
        have HK7 := hiD (HK6.out.trans (K2.of hb7))
        have HB7 := hiD (sLater HB6.out hb7)
        clear hb7
        generalize w6.drew = w7 at HRW7 HG7 HS7 HK7 HB7 hHeld ⊢
        have HN7 := hiD (HCT.out w7 HS7.out)
        have HGL : Hid (W.heap.size + 3 ≤ w7.heap.size) := by show _ ≤ _; have := HG7.out.lt; omega
        have HBL : Hid (∀ b, (Value.slice q acc.length cc).ownBlock = some b → b < w7.heap.size) := fun b hb => by obtain ⟨_, h, _⟩ := HRW7.out; exact (h.lt b hb).2
        refine wpAnyH_take (i := 0) (oi := ⟨some 39, _, _, _, _, _⟩) (v := .pointer (some ⟨W.heap.size + 2, 3, none⟩)) rfl (by kernel_rfl) (by kernel_rfl) (by kernel_rfl) (fun _ _ _ h => h) (.inl ⟨by rfl, fun w' hSw => ?_⟩) hHeld ?_
        focus (skip; clear hHeld; go_simp)
        try simp only [Act.put, pz0, pz1, pz2]
        refine wpAnyH_take (i := 2) (oi := ⟨some 41, _, _, _, _, _⟩) (v := .pointer (some ⟨rb, 0, none⟩)) rfl (by kernel_rfl) (by kernel_rfl) (by kernel_rfl) (fun _ _ _ h => h) (.inl ⟨by rfl, fun w' hSw => ?_⟩) hHeld ?_
        focus (have a1 := hSw.1.cell 0; have a2 := hSw.2.cell 0; simp only [List.getElem?_cons_zero] at a1 a2; clear hHeld; go_simp)
        try simp only [Act.put, pz0, pz1, pz2]
        refine wpAnyH_take (i := 3) (oi := ⟨some 42, _, _, _, _, _⟩) (v := .int .i64 (D : Nat)) rfl (by kernel_rfl) (by kernel_rfl) (by kernel_rfl) (fun _ _ _ h => h) (.inl ⟨by rfl, fun w' hSw => ?_⟩) hHeld ?_
        focus (have a1 := hSw.1.cell 0; have a2 := hSw.2.cell 0; simp only [List.getElem?_cons_zero] at a1 a2; clear hHeld; go_simp)
        try simp only [Act.put, pz0, pz1, pz2]
        refine wpAnyH_take (i := 4) (oi := ⟨some 43, _, _, _, _, _⟩) (v := .int .i64 ((D : Int) + 1)) rfl (by kernel_rfl) (by kernel_rfl) (by kernel_rfl) (fun _ _ _ h => h) (.inl ⟨by rfl, fun w' hSw => ?_⟩) hHeld ?_
        focus (skip; clear hHeld; go_simp; exact HDW.out)
        try simp only [Act.put, pz0, pz1, pz2]
        refine wpAnyH_ready (rs := [1, 5]) (by kernel_rfl) (by simp) ?_
        refine AllReadyH.cons (o := ⟨some 40, _, _, _, _, _⟩) rfl (fun K' hK' => ?_) (AllReadyH.cons (o := ⟨some 44, _, _, _, _, _⟩) rfl (fun K' hK' => ?_) AllReadyH.nil)
        · have x0 := HG7.out.cell 0
          have y0 := HG7.out.free 0
          have x1 := HG7.out.cell 1
          have y1 := HG7.out.free 1
          have x2 := HG7.out.cell 2
          have y2 := HG7.out.free 2
          have x3 := HG7.out.cell 3
          have y3 := HG7.out.free 3
          simp only [List.getElem?_cons_zero, List.getElem?_cons_succ] at x0 x1 x2 x3
          go_simp
          clear x0 y0 x1 y1 x2 y2 x3 y3
          refine hK'.out _ _ HB7.out (fun _ => ?_)
          clear hK' K' hHeld
          have hHeld := HB7.out
          try simp only [Act.put, pz0, pz1, pz2]
          refine wpAnyH_ready (rs := [5]) (by kernel_rfl) (by simp) ?_
          refine AllReadyH.cons (o := ⟨some 44, _, _, _, _, _⟩) rfl (fun K' hK' => ?_) AllReadyH.nil
          refine stepw_call (by rfl) ?_ HN7.out ?_
          focus go_simp
          rintro v w8 ⟨r8, s8, k8⟩
          have r8' : VE w7.heap.size (.mk mk mv mn ms) w8 v := r8
          obtain ⟨q4, c4, rfl, _, _⟩ := RdE.form r8
          unfold exv at r8' ⊢
          dsimp only [Ex.kind, Ex.via, Ex.nm, Ex.kids] at r8' ⊢
          have HR8 : Hid (rdEx (Bt w7.heap.size w8.heap.size) w8 (.mk mk mv mn ms) [.int .i64 mk, .string (bstr mv), .string (bstr mn), .slice q4 ms.length c4]) := ⟨_, _, _, _, rfl, r8'⟩
          clear r8'
          have HRW8 := hiD (HRW7.out.turn (w' := w8) k8.2.2.2.1 (fun b hb hl _ => k8.2.2.2.2 b hl (by have := HL.out; omega) (by have := HL.out; omega)))
          have HG8 := hiD (k8.arr HG7.out (by have := HL.out; omega) (by have := HL.out; omega))
          have HS8 := hiD s8
          have HK8 := hiD (HK7.out.trans k8)
          have HB8 := hiD (sK2 HB7.out k8 HL.out)
          clear s8 k8 r8
          refine hK'.out _ _ HB8.out (fun _ => ?_)
          clear hK' K' hHeld
          have hHeld := HB8.out
          try simp only [Act.put, pz0, pz1, pz2]
          refine wpAnyH_ready (rs := [6]) (by kernel_rfl) (by simp) ?_
          refine AllReadyH.cons (o := ⟨some 45, _, _, _, _, _⟩) rfl (fun K' hK' => ?_) AllReadyH.nil
          go_simp
          have hb9 : Below w8.heap.size w8 (w8.alloc (.cells #[.int .i64 mk, .string (bstr mv), .string (bstr mn), .slice q4 ms.length c4] 42)) := (Below.refl _ _).alloc (Nat.le_refl _) _
          have HRW9 := hiD (HRW8.out.later hb9)
          have HG9 := hiD (HG8.out.later hb9)
          have HS9 := hiD (HS8.out.later hb9)
          have HK9 := hiD (HK8.out.trans (K2.of hb9))
          have HB9 := hiD (sLater HB8.out hb9)
          have HE9 : Hid (Arr (w8.alloc (.cells #[.int .i64 mk, .string (bstr mv), .string (bstr mn), .slice q4 ms.length c4] 42)) 42 w8.heap.size [.int .i64 mk, .string (bstr mv), .string (bstr mn), .slice q4 ms.length c4]) := Arr.new' _ _ _ _ rfl
          have HR9 : Hid (kdEx.rd (SubX (W.heap.size + 3) (fun _ => False) (w8.alloc (.cells #[.int .i64 mk, .string (bstr mv), .string (bstr mn), .slice q4 ms.length c4] 42)) (.slice q acc.length cc)) (w8.alloc (.cells #[.int .i64 mk, .string (bstr mv), .string (bstr mn), .slice q4 ms.length c4] 42)) (.mk mk mv mn ms) [.int .i64 mk, .string (bstr mv), .string (bstr mn), .slice q4 ms.length c4]) := kdEx.imp (fun b hb => ⟨by have := HGL.out; have := hb.1; omega, Nat.lt_of_lt_of_le hb.2 hb9.size, fun e => by have h1 := (HBL.out b e.symm); have := hb.1; omega, fun h => h⟩) (kdEx.keep (fun b hb n => hb9.cell (p := ⟨b, n, none⟩) hb.2) HR8.out)
          clear hb9
          generalize w8.alloc (.cells #[.int .i64 mk, .string (bstr mv), .string (bstr mn), .slice q4 ms.length c4] 42) = w9 at HRW9 HG9 HS9 HK9 HE9 HR9 HB9 hK' ⊢
          refine hK'.out _ _ HB9.out (fun _ => ?_)
          clear hK' K' hHeld
          have hHeld := HB9.out
          try simp only [Act.put, pz0, pz1, pz2]
          refine wpAnyH_ready (rs := [7]) (by kernel_rfl) (by simp) ?_
          refine AllReadyH.cons (o := ⟨some 46, _, _, _, _, _⟩) rfl (fun K' hK' => ?_) AllReadyH.nil
          refine step_row (K := kdEx) rfl (.tmp 40) (.tmp 45) rfl rfl HRW9.out rfl HE9.out HR9.out HAC.out (by have := HGW.out; have := HG9.out.lt; omega) (fun b h => h.elim) ?_
          intro v10 w10 r10 g10 o10
          have HS10 := hiD (HS9.out.grown g10 (B := W.heap.size + 3) (by have := HL.out; omega) (by have := HGW.out; have := HG9.out.lt; omega) (fun k hk => (o10 k hk).1))
          have HK10 := hiD (HK9.out.grownR g10 (fun k hk => Nat.le_trans (by omega) (o10 k hk).1))
          have HG10 : Hid (Arr w10 42 (W.heap.size + 2) [.int .i64 3, .string ⟨#[]⟩, .string ⟨#[]⟩, .slice q acc.length cc]) := (g10.block _ HG9.out.lt (fun e => absurd (o10 _ e.symm).1 (by omega))).trans HG9.out
          have HB10 := hiD (sGrown HB9.out g10 (fun k hk => (o10 k hk).1) (by omega))
          have HRW10 := hiD r10
          obtain ⟨q10, c10, hv10⟩ := r10.form
          rw [List.length_append, List.length_singleton] at hv10
          subst hv10
          clear r10 g10 o10
          refine hK'.out _ _ HB10.out (fun _ => ?_)
          clear hK' K' hHeld
          have hHeld := HB10.out
          try simp only [Act.put, pz0, pz1, pz2]
          refine wpAnyH_take (i := 8) (oi := ⟨some 47, _, _, _, _, _⟩) (v := .pointer (some ⟨W.heap.size + 2, 3, none⟩)) rfl (by kernel_rfl) (by kernel_rfl) (by kernel_rfl) (fun _ _ _ h => h) (.inl ⟨by rfl, fun w' hSw => ?_⟩) hHeld ?_
          focus (skip; clear hHeld; go_simp)
          try simp only [Act.put, pz0, pz1, pz2]
          refine wpAnyH_ready (rs := [9]) (by kernel_rfl) (by simp) ?_
          refine AllReadyH.cons (o := ⟨none, _, _, _, _, _⟩) rfl (fun K' hK' => ?_) AllReadyH.nil
          obtain ⟨x0, y0, x1, y1, x2, y2, x3, y3⟩ := HG10.out.all4
          go_simp
          clear x0 y0 x1 y1 x2 y2 x3 y3
          have HB11 := hiD (sBox HB10.out (g := W.heap.size + 2) 3 (.slice q10 (acc.length + 1) c10) (by omega))
          refine hK'.out _ _ HB11.out (fun _ => ?_)
          clear hK' K' hHeld
          have hHeld := HB11.out
          try simp only [Act.put, pz0, pz1, pz2]
          have HG11 : Hid (Arr (w10.setCell ⟨W.heap.size + 2, 3, none⟩ (.slice q10 (acc.length + 1) c10)) 42 (W.heap.size + 2) [.int .i64 3, .string ⟨#[]⟩, .string ⟨#[]⟩, .slice q10 (acc.length + 1) c10]) := HG10.out.set 3 _
          have HRW11 := hiD (HRW10.out.box (g := W.heap.size + 2) (.inl (by omega)) 3 (.slice q10 (acc.length + 1) c10))
          have HS11 := hiD (HS10.out.box (g := W.heap.size + 2) (by have := HL.out; omega) 3 (.slice q10 (acc.length + 1) c10))
          have HK11 := hiD (HK10.out.box (g := W.heap.size + 2) (by omega) 3 (.slice q10 (acc.length + 1) c10))
          refine wpAnyH_done (by kernel_rfl) ?_ _
          refine NoPanic.normal ?_
          clear HRW10 HG10 HS10 HK10 HRW9 HG9 HS9 HK9 HE9 HR9 HRW8 HG8 HS8 HK8 HR8 HB10 HB9 HB8
          generalize (w10.setCell ⟨W.heap.size + 2, 3, none⟩ (.slice q10 (acc.length + 1) c10)) = w11 at HG11 HRW11 HS11 HK11 HB11 ⊢
          go_wp2_with fail
          go_roundw
          case rel => exact ⟨i + 1, acc ++ [Ex.mk mk mv mn ms], s4, lv4, q10, c10, HLT.out, by go_num, by rw [List.length_append, HLEN.out]; rfl, by rw [List.length_append]; exact HRW11.out, by rw [List.length_append]; exact HG11.out, HB11.out, HS11.out, HK11.out, HE7.out⟩
          case measure => first | exact meas HLT.out (Nat.le_trans HNN.out (by decide)) | exact meas' HLT.out
        · refine stepw_call (by rfl) ?_ HN7.out ?_
          focus go_simp
          rintro v w8 ⟨r8, s8, k8⟩
          have r8' : VE w7.heap.size (.mk mk mv mn ms) w8 v := r8
          obtain ⟨q4, c4, rfl, _, _⟩ := RdE.form r8
          unfold exv at r8' ⊢
          dsimp only [Ex.kind, Ex.via, Ex.nm, Ex.kids] at r8' ⊢
          have HR8 : Hid (rdEx (Bt w7.heap.size w8.heap.size) w8 (.mk mk mv mn ms) [.int .i64 mk, .string (bstr mv), .string (bstr mn), .slice q4 ms.length c4]) := ⟨_, _, _, _, rfl, r8'⟩
          clear r8'
          have HRW8 := hiD (HRW7.out.turn (w' := w8) k8.2.2.2.1 (fun b hb hl _ => k8.2.2.2.2 b hl (by have := HL.out; omega) (by have := HL.out; omega)))
          have HG8 := hiD (k8.arr HG7.out (by have := HL.out; omega) (by have := HL.out; omega))
          have HS8 := hiD s8
          have HK8 := hiD (HK7.out.trans k8)
          have HB8 := hiD (sK2 HB7.out k8 HL.out)
          clear s8 k8 r8
          refine hK'.out _ _ HB8.out (fun _ => ?_)
          clear hK' K' hHeld
          have hHeld := HB8.out
          try simp only [Act.put, pz0, pz1, pz2]
          refine wpAnyH_ready (rs := [1, 6]) (by kernel_rfl) (by simp) ?_
          refine AllReadyH.cons (o := ⟨some 40, _, _, _, _, _⟩) rfl (fun K' hK' => ?_) (AllReadyH.cons (o := ⟨some 45, _, _, _, _, _⟩) rfl (fun K' hK' => ?_) AllReadyH.nil)
          · have x0 := HG8.out.cell 0
            have y0 := HG8.out.free 0
            have x1 := HG8.out.cell 1
            have y1 := HG8.out.free 1
            have x2 := HG8.out.cell 2
            have y2 := HG8.out.free 2
            have x3 := HG8.out.cell 3
            have y3 := HG8.out.free 3
            simp only [List.getElem?_cons_zero, List.getElem?_cons_succ] at x0 x1 x2 x3
            go_simp
            clear x0 y0 x1 y1 x2 y2 x3 y3
            refine hK'.out _ _ HB8.out (fun _ => ?_)
            clear hK' K' hHeld
            have hHeld := HB8.out
            try simp only [Act.put, pz0, pz1, pz2]
            refine wpAnyH_ready (rs := [6]) (by kernel_rfl) (by simp) ?_
            refine AllReadyH.cons (o := ⟨some 45, _, _, _, _, _⟩) rfl (fun K' hK' => ?_) AllReadyH.nil
            go_simp
            have hb9 : Below w8.heap.size w8 (w8.alloc (.cells #[.int .i64 mk, .string (bstr mv), .string (bstr mn), .slice q4 ms.length c4] 42)) := (Below.refl _ _).alloc (Nat.le_refl _) _
            have HRW9 := hiD (HRW8.out.later hb9)
            have HG9 := hiD (HG8.out.later hb9)
            have HS9 := hiD (HS8.out.later hb9)
            have HK9 := hiD (HK8.out.trans (K2.of hb9))
            have HB9 := hiD (sLater HB8.out hb9)
            have HE9 : Hid (Arr (w8.alloc (.cells #[.int .i64 mk, .string (bstr mv), .string (bstr mn), .slice q4 ms.length c4] 42)) 42 w8.heap.size [.int .i64 mk, .string (bstr mv), .string (bstr mn), .slice q4 ms.length c4]) := Arr.new' _ _ _ _ rfl
            have HR9 : Hid (kdEx.rd (SubX (W.heap.size + 3) (fun _ => False) (w8.alloc (.cells #[.int .i64 mk, .string (bstr mv), .string (bstr mn), .slice q4 ms.length c4] 42)) (.slice q acc.length cc)) (w8.alloc (.cells #[.int .i64 mk, .string (bstr mv), .string (bstr mn), .slice q4 ms.length c4] 42)) (.mk mk mv mn ms) [.int .i64 mk, .string (bstr mv), .string (bstr mn), .slice q4 ms.length c4]) := kdEx.imp (fun b hb => ⟨by have := HGL.out; have := hb.1; omega, Nat.lt_of_lt_of_le hb.2 hb9.size, fun e => by have h1 := (HBL.out b e.symm); have := hb.1; omega, fun h => h⟩) (kdEx.keep (fun b hb n => hb9.cell (p := ⟨b, n, none⟩) hb.2) HR8.out)
            clear hb9
            generalize w8.alloc (.cells #[.int .i64 mk, .string (bstr mv), .string (bstr mn), .slice q4 ms.length c4] 42) = w9 at HRW9 HG9 HS9 HK9 HE9 HR9 HB9 hK' ⊢
            refine hK'.out _ _ HB9.out (fun _ => ?_)
            clear hK' K' hHeld
            have hHeld := HB9.out
            try simp only [Act.put, pz0, pz1, pz2]
            refine wpAnyH_ready (rs := [7]) (by kernel_rfl) (by simp) ?_
            refine AllReadyH.cons (o := ⟨some 46, _, _, _, _, _⟩) rfl (fun K' hK' => ?_) AllReadyH.nil
            refine step_row (K := kdEx) rfl (.tmp 40) (.tmp 45) rfl rfl HRW9.out rfl HE9.out HR9.out HAC.out (by have := HGW.out; have := HG9.out.lt; omega) (fun b h => h.elim) ?_
            intro v10 w10 r10 g10 o10
            have HS10 := hiD (HS9.out.grown g10 (B := W.heap.size + 3) (by have := HL.out; omega) (by have := HGW.out; have := HG9.out.lt; omega) (fun k hk => (o10 k hk).1))
            have HK10 := hiD (HK9.out.grownR g10 (fun k hk => Nat.le_trans (by omega) (o10 k hk).1))
            have HG10 : Hid (Arr w10 42 (W.heap.size + 2) [.int .i64 3, .string ⟨#[]⟩, .string ⟨#[]⟩, .slice q acc.length cc]) := (g10.block _ HG9.out.lt (fun e => absurd (o10 _ e.symm).1 (by omega))).trans HG9.out
            have HB10 := hiD (sGrown HB9.out g10 (fun k hk => (o10 k hk).1) (by omega))
            have HRW10 := hiD r10
            obtain ⟨q10, c10, hv10⟩ := r10.form
            rw [List.length_append, List.length_singleton] at hv10
            subst hv10
            clear r10 g10 o10
            refine hK'.out _ _ HB10.out (fun _ => ?_)
            clear hK' K' hHeld
            have hHeld := HB10.out
            try simp only [Act.put, pz0, pz1, pz2]
            refine wpAnyH_take (i := 8) (oi := ⟨some 47, _, _, _, _, _⟩) (v := .pointer (some ⟨W.heap.size + 2, 3, none⟩)) rfl (by kernel_rfl) (by kernel_rfl) (by kernel_rfl) (fun _ _ _ h => h) (.inl ⟨by rfl, fun w' hSw => ?_⟩) hHeld ?_
            focus (skip; clear hHeld; go_simp)
            try simp only [Act.put, pz0, pz1, pz2]
            refine wpAnyH_ready (rs := [9]) (by kernel_rfl) (by simp) ?_
            refine AllReadyH.cons (o := ⟨none, _, _, _, _, _⟩) rfl (fun K' hK' => ?_) AllReadyH.nil
            obtain ⟨x0, y0, x1, y1, x2, y2, x3, y3⟩ := HG10.out.all4
            go_simp
            clear x0 y0 x1 y1 x2 y2 x3 y3
            have HB11 := hiD (sBox HB10.out (g := W.heap.size + 2) 3 (.slice q10 (acc.length + 1) c10) (by omega))
            refine hK'.out _ _ HB11.out (fun _ => ?_)
            clear hK' K' hHeld
            have hHeld := HB11.out
            try simp only [Act.put, pz0, pz1, pz2]
            have HG11 : Hid (Arr (w10.setCell ⟨W.heap.size + 2, 3, none⟩ (.slice q10 (acc.length + 1) c10)) 42 (W.heap.size + 2) [.int .i64 3, .string ⟨#[]⟩, .string ⟨#[]⟩, .slice q10 (acc.length + 1) c10]) := HG10.out.set 3 _
            have HRW11 := hiD (HRW10.out.box (g := W.heap.size + 2) (.inl (by omega)) 3 (.slice q10 (acc.length + 1) c10))
            have HS11 := hiD (HS10.out.box (g := W.heap.size + 2) (by have := HL.out; omega) 3 (.slice q10 (acc.length + 1) c10))
            have HK11 := hiD (HK10.out.box (g := W.heap.size + 2) (by omega) 3 (.slice q10 (acc.length + 1) c10))
            refine wpAnyH_done (by kernel_rfl) ?_ _
            refine NoPanic.normal ?_
            clear HRW10 HG10 HS10 HK10 HRW9 HG9 HS9 HK9 HE9 HR9 HRW8 HG8 HS8 HK8 HR8 HB10 HB9 HB8
            generalize (w10.setCell ⟨W.heap.size + 2, 3, none⟩ (.slice q10 (acc.length + 1) c10)) = w11 at HG11 HRW11 HS11 HK11 HB11 ⊢
            go_wp2_with fail
            go_roundw
            case rel => exact ⟨i + 1, acc ++ [Ex.mk mk mv mn ms], s4, lv4, q10, c10, HLT.out, by go_num, by rw [List.length_append, HLEN.out]; rfl, by rw [List.length_append]; exact HRW11.out, by rw [List.length_append]; exact HG11.out, HB11.out, HS11.out, HK11.out, HE7.out⟩
            case measure => first | exact meas HLT.out (Nat.le_trans HNN.out (by decide)) | exact meas' HLT.out
          · go_simp
            have hb9 : Below w8.heap.size w8 (w8.alloc (.cells #[.int .i64 mk, .string (bstr mv), .string (bstr mn), .slice q4 ms.length c4] 42)) := (Below.refl _ _).alloc (Nat.le_refl _) _
            have HRW9 := hiD (HRW8.out.later hb9)
            have HG9 := hiD (HG8.out.later hb9)
            have HS9 := hiD (HS8.out.later hb9)
            have HK9 := hiD (HK8.out.trans (K2.of hb9))
            have HB9 := hiD (sLater HB8.out hb9)
            have HE9 : Hid (Arr (w8.alloc (.cells #[.int .i64 mk, .string (bstr mv), .string (bstr mn), .slice q4 ms.length c4] 42)) 42 w8.heap.size [.int .i64 mk, .string (bstr mv), .string (bstr mn), .slice q4 ms.length c4]) := Arr.new' _ _ _ _ rfl
            have HR9 : Hid (kdEx.rd (SubX (W.heap.size + 3) (fun _ => False) (w8.alloc (.cells #[.int .i64 mk, .string (bstr mv), .string (bstr mn), .slice q4 ms.length c4] 42)) (.slice q acc.length cc)) (w8.alloc (.cells #[.int .i64 mk, .string (bstr mv), .string (bstr mn), .slice q4 ms.length c4] 42)) (.mk mk mv mn ms) [.int .i64 mk, .string (bstr mv), .string (bstr mn), .slice q4 ms.length c4]) := kdEx.imp (fun b hb => ⟨by have := HGL.out; have := hb.1; omega, Nat.lt_of_lt_of_le hb.2 hb9.size, fun e => by have h1 := (HBL.out b e.symm); have := hb.1; omega, fun h => h⟩) (kdEx.keep (fun b hb n => hb9.cell (p := ⟨b, n, none⟩) hb.2) HR8.out)
            clear hb9
            generalize w8.alloc (.cells #[.int .i64 mk, .string (bstr mv), .string (bstr mn), .slice q4 ms.length c4] 42) = w9 at HRW9 HG9 HS9 HK9 HE9 HR9 HB9 hK' ⊢
            refine hK'.out _ _ HB9.out (fun _ => ?_)
            clear hK' K' hHeld
            have hHeld := HB9.out
            try simp only [Act.put, pz0, pz1, pz2]
            refine wpAnyH_ready (rs := [1]) (by kernel_rfl) (by simp) ?_
            refine AllReadyH.cons (o := ⟨some 40, _, _, _, _, _⟩) rfl (fun K' hK' => ?_) AllReadyH.nil
            obtain ⟨x0, y0, x1, y1, x2, y2, x3, y3⟩ := HG9.out.all4
            go_simp
            clear x0 y0 x1 y1 x2 y2 x3 y3
            refine hK'.out _ _ HB9.out (fun _ => ?_)
            clear hK' K' hHeld
            have hHeld := HB9.out
            try simp only [Act.put, pz0, pz1, pz2]
            refine wpAnyH_ready (rs := [7]) (by kernel_rfl) (by simp) ?_
            refine AllReadyH.cons (o := ⟨some 46, _, _, _, _, _⟩) rfl (fun K' hK' => ?_) AllReadyH.nil
            refine step_row (K := kdEx) rfl (.tmp 40) (.tmp 45) rfl rfl HRW9.out rfl HE9.out HR9.out HAC.out (by have := HGW.out; have := HG9.out.lt; omega) (fun b h => h.elim) ?_
            intro v10 w10 r10 g10 o10
            have HS10 := hiD (HS9.out.grown g10 (B := W.heap.size + 3) (by have := HL.out; omega) (by have := HGW.out; have := HG9.out.lt; omega) (fun k hk => (o10 k hk).1))
            have HK10 := hiD (HK9.out.grownR g10 (fun k hk => Nat.le_trans (by omega) (o10 k hk).1))
            have HG10 : Hid (Arr w10 42 (W.heap.size + 2) [.int .i64 3, .string ⟨#[]⟩, .string ⟨#[]⟩, .slice q acc.length cc]) := (g10.block _ HG9.out.lt (fun e => absurd (o10 _ e.symm).1 (by omega))).trans HG9.out
            have HB10 := hiD (sGrown HB9.out g10 (fun k hk => (o10 k hk).1) (by omega))
            have HRW10 := hiD r10
            obtain ⟨q10, c10, hv10⟩ := r10.form
            rw [List.length_append, List.length_singleton] at hv10
            subst hv10
            clear r10 g10 o10
            refine hK'.out _ _ HB10.out (fun _ => ?_)
            clear hK' K' hHeld
            have hHeld := HB10.out
            try simp only [Act.put, pz0, pz1, pz2]
            refine wpAnyH_take (i := 8) (oi := ⟨some 47, _, _, _, _, _⟩) (v := .pointer (some ⟨W.heap.size + 2, 3, none⟩)) rfl (by kernel_rfl) (by kernel_rfl) (by kernel_rfl) (fun _ _ _ h => h) (.inl ⟨by rfl, fun w' hSw => ?_⟩) hHeld ?_
            focus (skip; clear hHeld; go_simp)
            try simp only [Act.put, pz0, pz1, pz2]
            refine wpAnyH_ready (rs := [9]) (by kernel_rfl) (by simp) ?_
            refine AllReadyH.cons (o := ⟨none, _, _, _, _, _⟩) rfl (fun K' hK' => ?_) AllReadyH.nil
            obtain ⟨x0, y0, x1, y1, x2, y2, x3, y3⟩ := HG10.out.all4
            go_simp
            clear x0 y0 x1 y1 x2 y2 x3 y3
            have HB11 := hiD (sBox HB10.out (g := W.heap.size + 2) 3 (.slice q10 (acc.length + 1) c10) (by omega))
            refine hK'.out _ _ HB11.out (fun _ => ?_)
            clear hK' K' hHeld
            have hHeld := HB11.out
            try simp only [Act.put, pz0, pz1, pz2]
            have HG11 : Hid (Arr (w10.setCell ⟨W.heap.size + 2, 3, none⟩ (.slice q10 (acc.length + 1) c10)) 42 (W.heap.size + 2) [.int .i64 3, .string ⟨#[]⟩, .string ⟨#[]⟩, .slice q10 (acc.length + 1) c10]) := HG10.out.set 3 _
            have HRW11 := hiD (HRW10.out.box (g := W.heap.size + 2) (.inl (by omega)) 3 (.slice q10 (acc.length + 1) c10))
            have HS11 := hiD (HS10.out.box (g := W.heap.size + 2) (by have := HL.out; omega) 3 (.slice q10 (acc.length + 1) c10))
            have HK11 := hiD (HK10.out.box (g := W.heap.size + 2) (by omega) 3 (.slice q10 (acc.length + 1) c10))
            refine wpAnyH_done (by kernel_rfl) ?_ _
            refine NoPanic.normal ?_
            clear HRW10 HG10 HS10 HK10 HRW9 HG9 HS9 HK9 HE9 HR9 HRW8 HG8 HS8 HK8 HR8 HB10 HB9 HB8
            generalize (w10.setCell ⟨W.heap.size + 2, 3, none⟩ (.slice q10 (acc.length + 1) c10)) = w11 at HG11 HRW11 HS11 HK11 HB11 ⊢
            go_wp2_with fail
            go_roundw
            case rel => exact ⟨i + 1, acc ++ [Ex.mk mk mv mn ms], s4, lv4, q10, c10, HLT.out, by go_num, by rw [List.length_append, HLEN.out]; rfl, by rw [List.length_append]; exact HRW11.out, by rw [List.length_append]; exact HG11.out, HB11.out, HS11.out, HK11.out, HE7.out⟩
            case measure => first | exact meas HLT.out (Nat.le_trans HNN.out (by decide)) | exact meas' HLT.out
      · have hlt' : ¬ (i : Int) < n := by omega
        have HE7 : Hid (partC b (d + 1) s lv = (.mk 3 [] [] acc, s2, lv2)) := by
          show _ = _
          rw [HE6.out, show n - i = 0 by omega]; rfl
        have HGZ := HG6
        obtain ⟨x0, y0, x1, y1, x2, y2, x3, y3⟩ := HGZ.out.all4
        go_wp2_with fail
        have hk := kp_set4 wr (W.heap.size + 2) (.int .i64 3) (.string ⟨#[]⟩) (.string ⟨#[]⟩) (.slice q acc.length cc)
        have hA := HGZ.out.set4x (.int .i64 3) (.string ⟨#[]⟩) (.string ⟨#[]⟩) (.slice q acc.length cc)
        refine bodyPost_ret (resX rfl hA rfl) rfl ?_
        rw [HE7.out]
        exact ⟨_, rfl, (VE.kp (HRW6.out.rdE 3 [] []) hk (Nat.lt_succ_self _)).low (by omega), RS.box (RS.box (RS.box (RS.box HS6.out (by have := HL.out; omega) _ _) (by have := HL.out; omega) _ _) (by have := HL.out; omega) _ _) (by have := HL.out; omega) _ _, K2.box (K2.box (K2.box (K2.box HK6.out (by omega) _ _) (by omega) _ _) (by omega) _ _) (by omega) _ _⟩
  · clear HLF
    obtain ⟨x0, y0, x1, y1, x2, y2, x3, y3⟩ := HG1.out.all4
    go_upto_region 12 with (fail)
    clear x0 y0 x1 y1 x2 y2 x3 y3
    have HG2 : Hid (Arr (w1.setCell ⟨W.heap.size + 2, 0, none⟩ (.int .i64 4)) 42 (W.heap.size + 2) [.int .i64 4, .string ⟨#[]⟩, .string ⟨#[]⟩, .slice none 0 0]) := HG1.out.set 0 _
    have HS2 := hiD (HS1.out.box (g := W.heap.size + 2) (by have := HL.out; omega) 0 (.int .i64 4))
    have HK2 := hiD (HK1.out.box (g := W.heap.size + 2) (by omega) 0 (.int .i64 4))
    have HB2 := hiD (sBox HB1.out (g := W.heap.size + 2) 0 (.int .i64 4) (by omega))
    clear HG1 HS1 HK1 HB1
    generalize w1.setCell ⟨W.heap.size + 2, 0, none⟩ (.int .i64 4) = w2 at HG2 HS2 HK2 HB2 ⊢
    obtain ⟨n, hn⟩ : ∃ x, x = (numC b (chkC 2 32) s1).1 := ⟨_, rfl⟩
    obtain ⟨s3, hs3⟩ : ∃ x, x = (numC b (chkC 2 32) s1).2 := ⟨_, rfl⟩
    have HNN : Hid (n ≤ 32) := by rw [hn]; exact numC_le (fun x hx => (chkC_0 hx).2) s1
    have HN3 := hiD (cCount_any 2 32 HS2.out (by decide))
    rw [← hn, ← hs3] at HN3
    have HE3 : Hid (partC b (d + 1) s lv = (.mk 4 [] [] (loopC (partC b d) (n - 0) [] s3 lv).1, (loopC (partC b d) (n - 0) [] s3 lv).2)) := by
      show _ = _
      rw [HE.out, hn, hs3, Nat.sub_zero]; rfl
    clear hn hs3 HE
    have b0 := HB2.out.1.cell 0
    simp only [List.getElem?_cons_zero] at b0
    go_wp2_with fail
    refine HN3.out.mono ?_
    rintro e w3 ⟨rfl, h3, k3⟩
    have HS3 := hiD h3
    have HK3 := hiD (HK2.out.trans k3)
    have HB3 := hiD (sK2 HB2.out k3 HL.out)
    have HG3 := hiD (k3.arr HG2.out (by have := HL.out; omega) (by have := HL.out; omega))
    clear h3 k3 HK2 HB2 HG2 HS2
    clear HN3 b0
    go_upto_region 14 with (fail)
    go_wp2_with fail
    go_loopw [37] (fun iv wr => ∃ (i : Nat) (acc : List Ex) (s2 : St) (lv2 : Nat) (q : Option Addr) (cc : Nat), i ≤ n ∧ iv = .int .i64 (i : Nat) ∧ Hid (acc.length = i) ∧ Hid (PRow kdEx (W.heap.size + 3) (fun _ => False) wr (.slice q acc.length cc) acc) ∧ Hid (Arr wr 42 (W.heap.size + 2) [.int .i64 4, .string ⟨#[]⟩, .string ⟨#[]⟩, .slice q acc.length cc]) ∧ Hid (SB W.heap.size rb D wr) ∧ Hid (RS cb rb b lv2 s2 wr) ∧ Hid (K2 cb rb W wr) ∧ Hid (partC b (d + 1) s lv = (.mk 4 [] [] (loopC (partC b d) (n - i) acc s2 lv2).1, (loopC (partC b d) (n - i) acc s2 lv2).2))) (fun iv _ => n - (intOf iv).toNat)
    case atStart => exact ⟨0, [], s3, lv, none, 0, Nat.zero_le _, rfl, rfl, PRow.nil _ _ _ _, HG3.out, HB3.out, HS3.out, HK3.out, HE3.out⟩
    case round =>
      obtain ⟨i, acc, s2, lv2, q, cc, hi, rfl, HLEN, HRW6, HG6, HB6, HS6, HK6, HE6⟩ := hrel
      by_cases hlt : i < n
      · have hlt' : (i : Int) < n := by omega
        have hw : wrap64 ((i : Int) + 1) = (i : Int) + 1 := by unfold wrap64; have := HNN.out; omega
        have HLT : Hid (i < n) := hlt
        obtain ⟨x, hx⟩ : ∃ x, x = (partC b d s2 lv2).1 := ⟨_, rfl⟩
        obtain ⟨s4, hs4⟩ : ∃ x, x = (partC b d s2 lv2).2.1 := ⟨_, rfl⟩
        obtain ⟨lv4, hl4⟩ : ∃ x, x = (partC b d s2 lv2).2.2 := ⟨_, rfl⟩
        obtain ⟨mk, mv, mn, ms⟩ := x
        have HE7 : Hid (partC b (d + 1) s lv = (.mk 4 [] [] (loopC (partC b d) (n - (i + 1)) (acc ++ [.mk mk mv mn ms]) s4 lv4).1, (loopC (partC b d) (n - (i + 1)) (acc ++ [.mk mk mv mn ms]) s4 lv4).2)) := by
          show _ = _
          rw [HE6.out, show n - i = (n - (i + 1)) + 1 by omega, loopC, ← hx, ← hs4, ← hl4]
        have HCT : Hid (∀ w7, RS cb rb b lv2 s2 w7 → Calls Tryz.prog 67 #[.pointer (some ⟨rb, 0, none⟩), .int .i64 ((D : Int) + 1)] w7 fun e w' => ∃ v, e = .returned v ∧ (VE w7.heap.size (.mk mk mv mn ms) w' v ∧ RS cb rb b lv4 s4 w' ∧ K2 cb rb w7 w')) := fun w7 hw7 => by
          have h := IH.out w7 s2 lv2 hw7
          unfold PPost at h
          rw [← hx, ← hs4, ← hl4] at h
          exact h
        have HAC : Hid (acc.length + 1 ≤ 200000) := by show _ ≤ _; have := HNN.out; have := HLEN.out; omega
        have HGW : Hid (W.heap.size + 2 < W.heap.size + 3) := Nat.lt_succ_self _
        clear HE6 hx hs4 hl4 hlt IH
        go_upto_region 16 with (fail)
        generalize hwr : wr = w6 at HRW6 HG6 HB6 HS6 HK6 ⊢
        clear hwr
        refine wp_region_noPanic ?_
        refine wp_region_held_drew (S := fun W' => SB W.heap.size rb D W') (by kernel_rfl) (sDrew HB6.out) (fun hHeld => ?_)
        try simp only [Act.put]
        have hb7 : Below w6.heap.size w6 w6.drew := (Below.refl _ _).drew
        have HRW7 := hiD (HRW6.out.later hb7)
        have HG7 := hiD (HG6.out.later hb7)
        have HS7 := hiD (HS6.out.later hb7)
        have HK7 := hiD (HK6.out.trans (K2.of hb7))
        have HB7 := hiD (sLater HB6.out hb7)
        clear hb7
        generalize w6.drew = w7 at HRW7 HG7 HS7 HK7 HB7 hHeld ⊢
        have HN7 := hiD (HCT.out w7 HS7.out)
        have HGL : Hid (W.heap.size + 3 ≤ w7.heap.size) := by show _ ≤ _; have := HG7.out.lt; omega
        have HBL : Hid (∀ b, (Value.slice q acc.length cc).ownBlock = some b → b < w7.heap.size) := fun b hb => by obtain ⟨_, h, _⟩ := HRW7.out; exact (h.lt b hb).2
        refine wpAnyH_take (i := 0) (oi := ⟨some 39, _, _, _, _, _⟩) (v := .pointer (some ⟨W.heap.size + 2, 3, none⟩)) rfl (by kernel_rfl) (by kernel_rfl) (by kernel_rfl) (fun _ _ _ h => h) (.inl ⟨by rfl, fun w' hSw => ?_⟩) hHeld ?_
        focus (skip; clear hHeld; go_simp)
        try simp only [Act.put, pz0, pz1, pz2]
        refine wpAnyH_take (i := 2) (oi := ⟨some 41, _, _, _, _, _⟩) (v := .pointer (some ⟨rb, 0, none⟩)) rfl (by kernel_rfl) (by kernel_rfl) (by kernel_rfl) (fun _ _ _ h => h) (.inl ⟨by rfl, fun w' hSw => ?_⟩) hHeld ?_
        focus (have a1 := hSw.1.cell 0; have a2 := hSw.2.cell 0; simp only [List.getElem?_cons_zero] at a1 a2; clear hHeld; go_simp)
        try simp only [Act.put, pz0, pz1, pz2]
        refine wpAnyH_take (i := 3) (oi := ⟨some 42, _, _, _, _, _⟩) (v := .int .i64 (D : Nat)) rfl (by kernel_rfl) (by kernel_rfl) (by kernel_rfl) (fun _ _ _ h => h) (.inl ⟨by rfl, fun w' hSw => ?_⟩) hHeld ?_
        focus (have a1 := hSw.1.cell 0; have a2 := hSw.2.cell 0; simp only [List.getElem?_cons_zero] at a1 a2; clear hHeld; go_simp)
        try simp only [Act.put, pz0, pz1, pz2]
        refine wpAnyH_take (i := 4) (oi := ⟨some 43, _, _, _, _, _⟩) (v := .int .i64 ((D : Int) + 1)) rfl (by kernel_rfl) (by kernel_rfl) (by kernel_rfl) (fun _ _ _ h => h) (.inl ⟨by rfl, fun w' hSw => ?_⟩) hHeld ?_
        focus (skip; clear hHeld; go_simp; exact HDW.out)
        try simp only [Act.put, pz0, pz1, pz2]
        refine wpAnyH_ready (rs := [1, 5]) (by kernel_rfl) (by simp) ?_
        refine AllReadyH.cons (o := ⟨some 40, _, _, _, _, _⟩) rfl (fun K' hK' => ?_) (AllReadyH.cons (o := ⟨some 44, _, _, _, _, _⟩) rfl (fun K' hK' => ?_) AllReadyH.nil)
        · have x0 := HG7.out.cell 0
          have y0 := HG7.out.free 0
          have x1 := HG7.out.cell 1
          have y1 := HG7.out.free 1
          have x2 := HG7.out.cell 2
          have y2 := HG7.out.free 2
          have x3 := HG7.out.cell 3
          have y3 := HG7.out.free 3
          simp only [List.getElem?_cons_zero, List.getElem?_cons_succ] at x0 x1 x2 x3
          go_simp
          clear x0 y0 x1 y1 x2 y2 x3 y3
          refine hK'.out _ _ HB7.out (fun _ => ?_)
          clear hK' K' hHeld
          have hHeld := HB7.out
          try simp only [Act.put, pz0, pz1, pz2]
          refine wpAnyH_ready (rs := [5]) (by kernel_rfl) (by simp) ?_
          refine AllReadyH.cons (o := ⟨some 44, _, _, _, _, _⟩) rfl (fun K' hK' => ?_) AllReadyH.nil
          refine stepw_call (by rfl) ?_ HN7.out ?_
          focus go_simp
          rintro v w8 ⟨r8, s8, k8⟩
          have r8' : VE w7.heap.size (.mk mk mv mn ms) w8 v := r8
          obtain ⟨q4, c4, rfl, _, _⟩ := RdE.form r8
          unfold exv at r8' ⊢
          dsimp only [Ex.kind, Ex.via, Ex.nm, Ex.kids] at r8' ⊢
          have HR8 : Hid (rdEx (Bt w7.heap.size w8.heap.size) w8 (.mk mk mv mn ms) [.int .i64 mk, .string (bstr mv), .string (bstr mn), .slice q4 ms.length c4]) := ⟨_, _, _, _, rfl, r8'⟩
          clear r8'
          have HRW8 := hiD (HRW7.out.turn (w' := w8) k8.2.2.2.1 (fun b hb hl _ => k8.2.2.2.2 b hl (by have := HL.out; omega) (by have := HL.out; omega)))
          have HG8 := hiD (k8.arr HG7.out (by have := HL.out; omega) (by have := HL.out; omega))
          have HS8 := hiD s8
          have HK8 := hiD (HK7.out.trans k8)
          have HB8 := hiD (sK2 HB7.out k8 HL.out)
          clear s8 k8 r8
          refine hK'.out _ _ HB8.out (fun _ => ?_)
          clear hK' K' hHeld
          have hHeld := HB8.out
          try simp only [Act.put, pz0, pz1, pz2]
          refine wpAnyH_ready (rs := [6]) (by kernel_rfl) (by simp) ?_
          refine AllReadyH.cons (o := ⟨some 45, _, _, _, _, _⟩) rfl (fun K' hK' => ?_) AllReadyH.nil
          go_simp
          have hb9 : Below w8.heap.size w8 (w8.alloc (.cells #[.int .i64 mk, .string (bstr mv), .string (bstr mn), .slice q4 ms.length c4] 42)) := (Below.refl _ _).alloc (Nat.le_refl _) _
          have HRW9 := hiD (HRW8.out.later hb9)
          have HG9 := hiD (HG8.out.later hb9)
          have HS9 := hiD (HS8.out.later hb9)
          have HK9 := hiD (HK8.out.trans (K2.of hb9))
          have HB9 := hiD (sLater HB8.out hb9)
          have HE9 : Hid (Arr (w8.alloc (.cells #[.int .i64 mk, .string (bstr mv), .string (bstr mn), .slice q4 ms.length c4] 42)) 42 w8.heap.size [.int .i64 mk, .string (bstr mv), .string (bstr mn), .slice q4 ms.length c4]) := Arr.new' _ _ _ _ rfl
          have HR9 : Hid (kdEx.rd (SubX (W.heap.size + 3) (fun _ => False) (w8.alloc (.cells #[.int .i64 mk, .string (bstr mv), .string (bstr mn), .slice q4 ms.length c4] 42)) (.slice q acc.length cc)) (w8.alloc (.cells #[.int .i64 mk, .string (bstr mv), .string (bstr mn), .slice q4 ms.length c4] 42)) (.mk mk mv mn ms) [.int .i64 mk, .string (bstr mv), .string (bstr mn), .slice q4 ms.length c4]) := kdEx.imp (fun b hb => ⟨by have := HGL.out; have := hb.1; omega, Nat.lt_of_lt_of_le hb.2 hb9.size, fun e => by have h1 := (HBL.out b e.symm); have := hb.1; omega, fun h => h⟩) (kdEx.keep (fun b hb n => hb9.cell (p := ⟨b, n, none⟩) hb.2) HR8.out)
          clear hb9
          generalize w8.alloc (.cells #[.int .i64 mk, .string (bstr mv), .string (bstr mn), .slice q4 ms.length c4] 42) = w9 at HRW9 HG9 HS9 HK9 HE9 HR9 HB9 hK' ⊢
          refine hK'.out _ _ HB9.out (fun _ => ?_)
          clear hK' K' hHeld
          have hHeld := HB9.out
          try simp only [Act.put, pz0, pz1, pz2]
          refine wpAnyH_ready (rs := [7]) (by kernel_rfl) (by simp) ?_
          refine AllReadyH.cons (o := ⟨some 46, _, _, _, _, _⟩) rfl (fun K' hK' => ?_) AllReadyH.nil
          refine step_row (K := kdEx) rfl (.tmp 40) (.tmp 45) rfl rfl HRW9.out rfl HE9.out HR9.out HAC.out (by have := HGW.out; have := HG9.out.lt; omega) (fun b h => h.elim) ?_
          intro v10 w10 r10 g10 o10
          have HS10 := hiD (HS9.out.grown g10 (B := W.heap.size + 3) (by have := HL.out; omega) (by have := HGW.out; have := HG9.out.lt; omega) (fun k hk => (o10 k hk).1))
          have HK10 := hiD (HK9.out.grownR g10 (fun k hk => Nat.le_trans (by omega) (o10 k hk).1))
          have HG10 : Hid (Arr w10 42 (W.heap.size + 2) [.int .i64 4, .string ⟨#[]⟩, .string ⟨#[]⟩, .slice q acc.length cc]) := (g10.block _ HG9.out.lt (fun e => absurd (o10 _ e.symm).1 (by omega))).trans HG9.out
          have HB10 := hiD (sGrown HB9.out g10 (fun k hk => (o10 k hk).1) (by omega))
          have HRW10 := hiD r10
          obtain ⟨q10, c10, hv10⟩ := r10.form
          rw [List.length_append, List.length_singleton] at hv10
          subst hv10
          clear r10 g10 o10
          refine hK'.out _ _ HB10.out (fun _ => ?_)
          clear hK' K' hHeld
          have hHeld := HB10.out
          try simp only [Act.put, pz0, pz1, pz2]
          refine wpAnyH_take (i := 8) (oi := ⟨some 47, _, _, _, _, _⟩) (v := .pointer (some ⟨W.heap.size + 2, 3, none⟩)) rfl (by kernel_rfl) (by kernel_rfl) (by kernel_rfl) (fun _ _ _ h => h) (.inl ⟨by rfl, fun w' hSw => ?_⟩) hHeld ?_
          focus (skip; clear hHeld; go_simp)
          try simp only [Act.put, pz0, pz1, pz2]
          refine wpAnyH_ready (rs := [9]) (by kernel_rfl) (by simp) ?_
          refine AllReadyH.cons (o := ⟨none, _, _, _, _, _⟩) rfl (fun K' hK' => ?_) AllReadyH.nil
          obtain ⟨x0, y0, x1, y1, x2, y2, x3, y3⟩ := HG10.out.all4
          go_simp
          clear x0 y0 x1 y1 x2 y2 x3 y3
          have HB11 := hiD (sBox HB10.out (g := W.heap.size + 2) 3 (.slice q10 (acc.length + 1) c10) (by omega))
          refine hK'.out _ _ HB11.out (fun _ => ?_)
          clear hK' K' hHeld
          have hHeld := HB11.out
          try simp only [Act.put, pz0, pz1, pz2]
          have HG11 : Hid (Arr (w10.setCell ⟨W.heap.size + 2, 3, none⟩ (.slice q10 (acc.length + 1) c10)) 42 (W.heap.size + 2) [.int .i64 4, .string ⟨#[]⟩, .string ⟨#[]⟩, .slice q10 (acc.length + 1) c10]) := HG10.out.set 3 _
          have HRW11 := hiD (HRW10.out.box (g := W.heap.size + 2) (.inl (by omega)) 3 (.slice q10 (acc.length + 1) c10))
          have HS11 := hiD (HS10.out.box (g := W.heap.size + 2) (by have := HL.out; omega) 3 (.slice q10 (acc.length + 1) c10))
          have HK11 := hiD (HK10.out.box (g := W.heap.size + 2) (by omega) 3 (.slice q10 (acc.length + 1) c10))
          refine wpAnyH_done (by kernel_rfl) ?_ _
          refine NoPanic.normal ?_
          clear HRW10 HG10 HS10 HK10 HRW9 HG9 HS9 HK9 HE9 HR9 HRW8 HG8 HS8 HK8 HR8 HB10 HB9 HB8
          generalize (w10.setCell ⟨W.heap.size + 2, 3, none⟩ (.slice q10 (acc.length + 1) c10)) = w11 at HG11 HRW11 HS11 HK11 HB11 ⊢
          go_wp2_with fail
          go_roundw
          case rel => exact ⟨i + 1, acc ++ [Ex.mk mk mv mn ms], s4, lv4, q10, c10, HLT.out, by go_num, by rw [List.length_append, HLEN.out]; rfl, by rw [List.length_append]; exact HRW11.out, by rw [List.length_append]; exact HG11.out, HB11.out, HS11.out, HK11.out, HE7.out⟩
          case measure => first | exact meas HLT.out (Nat.le_trans HNN.out (by decide)) | exact meas' HLT.out
        · refine stepw_call (by rfl) ?_ HN7.out ?_
          focus go_simp
          rintro v w8 ⟨r8, s8, k8⟩
          have r8' : VE w7.heap.size (.mk mk mv mn ms) w8 v := r8
          obtain ⟨q4, c4, rfl, _, _⟩ := RdE.form r8
          unfold exv at r8' ⊢
          dsimp only [Ex.kind, Ex.via, Ex.nm, Ex.kids] at r8' ⊢
          have HR8 : Hid (rdEx (Bt w7.heap.size w8.heap.size) w8 (.mk mk mv mn ms) [.int .i64 mk, .string (bstr mv), .string (bstr mn), .slice q4 ms.length c4]) := ⟨_, _, _, _, rfl, r8'⟩
          clear r8'
          have HRW8 := hiD (HRW7.out.turn (w' := w8) k8.2.2.2.1 (fun b hb hl _ => k8.2.2.2.2 b hl (by have := HL.out; omega) (by have := HL.out; omega)))
          have HG8 := hiD (k8.arr HG7.out (by have := HL.out; omega) (by have := HL.out; omega))
          have HS8 := hiD s8
          have HK8 := hiD (HK7.out.trans k8)
          have HB8 := hiD (sK2 HB7.out k8 HL.out)
          clear s8 k8 r8
          refine hK'.out _ _ HB8.out (fun _ => ?_)
          clear hK' K' hHeld
          have hHeld := HB8.out
          try simp only [Act.put, pz0, pz1, pz2]
          refine wpAnyH_ready (rs := [1, 6]) (by kernel_rfl) (by simp) ?_
          refine AllReadyH.cons (o := ⟨some 40, _, _, _, _, _⟩) rfl (fun K' hK' => ?_) (AllReadyH.cons (o := ⟨some 45, _, _, _, _, _⟩) rfl (fun K' hK' => ?_) AllReadyH.nil)
          · have x0 := HG8.out.cell 0
            have y0 := HG8.out.free 0
            have x1 := HG8.out.cell 1
            have y1 := HG8.out.free 1
            have x2 := HG8.out.cell 2
            have y2 := HG8.out.free 2
            have x3 := HG8.out.cell 3
            have y3 := HG8.out.free 3
            simp only [List.getElem?_cons_zero, List.getElem?_cons_succ] at x0 x1 x2 x3
            go_simp
            clear x0 y0 x1 y1 x2 y2 x3 y3
            refine hK'.out _ _ HB8.out (fun _ => ?_)
            clear hK' K' hHeld
            have hHeld := HB8.out
            try simp only [Act.put, pz0, pz1, pz2]
            refine wpAnyH_ready (rs := [6]) (by kernel_rfl) (by simp) ?_
            refine AllReadyH.cons (o := ⟨some 45, _, _, _, _, _⟩) rfl (fun K' hK' => ?_) AllReadyH.nil
            go_simp
            have hb9 : Below w8.heap.size w8 (w8.alloc (.cells #[.int .i64 mk, .string (bstr mv), .string (bstr mn), .slice q4 ms.length c4] 42)) := (Below.refl _ _).alloc (Nat.le_refl _) _
            have HRW9 := hiD (HRW8.out.later hb9)
            have HG9 := hiD (HG8.out.later hb9)
            have HS9 := hiD (HS8.out.later hb9)
            have HK9 := hiD (HK8.out.trans (K2.of hb9))
            have HB9 := hiD (sLater HB8.out hb9)
            have HE9 : Hid (Arr (w8.alloc (.cells #[.int .i64 mk, .string (bstr mv), .string (bstr mn), .slice q4 ms.length c4] 42)) 42 w8.heap.size [.int .i64 mk, .string (bstr mv), .string (bstr mn), .slice q4 ms.length c4]) := Arr.new' _ _ _ _ rfl
            have HR9 : Hid (kdEx.rd (SubX (W.heap.size + 3) (fun _ => False) (w8.alloc (.cells #[.int .i64 mk, .string (bstr mv), .string (bstr mn), .slice q4 ms.length c4] 42)) (.slice q acc.length cc)) (w8.alloc (.cells #[.int .i64 mk, .string (bstr mv), .string (bstr mn), .slice q4 ms.length c4] 42)) (.mk mk mv mn ms) [.int .i64 mk, .string (bstr mv), .string (bstr mn), .slice q4 ms.length c4]) := kdEx.imp (fun b hb => ⟨by have := HGL.out; have := hb.1; omega, Nat.lt_of_lt_of_le hb.2 hb9.size, fun e => by have h1 := (HBL.out b e.symm); have := hb.1; omega, fun h => h⟩) (kdEx.keep (fun b hb n => hb9.cell (p := ⟨b, n, none⟩) hb.2) HR8.out)
            clear hb9
            generalize w8.alloc (.cells #[.int .i64 mk, .string (bstr mv), .string (bstr mn), .slice q4 ms.length c4] 42) = w9 at HRW9 HG9 HS9 HK9 HE9 HR9 HB9 hK' ⊢
            refine hK'.out _ _ HB9.out (fun _ => ?_)
            clear hK' K' hHeld
            have hHeld := HB9.out
            try simp only [Act.put, pz0, pz1, pz2]
            refine wpAnyH_ready (rs := [7]) (by kernel_rfl) (by simp) ?_
            refine AllReadyH.cons (o := ⟨some 46, _, _, _, _, _⟩) rfl (fun K' hK' => ?_) AllReadyH.nil
            refine step_row (K := kdEx) rfl (.tmp 40) (.tmp 45) rfl rfl HRW9.out rfl HE9.out HR9.out HAC.out (by have := HGW.out; have := HG9.out.lt; omega) (fun b h => h.elim) ?_
            intro v10 w10 r10 g10 o10
            have HS10 := hiD (HS9.out.grown g10 (B := W.heap.size + 3) (by have := HL.out; omega) (by have := HGW.out; have := HG9.out.lt; omega) (fun k hk => (o10 k hk).1))
            have HK10 := hiD (HK9.out.grownR g10 (fun k hk => Nat.le_trans (by omega) (o10 k hk).1))
            have HG10 : Hid (Arr w10 42 (W.heap.size + 2) [.int .i64 4, .string ⟨#[]⟩, .string ⟨#[]⟩, .slice q acc.length cc]) := (g10.block _ HG9.out.lt (fun e => absurd (o10 _ e.symm).1 (by omega))).trans HG9.out
            have HB10 := hiD (sGrown HB9.out g10 (fun k hk => (o10 k hk).1) (by omega))
            have HRW10 := hiD r10
            obtain ⟨q10, c10, hv10⟩ := r10.form
            rw [List.length_append, List.length_singleton] at hv10
            subst hv10
            clear r10 g10 o10
            refine hK'.out _ _ HB10.out (fun _ => ?_)
            clear hK' K' hHeld
            have hHeld := HB10.out
            try simp only [Act.put, pz0, pz1, pz2]
            refine wpAnyH_take (i := 8) (oi := ⟨some 47, _, _, _, _, _⟩) (v := .pointer (some ⟨W.heap.size + 2, 3, none⟩)) rfl (by kernel_rfl) (by kernel_rfl) (by kernel_rfl) (fun _ _ _ h => h) (.inl ⟨by rfl, fun w' hSw => ?_⟩) hHeld ?_
            focus (skip; clear hHeld; go_simp)
            try simp only [Act.put, pz0, pz1, pz2]
            refine wpAnyH_ready (rs := [9]) (by kernel_rfl) (by simp) ?_
            refine AllReadyH.cons (o := ⟨none, _, _, _, _, _⟩) rfl (fun K' hK' => ?_) AllReadyH.nil
            obtain ⟨x0, y0, x1, y1, x2, y2, x3, y3⟩ := HG10.out.all4
            go_simp
            clear x0 y0 x1 y1 x2 y2 x3 y3
            have HB11 := hiD (sBox HB10.out (g := W.heap.size + 2) 3 (.slice q10 (acc.length + 1) c10) (by omega))
            refine hK'.out _ _ HB11.out (fun _ => ?_)
            clear hK' K' hHeld
            have hHeld := HB11.out
            try simp only [Act.put, pz0, pz1, pz2]
            have HG11 : Hid (Arr (w10.setCell ⟨W.heap.size + 2, 3, none⟩ (.slice q10 (acc.length + 1) c10)) 42 (W.heap.size + 2) [.int .i64 4, .string ⟨#[]⟩, .string ⟨#[]⟩, .slice q10 (acc.length + 1) c10]) := HG10.out.set 3 _
            have HRW11 := hiD (HRW10.out.box (g := W.heap.size + 2) (.inl (by omega)) 3 (.slice q10 (acc.length + 1) c10))
            have HS11 := hiD (HS10.out.box (g := W.heap.size + 2) (by have := HL.out; omega) 3 (.slice q10 (acc.length + 1) c10))
            have HK11 := hiD (HK10.out.box (g := W.heap.size + 2) (by omega) 3 (.slice q10 (acc.length + 1) c10))
            refine wpAnyH_done (by kernel_rfl) ?_ _
            refine NoPanic.normal ?_
            clear HRW10 HG10 HS10 HK10 HRW9 HG9 HS9 HK9 HE9 HR9 HRW8 HG8 HS8 HK8 HR8 HB10 HB9 HB8
            generalize (w10.setCell ⟨W.heap.size + 2, 3, none⟩ (.slice q10 (acc.length + 1) c10)) = w11 at HG11 HRW11 HS11 HK11 HB11 ⊢
            go_wp2_with fail
            go_roundw
            case rel => exact ⟨i + 1, acc ++ [Ex.mk mk mv mn ms], s4, lv4, q10, c10, HLT.out, by go_num, by rw [List.length_append, HLEN.out]; rfl, by rw [List.length_append]; exact HRW11.out, by rw [List.length_append]; exact HG11.out, HB11.out, HS11.out, HK11.out, HE7.out⟩
            case measure => first | exact meas HLT.out (Nat.le_trans HNN.out (by decide)) | exact meas' HLT.out
          · go_simp
            have hb9 : Below w8.heap.size w8 (w8.alloc (.cells #[.int .i64 mk, .string (bstr mv), .string (bstr mn), .slice q4 ms.length c4] 42)) := (Below.refl _ _).alloc (Nat.le_refl _) _
            have HRW9 := hiD (HRW8.out.later hb9)
            have HG9 := hiD (HG8.out.later hb9)
            have HS9 := hiD (HS8.out.later hb9)
            have HK9 := hiD (HK8.out.trans (K2.of hb9))
            have HB9 := hiD (sLater HB8.out hb9)
            have HE9 : Hid (Arr (w8.alloc (.cells #[.int .i64 mk, .string (bstr mv), .string (bstr mn), .slice q4 ms.length c4] 42)) 42 w8.heap.size [.int .i64 mk, .string (bstr mv), .string (bstr mn), .slice q4 ms.length c4]) := Arr.new' _ _ _ _ rfl
            have HR9 : Hid (kdEx.rd (SubX (W.heap.size + 3) (fun _ => False) (w8.alloc (.cells #[.int .i64 mk, .string (bstr mv), .string (bstr mn), .slice q4 ms.length c4] 42)) (.slice q acc.length cc)) (w8.alloc (.cells #[.int .i64 mk, .string (bstr mv), .string (bstr mn), .slice q4 ms.length c4] 42)) (.mk mk mv mn ms) [.int .i64 mk, .string (bstr mv), .string (bstr mn), .slice q4 ms.length c4]) := kdEx.imp (fun b hb => ⟨by have := HGL.out; have := hb.1; omega, Nat.lt_of_lt_of_le hb.2 hb9.size, fun e => by have h1 := (HBL.out b e.symm); have := hb.1; omega, fun h => h⟩) (kdEx.keep (fun b hb n => hb9.cell (p := ⟨b, n, none⟩) hb.2) HR8.out)
            clear hb9
            generalize w8.alloc (.cells #[.int .i64 mk, .string (bstr mv), .string (bstr mn), .slice q4 ms.length c4] 42) = w9 at HRW9 HG9 HS9 HK9 HE9 HR9 HB9 hK' ⊢
            refine hK'.out _ _ HB9.out (fun _ => ?_)
            clear hK' K' hHeld
            have hHeld := HB9.out
            try simp only [Act.put, pz0, pz1, pz2]
            refine wpAnyH_ready (rs := [1]) (by kernel_rfl) (by simp) ?_
            refine AllReadyH.cons (o := ⟨some 40, _, _, _, _, _⟩) rfl (fun K' hK' => ?_) AllReadyH.nil
            obtain ⟨x0, y0, x1, y1, x2, y2, x3, y3⟩ := HG9.out.all4
            go_simp
            clear x0 y0 x1 y1 x2 y2 x3 y3
            refine hK'.out _ _ HB9.out (fun _ => ?_)
            clear hK' K' hHeld
            have hHeld := HB9.out
            try simp only [Act.put, pz0, pz1, pz2]
            refine wpAnyH_ready (rs := [7]) (by kernel_rfl) (by simp) ?_
            refine AllReadyH.cons (o := ⟨some 46, _, _, _, _, _⟩) rfl (fun K' hK' => ?_) AllReadyH.nil
            refine step_row (K := kdEx) rfl (.tmp 40) (.tmp 45) rfl rfl HRW9.out rfl HE9.out HR9.out HAC.out (by have := HGW.out; have := HG9.out.lt; omega) (fun b h => h.elim) ?_
            intro v10 w10 r10 g10 o10
            have HS10 := hiD (HS9.out.grown g10 (B := W.heap.size + 3) (by have := HL.out; omega) (by have := HGW.out; have := HG9.out.lt; omega) (fun k hk => (o10 k hk).1))
            have HK10 := hiD (HK9.out.grownR g10 (fun k hk => Nat.le_trans (by omega) (o10 k hk).1))
            have HG10 : Hid (Arr w10 42 (W.heap.size + 2) [.int .i64 4, .string ⟨#[]⟩, .string ⟨#[]⟩, .slice q acc.length cc]) := (g10.block _ HG9.out.lt (fun e => absurd (o10 _ e.symm).1 (by omega))).trans HG9.out
            have HB10 := hiD (sGrown HB9.out g10 (fun k hk => (o10 k hk).1) (by omega))
            have HRW10 := hiD r10
            obtain ⟨q10, c10, hv10⟩ := r10.form
            rw [List.length_append, List.length_singleton] at hv10
            subst hv10
            clear r10 g10 o10
            refine hK'.out _ _ HB10.out (fun _ => ?_)
            clear hK' K' hHeld
            have hHeld := HB10.out
            try simp only [Act.put, pz0, pz1, pz2]
            refine wpAnyH_take (i := 8) (oi := ⟨some 47, _, _, _, _, _⟩) (v := .pointer (some ⟨W.heap.size + 2, 3, none⟩)) rfl (by kernel_rfl) (by kernel_rfl) (by kernel_rfl) (fun _ _ _ h => h) (.inl ⟨by rfl, fun w' hSw => ?_⟩) hHeld ?_
            focus (skip; clear hHeld; go_simp)
            try simp only [Act.put, pz0, pz1, pz2]
            refine wpAnyH_ready (rs := [9]) (by kernel_rfl) (by simp) ?_
            refine AllReadyH.cons (o := ⟨none, _, _, _, _, _⟩) rfl (fun K' hK' => ?_) AllReadyH.nil
            obtain ⟨x0, y0, x1, y1, x2, y2, x3, y3⟩ := HG10.out.all4
            go_simp
            clear x0 y0 x1 y1 x2 y2 x3 y3
            have HB11 := hiD (sBox HB10.out (g := W.heap.size + 2) 3 (.slice q10 (acc.length + 1) c10) (by omega))
            refine hK'.out _ _ HB11.out (fun _ => ?_)
            clear hK' K' hHeld
            have hHeld := HB11.out
            try simp only [Act.put, pz0, pz1, pz2]
            have HG11 : Hid (Arr (w10.setCell ⟨W.heap.size + 2, 3, none⟩ (.slice q10 (acc.length + 1) c10)) 42 (W.heap.size + 2) [.int .i64 4, .string ⟨#[]⟩, .string ⟨#[]⟩, .slice q10 (acc.length + 1) c10]) := HG10.out.set 3 _
            have HRW11 := hiD (HRW10.out.box (g := W.heap.size + 2) (.inl (by omega)) 3 (.slice q10 (acc.length + 1) c10))
            have HS11 := hiD (HS10.out.box (g := W.heap.size + 2) (by have := HL.out; omega) 3 (.slice q10 (acc.length + 1) c10))
            have HK11 := hiD (HK10.out.box (g := W.heap.size + 2) (by omega) 3 (.slice q10 (acc.length + 1) c10))
            refine wpAnyH_done (by kernel_rfl) ?_ _
            refine NoPanic.normal ?_
            clear HRW10 HG10 HS10 HK10 HRW9 HG9 HS9 HK9 HE9 HR9 HRW8 HG8 HS8 HK8 HR8 HB10 HB9 HB8
            generalize (w10.setCell ⟨W.heap.size + 2, 3, none⟩ (.slice q10 (acc.length + 1) c10)) = w11 at HG11 HRW11 HS11 HK11 HB11 ⊢
            go_wp2_with fail
            go_roundw
            case rel => exact ⟨i + 1, acc ++ [Ex.mk mk mv mn ms], s4, lv4, q10, c10, HLT.out, by go_num, by rw [List.length_append, HLEN.out]; rfl, by rw [List.length_append]; exact HRW11.out, by rw [List.length_append]; exact HG11.out, HB11.out, HS11.out, HK11.out, HE7.out⟩
            case measure => first | exact meas HLT.out (Nat.le_trans HNN.out (by decide)) | exact meas' HLT.out
      · have hlt' : ¬ (i : Int) < n := by omega
        have HE7 : Hid (partC b (d + 1) s lv = (.mk 4 [] [] acc, s2, lv2)) := by
          show _ = _
          rw [HE6.out, show n - i = 0 by omega]; rfl
        have HGZ := HG6
        obtain ⟨x0, y0, x1, y1, x2, y2, x3, y3⟩ := HGZ.out.all4
        go_wp2_with fail
        have hk := kp_set4 wr (W.heap.size + 2) (.int .i64 4) (.string ⟨#[]⟩) (.string ⟨#[]⟩) (.slice q acc.length cc)
        have hA := HGZ.out.set4x (.int .i64 4) (.string ⟨#[]⟩) (.string ⟨#[]⟩) (.slice q acc.length cc)
        refine bodyPost_ret (resX rfl hA rfl) rfl ?_
        rw [HE7.out]
        exact ⟨_, rfl, (VE.kp (HRW6.out.rdE 4 [] []) hk (Nat.lt_succ_self _)).low (by omega), RS.box (RS.box (RS.box (RS.box HS6.out (by have := HL.out; omega) _ _) (by have := HL.out; omega) _ _) (by have := HL.out; omega) _ _) (by have := HL.out; omega) _ _, K2.box (K2.box (K2.box (K2.box HK6.out (by omega) _ _) (by omega) _ _) (by omega) _ _) (by omega) _ _⟩
  · clear HLF
    obtain ⟨x0, y0, x1, y1, x2, y2, x3, y3⟩ := HG1.out.all4
    go_upto_region 14 with (fail)
    clear x0 y0 x1 y1 x2 y2 x3 y3
    have HG2 : Hid (Arr (w1.setCell ⟨W.heap.size + 2, 0, none⟩ (.int .i64 5)) 42 (W.heap.size + 2) [.int .i64 5, .string ⟨#[]⟩, .string ⟨#[]⟩, .slice none 0 0]) := HG1.out.set 0 _
    have HS2 := hiD (HS1.out.box (g := W.heap.size + 2) (by have := HL.out; omega) 0 (.int .i64 5))
    have HK2 := hiD (HK1.out.box (g := W.heap.size + 2) (by omega) 0 (.int .i64 5))
    have HB2 := hiD (sBox HB1.out (g := W.heap.size + 2) 0 (.int .i64 5) (by omega))
    clear HG1 HS1 HK1 HB1
    generalize w1.setCell ⟨W.heap.size + 2, 0, none⟩ (.int .i64 5) = w2 at HG2 HS2 HK2 HB2 ⊢
    obtain ⟨n, hn⟩ : ∃ n : Nat, n = 2 := ⟨_, rfl⟩
    have HNN : Hid (n ≤ 32) := by show _ ≤ _; omega
    have HNQ : (2 : Int) = (n : Int) := by omega
    have HE3 : Hid (partC b (d + 1) s lv = (.mk 5 [] [] (loopC (partC b d) (n - 0) [] s1 lv).1, (loopC (partC b d) (n - 0) [] s1 lv).2)) := by
      show _ = _
      rw [HE.out, hn]; rfl
    rw [show (Value.int .i64 2) = Value.int .i64 (n : Int) by rw [HNQ]]
    clear hn HE HNQ
    go_wp2_with fail
    go_loopw [37] (fun iv wr => ∃ (i : Nat) (acc : List Ex) (s2 : St) (lv2 : Nat) (q : Option Addr) (cc : Nat), i ≤ n ∧ iv = .int .i64 (i : Nat) ∧ Hid (acc.length = i) ∧ Hid (PRow kdEx (W.heap.size + 3) (fun _ => False) wr (.slice q acc.length cc) acc) ∧ Hid (Arr wr 42 (W.heap.size + 2) [.int .i64 5, .string ⟨#[]⟩, .string ⟨#[]⟩, .slice q acc.length cc]) ∧ Hid (SB W.heap.size rb D wr) ∧ Hid (RS cb rb b lv2 s2 wr) ∧ Hid (K2 cb rb W wr) ∧ Hid (partC b (d + 1) s lv = (.mk 5 [] [] (loopC (partC b d) (n - i) acc s2 lv2).1, (loopC (partC b d) (n - i) acc s2 lv2).2))) (fun iv _ => n - (intOf iv).toNat)
    case atStart => exact ⟨0, [], s1, lv, none, 0, Nat.zero_le _, rfl, rfl, PRow.nil _ _ _ _, HG2.out, HB2.out, HS2.out, HK2.out, HE3.out⟩
    case round =>
      obtain ⟨i, acc, s2, lv2, q, cc, hi, rfl, HLEN, HRW6, HG6, HB6, HS6, HK6, HE6⟩ := hrel
      by_cases hlt : i < n
      · have hlt' : (i : Int) < n := by omega
        have hw : wrap64 ((i : Int) + 1) = (i : Int) + 1 := by unfold wrap64; have := HNN.out; omega
        have HLT : Hid (i < n) := hlt
        obtain ⟨x, hx⟩ : ∃ x, x = (partC b d s2 lv2).1 := ⟨_, rfl⟩
        obtain ⟨s4, hs4⟩ : ∃ x, x = (partC b d s2 lv2).2.1 := ⟨_, rfl⟩
        obtain ⟨lv4, hl4⟩ : ∃ x, x = (partC b d s2 lv2).2.2 := ⟨_, rfl⟩
        obtain ⟨mk, mv, mn, ms⟩ := x
        have HE7 : Hid (partC b (d + 1) s lv = (.mk 5 [] [] (loopC (partC b d) (n - (i + 1)) (acc ++ [.mk mk mv mn ms]) s4 lv4).1, (loopC (partC b d) (n - (i + 1)) (acc ++ [.mk mk mv mn ms]) s4 lv4).2)) := by
          show _ = _
          rw [HE6.out, show n - i = (n - (i + 1)) + 1 by omega, loopC, ← hx, ← hs4, ← hl4]
        have HCT : Hid (∀ w7, RS cb rb b lv2 s2 w7 → Calls Tryz.prog 67 #[.pointer (some ⟨rb, 0, none⟩), .int .i64 ((D : Int) + 1)] w7 fun e w' => ∃ v, e = .returned v ∧ (VE w7.heap.size (.mk mk mv mn ms) w' v ∧ RS cb rb b lv4 s4 w' ∧ K2 cb rb w7 w')) := fun w7 hw7 => by
          have h := IH.out w7 s2 lv2 hw7
          unfold PPost at h
          rw [← hx, ← hs4, ← hl4] at h
          exact h
        have HAC : Hid (acc.length + 1 ≤ 200000) := by show _ ≤ _; have := HNN.out; have := HLEN.out; omega
        have HGW : Hid (W.heap.size + 2 < W.heap.size + 3) := Nat.lt_succ_self _
        clear HE6 hx hs4 hl4 hlt IH
        go_upto_region 16 with (fail)
        generalize hwr : wr = w6 at HRW6 HG6 HB6 HS6 HK6 ⊢
        clear hwr
        refine wp_region_noPanic ?_
        refine wp_region_held_drew (S := fun W' => SB W.heap.size rb D W') (by kernel_rfl) (sDrew HB6.out) (fun hHeld => ?_)
        try simp only [Act.put]
        have hb7 : Below w6.heap.size w6 w6.drew := (Below.refl _ _).drew
        have HRW7 := hiD (HRW6.out.later hb7)
        have HG7 := hiD (HG6.out.later hb7)
        have HS7 := hiD (HS6.out.later hb7)
        have HK7 := hiD (HK6.out.trans (K2.of hb7))
        have HB7 := hiD (sLater HB6.out hb7)
        clear hb7
        generalize w6.drew = w7 at HRW7 HG7 HS7 HK7 HB7 hHeld ⊢
        have HN7 := hiD (HCT.out w7 HS7.out)
        have HGL : Hid (W.heap.size + 3 ≤ w7.heap.size) := by show _ ≤ _; have := HG7.out.lt; omega
        have HBL : Hid (∀ b, (Value.slice q acc.length cc).ownBlock = some b → b < w7.heap.size) := fun b hb => by obtain ⟨_, h, _⟩ := HRW7.out; exact (h.lt b hb).2
        refine wpAnyH_take (i := 0) (oi := ⟨some 39, _, _, _, _, _⟩) (v := .pointer (some ⟨W.heap.size + 2, 3, none⟩)) rfl (by kernel_rfl) (by kernel_rfl) (by kernel_rfl) (fun _ _ _ h => h) (.inl ⟨by rfl, fun w' hSw => ?_⟩) hHeld ?_
        focus (skip; clear hHeld; go_simp)
        try simp only [Act.put, pz0, pz1, pz2]
        refine wpAnyH_take (i := 2) (oi := ⟨some 41, _, _, _, _, _⟩) (v := .pointer (some ⟨rb, 0, none⟩)) rfl (by kernel_rfl) (by kernel_rfl) (by kernel_rfl) (fun _ _ _ h => h) (.inl ⟨by rfl, fun w' hSw => ?_⟩) hHeld ?_
        focus (have a1 := hSw.1.cell 0; have a2 := hSw.2.cell 0; simp only [List.getElem?_cons_zero] at a1 a2; clear hHeld; go_simp)
        try simp only [Act.put, pz0, pz1, pz2]
        refine wpAnyH_take (i := 3) (oi := ⟨some 42, _, _, _, _, _⟩) (v := .int .i64 (D : Nat)) rfl (by kernel_rfl) (by kernel_rfl) (by kernel_rfl) (fun _ _ _ h => h) (.inl ⟨by rfl, fun w' hSw => ?_⟩) hHeld ?_
        focus (have a1 := hSw.1.cell 0; have a2 := hSw.2.cell 0; simp only [List.getElem?_cons_zero] at a1 a2; clear hHeld; go_simp)
        try simp only [Act.put, pz0, pz1, pz2]
        refine wpAnyH_take (i := 4) (oi := ⟨some 43, _, _, _, _, _⟩) (v := .int .i64 ((D : Int) + 1)) rfl (by kernel_rfl) (by kernel_rfl) (by kernel_rfl) (fun _ _ _ h => h) (.inl ⟨by rfl, fun w' hSw => ?_⟩) hHeld ?_
        focus (skip; clear hHeld; go_simp; exact HDW.out)
        try simp only [Act.put, pz0, pz1, pz2]
        refine wpAnyH_ready (rs := [1, 5]) (by kernel_rfl) (by simp) ?_
        refine AllReadyH.cons (o := ⟨some 40, _, _, _, _, _⟩) rfl (fun K' hK' => ?_) (AllReadyH.cons (o := ⟨some 44, _, _, _, _, _⟩) rfl (fun K' hK' => ?_) AllReadyH.nil)
        · have x0 := HG7.out.cell 0
          have y0 := HG7.out.free 0
          have x1 := HG7.out.cell 1
          have y1 := HG7.out.free 1
          have x2 := HG7.out.cell 2
          have y2 := HG7.out.free 2
          have x3 := HG7.out.cell 3
          have y3 := HG7.out.free 3
          simp only [List.getElem?_cons_zero, List.getElem?_cons_succ] at x0 x1 x2 x3
          go_simp
          clear x0 y0 x1 y1 x2 y2 x3 y3
          refine hK'.out _ _ HB7.out (fun _ => ?_)
          clear hK' K' hHeld
          have hHeld := HB7.out
          try simp only [Act.put, pz0, pz1, pz2]
          refine wpAnyH_ready (rs := [5]) (by kernel_rfl) (by simp) ?_
          refine AllReadyH.cons (o := ⟨some 44, _, _, _, _, _⟩) rfl (fun K' hK' => ?_) AllReadyH.nil
          refine stepw_call (by rfl) ?_ HN7.out ?_
          focus go_simp
          rintro v w8 ⟨r8, s8, k8⟩
          have r8' : VE w7.heap.size (.mk mk mv mn ms) w8 v := r8
          obtain ⟨q4, c4, rfl, _, _⟩ := RdE.form r8
          unfold exv at r8' ⊢
          dsimp only [Ex.kind, Ex.via, Ex.nm, Ex.kids] at r8' ⊢
          have HR8 : Hid (rdEx (Bt w7.heap.size w8.heap.size) w8 (.mk mk mv mn ms) [.int .i64 mk, .string (bstr mv), .string (bstr mn), .slice q4 ms.length c4]) := ⟨_, _, _, _, rfl, r8'⟩
          clear r8'
          have HRW8 := hiD (HRW7.out.turn (w' := w8) k8.2.2.2.1 (fun b hb hl _ => k8.2.2.2.2 b hl (by have := HL.out; omega) (by have := HL.out; omega)))
          have HG8 := hiD (k8.arr HG7.out (by have := HL.out; omega) (by have := HL.out; omega))
          have HS8 := hiD s8
          have HK8 := hiD (HK7.out.trans k8)
          have HB8 := hiD (sK2 HB7.out k8 HL.out)
          clear s8 k8 r8
          refine hK'.out _ _ HB8.out (fun _ => ?_)
          clear hK' K' hHeld
          have hHeld := HB8.out
          try simp only [Act.put, pz0, pz1, pz2]
          refine wpAnyH_ready (rs := [6]) (by kernel_rfl) (by simp) ?_
          refine AllReadyH.cons (o := ⟨some 45, _, _, _, _, _⟩) rfl (fun K' hK' => ?_) AllReadyH.nil
          go_simp
          have hb9 : Below w8.heap.size w8 (w8.alloc (.cells #[.int .i64 mk, .string (bstr mv), .string (bstr mn), .slice q4 ms.length c4] 42)) := (Below.refl _ _).alloc (Nat.le_refl _) _
          have HRW9 := hiD (HRW8.out.later hb9)
          have HG9 := hiD (HG8.out.later hb9)
          have HS9 := hiD (HS8.out.later hb9)
          have HK9 := hiD (HK8.out.trans (K2.of hb9))
          have HB9 := hiD (sLater HB8.out hb9)
          have HE9 : Hid (Arr (w8.alloc (.cells #[.int .i64 mk, .string (bstr mv), .string (bstr mn), .slice q4 ms.length c4] 42)) 42 w8.heap.size [.int .i64 mk, .string (bstr mv), .string (bstr mn), .slice q4 ms.length c4]) := Arr.new' _ _ _ _ rfl
          have HR9 : Hid (kdEx.rd (SubX (W.heap.size + 3) (fun _ => False) (w8.alloc (.cells #[.int .i64 mk, .string (bstr mv), .string (bstr mn), .slice q4 ms.length c4] 42)) (.slice q acc.length cc)) (w8.alloc (.cells #[.int .i64 mk, .string (bstr mv), .string (bstr mn), .slice q4 ms.length c4] 42)) (.mk mk mv mn ms) [.int .i64 mk, .string (bstr mv), .string (bstr mn), .slice q4 ms.length c4]) := kdEx.imp (fun b hb => ⟨by have := HGL.out; have := hb.1; omega, Nat.lt_of_lt_of_le hb.2 hb9.size, fun e => by have h1 := (HBL.out b e.symm); have := hb.1; omega, fun h => h⟩) (kdEx.keep (fun b hb n => hb9.cell (p := ⟨b, n, none⟩) hb.2) HR8.out)
          clear hb9
          generalize w8.alloc (.cells #[.int .i64 mk, .string (bstr mv), .string (bstr mn), .slice q4 ms.length c4] 42) = w9 at HRW9 HG9 HS9 HK9 HE9 HR9 HB9 hK' ⊢
          refine hK'.out _ _ HB9.out (fun _ => ?_)
          clear hK' K' hHeld
          have hHeld := HB9.out
          try simp only [Act.put, pz0, pz1, pz2]
          refine wpAnyH_ready (rs := [7]) (by kernel_rfl) (by simp) ?_
          refine AllReadyH.cons (o := ⟨some 46, _, _, _, _, _⟩) rfl (fun K' hK' => ?_) AllReadyH.nil
          refine step_row (K := kdEx) rfl (.tmp 40) (.tmp 45) rfl rfl HRW9.out rfl HE9.out HR9.out HAC.out (by have := HGW.out; have := HG9.out.lt; omega) (fun b h => h.elim) ?_
          intro v10 w10 r10 g10 o10
          have HS10 := hiD (HS9.out.grown g10 (B := W.heap.size + 3) (by have := HL.out; omega) (by have := HGW.out; have := HG9.out.lt; omega) (fun k hk => (o10 k hk).1))
          have HK10 := hiD (HK9.out.grownR g10 (fun k hk => Nat.le_trans (by omega) (o10 k hk).1))
          have HG10 : Hid (Arr w10 42 (W.heap.size + 2) [.int .i64 5, .string ⟨#[]⟩, .string ⟨#[]⟩, .slice q acc.length cc]) := (g10.block _ HG9.out.lt (fun e => absurd (o10 _ e.symm).1 (by omega))).trans HG9.out
          have HB10 := hiD (sGrown HB9.out g10 (fun k hk => (o10 k hk).1) (by omega))
          have HRW10 := hiD r10
          obtain ⟨q10, c10, hv10⟩ := r10.form
          rw [List.length_append, List.length_singleton] at hv10
          subst hv10
          clear r10 g10 o10
          refine hK'.out _ _ HB10.out (fun _ => ?_)
          clear hK' K' hHeld
          have hHeld := HB10.out
          try simp only [Act.put, pz0, pz1, pz2]
          refine wpAnyH_take (i := 8) (oi := ⟨some 47, _, _, _, _, _⟩) (v := .pointer (some ⟨W.heap.size + 2, 3, none⟩)) rfl (by kernel_rfl) (by kernel_rfl) (by kernel_rfl) (fun _ _ _ h => h) (.inl ⟨by rfl, fun w' hSw => ?_⟩) hHeld ?_
          focus (skip; clear hHeld; go_simp)
          try simp only [Act.put, pz0, pz1, pz2]
          refine wpAnyH_ready (rs := [9]) (by kernel_rfl) (by simp) ?_
          refine AllReadyH.cons (o := ⟨none, _, _, _, _, _⟩) rfl (fun K' hK' => ?_) AllReadyH.nil
          obtain ⟨x0, y0, x1, y1, x2, y2, x3, y3⟩ := HG10.out.all4
          go_simp
          clear x0 y0 x1 y1 x2 y2 x3 y3
          have HB11 := hiD (sBox HB10.out (g := W.heap.size + 2) 3 (.slice q10 (acc.length + 1) c10) (by omega))
          refine hK'.out _ _ HB11.out (fun _ => ?_)
          clear hK' K' hHeld
          have hHeld := HB11.out
          try simp only [Act.put, pz0, pz1, pz2]
          have HG11 : Hid (Arr (w10.setCell ⟨W.heap.size + 2, 3, none⟩ (.slice q10 (acc.length + 1) c10)) 42 (W.heap.size + 2) [.int .i64 5, .string ⟨#[]⟩, .string ⟨#[]⟩, .slice q10 (acc.length + 1) c10]) := HG10.out.set 3 _
          have HRW11 := hiD (HRW10.out.box (g := W.heap.size + 2) (.inl (by omega)) 3 (.slice q10 (acc.length + 1) c10))
          have HS11 := hiD (HS10.out.box (g := W.heap.size + 2) (by have := HL.out; omega) 3 (.slice q10 (acc.length + 1) c10))
          have HK11 := hiD (HK10.out.box (g := W.heap.size + 2) (by omega) 3 (.slice q10 (acc.length + 1) c10))
          refine wpAnyH_done (by kernel_rfl) ?_ _
          refine NoPanic.normal ?_
          clear HRW10 HG10 HS10 HK10 HRW9 HG9 HS9 HK9 HE9 HR9 HRW8 HG8 HS8 HK8 HR8 HB10 HB9 HB8
          generalize (w10.setCell ⟨W.heap.size + 2, 3, none⟩ (.slice q10 (acc.length + 1) c10)) = w11 at HG11 HRW11 HS11 HK11 HB11 ⊢
          go_wp2_with fail
          go_roundw
          case rel => exact ⟨i + 1, acc ++ [Ex.mk mk mv mn ms], s4, lv4, q10, c10, HLT.out, by go_num, by rw [List.length_append, HLEN.out]; rfl, by rw [List.length_append]; exact HRW11.out, by rw [List.length_append]; exact HG11.out, HB11.out, HS11.out, HK11.out, HE7.out⟩
          case measure => first | exact meas HLT.out (Nat.le_trans HNN.out (by decide)) | exact meas' HLT.out
        · refine stepw_call (by rfl) ?_ HN7.out ?_
          focus go_simp
          rintro v w8 ⟨r8, s8, k8⟩
          have r8' : VE w7.heap.size (.mk mk mv mn ms) w8 v := r8
          obtain ⟨q4, c4, rfl, _, _⟩ := RdE.form r8
          unfold exv at r8' ⊢
          dsimp only [Ex.kind, Ex.via, Ex.nm, Ex.kids] at r8' ⊢
          have HR8 : Hid (rdEx (Bt w7.heap.size w8.heap.size) w8 (.mk mk mv mn ms) [.int .i64 mk, .string (bstr mv), .string (bstr mn), .slice q4 ms.length c4]) := ⟨_, _, _, _, rfl, r8'⟩
          clear r8'
          have HRW8 := hiD (HRW7.out.turn (w' := w8) k8.2.2.2.1 (fun b hb hl _ => k8.2.2.2.2 b hl (by have := HL.out; omega) (by have := HL.out; omega)))
          have HG8 := hiD (k8.arr HG7.out (by have := HL.out; omega) (by have := HL.out; omega))
          have HS8 := hiD s8
          have HK8 := hiD (HK7.out.trans k8)
          have HB8 := hiD (sK2 HB7.out k8 HL.out)
          clear s8 k8 r8
          refine hK'.out _ _ HB8.out (fun _ => ?_)
          clear hK' K' hHeld
          have hHeld := HB8.out
          try simp only [Act.put, pz0, pz1, pz2]
          refine wpAnyH_ready (rs := [1, 6]) (by kernel_rfl) (by simp) ?_
          refine AllReadyH.cons (o := ⟨some 40, _, _, _, _, _⟩) rfl (fun K' hK' => ?_) (AllReadyH.cons (o := ⟨some 45, _, _, _, _, _⟩) rfl (fun K' hK' => ?_) AllReadyH.nil)
          · have x0 := HG8.out.cell 0
            have y0 := HG8.out.free 0
            have x1 := HG8.out.cell 1
            have y1 := HG8.out.free 1
            have x2 := HG8.out.cell 2
            have y2 := HG8.out.free 2
            have x3 := HG8.out.cell 3
            have y3 := HG8.out.free 3
            simp only [List.getElem?_cons_zero, List.getElem?_cons_succ] at x0 x1 x2 x3
            go_simp
            clear x0 y0 x1 y1 x2 y2 x3 y3
            refine hK'.out _ _ HB8.out (fun _ => ?_)
            clear hK' K' hHeld
            have hHeld := HB8.out
            try simp only [Act.put, pz0, pz1, pz2]
            refine wpAnyH_ready (rs := [6]) (by kernel_rfl) (by simp) ?_
            refine AllReadyH.cons (o := ⟨some 45, _, _, _, _, _⟩) rfl (fun K' hK' => ?_) AllReadyH.nil
            go_simp
            have hb9 : Below w8.heap.size w8 (w8.alloc (.cells #[.int .i64 mk, .string (bstr mv), .string (bstr mn), .slice q4 ms.length c4] 42)) := (Below.refl _ _).alloc (Nat.le_refl _) _
            have HRW9 := hiD (HRW8.out.later hb9)
            have HG9 := hiD (HG8.out.later hb9)
            have HS9 := hiD (HS8.out.later hb9)
            have HK9 := hiD (HK8.out.trans (K2.of hb9))
            have HB9 := hiD (sLater HB8.out hb9)
            have HE9 : Hid (Arr (w8.alloc (.cells #[.int .i64 mk, .string (bstr mv), .string (bstr mn), .slice q4 ms.length c4] 42)) 42 w8.heap.size [.int .i64 mk, .string (bstr mv), .string (bstr mn), .slice q4 ms.length c4]) := Arr.new' _ _ _ _ rfl
            have HR9 : Hid (kdEx.rd (SubX (W.heap.size + 3) (fun _ => False) (w8.alloc (.cells #[.int .i64 mk, .string (bstr mv), .string (bstr mn), .slice q4 ms.length c4] 42)) (.slice q acc.length cc)) (w8.alloc (.cells #[.int .i64 mk, .string (bstr mv), .string (bstr mn), .slice q4 ms.length c4] 42)) (.mk mk mv mn ms) [.int .i64 mk, .string (bstr mv), .string (bstr mn), .slice q4 ms.length c4]) := kdEx.imp (fun b hb => ⟨by have := HGL.out; have := hb.1; omega, Nat.lt_of_lt_of_le hb.2 hb9.size, fun e => by have h1 := (HBL.out b e.symm); have := hb.1; omega, fun h => h⟩) (kdEx.keep (fun b hb n => hb9.cell (p := ⟨b, n, none⟩) hb.2) HR8.out)
            clear hb9
            generalize w8.alloc (.cells #[.int .i64 mk, .string (bstr mv), .string (bstr mn), .slice q4 ms.length c4] 42) = w9 at HRW9 HG9 HS9 HK9 HE9 HR9 HB9 hK' ⊢
            refine hK'.out _ _ HB9.out (fun _ => ?_)
            clear hK' K' hHeld
            have hHeld := HB9.out
            try simp only [Act.put, pz0, pz1, pz2]
            refine wpAnyH_ready (rs := [7]) (by kernel_rfl) (by simp) ?_
            refine AllReadyH.cons (o := ⟨some 46, _, _, _, _, _⟩) rfl (fun K' hK' => ?_) AllReadyH.nil
            refine step_row (K := kdEx) rfl (.tmp 40) (.tmp 45) rfl rfl HRW9.out rfl HE9.out HR9.out HAC.out (by have := HGW.out; have := HG9.out.lt; omega) (fun b h => h.elim) ?_
            intro v10 w10 r10 g10 o10
            have HS10 := hiD (HS9.out.grown g10 (B := W.heap.size + 3) (by have := HL.out; omega) (by have := HGW.out; have := HG9.out.lt; omega) (fun k hk => (o10 k hk).1))
            have HK10 := hiD (HK9.out.grownR g10 (fun k hk => Nat.le_trans (by omega) (o10 k hk).1))
            have HG10 : Hid (Arr w10 42 (W.heap.size + 2) [.int .i64 5, .string ⟨#[]⟩, .string ⟨#[]⟩, .slice q acc.length cc]) := (g10.block _ HG9.out.lt (fun e => absurd (o10 _ e.symm).1 (by omega))).trans HG9.out
            have HB10 := hiD (sGrown HB9.out g10 (fun k hk => (o10 k hk).1) (by omega))
            have HRW10 := hiD r10
            obtain ⟨q10, c10, hv10⟩ := r10.form
            rw [List.length_append, List.length_singleton] at hv10
            subst hv10
            clear r10 g10 o10
            refine hK'.out _ _ HB10.out (fun _ => ?_)
            clear hK' K' hHeld
            have hHeld := HB10.out
            try simp only [Act.put, pz0, pz1, pz2]
            refine wpAnyH_take (i := 8) (oi := ⟨some 47, _, _, _, _, _⟩) (v := .pointer (some ⟨W.heap.size + 2, 3, none⟩)) rfl (by kernel_rfl) (by kernel_rfl) (by kernel_rfl) (fun _ _ _ h => h) (.inl ⟨by rfl, fun w' hSw => ?_⟩) hHeld ?_
            focus (skip; clear hHeld; go_simp)
            try simp only [Act.put, pz0, pz1, pz2]
            refine wpAnyH_ready (rs := [9]) (by kernel_rfl) (by simp) ?_
            refine AllReadyH.cons (o := ⟨none, _, _, _, _, _⟩) rfl (fun K' hK' => ?_) AllReadyH.nil
            obtain ⟨x0, y0, x1, y1, x2, y2, x3, y3⟩ := HG10.out.all4
            go_simp
            clear x0 y0 x1 y1 x2 y2 x3 y3
            have HB11 := hiD (sBox HB10.out (g := W.heap.size + 2) 3 (.slice q10 (acc.length + 1) c10) (by omega))
            refine hK'.out _ _ HB11.out (fun _ => ?_)
            clear hK' K' hHeld
            have hHeld := HB11.out
            try simp only [Act.put, pz0, pz1, pz2]
            have HG11 : Hid (Arr (w10.setCell ⟨W.heap.size + 2, 3, none⟩ (.slice q10 (acc.length + 1) c10)) 42 (W.heap.size + 2) [.int .i64 5, .string ⟨#[]⟩, .string ⟨#[]⟩, .slice q10 (acc.length + 1) c10]) := HG10.out.set 3 _
            have HRW11 := hiD (HRW10.out.box (g := W.heap.size + 2) (.inl (by omega)) 3 (.slice q10 (acc.length + 1) c10))
            have HS11 := hiD (HS10.out.box (g := W.heap.size + 2) (by have := HL.out; omega) 3 (.slice q10 (acc.length + 1) c10))
            have HK11 := hiD (HK10.out.box (g := W.heap.size + 2) (by omega) 3 (.slice q10 (acc.length + 1) c10))
            refine wpAnyH_done (by kernel_rfl) ?_ _
            refine NoPanic.normal ?_
            clear HRW10 HG10 HS10 HK10 HRW9 HG9 HS9 HK9 HE9 HR9 HRW8 HG8 HS8 HK8 HR8 HB10 HB9 HB8
            generalize (w10.setCell ⟨W.heap.size + 2, 3, none⟩ (.slice q10 (acc.length + 1) c10)) = w11 at HG11 HRW11 HS11 HK11 HB11 ⊢
            go_wp2_with fail
            go_roundw
            case rel => exact ⟨i + 1, acc ++ [Ex.mk mk mv mn ms], s4, lv4, q10, c10, HLT.out, by go_num, by rw [List.length_append, HLEN.out]; rfl, by rw [List.length_append]; exact HRW11.out, by rw [List.length_append]; exact HG11.out, HB11.out, HS11.out, HK11.out, HE7.out⟩
            case measure => first | exact meas HLT.out (Nat.le_trans HNN.out (by decide)) | exact meas' HLT.out
          · go_simp
            have hb9 : Below w8.heap.size w8 (w8.alloc (.cells #[.int .i64 mk, .string (bstr mv), .string (bstr mn), .slice q4 ms.length c4] 42)) := (Below.refl _ _).alloc (Nat.le_refl _) _
            have HRW9 := hiD (HRW8.out.later hb9)
            have HG9 := hiD (HG8.out.later hb9)
            have HS9 := hiD (HS8.out.later hb9)
            have HK9 := hiD (HK8.out.trans (K2.of hb9))
            have HB9 := hiD (sLater HB8.out hb9)
            have HE9 : Hid (Arr (w8.alloc (.cells #[.int .i64 mk, .string (bstr mv), .string (bstr mn), .slice q4 ms.length c4] 42)) 42 w8.heap.size [.int .i64 mk, .string (bstr mv), .string (bstr mn), .slice q4 ms.length c4]) := Arr.new' _ _ _ _ rfl
            have HR9 : Hid (kdEx.rd (SubX (W.heap.size + 3) (fun _ => False) (w8.alloc (.cells #[.int .i64 mk, .string (bstr mv), .string (bstr mn), .slice q4 ms.length c4] 42)) (.slice q acc.length cc)) (w8.alloc (.cells #[.int .i64 mk, .string (bstr mv), .string (bstr mn), .slice q4 ms.length c4] 42)) (.mk mk mv mn ms) [.int .i64 mk, .string (bstr mv), .string (bstr mn), .slice q4 ms.length c4]) := kdEx.imp (fun b hb => ⟨by have := HGL.out; have := hb.1; omega, Nat.lt_of_lt_of_le hb.2 hb9.size, fun e => by have h1 := (HBL.out b e.symm); have := hb.1; omega, fun h => h⟩) (kdEx.keep (fun b hb n => hb9.cell (p := ⟨b, n, none⟩) hb.2) HR8.out)
            clear hb9
            generalize w8.alloc (.cells #[.int .i64 mk, .string (bstr mv), .string (bstr mn), .slice q4 ms.length c4] 42) = w9 at HRW9 HG9 HS9 HK9 HE9 HR9 HB9 hK' ⊢
            refine hK'.out _ _ HB9.out (fun _ => ?_)
            clear hK' K' hHeld
            have hHeld := HB9.out
            try simp only [Act.put, pz0, pz1, pz2]
            refine wpAnyH_ready (rs := [1]) (by kernel_rfl) (by simp) ?_
            refine AllReadyH.cons (o := ⟨some 40, _, _, _, _, _⟩) rfl (fun K' hK' => ?_) AllReadyH.nil
            obtain ⟨x0, y0, x1, y1, x2, y2, x3, y3⟩ := HG9.out.all4
            go_simp
            clear x0 y0 x1 y1 x2 y2 x3 y3
            refine hK'.out _ _ HB9.out (fun _ => ?_)
            clear hK' K' hHeld
            have hHeld := HB9.out
            try simp only [Act.put, pz0, pz1, pz2]
            refine wpAnyH_ready (rs := [7]) (by kernel_rfl) (by simp) ?_
            refine AllReadyH.cons (o := ⟨some 46, _, _, _, _, _⟩) rfl (fun K' hK' => ?_) AllReadyH.nil
            refine step_row (K := kdEx) rfl (.tmp 40) (.tmp 45) rfl rfl HRW9.out rfl HE9.out HR9.out HAC.out (by have := HGW.out; have := HG9.out.lt; omega) (fun b h => h.elim) ?_
            intro v10 w10 r10 g10 o10
            have HS10 := hiD (HS9.out.grown g10 (B := W.heap.size + 3) (by have := HL.out; omega) (by have := HGW.out; have := HG9.out.lt; omega) (fun k hk => (o10 k hk).1))
            have HK10 := hiD (HK9.out.grownR g10 (fun k hk => Nat.le_trans (by omega) (o10 k hk).1))
            have HG10 : Hid (Arr w10 42 (W.heap.size + 2) [.int .i64 5, .string ⟨#[]⟩, .string ⟨#[]⟩, .slice q acc.length cc]) := (g10.block _ HG9.out.lt (fun e => absurd (o10 _ e.symm).1 (by omega))).trans HG9.out
            have HB10 := hiD (sGrown HB9.out g10 (fun k hk => (o10 k hk).1) (by omega))
            have HRW10 := hiD r10
            obtain ⟨q10, c10, hv10⟩ := r10.form
            rw [List.length_append, List.length_singleton] at hv10
            subst hv10
            clear r10 g10 o10
            refine hK'.out _ _ HB10.out (fun _ => ?_)
            clear hK' K' hHeld
            have hHeld := HB10.out
            try simp only [Act.put, pz0, pz1, pz2]
            refine wpAnyH_take (i := 8) (oi := ⟨some 47, _, _, _, _, _⟩) (v := .pointer (some ⟨W.heap.size + 2, 3, none⟩)) rfl (by kernel_rfl) (by kernel_rfl) (by kernel_rfl) (fun _ _ _ h => h) (.inl ⟨by rfl, fun w' hSw => ?_⟩) hHeld ?_
            focus (skip; clear hHeld; go_simp)
            try simp only [Act.put, pz0, pz1, pz2]
            refine wpAnyH_ready (rs := [9]) (by kernel_rfl) (by simp) ?_
            refine AllReadyH.cons (o := ⟨none, _, _, _, _, _⟩) rfl (fun K' hK' => ?_) AllReadyH.nil
            obtain ⟨x0, y0, x1, y1, x2, y2, x3, y3⟩ := HG10.out.all4
            go_simp
            clear x0 y0 x1 y1 x2 y2 x3 y3
            have HB11 := hiD (sBox HB10.out (g := W.heap.size + 2) 3 (.slice q10 (acc.length + 1) c10) (by omega))
            refine hK'.out _ _ HB11.out (fun _ => ?_)
            clear hK' K' hHeld
            have hHeld := HB11.out
            try simp only [Act.put, pz0, pz1, pz2]
            have HG11 : Hid (Arr (w10.setCell ⟨W.heap.size + 2, 3, none⟩ (.slice q10 (acc.length + 1) c10)) 42 (W.heap.size + 2) [.int .i64 5, .string ⟨#[]⟩, .string ⟨#[]⟩, .slice q10 (acc.length + 1) c10]) := HG10.out.set 3 _
            have HRW11 := hiD (HRW10.out.box (g := W.heap.size + 2) (.inl (by omega)) 3 (.slice q10 (acc.length + 1) c10))
            have HS11 := hiD (HS10.out.box (g := W.heap.size + 2) (by have := HL.out; omega) 3 (.slice q10 (acc.length + 1) c10))
            have HK11 := hiD (HK10.out.box (g := W.heap.size + 2) (by omega) 3 (.slice q10 (acc.length + 1) c10))
            refine wpAnyH_done (by kernel_rfl) ?_ _
            refine NoPanic.normal ?_
            clear HRW10 HG10 HS10 HK10 HRW9 HG9 HS9 HK9 HE9 HR9 HRW8 HG8 HS8 HK8 HR8 HB10 HB9 HB8
            generalize (w10.setCell ⟨W.heap.size + 2, 3, none⟩ (.slice q10 (acc.length + 1) c10)) = w11 at HG11 HRW11 HS11 HK11 HB11 ⊢
            go_wp2_with fail
            go_roundw
            case rel => exact ⟨i + 1, acc ++ [Ex.mk mk mv mn ms], s4, lv4, q10, c10, HLT.out, by go_num, by rw [List.length_append, HLEN.out]; rfl, by rw [List.length_append]; exact HRW11.out, by rw [List.length_append]; exact HG11.out, HB11.out, HS11.out, HK11.out, HE7.out⟩
            case measure => first | exact meas HLT.out (Nat.le_trans HNN.out (by decide)) | exact meas' HLT.out
      · have hlt' : ¬ (i : Int) < n := by omega
        have HE7 : Hid (partC b (d + 1) s lv = (.mk 5 [] [] acc, s2, lv2)) := by
          show _ = _
          rw [HE6.out, show n - i = 0 by omega]; rfl
        have HGZ := HG6
        obtain ⟨x0, y0, x1, y1, x2, y2, x3, y3⟩ := HGZ.out.all4
        go_wp2_with fail
        have hk := kp_set4 wr (W.heap.size + 2) (.int .i64 5) (.string ⟨#[]⟩) (.string ⟨#[]⟩) (.slice q acc.length cc)
        have hA := HGZ.out.set4x (.int .i64 5) (.string ⟨#[]⟩) (.string ⟨#[]⟩) (.slice q acc.length cc)
        refine bodyPost_ret (resX rfl hA rfl) rfl ?_
        rw [HE7.out]
        exact ⟨_, rfl, (VE.kp (HRW6.out.rdE 5 [] []) hk (Nat.lt_succ_self _)).low (by omega), RS.box (RS.box (RS.box (RS.box HS6.out (by have := HL.out; omega) _ _) (by have := HL.out; omega) _ _) (by have := HL.out; omega) _ _) (by have := HL.out; omega) _ _, K2.box (K2.box (K2.box (K2.box HK6.out (by omega) _ _) (by omega) _ _) (by omega) _ _) (by omega) _ _⟩
theorem part_all : ∀ (d : Nat), d ≤ 16 → ∀ (W : World) (s : St) (lv : Nat), RS cb rb b lv s W → Calls Tryz.prog 67 #[.pointer (some ⟨rb, 0, none⟩), .int .i64 ((17 - d : Nat) : Int)] W (PPost cb rb b W (partC b d s lv))
  | 0, _, W, s, lv, h => part_zero rfl h
  | d + 1, hd, W, s, lv, h => part_step rfl hd (fun W s lv h => by
    have := part_all d (by omega) W s lv h
    rw [show 17 - d = (17 - (d + 1)) + 1 by omega, Int.natCast_add] at this
    exact this) h
end
section
variable {cb rb lv : Nat} {b : List UInt8} {s : St} {W : World}
set_option maxRecDepth 100000 in
set_option maxHeartbeats 2000000 in
theorem expr16_any (h : RS cb rb b lv s W) : Calls Tryz.prog 42 #[.pointer (some ⟨rb, 0, none⟩)] W (PPost cb rb b W (partC b 16 s 0)) := by
 have hb : Below W.heap.size W (W.alloc (.cells #[.int .i64 0, .string ⟨#[]⟩, .string ⟨#[]⟩, .slice none 0 0] 42)) := (Below.refl _ _).alloc (Nat.le_refl _) _
 have HL : Hid (cb < rb ∧ rb < W.heap.size) := h.lt
 have HS := hiD (h.later hb)
 have HK : Hid (K2 cb rb W (W.alloc (.cells #[.int .i64 0, .string ⟨#[]⟩, .string ⟨#[]⟩, .slice none 0 0] 42))) := K2.of hb
 have HG : Hid (Arr (W.alloc (.cells #[.int .i64 0, .string ⟨#[]⟩, .string ⟨#[]⟩, .slice none 0 0] 42)) 42 W.heap.size [.int .i64 0, .string ⟨#[]⟩, .string ⟨#[]⟩, .slice none 0 0]) := Arr.new' _ _ _ _ rfl
 have HAR := hiD HS.out.arr
 have HS1 : Hid (RS cb rb b 0 s ((W.alloc (.cells #[.int .i64 0, .string ⟨#[]⟩, .string ⟨#[]⟩, .slice none 0 0] 42)).setCell ⟨rb, 2, none⟩ (.int .i64 0))) := HS.out.leaves (n := 0) (by decide)
 have HK1 := hiD (HK.out.set 2 (.int .i64 0))
 have HG1 : Hid (Arr ((W.alloc (.cells #[.int .i64 0, .string ⟨#[]⟩, .string ⟨#[]⟩, .slice none 0 0] 42)).setCell ⟨rb, 2, none⟩ (.int .i64 0)) 42 W.heap.size [.int .i64 0, .string ⟨#[]⟩, .string ⟨#[]⟩, .slice none 0 0]) := HG.out.setCell (by show _ ≠ rb; have := HL.out; omega) _
 clear h hb HS HK HG
 obtain ⟨x, hx⟩ : ∃ x, x = (partC b 16 s 0).1 := ⟨_, rfl⟩
 obtain ⟨s2, hs2⟩ : ∃ x, x = (partC b 16 s 0).2.1 := ⟨_, rfl⟩
 obtain ⟨lv2, hl2⟩ : ∃ x, x = (partC b 16 s 0).2.2 := ⟨_, rfl⟩
 obtain ⟨mk, mv, mn, ms⟩ := x
 have HPA : Hid (∀ w1, RS cb rb b 0 s w1 → Calls Tryz.prog 67 #[.pointer (some ⟨rb, 0, none⟩), .int .i64 1] w1 fun e w' => ∃ v, e = .returned v ∧ VE w1.heap.size (.mk mk mv mn ms) w' v ∧ RS cb rb b lv2 s2 w' ∧ K2 cb rb w1 w') := fun w1 hw => by
  have h := part_all 16 (by decide) w1 s 0 hw
  unfold PPost at h
  rw [← hx, ← hs2, ← hl2] at h
  exact h
 unfold PPost
 rw [← hx, ← hs2, ← hl2]
 clear hx hs2 hl2
 obtain ⟨x0, y0, x1, y1, x2, y2⟩ := HAR.out.all3
 go_enter Tryz.func42, Tryz.ntmps42
 go_upto_region 2 with (fail)
 clear x0 x1 x2 y0 y1 y2 HAR
 have hsz : ((W.alloc (.cells #[.int .i64 0, .string ⟨#[]⟩, .string ⟨#[]⟩, .slice none 0 0] 42)).setCell ⟨rb, 2, none⟩ (.int .i64 0)).heap.size = W.heap.size + 1 := by simp [World.setCell]
 have HZ := hiD hsz
 clear hsz
 generalize (W.alloc (.cells #[.int .i64 0, .string ⟨#[]⟩, .string ⟨#[]⟩, .slice none 0 0] 42)).setCell ⟨rb, 2, none⟩ (.int .i64 0) = w1 at HS1 HK1 HG1 HZ ⊢
 have HP := hiD (HPA.out w1 HS1.out)
 go_wp2_with fail
 refine HP.out.mono ?_
 rintro e w2 ⟨v, rfl, r2, h2, k2⟩
 have HS2 := hiD h2
 have HK2 := hiD (HK1.out.trans k2)
 have HG2 := hiD (k2.arr HG1.out (by have := HL.out; omega) (by have := HL.out; omega))
 obtain ⟨q4, c4, rfl, _, _⟩ := RdE.form r2
 unfold exv at r2 ⊢
 dsimp only [Ex.kind, Ex.via, Ex.nm, Ex.kids] at r2 ⊢
 have HR2 := hiD r2
 clear r2 h2 k2 HP HS1 HK1 HG1
 obtain ⟨x0, y0, x1, y1, x2, y2, x3, y3⟩ := HG2.out.all4
 go_wp2_with fail
 have hk := kp_set4 w2 W.heap.size (.int .i64 mk) (.string (bstr mv)) (.string (bstr mn)) (.slice q4 ms.length c4)
 have hA := HG2.out.set4x (.int .i64 mk) (.string (bstr mv)) (.string (bstr mn)) (.slice q4 ms.length c4)
 refine bodyPost_ret (resX rfl hA rfl) rfl ?_
 exact ⟨_, rfl, (VE.kp HR2.out hk (by have := HZ.out; omega)).low (by have := HZ.out; omega), RS.box (RS.box (RS.box (RS.box HS2.out (by have := HL.out; omega) _ _) (by have := HL.out; omega) _ _) (by have := HL.out; omega) _ _) (by have := HL.out; omega) _ _, K2.box (K2.box (K2.box (K2.box HK2.out (by omega) _ _) (by omega) _ _) (by omega) _ _) (by omega) _ _⟩
theorem chkM_0 {x : Nat} (h : chkM x = 0) : x = 1 ∨ x = 2 := by
 unfold chkM at h
 split at h
 ·cases h
 omega
theorem chkM_val {b : List UInt8} (s : St) : (numC b chkM s).1 = 0 ∨ (numC b chkM s).1 = 1 ∨ (numC b chkM s).1 = 2 := by
 cases s with
 | er c a => exact .inl rfl
 | go o =>
  by_cases h1 : (num (b.drop o)).2.2 ≠ 0
  ·rw [numC_1 h1]; exact .inl rfl
  ·by_cases h2 : chkM (num (b.drop o)).1 ≠ 0
   ·rw [numC_2 h1 h2]; exact .inl rfl
   ·rw [numC_3 h1 h2]; exact .inr (chkM_0 (Classical.not_not.1 h2))
def MPost (cb rb : Nat) (b : List UInt8) (W : World) (r : MemB × St × Nat) (e : Ending) (w' : World) : Prop := ∃ v, e = .returned v ∧ VM W.heap.size r.1 w' v ∧ RS cb rb b r.2.2 r.2.1 w' ∧ K2 cb rb W w'
set_option maxRecDepth 100000 in
set_option maxHeartbeats 4000000 in
theorem cMember_any (h : RS cb rb b lv s W) : Calls Tryz.prog 48 #[.pointer (some ⟨rb, 0, none⟩)] W (MPost cb rb b W (memC b s lv)) := by
 have hb : Below W.heap.size W (W.alloc (.cells #[.string ⟨#[]⟩, .int .i64 0, .slice none 0 0, .int .i64 0, .string ⟨#[]⟩, .string ⟨#[]⟩, .slice none 0 0] 66)) := (Below.refl _ _).alloc (Nat.le_refl _) _
 have HL : Hid (cb < rb ∧ rb < W.heap.size) := h.lt
 have HS0 := hiD (h.later hb)
 have HK0 : Hid (K2 cb rb W (W.alloc (.cells #[.string ⟨#[]⟩, .int .i64 0, .slice none 0 0, .int .i64 0, .string ⟨#[]⟩, .string ⟨#[]⟩, .slice none 0 0] 66))) := K2.of hb
 have HG0 : Hid (Arr (W.alloc (.cells #[.string ⟨#[]⟩, .int .i64 0, .slice none 0 0, .int .i64 0, .string ⟨#[]⟩, .string ⟨#[]⟩, .slice none 0 0] 66)) 66 W.heap.size [.string ⟨#[]⟩, .int .i64 0, .slice none 0 0, .int .i64 0, .string ⟨#[]⟩, .string ⟨#[]⟩, .slice none 0 0]) := Arr.new' _ _ _ _ rfl
 have HE : Hid (memC b s lv = memK b (nameC b false s).1 (numC b chkM (nameC b false s).2).1 (numC b chkM (nameC b false s).2).2 lv) := rfl
 obtain ⟨nn, hnn⟩ : ∃ x, x = (nameC b false s).1 := ⟨_, rfl⟩
 obtain ⟨s1, hs1⟩ : ∃ x, x = (nameC b false s).2 := ⟨_, rfl⟩
 have HN := hiD (cName_any false HS0.out)
 rw [← hnn, ← hs1] at HN HE
 obtain ⟨k, hk⟩ : ∃ x, x = (numC b chkM s1).1 := ⟨_, rfl⟩
 obtain ⟨s2, hs2⟩ : ∃ x, x = (numC b chkM s1).2 := ⟨_, rfl⟩
 have hk3 : k = 0 ∨ k = 1 ∨ k = 2 := by rw [hk]; exact chkM_val s1
 have HKT := hiD hk3
 rw [← hk, ← hs2] at HE
 have HNM : Hid (∀ w, RS cb rb b lv s1 w → Calls Tryz.prog 69 #[.pointer (some ⟨rb, 0, none⟩), .func (.func 74) #[] #[]] w fun e w' => e = .returned (.int .i64 (k : Nat)) ∧ RS cb rb b lv s2 w' ∧ K2 cb rb w w') := fun w hw => by
  have := numberM hw (fun x hx => by have := chkM_0 hx; omega) (fun x W' s' _ _ => memberC x)
  rw [← hk, ← hs2] at this
  exact this
 clear h hb hnn hs1 hk hs2 hk3
 go_enter Tryz.func48, Tryz.ntmps48
 go_wp2_with fail
 refine HN.out.mono ?_
 rintro e w1 ⟨rfl, h1, k1⟩
 have HS1 := hiD h1
 have HK1 := hiD (HK0.out.trans k1)
 have HG1 := hiD (k1.arr HG0.out (by have := HL.out; omega) (by have := HL.out; omega))
 have HZ1 : Hid (W.heap.size < w1.heap.size) := HG1.out.lt
 clear h1 k1 HK0 HG0 HS0
 clear HN
 obtain ⟨x0, y0, x1, y1, x2, y2, x3, y3, x4, y4, x5, y5, x6, y6⟩ := HG1.out.all7
 go_upto_region 2 with (fail)
 clear x0 y0 x1 y1 x2 y2 x3 y3 x4 y4 x5 y5 x6 y6
 have HG2 : Hid (Arr (w1.setCell ⟨W.heap.size, 0, none⟩ (.string (bstr nn))) 66 W.heap.size [.string (bstr nn), .int .i64 0, .slice none 0 0, .int .i64 0, .string ⟨#[]⟩, .string ⟨#[]⟩, .slice none 0 0]) := HG1.out.set 0 _
 have HS2 := hiD (HS1.out.box (g := W.heap.size) HL.out.2 0 (.string (bstr nn)))
 have HK2 := hiD (HK1.out.box (g := W.heap.size) (Nat.le_refl _) 0 (.string (bstr nn)))
 have HZ2 : Hid (W.heap.size < (w1.setCell ⟨W.heap.size, 0, none⟩ (.string (bstr nn))).heap.size) := by have := HG2.out.lt; exact this
 clear HG1 HS1 HK1 HZ1
 generalize w1.setCell ⟨W.heap.size, 0, none⟩ (.string (bstr nn)) = w2 at HG2 HS2 HK2 HZ2 ⊢
 have HNX := hiD (HNM.out w2 HS2.out)
 go_wp2_with fail
 refine HNX.out.mono ?_
 rintro e w3 ⟨rfl, h3, k3⟩
 have HS3 := hiD h3
 have HK3 := hiD (HK2.out.trans k3)
 have HG3 := hiD (k3.arr HG2.out (by have := HL.out; omega) (by have := HL.out; omega))
 have HZ3 : Hid (W.heap.size < w3.heap.size) := HG3.out.lt
 clear h3 k3 HK2 HG2 HS2
 clear HNX HNM
 obtain ⟨x0, y0, x1, y1, x2, y2, x3, y3, x4, y4, x5, y5, x6, y6⟩ := HG3.out.all7
 rcases HKT.out with rfl | rfl | rfl
 ·clear HKT
  clear x1
  have x1 := HG3.out.cell 1
  simp only [List.getElem?_cons_zero, List.getElem?_cons_succ] at x1
  go_upto_region 8 with (fail)
  clear x0 y0 x1 y1 x2 y2 x3 y3 x4 y4 x5 y5 x6 y6
  have HG4 : Hid (Arr (w3.setCell ⟨W.heap.size, 1, none⟩ (.int .i64 0)) 66 W.heap.size [.string (bstr nn), .int .i64 0, .slice none 0 0, .int .i64 0, .string ⟨#[]⟩, .string ⟨#[]⟩, .slice none 0 0]) := HG3.out.set 1 _
  have HS4 := hiD (HS3.out.box (g := W.heap.size) HL.out.2 1 (.int .i64 0))
  have HK4 := hiD (HK3.out.box (g := W.heap.size) (Nat.le_refl _) 1 (.int .i64 0))
  have HZ4 : Hid (W.heap.size < (w3.setCell ⟨W.heap.size, 1, none⟩ (.int .i64 0)).heap.size) := by have := HG4.out.lt; exact this
  clear HG3 HS3 HK3 HZ3
  generalize w3.setCell ⟨W.heap.size, 1, none⟩ (.int .i64 0) = w4 at HG4 HS4 HK4 HZ4 ⊢
  have HE : Hid (memC b s lv = ((nn, 0, [], ex0), s2, lv)) := HE.out
  obtain ⟨x0, y0, x1, y1, x2, y2, x3, y3, x4, y4, x5, y5, x6, y6⟩ := HG4.out.all7
  go_wp2_with fail
  have hk := kp_setM w4 W.heap.size (.string (bstr nn)) (.int .i64 0) (.slice none 0 0) (.int .i64 0) (.string ⟨#[]⟩) (.string ⟨#[]⟩) (.slice none 0 0)
  have hA := HG4.out.setM (.string (bstr nn)) (.int .i64 0) (.slice none 0 0) (.int .i64 0) (.string ⟨#[]⟩) (.string ⟨#[]⟩) (.slice none 0 0)
  refine bodyPost_ret (resM rfl hA rfl) rfl ?_
  rw [HE.out]
  exact ⟨_, rfl, ⟨_, rfl, _, _, _, _, _, rfl, RdA.nil _ _, VE.leaf _ _ _ _ _⟩, RS.box (RS.box (RS.box (RS.box (RS.box (RS.box (RS.box (HS4.out) HL.out.2 _ _) HL.out.2 _ _) HL.out.2 _ _) HL.out.2 _ _) HL.out.2 _ _) HL.out.2 _ _) HL.out.2 _ _, K2.box (K2.box (K2.box (K2.box (K2.box (K2.box (K2.box (HK4.out) (Nat.le_refl _) _ _) (Nat.le_refl _) _ _) (Nat.le_refl _) _ _) (Nat.le_refl _) _ _) (Nat.le_refl _) _ _) (Nat.le_refl _) _ _) (Nat.le_refl _) _ _⟩
 ·clear HKT
  go_upto_region 5 with (fail)
  clear x0 y0 x1 y1 x2 y2 x3 y3 x4 y4 x5 y5 x6 y6
  have HG4 : Hid (Arr (w3.setCell ⟨W.heap.size, 1, none⟩ (.int .i64 1)) 66 W.heap.size [.string (bstr nn), .int .i64 1, .slice none 0 0, .int .i64 0, .string ⟨#[]⟩, .string ⟨#[]⟩, .slice none 0 0]) := HG3.out.set 1 _
  have HS4 := hiD (HS3.out.box (g := W.heap.size) HL.out.2 1 (.int .i64 1))
  have HK4 := hiD (HK3.out.box (g := W.heap.size) (Nat.le_refl _) 1 (.int .i64 1))
  have HZ4 : Hid (W.heap.size < (w3.setCell ⟨W.heap.size, 1, none⟩ (.int .i64 1)).heap.size) := by have := HG4.out.lt; exact this
  clear HG3 HS3 HK3 HZ3
  generalize w3.setCell ⟨W.heap.size, 1, none⟩ (.int .i64 1) = w4 at HG4 HS4 HK4 HZ4 ⊢
  have HE : Hid (memC b s lv = ((nn, 1, (typesC b s2 lv).1, ex0), (typesC b s2 lv).2)) := HE.out
  have HT := hiD (types_any HS4.out)
  have HTL : Hid ((typesC b s2 lv).2.2 = lv) := types_lv b s2 lv
  obtain ⟨l, hl⟩ : ∃ x, x = (typesC b s2 lv).1 := ⟨_, rfl⟩
  obtain ⟨R, hR⟩ : ∃ x, x = (typesC b s2 lv).2 := ⟨_, rfl⟩
  rw [← hl, ← hR] at HT HE
  rw [← hR] at HTL
  obtain ⟨s5, lv5⟩ := R
  obtain rfl : lv5 = lv := HTL.out
  clear hl hR HTL
  go_wp2_with fail
  refine HT.out.mono ?_
  rintro e w5 ⟨v, rfl, r5, h5, k5⟩
  obtain ⟨q5, c5, rfl⟩ := r5.form
  have HR5 := hiD (RdA.low r5.rd (Nat.le_of_lt HZ4.out))
  have HB5 : Hid (Bt w4.heap.size w5.heap.size = Bt w4.heap.size w5.heap.size) := rfl
  have HRR := hiD r5.rd
  clear r5 HB5
  have HS5 := hiD h5
  have HK5 := hiD (HK4.out.trans k5)
  have HG5 := hiD (k5.arr HG4.out (by have := HL.out; omega) (by have := HL.out; omega))
  have HZ5 : Hid (W.heap.size < w5.heap.size) := HG5.out.lt
  clear h5 k5 HK4 HG4 HS4
  clear HT
  obtain ⟨x0, y0, x1, y1, x2, y2, x3, y3, x4, y4, x5, y5, x6, y6⟩ := HG5.out.all7
  go_upto_region 8 with (fail)
  clear x0 y0 x1 y1 x2 y2 x3 y3 x4 y4 x5 y5 x6 y6
  have HG6 : Hid (Arr (w5.setCell ⟨W.heap.size, 2, none⟩ (.slice q5 l.length c5)) 66 W.heap.size [.string (bstr nn), .int .i64 1, .slice q5 l.length c5, .int .i64 0, .string ⟨#[]⟩, .string ⟨#[]⟩, .slice none 0 0]) := HG5.out.set 2 _
  have HS6 := hiD (HS5.out.box (g := W.heap.size) HL.out.2 2 (.slice q5 l.length c5))
  have HK6 := hiD (HK5.out.box (g := W.heap.size) (Nat.le_refl _) 2 (.slice q5 l.length c5))
  have HZ6 : Hid (W.heap.size < (w5.setCell ⟨W.heap.size, 2, none⟩ (.slice q5 l.length c5)).heap.size) := by have := HG6.out.lt; exact this
  have HRX : Hid (RdA (Bt w4.heap.size (w5.setCell ⟨W.heap.size, 2, none⟩ (.slice q5 l.length c5)).heap.size) (w5.setCell ⟨W.heap.size, 2, none⟩ (.slice q5 l.length c5)) l (.slice q5 l.length c5)) := RdA.kp HRR.out ((Kp.of (pb := W.heap.size) (Below.refl _ _)).set 2 _) HZ4.out
  clear HG5 HS5 HK5 HZ5 HR5 HRR
  generalize w5.setCell ⟨W.heap.size, 2, none⟩ (.slice q5 l.length c5) = w6 at HG6 HS6 HK6 HZ6 HRX ⊢
  obtain ⟨x0, y0, x1, y1, x2, y2, x3, y3, x4, y4, x5, y5, x6, y6⟩ := HG6.out.all7
  go_wp2_with fail
  have hk := kp_setM w6 W.heap.size (.string (bstr nn)) (.int .i64 1) (.slice q5 l.length c5) (.int .i64 0) (.string ⟨#[]⟩) (.string ⟨#[]⟩) (.slice none 0 0)
  have hA := HG6.out.setM (.string (bstr nn)) (.int .i64 1) (.slice q5 l.length c5) (.int .i64 0) (.string ⟨#[]⟩) (.string ⟨#[]⟩) (.slice none 0 0)
  refine bodyPost_ret (resM rfl hA rfl) rfl ?_
  rw [HE.out]
  exact ⟨_, rfl, ⟨_, rfl, _, _, _, _, _, rfl, (RdA.kp HRX.out hk HZ4.out).low (Nat.le_of_lt HZ4.out), VE.leaf _ _ _ _ _⟩, RS.box (RS.box (RS.box (RS.box (RS.box (RS.box (RS.box (HS6.out) HL.out.2 _ _) HL.out.2 _ _) HL.out.2 _ _) HL.out.2 _ _) HL.out.2 _ _) HL.out.2 _ _) HL.out.2 _ _, K2.box (K2.box (K2.box (K2.box (K2.box (K2.box (K2.box (HK6.out) (Nat.le_refl _) _ _) (Nat.le_refl _) _ _) (Nat.le_refl _) _ _) (Nat.le_refl _) _ _) (Nat.le_refl _) _ _) (Nat.le_refl _) _ _) (Nat.le_refl _) _ _⟩
 ·clear HKT
  go_upto_region 7 with (fail)
  clear x0 y0 x1 y1 x2 y2 x3 y3 x4 y4 x5 y5 x6 y6
  have HG4 : Hid (Arr (w3.setCell ⟨W.heap.size, 1, none⟩ (.int .i64 2)) 66 W.heap.size [.string (bstr nn), .int .i64 2, .slice none 0 0, .int .i64 0, .string ⟨#[]⟩, .string ⟨#[]⟩, .slice none 0 0]) := HG3.out.set 1 _
  have HS4 := hiD (HS3.out.box (g := W.heap.size) HL.out.2 1 (.int .i64 2))
  have HK4 := hiD (HK3.out.box (g := W.heap.size) (Nat.le_refl _) 1 (.int .i64 2))
  have HZ4 : Hid (W.heap.size < (w3.setCell ⟨W.heap.size, 1, none⟩ (.int .i64 2)).heap.size) := by have := HG4.out.lt; exact this
  clear HG3 HS3 HK3 HZ3
  generalize w3.setCell ⟨W.heap.size, 1, none⟩ (.int .i64 2) = w4 at HG4 HS4 HK4 HZ4 ⊢
  have HE : Hid (memC b s lv = ((nn, 2, [], (partC b 16 s2 0).1), (partC b 16 s2 0).2)) := HE.out
  have HT := hiD (expr16_any HS4.out)
  obtain ⟨x, hx⟩ : ∃ x, x = (partC b 16 s2 0).1 := ⟨_, rfl⟩
  obtain ⟨R, hR⟩ : ∃ x, x = (partC b 16 s2 0).2 := ⟨_, rfl⟩
  unfold PPost at HT
  rw [← hx, ← hR] at HT HE
  obtain ⟨s5, lv5⟩ := R
  obtain ⟨mk, mv, mn, ms⟩ := x
  clear hx hR
  go_wp2_with fail
  refine HT.out.mono ?_
  rintro e w5 ⟨v, rfl, r5, h5, k5⟩
  obtain ⟨q4, c4, rfl, _, _⟩ := RdE.form r5
  unfold exv at r5 ⊢
  dsimp only [Ex.kind, Ex.via, Ex.nm, Ex.kids] at r5 h5 ⊢
  have HRR := hiD r5
  clear r5
  have HS5 := hiD h5
  have HK5 := hiD (HK4.out.trans k5)
  have HG5 := hiD (k5.arr HG4.out (by have := HL.out; omega) (by have := HL.out; omega))
  have HZ5 : Hid (W.heap.size < w5.heap.size) := HG5.out.lt
  clear h5 k5 HK4 HG4 HS4
  clear HT
  obtain ⟨x0, y0, x1, y1, x2, y2, x3, y3, x4, y4, x5, y5, x6, y6⟩ := HG5.out.all7
  go_upto_region 8 with (fail)
  clear x0 y0 x1 y1 x2 y2 x3 y3 x4 y4 x5 y5 x6 y6
  have HG6 : Hid (Arr ((((w5.setCell ⟨W.heap.size, 3, none⟩ (.int .i64 mk)).setCell ⟨W.heap.size, 4, none⟩ (.string (bstr mv))).setCell ⟨W.heap.size, 5, none⟩ (.string (bstr mn))).setCell ⟨W.heap.size, 6, none⟩ (.slice q4 ms.length c4)) 66 W.heap.size [.string (bstr nn), .int .i64 2, .slice none 0 0, .int .i64 mk, .string (bstr mv), .string (bstr mn), .slice q4 ms.length c4]) := (((HG5.out.set 3 (.int .i64 mk)).set 4 (.string (bstr mv))).set 5 (.string (bstr mn))).set 6 (.slice q4 ms.length c4)
  have HS6 : Hid (RS cb rb b lv5 s5 ((((w5.setCell ⟨W.heap.size, 3, none⟩ (.int .i64 mk)).setCell ⟨W.heap.size, 4, none⟩ (.string (bstr mv))).setCell ⟨W.heap.size, 5, none⟩ (.string (bstr mn))).setCell ⟨W.heap.size, 6, none⟩ (.slice q4 ms.length c4))) := RS.box (RS.box (RS.box (RS.box HS5.out HL.out.2 _ _) HL.out.2 _ _) HL.out.2 _ _) HL.out.2 _ _
  have HK6 : Hid (K2 cb rb W ((((w5.setCell ⟨W.heap.size, 3, none⟩ (.int .i64 mk)).setCell ⟨W.heap.size, 4, none⟩ (.string (bstr mv))).setCell ⟨W.heap.size, 5, none⟩ (.string (bstr mn))).setCell ⟨W.heap.size, 6, none⟩ (.slice q4 ms.length c4))) := K2.box (K2.box (K2.box (K2.box HK5.out (Nat.le_refl _) _ _) (Nat.le_refl _) _ _) (Nat.le_refl _) _ _) (Nat.le_refl _) _ _
  have HRX : Hid (VE w4.heap.size (.mk mk mv mn ms) ((((w5.setCell ⟨W.heap.size, 3, none⟩ (.int .i64 mk)).setCell ⟨W.heap.size, 4, none⟩ (.string (bstr mv))).setCell ⟨W.heap.size, 5, none⟩ (.string (bstr mn))).setCell ⟨W.heap.size, 6, none⟩ (.slice q4 ms.length c4)) (.agg #[.int .i64 mk, .string (bstr mv), .string (bstr mn), .slice q4 ms.length c4])) := VE.kp HRR.out (kp_set43 _ _ _ _ _ _) HZ4.out
  clear HG5 HS5 HK5 HZ5 HRR
  generalize ((((w5.setCell ⟨W.heap.size, 3, none⟩ (.int .i64 mk)).setCell ⟨W.heap.size, 4, none⟩ (.string (bstr mv))).setCell ⟨W.heap.size, 5, none⟩ (.string (bstr mn))).setCell ⟨W.heap.size, 6, none⟩ (.slice q4 ms.length c4)) = w6 at HG6 HS6 HK6 HRX ⊢
  obtain ⟨x0, y0, x1, y1, x2, y2, x3, y3, x4, y4, x5, y5, x6, y6⟩ := HG6.out.all7
  go_wp2_with fail
  have hk := kp_setM w6 W.heap.size (.string (bstr nn)) (.int .i64 2) (.slice none 0 0) (.int .i64 mk) (.string (bstr mv)) (.string (bstr mn)) (.slice q4 ms.length c4)
  have hA := HG6.out.setM (.string (bstr nn)) (.int .i64 2) (.slice none 0 0) (.int .i64 mk) (.string (bstr mv)) (.string (bstr mn)) (.slice q4 ms.length c4)
  refine bodyPost_ret (resM rfl hA rfl) rfl ?_
  rw [HE.out]
  exact ⟨_, rfl, ⟨_, rfl, _, _, _, _, _, rfl, RdA.nil _ _, (VE.kp HRX.out hk HZ4.out).low (Nat.le_of_lt HZ4.out)⟩, RS.box (RS.box (RS.box (RS.box (RS.box (RS.box (RS.box (HS6.out) HL.out.2 _ _) HL.out.2 _ _) HL.out.2 _ _) HL.out.2 _ _) HL.out.2 _ _) HL.out.2 _ _) HL.out.2 _ _, K2.box (K2.box (K2.box (K2.box (K2.box (K2.box (K2.box (HK6.out) (Nat.le_refl _) _ _) (Nat.le_refl _) _ _) (Nat.le_refl _) _ _) (Nat.le_refl _) _ _) (Nat.le_refl _) _ _) (Nat.le_refl _) _ _) (Nat.le_refl _) _ _⟩
end
section
variable {cb rb lv : Nat} {b : List UInt8} {s : St} {W : World}
def SPost (cb rb : Nat) (b : List UInt8) (W : World) (r : List DefB × St × Nat) (e : Ending) (w' : World) : Prop := ∃ v, e = .returned v ∧ VS W.heap.size r.1 w' v ∧ RS cb rb b r.2.2 r.2.1 w' ∧ K2 cb rb W w'
set_option maxRecDepth 100000 in
set_option maxHeartbeats 8000000 in
theorem cSchema_any (h : RS cb rb b lv s W) : Calls Tryz.prog 23 #[.pointer (some ⟨rb, 0, none⟩)] W (SPost cb rb b W (schC b s lv)) := by
 have hb : Below W.heap.size W (W.alloc (.cells #[.slice none 0 0] 26)) := (Below.refl _ _).alloc (Nat.le_refl _) _
 have HL0 : Hid (cb < rb ∧ rb < W.heap.size) := h.lt
 have HS0 := hiD (h.later hb)
 have HK0 : Hid (K2 cb rb W (W.alloc (.cells #[.slice none 0 0] 26))) := K2.of hb
 have HG0 : Hid (Arr (W.alloc (.cells #[.slice none 0 0] 26)) 26 W.heap.size [.slice none 0 0]) := Arr.new' _ _ _ _ rfl
 have HNN : Hid ((numC b (chkC 0 64) s).1 ≤ 64) := numC_le (fun x hx => (chkC_0 hx).2) s
 have HE0 : Hid (schC b s lv = loopC (defC b) (numC b (chkC 0 64) s).1 [] (numC b (chkC 0 64) s).2 lv) := rfl
 have HN := hiD (cCount_any 0 64 HS0.out (by decide))
 obtain ⟨n, hn⟩ : ∃ x, x = (numC b (chkC 0 64) s).1 := ⟨_, rfl⟩
 obtain ⟨s1, hs1⟩ : ∃ x, x = (numC b (chkC 0 64) s).2 := ⟨_, rfl⟩
 rw [← hn, ← hs1] at HN HE0
 rw [← hn] at HNN
 clear h hb hn hs1
 go_enter Tryz.func23, Tryz.ntmps23
 go_wp2_with fail
 refine HN.out.mono ?_
 rintro e w1 ⟨rfl, h1, k1⟩
 have HS1 := hiD h1
 have HK1 := hiD (HK0.out.trans k1)
 have HG1 := hiD (k1.arr HG0.out (by have := HL0.out; omega) (by have := HL0.out; omega))
 clear h1 k1 HN HS0 HK0 HG0
 go_wp2_with fail
 go_loopw [6] (fun iv wr => ∃ (i : Nat) (accd : List DefB) (s2 : St) (lv2 : Nat) (qd : Option Addr) (cd : Nat), i ≤ n ∧ iv = .int .i64 (i : Nat) ∧ Hid (accd.length = i) ∧ Hid (PRow kdDef (W.heap.size + 1) (fun _ => False) wr (.slice qd accd.length cd) accd) ∧ Hid (Arr wr 26 W.heap.size [.slice qd accd.length cd]) ∧ Hid (RS cb rb b lv2 s2 wr) ∧ Hid (K2 cb rb W wr) ∧ Hid (schC b s lv = loopC (defC b) (n - i) accd s2 lv2)) (fun iv _ => n - (intOf iv).toNat)
 case atStart => exact ⟨0, [], s1, lv, none, 0, Nat.zero_le _, rfl, rfl, PRow.nil _ _ _ _, HG1.out, HS1.out, HK1.out, HE0.out⟩
 case round =>
  obtain ⟨i, accd, s2, lv2, qd, cd, hi, rfl, HLD, HRD, HGD, HS2, HK2, HE2⟩ := hrel
  by_cases hlt : i < n
  ·have hlt' : (i : Int) < n := by omega
   have hw : wrap64 ((i : Int) + 1) = (i : Int) + 1 := by unfold wrap64; have := HNN.out; omega
   have HLI : Hid (i < n) := hlt
   obtain ⟨dn, hdn⟩ : ∃ x, x = (nameC b false s2).1 := ⟨_, rfl⟩
   obtain ⟨s3, hs3⟩ : ∃ x, x = (nameC b false s2).2 := ⟨_, rfl⟩
   obtain ⟨m, hm⟩ : ∃ x, x = (numC b (chkC 0 64) s3).1 := ⟨_, rfl⟩
   obtain ⟨s5, hs5⟩ : ∃ x, x = (numC b (chkC 0 64) s3).2 := ⟨_, rfl⟩
   have HMM : Hid (m ≤ 64) := by rw [hm]; exact numC_le (fun x hx => (chkC_0 hx).2) s3
   have HE5 : Hid (schC b s lv = loopC (defC b) (n - (i + 1)) (accd ++ [(dn, (loopC (memC b) (m - 0) [] s5 lv2).1)]) (loopC (memC b) (m - 0) [] s5 lv2).2.1 (loopC (memC b) (m - 0) [] s5 lv2).2.2) := by
    show _ = _
    rw [HE2.out, show n - i = (n - (i + 1)) + 1 by omega, loopC]
    show loopC _ _ (accd ++ [((nameC b false s2).1, (loopC (memC b) (numC b (chkC 0 64) (nameC b false s2).2).1 [] (numC b (chkC 0 64) (nameC b false s2).2).2 lv2).1)]) (loopC (memC b) (numC b (chkC 0 64) (nameC b false s2).2).1 [] (numC b (chkC 0 64) (nameC b false s2).2).2 lv2).2.1 (loopC (memC b) (numC b (chkC 0 64) (nameC b false s2).2).1 [] (numC b (chkC 0 64) (nameC b false s2).2).2 lv2).2.2 = _
    rw [← hdn, ← hs3, ← hm, ← hs5, Nat.sub_zero]
   have HN2 := hiD (cName_any false HS2.out)
   rw [← hdn, ← hs3] at HN2
   have HCN : Hid (∀ w, RS cb rb b lv2 s3 w → Calls Tryz.prog 46 #[.pointer (some ⟨rb, 0, none⟩), .int .u64 0, .int .u64 64] w fun e w' => e = .returned (.int .i64 (m : Nat)) ∧ RS cb rb b lv2 s5 w' ∧ K2 cb rb w w') := fun w hw => by
    have := cCount_any 0 64 hw (by decide)
    rw [← hm, ← hs5] at this
    exact this
   clear HE2 hdn hs3 hm hs5 hlt
   go_wp2_with fail
   refine HN2.out.mono ?_
   rintro e w3 ⟨rfl, h3, k3⟩
   have HL : Hid (cb < rb ∧ rb < w3.heap.size) := h3.lt
   have HRD3 := hiD (HRD.out.turn (w' := w3) k3.2.2.2.1 (fun b hb hl _ => k3.2.2.2.2 b hl (by have := HL0.out; omega) (by have := HL0.out; omega)))
   have HGD3 := hiD (k3.arr HGD.out (by have := HL0.out; omega) (by have := HL0.out; omega))
   have HK3 := hiD (HK2.out.trans k3)
   have hb3 : Below w3.heap.size w3 (w3.alloc (.cells #[.string (bstr dn), .slice none 0 0] 53)) := (Below.refl _ _).alloc (Nat.le_refl _) _
   have HS4 := hiD (h3.later hb3)
   have HK4 : Hid (K2 cb rb w3 (w3.alloc (.cells #[.string (bstr dn), .slice none 0 0] 53))) := K2.of hb3
   have HG4 : Hid (Arr (w3.alloc (.cells #[.string (bstr dn), .slice none 0 0] 53)) 53 w3.heap.size [.string (bstr dn), .slice none 0 0]) := Arr.new' _ _ _ _ rfl
   have HCX := hiD (HCN.out _ HS4.out)
   clear h3 k3 hb3 HRD HGD HK2 HS2 HN2 HCN
   go_wp2_with fail
   refine HCX.out.mono ?_
   rintro e w5 ⟨rfl, h5, k5⟩
   have HS5 := hiD h5
   have HK5 := hiD (HK4.out.trans k5)
   have HG5 := hiD (k5.arr HG4.out (by have := HL.out; omega) (by have := HL.out; omega))
   clear h5 k5 HCX HS4 HK4 HG4
   go_wp2_with fail
   go_loopw [13] (fun jv wr => ∃ (j : Nat) (acc : List MemB) (s6 : St) (lv6 : Nat) (q : Option Addr) (cc : Nat), j ≤ m ∧ jv = .int .i64 (j : Nat) ∧ Hid (acc.length = j) ∧ Hid (PRow kdMem (w3.heap.size + 1) (fun _ => False) wr (.slice q acc.length cc) acc) ∧ Hid (Arr wr 53 w3.heap.size [.string (bstr dn), .slice q acc.length cc]) ∧ Hid (RS cb rb b lv6 s6 wr) ∧ Hid (K2 cb rb w3 wr) ∧ Hid (schC b s lv = loopC (defC b) (n - (i + 1)) (accd ++ [(dn, (loopC (memC b) (m - j) acc s6 lv6).1)]) (loopC (memC b) (m - j) acc s6 lv6).2.1 (loopC (memC b) (m - j) acc s6 lv6).2.2)) (fun jv _ => m - (intOf jv).toNat)
   case atStart => exact ⟨0, [], s5, lv2, none, 0, Nat.zero_le _, rfl, rfl, PRow.nil _ _ _ _, HG5.out, HS5.out, HK5.out, HE5.out⟩
   case round =>
    obtain ⟨j, acc, s6, lv6, q, cc, hj, rfl, HLEN, HRW6, HG6, HS6, HK6, HE6⟩ := hrel
    by_cases hlj : j < m
    ·have hlj' : (j : Int) < m := by omega
     have hwj : wrap64 ((j : Int) + 1) = (j : Int) + 1 := by unfold wrap64; have := HMM.out; omega
     have HLT : Hid (j < m) := hlj
     obtain ⟨x, hx⟩ : ∃ x, x = (memC b s6 lv6).1 := ⟨_, rfl⟩
     obtain ⟨s8, hs8⟩ : ∃ x, x = (memC b s6 lv6).2.1 := ⟨_, rfl⟩
     obtain ⟨lv8, hl8⟩ : ∃ x, x = (memC b s6 lv6).2.2 := ⟨_, rfl⟩
     have HE7 : Hid (schC b s lv = loopC (defC b) (n - (i + 1)) (accd ++ [(dn, (loopC (memC b) (m - (j + 1)) (acc ++ [x]) s8 lv8).1)]) (loopC (memC b) (m - (j + 1)) (acc ++ [x]) s8 lv8).2.1 (loopC (memC b) (m - (j + 1)) (acc ++ [x]) s8 lv8).2.2) := by
      show _ = _
      rw [HE6.out, show m - j = (m - (j + 1)) + 1 by omega, loopC, ← hx, ← hs8, ← hl8]
     have HCT : Hid (∀ w7, RS cb rb b lv6 s6 w7 → Calls Tryz.prog 48 #[.pointer (some ⟨rb, 0, none⟩)] w7 fun e w' => ∃ v, e = .returned v ∧ (VM w7.heap.size x w' v ∧ RS cb rb b lv8 s8 w' ∧ K2 cb rb w7 w')) := fun w7 hw7 => by
      have h := cMember_any hw7
      unfold MPost at h
      rw [← hx, ← hs8, ← hl8] at h
      exact h
     have HAC : Hid (acc.length + 1 ≤ 200000) := by show _ ≤ _; have := HMM.out; have := HLEN.out; omega
     have HGW : Hid (w3.heap.size < w3.heap.size + 1) := Nat.lt_succ_self _
     clear HE6 hx hs8 hl8 hlj
     go_upto_region 6 with (fail)
     generalize hwr : wr = w6 at HRW6 HG6 HS6 HK6 ⊢
     clear hwr
     refine wp_region_noPanic ?_
     refine wp_region_held_drew (S := fun W' => True) (by kernel_rfl) trivial (fun hHeld => ?_)
     try simp only [Act.put]
     have hb7 : Below w6.heap.size w6 w6.drew := (Below.refl _ _).drew
     have HRW7 := hiD (HRW6.out.later hb7)
     have HG7 := hiD (HG6.out.later hb7)
     have HS7 := hiD (HS6.out.later hb7)
     have HK7 := hiD (HK6.out.trans (K2.of hb7))
     clear hb7
     generalize w6.drew = w7 at HRW7 HG7 HS7 HK7 hHeld ⊢
     have HN7 := hiD (HCT.out w7 HS7.out)
     have HGL : Hid (w3.heap.size + 1 ≤ w7.heap.size) := by show _ ≤ _; have := HG7.out.lt; omega
     have HBL : Hid (∀ b, (Value.slice q acc.length cc).ownBlock = some b → b < w7.heap.size) := fun b hb => by obtain ⟨_, h, _⟩ := HRW7.out; exact (h.lt b hb).2
     refine wpAnyH_take (i := 0) (oi := ⟨some 15, _, _, _, _, _⟩) (v := .pointer (some ⟨w3.heap.size, 1, none⟩)) rfl (by kernel_rfl) (by kernel_rfl) (by kernel_rfl) (fun _ _ _ h => h) (.inl ⟨by rfl, fun w' hSw => ?_⟩) hHeld ?_
     focus (skip; clear hHeld; go_simp)
     try simp only [Act.put, pz0, pz1, pz2]
     refine wpAnyH_take (i := 2) (oi := ⟨some 17, _, _, _, _, _⟩) (v := .pointer (some ⟨rb, 0, none⟩)) rfl (by kernel_rfl) (by kernel_rfl) (by kernel_rfl) (fun _ _ _ h => h) (.inl ⟨by rfl, fun w' hSw => ?_⟩) hHeld ?_
     focus (skip; clear hHeld; go_simp)
     try simp only [Act.put, pz0, pz1, pz2]
     refine wpAnyH_ready (rs := [1, 3]) (by kernel_rfl) (by simp) ?_
     refine AllReadyH.cons (o := ⟨some 16, _, _, _, _, _⟩) rfl (fun K' hK' => ?_) (AllReadyH.cons (o := ⟨some 18, _, _, _, _, _⟩) rfl (fun K' hK' => ?_) AllReadyH.nil)
     ·have x0 := HG7.out.cell 0
      have y0 := HG7.out.free 0
      have x1 := HG7.out.cell 1
      have y1 := HG7.out.free 1
      simp only [List.getElem?_cons_zero, List.getElem?_cons_succ] at x0 x1
      go_simp
      clear x0 y0 x1 y1
      refine hK'.out _ _ trivial (fun _ => ?_)
      clear hK' K' hHeld
      have hHeld := trivial
      try simp only [Act.put, pz0, pz1, pz2]
      refine wpAnyH_ready (rs := [3]) (by kernel_rfl) (by simp) ?_
      refine AllReadyH.cons (o := ⟨some 18, _, _, _, _, _⟩) rfl (fun K' hK' => ?_) AllReadyH.nil
      refine stepw_call (by rfl) ?_ HN7.out ?_
      focus go_simp
      rintro v w8 ⟨r8, s8, k8⟩
      obtain ⟨cs, rfl, vt, v3, v4, v5, v6, rfl, ra, re⟩ := r8
      have HR8 : Hid (rdMem (Bt w7.heap.size w8.heap.size) w8 x [.string (bstr x.1), .int .i64 x.2.1, vt, v3, v4, v5, v6]) := ⟨vt, v3, v4, v5, v6, rfl, ra, re⟩
      have r8 : True := trivial
      clear ra re
      have HRW8 := hiD (HRW7.out.turn (w' := w8) k8.2.2.2.1 (fun b hb hl _ => k8.2.2.2.2 b hl (by have := HL.out; omega) (by have := HL.out; omega)))
      have HG8 := hiD (k8.arr HG7.out (by have := HL.out; omega) (by have := HL.out; omega))
      have HS8 := hiD s8
      have HK8 := hiD (HK7.out.trans k8)
      skip
      clear s8 k8 r8
      refine hK'.out _ _ trivial (fun _ => ?_)
      clear hK' K' hHeld
      have hHeld := trivial
      try simp only [Act.put, pz0, pz1, pz2]
      refine wpAnyH_ready (rs := [4]) (by kernel_rfl) (by simp) ?_
      refine AllReadyH.cons (o := ⟨some 19, _, _, _, _, _⟩) rfl (fun K' hK' => ?_) AllReadyH.nil
      go_simp
      have hb9 : Below w8.heap.size w8 (w8.alloc (.cells #[.string (bstr x.1), .int .i64 x.2.1, vt, v3, v4, v5, v6] 66)) := (Below.refl _ _).alloc (Nat.le_refl _) _
      have HRW9 := hiD (HRW8.out.later hb9)
      have HG9 := hiD (HG8.out.later hb9)
      have HS9 := hiD (HS8.out.later hb9)
      have HK9 := hiD (HK8.out.trans (K2.of hb9))
      have HE9 : Hid (Arr (w8.alloc (.cells #[.string (bstr x.1), .int .i64 x.2.1, vt, v3, v4, v5, v6] 66)) 66 w8.heap.size [.string (bstr x.1), .int .i64 x.2.1, vt, v3, v4, v5, v6]) := Arr.new' _ _ _ _ rfl
      have HR9 : Hid (kdMem.rd (SubX (w3.heap.size + 1) (fun _ => False) (w8.alloc (.cells #[.string (bstr x.1), .int .i64 x.2.1, vt, v3, v4, v5, v6] 66)) (.slice q acc.length cc)) (w8.alloc (.cells #[.string (bstr x.1), .int .i64 x.2.1, vt, v3, v4, v5, v6] 66)) x [.string (bstr x.1), .int .i64 x.2.1, vt, v3, v4, v5, v6]) := kdMem.imp (fun b hb => ⟨by have := HGL.out; have := hb.1; omega, Nat.lt_of_lt_of_le hb.2 hb9.size, fun e => by have h1 := (HBL.out b e.symm); have := hb.1; omega, fun h => h⟩) (kdMem.keep (fun b hb n => hb9.cell (p := ⟨b, n, none⟩) hb.2) HR8.out)
      clear hb9
      generalize w8.alloc (.cells #[.string (bstr x.1), .int .i64 x.2.1, vt, v3, v4, v5, v6] 66) = w9 at HRW9 HG9 HS9 HK9 HE9 HR9 hK' ⊢
      refine hK'.out _ _ trivial (fun _ => ?_)
      clear hK' K' hHeld
      have hHeld := trivial
      try simp only [Act.put, pz0, pz1, pz2]
      refine wpAnyH_ready (rs := [5]) (by kernel_rfl) (by simp) ?_
      refine AllReadyH.cons (o := ⟨some 20, _, _, _, _, _⟩) rfl (fun K' hK' => ?_) AllReadyH.nil
      refine step_row (K := kdMem) rfl (.tmp 16) (.tmp 19) rfl rfl HRW9.out rfl HE9.out HR9.out HAC.out (by have := HGW.out; have := HG9.out.lt; omega) (fun b h => h.elim) ?_
      intro v10 w10 r10 g10 o10
      have HS10 := hiD (HS9.out.grown g10 (B := w3.heap.size + 1) (by have := HL.out; omega) (by have := HGW.out; have := HG9.out.lt; omega) (fun k hk => (o10 k hk).1))
      have HK10 := hiD (HK9.out.grownR g10 (fun k hk => Nat.le_trans (by omega) (o10 k hk).1))
      have HG10 : Hid (Arr w10 53 (w3.heap.size) [.string (bstr dn), .slice q acc.length cc]) := (g10.block _ HG9.out.lt (fun e => absurd (o10 _ e.symm).1 (by omega))).trans HG9.out
      skip
      have HRW10 := hiD r10
      obtain ⟨q10, c10, hv10⟩ := r10.form
      rw [List.length_append, List.length_singleton] at hv10
      subst hv10
      clear r10 g10 o10
      refine hK'.out _ _ trivial (fun _ => ?_)
      clear hK' K' hHeld
      have hHeld := trivial
      try simp only [Act.put, pz0, pz1, pz2]
      refine wpAnyH_take (i := 6) (oi := ⟨some 21, _, _, _, _, _⟩) (v := .pointer (some ⟨w3.heap.size, 1, none⟩)) rfl (by kernel_rfl) (by kernel_rfl) (by kernel_rfl) (fun _ _ _ h => h) (.inl ⟨by rfl, fun w' hSw => ?_⟩) hHeld ?_
      focus (skip; clear hHeld; go_simp)
      try simp only [Act.put, pz0, pz1, pz2]
      refine wpAnyH_ready (rs := [7]) (by kernel_rfl) (by simp) ?_
      refine AllReadyH.cons (o := ⟨none, _, _, _, _, _⟩) rfl (fun K' hK' => ?_) AllReadyH.nil
      obtain ⟨x0, y0, x1, y1⟩ := HG10.out.all2
      go_simp
      clear x0 y0 x1 y1
      refine hK'.out _ _ trivial (fun _ => ?_)
      clear hK' K' hHeld
      have hHeld := trivial
      try simp only [Act.put, pz0, pz1, pz2]
      have HG11 : Hid (Arr (w10.setCell ⟨w3.heap.size, 1, none⟩ (.slice q10 (acc.length + 1) c10)) 53 (w3.heap.size) [.string (bstr dn), .slice q10 (acc.length + 1) c10]) := HG10.out.set 1 _
      have HRW11 := hiD (HRW10.out.box (g := w3.heap.size) (.inl (by omega)) 1 (.slice q10 (acc.length + 1) c10))
      have HS11 := hiD (HS10.out.box (g := w3.heap.size) (by have := HL.out; omega) 1 (.slice q10 (acc.length + 1) c10))
      have HK11 := hiD (HK10.out.box (g := w3.heap.size) (by omega) 1 (.slice q10 (acc.length + 1) c10))
      refine wpAnyH_done (by kernel_rfl) ?_ _
      refine NoPanic.normal ?_
      clear HRW10 HG10 HS10 HK10 HRW9 HG9 HS9 HK9 HE9 HR9 HRW8 HG8 HS8 HK8 HR8 
      generalize (w10.setCell ⟨w3.heap.size, 1, none⟩ (.slice q10 (acc.length + 1) c10)) = w11 at HG11 HRW11 HS11 HK11 ⊢
      go_wp2_with fail
      go_roundw
      case rel => exact ⟨j + 1, acc ++ [x], s8, lv8, q10, c10, HLT.out, by go_num, by rw [List.length_append, HLEN.out]; rfl, by rw [List.length_append]; exact HRW11.out, by rw [List.length_append]; exact HG11.out, HS11.out, HK11.out, HE7.out⟩
      case measure => first | exact meas HLT.out (Nat.le_trans HMM.out (by decide)) | exact meas' HLT.out
     ·refine stepw_call (by rfl) ?_ HN7.out ?_
      focus go_simp
      rintro v w8 ⟨r8, s8, k8⟩
      obtain ⟨cs, rfl, vt, v3, v4, v5, v6, rfl, ra, re⟩ := r8
      have HR8 : Hid (rdMem (Bt w7.heap.size w8.heap.size) w8 x [.string (bstr x.1), .int .i64 x.2.1, vt, v3, v4, v5, v6]) := ⟨vt, v3, v4, v5, v6, rfl, ra, re⟩
      have r8 : True := trivial
      clear ra re
      have HRW8 := hiD (HRW7.out.turn (w' := w8) k8.2.2.2.1 (fun b hb hl _ => k8.2.2.2.2 b hl (by have := HL.out; omega) (by have := HL.out; omega)))
      have HG8 := hiD (k8.arr HG7.out (by have := HL.out; omega) (by have := HL.out; omega))
      have HS8 := hiD s8
      have HK8 := hiD (HK7.out.trans k8)
      skip
      clear s8 k8 r8
      refine hK'.out _ _ trivial (fun _ => ?_)
      clear hK' K' hHeld
      have hHeld := trivial
      try simp only [Act.put, pz0, pz1, pz2]
      refine wpAnyH_ready (rs := [1, 4]) (by kernel_rfl) (by simp) ?_
      refine AllReadyH.cons (o := ⟨some 16, _, _, _, _, _⟩) rfl (fun K' hK' => ?_) (AllReadyH.cons (o := ⟨some 19, _, _, _, _, _⟩) rfl (fun K' hK' => ?_) AllReadyH.nil)
      ·have x0 := HG8.out.cell 0
       have y0 := HG8.out.free 0
       have x1 := HG8.out.cell 1
       have y1 := HG8.out.free 1
       simp only [List.getElem?_cons_zero, List.getElem?_cons_succ] at x0 x1
       go_simp
       clear x0 y0 x1 y1
       refine hK'.out _ _ trivial (fun _ => ?_)
       clear hK' K' hHeld
       have hHeld := trivial
       try simp only [Act.put, pz0, pz1, pz2]
       refine wpAnyH_ready (rs := [4]) (by kernel_rfl) (by simp) ?_
       refine AllReadyH.cons (o := ⟨some 19, _, _, _, _, _⟩) rfl (fun K' hK' => ?_) AllReadyH.nil
       go_simp
       have hb9 : Below w8.heap.size w8 (w8.alloc (.cells #[.string (bstr x.1), .int .i64 x.2.1, vt, v3, v4, v5, v6] 66)) := (Below.refl _ _).alloc (Nat.le_refl _) _
       have HRW9 := hiD (HRW8.out.later hb9)
       have HG9 := hiD (HG8.out.later hb9)
       have HS9 := hiD (HS8.out.later hb9)
       have HK9 := hiD (HK8.out.trans (K2.of hb9))
       have HE9 : Hid (Arr (w8.alloc (.cells #[.string (bstr x.1), .int .i64 x.2.1, vt, v3, v4, v5, v6] 66)) 66 w8.heap.size [.string (bstr x.1), .int .i64 x.2.1, vt, v3, v4, v5, v6]) := Arr.new' _ _ _ _ rfl
       have HR9 : Hid (kdMem.rd (SubX (w3.heap.size + 1) (fun _ => False) (w8.alloc (.cells #[.string (bstr x.1), .int .i64 x.2.1, vt, v3, v4, v5, v6] 66)) (.slice q acc.length cc)) (w8.alloc (.cells #[.string (bstr x.1), .int .i64 x.2.1, vt, v3, v4, v5, v6] 66)) x [.string (bstr x.1), .int .i64 x.2.1, vt, v3, v4, v5, v6]) := kdMem.imp (fun b hb => ⟨by have := HGL.out; have := hb.1; omega, Nat.lt_of_lt_of_le hb.2 hb9.size, fun e => by have h1 := (HBL.out b e.symm); have := hb.1; omega, fun h => h⟩) (kdMem.keep (fun b hb n => hb9.cell (p := ⟨b, n, none⟩) hb.2) HR8.out)
       clear hb9
       generalize w8.alloc (.cells #[.string (bstr x.1), .int .i64 x.2.1, vt, v3, v4, v5, v6] 66) = w9 at HRW9 HG9 HS9 HK9 HE9 HR9 hK' ⊢
       refine hK'.out _ _ trivial (fun _ => ?_)
       clear hK' K' hHeld
       have hHeld := trivial
       try simp only [Act.put, pz0, pz1, pz2]
       refine wpAnyH_ready (rs := [5]) (by kernel_rfl) (by simp) ?_
       refine AllReadyH.cons (o := ⟨some 20, _, _, _, _, _⟩) rfl (fun K' hK' => ?_) AllReadyH.nil
       refine step_row (K := kdMem) rfl (.tmp 16) (.tmp 19) rfl rfl HRW9.out rfl HE9.out HR9.out HAC.out (by have := HGW.out; have := HG9.out.lt; omega) (fun b h => h.elim) ?_
       intro v10 w10 r10 g10 o10
       have HS10 := hiD (HS9.out.grown g10 (B := w3.heap.size + 1) (by have := HL.out; omega) (by have := HGW.out; have := HG9.out.lt; omega) (fun k hk => (o10 k hk).1))
       have HK10 := hiD (HK9.out.grownR g10 (fun k hk => Nat.le_trans (by omega) (o10 k hk).1))
       have HG10 : Hid (Arr w10 53 (w3.heap.size) [.string (bstr dn), .slice q acc.length cc]) := (g10.block _ HG9.out.lt (fun e => absurd (o10 _ e.symm).1 (by omega))).trans HG9.out
       skip
       have HRW10 := hiD r10
       obtain ⟨q10, c10, hv10⟩ := r10.form
       rw [List.length_append, List.length_singleton] at hv10
       subst hv10
       clear r10 g10 o10
       refine hK'.out _ _ trivial (fun _ => ?_)
       clear hK' K' hHeld
       have hHeld := trivial
       try simp only [Act.put, pz0, pz1, pz2]
       refine wpAnyH_take (i := 6) (oi := ⟨some 21, _, _, _, _, _⟩) (v := .pointer (some ⟨w3.heap.size, 1, none⟩)) rfl (by kernel_rfl) (by kernel_rfl) (by kernel_rfl) (fun _ _ _ h => h) (.inl ⟨by rfl, fun w' hSw => ?_⟩) hHeld ?_
       focus (skip; clear hHeld; go_simp)
       try simp only [Act.put, pz0, pz1, pz2]
       refine wpAnyH_ready (rs := [7]) (by kernel_rfl) (by simp) ?_
       refine AllReadyH.cons (o := ⟨none, _, _, _, _, _⟩) rfl (fun K' hK' => ?_) AllReadyH.nil
       obtain ⟨x0, y0, x1, y1⟩ := HG10.out.all2
       go_simp
       clear x0 y0 x1 y1
       refine hK'.out _ _ trivial (fun _ => ?_)
       clear hK' K' hHeld
       have hHeld := trivial
       try simp only [Act.put, pz0, pz1, pz2]
       have HG11 : Hid (Arr (w10.setCell ⟨w3.heap.size, 1, none⟩ (.slice q10 (acc.length + 1) c10)) 53 (w3.heap.size) [.string (bstr dn), .slice q10 (acc.length + 1) c10]) := HG10.out.set 1 _
       have HRW11 := hiD (HRW10.out.box (g := w3.heap.size) (.inl (by omega)) 1 (.slice q10 (acc.length + 1) c10))
       have HS11 := hiD (HS10.out.box (g := w3.heap.size) (by have := HL.out; omega) 1 (.slice q10 (acc.length + 1) c10))
       have HK11 := hiD (HK10.out.box (g := w3.heap.size) (by omega) 1 (.slice q10 (acc.length + 1) c10))
       refine wpAnyH_done (by kernel_rfl) ?_ _
       refine NoPanic.normal ?_
       clear HRW10 HG10 HS10 HK10 HRW9 HG9 HS9 HK9 HE9 HR9 HRW8 HG8 HS8 HK8 HR8 
       generalize (w10.setCell ⟨w3.heap.size, 1, none⟩ (.slice q10 (acc.length + 1) c10)) = w11 at HG11 HRW11 HS11 HK11 ⊢
       go_wp2_with fail
       go_roundw
       case rel => exact ⟨j + 1, acc ++ [x], s8, lv8, q10, c10, HLT.out, by go_num, by rw [List.length_append, HLEN.out]; rfl, by rw [List.length_append]; exact HRW11.out, by rw [List.length_append]; exact HG11.out, HS11.out, HK11.out, HE7.out⟩
       case measure => first | exact meas HLT.out (Nat.le_trans HMM.out (by decide)) | exact meas' HLT.out
      ·go_simp
       have hb9 : Below w8.heap.size w8 (w8.alloc (.cells #[.string (bstr x.1), .int .i64 x.2.1, vt, v3, v4, v5, v6] 66)) := (Below.refl _ _).alloc (Nat.le_refl _) _
       have HRW9 := hiD (HRW8.out.later hb9)
       have HG9 := hiD (HG8.out.later hb9)
       have HS9 := hiD (HS8.out.later hb9)
       have HK9 := hiD (HK8.out.trans (K2.of hb9))
       have HE9 : Hid (Arr (w8.alloc (.cells #[.string (bstr x.1), .int .i64 x.2.1, vt, v3, v4, v5, v6] 66)) 66 w8.heap.size [.string (bstr x.1), .int .i64 x.2.1, vt, v3, v4, v5, v6]) := Arr.new' _ _ _ _ rfl
       have HR9 : Hid (kdMem.rd (SubX (w3.heap.size + 1) (fun _ => False) (w8.alloc (.cells #[.string (bstr x.1), .int .i64 x.2.1, vt, v3, v4, v5, v6] 66)) (.slice q acc.length cc)) (w8.alloc (.cells #[.string (bstr x.1), .int .i64 x.2.1, vt, v3, v4, v5, v6] 66)) x [.string (bstr x.1), .int .i64 x.2.1, vt, v3, v4, v5, v6]) := kdMem.imp (fun b hb => ⟨by have := HGL.out; have := hb.1; omega, Nat.lt_of_lt_of_le hb.2 hb9.size, fun e => by have h1 := (HBL.out b e.symm); have := hb.1; omega, fun h => h⟩) (kdMem.keep (fun b hb n => hb9.cell (p := ⟨b, n, none⟩) hb.2) HR8.out)
       clear hb9
       generalize w8.alloc (.cells #[.string (bstr x.1), .int .i64 x.2.1, vt, v3, v4, v5, v6] 66) = w9 at HRW9 HG9 HS9 HK9 HE9 HR9 hK' ⊢
       refine hK'.out _ _ trivial (fun _ => ?_)
       clear hK' K' hHeld
       have hHeld := trivial
       try simp only [Act.put, pz0, pz1, pz2]
       refine wpAnyH_ready (rs := [1]) (by kernel_rfl) (by simp) ?_
       refine AllReadyH.cons (o := ⟨some 16, _, _, _, _, _⟩) rfl (fun K' hK' => ?_) AllReadyH.nil
       obtain ⟨x0, y0, x1, y1⟩ := HG9.out.all2
       go_simp
       clear x0 y0 x1 y1
       refine hK'.out _ _ trivial (fun _ => ?_)
       clear hK' K' hHeld
       have hHeld := trivial
       try simp only [Act.put, pz0, pz1, pz2]
       refine wpAnyH_ready (rs := [5]) (by kernel_rfl) (by simp) ?_
       refine AllReadyH.cons (o := ⟨some 20, _, _, _, _, _⟩) rfl (fun K' hK' => ?_) AllReadyH.nil
       refine step_row (K := kdMem) rfl (.tmp 16) (.tmp 19) rfl rfl HRW9.out rfl HE9.out HR9.out HAC.out (by have := HGW.out; have := HG9.out.lt; omega) (fun b h => h.elim) ?_
       intro v10 w10 r10 g10 o10
       have HS10 := hiD (HS9.out.grown g10 (B := w3.heap.size + 1) (by have := HL.out; omega) (by have := HGW.out; have := HG9.out.lt; omega) (fun k hk => (o10 k hk).1))
       have HK10 := hiD (HK9.out.grownR g10 (fun k hk => Nat.le_trans (by omega) (o10 k hk).1))
       have HG10 : Hid (Arr w10 53 (w3.heap.size) [.string (bstr dn), .slice q acc.length cc]) := (g10.block _ HG9.out.lt (fun e => absurd (o10 _ e.symm).1 (by omega))).trans HG9.out
       skip
       have HRW10 := hiD r10
       obtain ⟨q10, c10, hv10⟩ := r10.form
       rw [List.length_append, List.length_singleton] at hv10
       subst hv10
       clear r10 g10 o10
       refine hK'.out _ _ trivial (fun _ => ?_)
       clear hK' K' hHeld
       have hHeld := trivial
       try simp only [Act.put, pz0, pz1, pz2]
       refine wpAnyH_take (i := 6) (oi := ⟨some 21, _, _, _, _, _⟩) (v := .pointer (some ⟨w3.heap.size, 1, none⟩)) rfl (by kernel_rfl) (by kernel_rfl) (by kernel_rfl) (fun _ _ _ h => h) (.inl ⟨by rfl, fun w' hSw => ?_⟩) hHeld ?_
       focus (skip; clear hHeld; go_simp)
       try simp only [Act.put, pz0, pz1, pz2]
       refine wpAnyH_ready (rs := [7]) (by kernel_rfl) (by simp) ?_
       refine AllReadyH.cons (o := ⟨none, _, _, _, _, _⟩) rfl (fun K' hK' => ?_) AllReadyH.nil
       obtain ⟨x0, y0, x1, y1⟩ := HG10.out.all2
       go_simp
       clear x0 y0 x1 y1
       refine hK'.out _ _ trivial (fun _ => ?_)
       clear hK' K' hHeld
       have hHeld := trivial
       try simp only [Act.put, pz0, pz1, pz2]
       have HG11 : Hid (Arr (w10.setCell ⟨w3.heap.size, 1, none⟩ (.slice q10 (acc.length + 1) c10)) 53 (w3.heap.size) [.string (bstr dn), .slice q10 (acc.length + 1) c10]) := HG10.out.set 1 _
       have HRW11 := hiD (HRW10.out.box (g := w3.heap.size) (.inl (by omega)) 1 (.slice q10 (acc.length + 1) c10))
       have HS11 := hiD (HS10.out.box (g := w3.heap.size) (by have := HL.out; omega) 1 (.slice q10 (acc.length + 1) c10))
       have HK11 := hiD (HK10.out.box (g := w3.heap.size) (by omega) 1 (.slice q10 (acc.length + 1) c10))
       refine wpAnyH_done (by kernel_rfl) ?_ _
       refine NoPanic.normal ?_
       clear HRW10 HG10 HS10 HK10 HRW9 HG9 HS9 HK9 HE9 HR9 HRW8 HG8 HS8 HK8 HR8 
       generalize (w10.setCell ⟨w3.heap.size, 1, none⟩ (.slice q10 (acc.length + 1) c10)) = w11 at HG11 HRW11 HS11 HK11 ⊢
       go_wp2_with fail
       go_roundw
       case rel => exact ⟨j + 1, acc ++ [x], s8, lv8, q10, c10, HLT.out, by go_num, by rw [List.length_append, HLEN.out]; rfl, by rw [List.length_append]; exact HRW11.out, by rw [List.length_append]; exact HG11.out, HS11.out, HK11.out, HE7.out⟩
       case measure => first | exact meas HLT.out (Nat.le_trans HMM.out (by decide)) | exact meas' HLT.out
    ·have hlj' : ¬ (j : Int) < m := by omega
     have HE7 : Hid (schC b s lv = loopC (defC b) (n - (i + 1)) (accd ++ [(dn, acc)]) s6 lv6) := by
      show _ = _
      rw [HE6.out, show m - j = 0 by omega]; rfl
     have HRD6 := hiD (HRD3.out.turn (w' := wr) HK6.out.2.2.2.1 (fun b hb hl _ => HK6.out.2.2.2.2 b hl (by have := HL0.out; omega) (by have := HL0.out; omega)))
     have HGD6 := hiD (HK6.out.arr HGD3.out (by have := HL0.out; omega) (by have := HL0.out; omega))
     have HKW := hiD (HK3.out.trans HK6.out)
     have HGB : Hid (W.heap.size + 1 ≤ w3.heap.size) := by have := HGD3.out.lt; exact this
     have HRK := hiD HRW6.out.rdK
     have hb9 : Below wr.heap.size wr (wr.alloc (.cells #[.string (bstr dn), .slice q acc.length cc] 53)) := (Below.refl _ _).alloc (Nat.le_refl _) _
     have HRD9 := hiD (HRD6.out.later hb9)
     have HGD9 := hiD (HGD6.out.later hb9)
     have HS9 := hiD (HS6.out.later hb9)
     have HK9 := hiD (HKW.out.trans (K2.of hb9))
     have HE9 : Hid (Arr (wr.alloc (.cells #[.string (bstr dn), .slice q acc.length cc] 53)) 53 wr.heap.size [.string (bstr dn), .slice q acc.length cc]) := Arr.new' _ _ _ _ rfl
     have HBL : Hid (∀ b, (Value.slice qd accd.length cd).ownBlock = some b → b < w3.heap.size) := fun b hb => by obtain ⟨_, h, _⟩ := HRD3.out; exact (h.lt b hb).2
     have HR9 : Hid (kdDef.rd (SubX (W.heap.size + 1) (fun _ => False) (wr.alloc (.cells #[.string (bstr dn), .slice q acc.length cc] 53)) (.slice qd accd.length cd)) (wr.alloc (.cells #[.string (bstr dn), .slice q acc.length cc] 53)) (dn, acc) [.string (bstr dn), .slice q acc.length cc]) := kdDef.imp (fun b hb => ⟨by have := HGB.out; have := hb.1; omega, Nat.lt_of_lt_of_le hb.2 hb9.size, fun e => by have h1 := (HBL.out b e.symm); have := hb.1; omega, fun h => h⟩) (kdDef.keep (fun b hb n => hb9.cell (p := ⟨b, n, none⟩) hb.2) (show rdDef (Bt (w3.heap.size + 1) wr.heap.size) wr (dn, acc) _ from ⟨_, rfl, HRK.out⟩))
     have HAC : Hid (accd.length + 1 ≤ 200000) := by show _ ≤ _; have := HNN.out; have := HLD.out; omega
     have HBS : Hid (W.heap.size + 1 ≤ (wr.alloc (.cells #[.string (bstr dn), .slice q acc.length cc] 53)).heap.size) := by have := HGD9.out.lt; exact this
     clear HE6 HRD6 HKW HRK HRD3 HGD3 HK3 hb9 hlj
     obtain ⟨x0, y0, x1, y1⟩ := HG6.out.all2
     obtain ⟨p0, z0⟩ := HGD6.out.all1
     go_wp2_with (at_builtin; refine app_row (K := kdDef) (x := (dn, acc)) rfl _ _ rfl rfl HRD9.out rfl HE9.out HR9.out HAC.out HBS.out (fun b h => h.elim) ?_)
     intro v10 w10 r10 g10 o10
     have HS10 := hiD (HS9.out.grown g10 (B := W.heap.size + 1) (by have := HL0.out; omega) HBS.out (fun k hk => o10 k hk))
     have HK10 := hiD (HK9.out.grownR g10 (fun k hk => Nat.le_trans (Nat.le_succ _) (o10 k hk)))
     have HGD10 : Hid (Arr w10 26 W.heap.size [.slice qd accd.length cd]) := (g10.block _ HGD9.out.lt (fun e => absurd (o10 _ e.symm) (Nat.not_succ_le_self _))).trans HGD9.out
     have HRD10 := hiD r10
     obtain ⟨q10, c10, hv10⟩ := r10.form
     rw [List.length_append, List.length_singleton] at hv10
     subst hv10
     clear r10 g10 o10 x0 x1 y0 y1 p0 z0 HG6 HGD6 HS9 HK9 HGD9 HRD9 HE9 HR9
     obtain ⟨x0, y0⟩ := HGD10.out.all1
     go_wp2_with fail
     go_roundw
     case rel => exact ⟨i + 1, accd ++ [(dn, acc)], s6, lv6, q10, c10, HLI.out, by go_num, by rw [List.length_append, HLD.out]; rfl, by rw [List.length_append]; exact HRD10.out.box (g := W.heap.size) (.inl (Nat.lt_succ_self _)) 0 _, by rw [List.length_append]; exact HGD10.out.set 0 _, HS10.out.box (g := W.heap.size) HL0.out.2 0 _, HK10.out.box (g := W.heap.size) (Nat.le_refl _) 0 _, HE7.out⟩
     case measure => first | exact meas HLI.out (Nat.le_trans HNN.out (by decide)) | exact meas' HLI.out
  ·have hlt' : ¬ (i : Int) < n := by omega
   have HE7 : Hid (schC b s lv = (accd, s2, lv2)) := by
    show _ = _
    rw [HE2.out, show n - i = 0 by omega]; rfl
   obtain ⟨x0, y0⟩ := HGD.out.all1
   go_wp2_with fail
   have hk := kp_setS wr W.heap.size (.slice qd accd.length cd)
   have hA := HGD.out.setS (.slice qd accd.length cd)
   refine bodyPost_ret (resS rfl hA rfl) rfl ?_
   rw [HE7.out]
   exact ⟨_, rfl, ⟨_, rfl, (RdK.kp HRD.out.rdK hk (Nat.lt_succ_self _)).imp fun b hb => ⟨by have := hb.1; omega, hb.2⟩⟩, HS2.out.box (g := W.heap.size) HL0.out.2 0 _, HK2.out.box (g := W.heap.size) (Nat.le_refl _) 0 _⟩
end
set_option maxRecDepth 100000 in
set_option maxHeartbeats 2000000 in
theorem end_done' {w : World} {c at' : Nat} {l : List UInt8} (h : Cur w c l at') (hl : at' = l.length) :
  Calls Tryz.prog 49 #[.pointer (some ⟨c, 0, none⟩)] w fun e w' => e = .returned .nilIface ∧ ∃ n, w' = w.drewN n := by
 have HL := hiD (left_any h)
 rw [hl, Nat.sub_self] at HL
 go_enter Tryz.func49, Tryz.ntmps49
 go_wp2_with fail
 refine HL.out.mono ?_
 rintro e w1 ⟨rfl, nq, rfl⟩
 go_wp2_with fail
 go_ret
 exact ⟨rfl, _, rfl⟩
section
variable {cb rb lv : Nat} {b : List UInt8} {s : St} {W : World}
set_option maxRecDepth 100000 in
set_option maxHeartbeats 2000000 in
theorem failE_any {k o : Nat} (c a : Nat) (h : RS cb rb b lv (.er k o) W) : Calls Tryz.prog 50 #[.pointer (some ⟨rb, 0, none⟩), .int .i64 (c : Nat), .int .i64 (a : Nat)] W fun e w' => e = .returned (.tuple #[]) ∧ W = w' := by
 have HA : Hid (Arr W 92 rb [.pointer (some ⟨cb, 0, none⟩), .iface 105 (.agg #[.int .i64 (k : Nat), .int .i64 (o : Nat)]), .int .i64 (lv : Nat)]) := h.arr
 have hq : (binOp BinOp.eql 28 (.iface 105 (.agg #[.int .i64 (k : Nat), .int .i64 (o : Nat)])) .nilIface).run Tryz.prog W = .ok (.bool false) W := by kernel_rfl
 obtain ⟨x0, y0, x1, y1, x2, y2⟩ := HA.out.all3
 clear h
 go_enter Tryz.func50, Tryz.ntmps50
 go_wp2_with fail
 go_end0
 exact ⟨rfl, rfl⟩
theorem errF_at {c a : Nat} (h : c ≠ 0) : errF c a = faultN c a := if_neg h
set_option maxRecDepth 100000 in
set_option maxHeartbeats 2000000 in
theorem finish_any (h : RS cb rb b lv s W) (hc : ∀ c a, s = .er c a → c ≠ 0) : Calls Tryz.prog 24 #[.pointer (some ⟨rb, 0, none⟩)] W fun e w' => e = .returned (errF (finC b s).1 (finC b s).2) ∧ K2 cb rb W w' := by
 have HA := hiD h.arr
 have HS := hiD h
 cases s with
 | er k o =>
  have HCC : Hid (k ≠ 0) := hc k o rfl
  have HA : Hid (Arr W 92 rb [.pointer (some ⟨cb, 0, none⟩), .iface 105 (.agg #[.int .i64 (k : Nat), .int .i64 (o : Nat)]), .int .i64 (lv : Nat)]) := HA.out
  obtain ⟨x, hcx, _, _, _, _, _, _⟩ := h
  have HCU := hiD hcx
  have hle : x ≤ b.length := by obtain ⟨_, _, _, h, _⟩ := hcx; exact h
  by_cases hx : x < b.length
  ·have HEN := hiD (end_left HCU.out hx)
   have hq := eqNC (16 : Nat)
   clear hcx hx hle hc
   obtain ⟨x0, y0, x1, y1, x2, y2⟩ := HA.out.all3
   go_enter Tryz.func24, Tryz.ntmps24
   go_wp2_with fail
   refine HEN.out.mono ?_
   rintro e w1 ⟨rfl, n1, rfl⟩
   have hb1 : Below W.heap.size W (W.drewN n1) := Joins.below_draws _ _ _
   have HS1 := hiD (HS.out.later hb1)
   have HC1 : Hid (Cur (W.drewN n1) cb b x) := HCU.out.drewN n1
   have HK1 : Hid (K2 cb rb W (W.drewN n1)) := K2.of hb1
   have HA1 : Hid (Arr (W.drewN n1) 92 rb [.pointer (some ⟨cb, 0, none⟩), .iface 105 (.agg #[.int .i64 (k : Nat), .int .i64 (o : Nat)]), .int .i64 (lv : Nat)]) := HA.out.drewN n1
   generalize W.drewN n1 = w1 at HS1 HC1 HK1 HA1 ⊢
   clear hb1 HEN HS HA HCU x0 x1 x2 y0 y1 y2
   obtain ⟨x0, y0, x1, y1, x2, y2⟩ := HA1.out.all3
   go_wp2_with fail
   refine (at_any HC1.out).mono ?_
   rintro e w2 ⟨rfl, rfl⟩
   go_wp2_with fail
   refine (failE_any 16 x HS1.out).mono ?_
   rintro e w3 ⟨rfl, rfl⟩
   go_wp2_with fail
   go_ret
   exact ⟨by show _ = Ending.returned (errF k o); rw [errF_at HCC.out]; rfl, HK1.out⟩
  ·have HEN := hiD (end_done' HCU.out (by omega))
   clear hcx hx hle hc
   obtain ⟨x0, y0, x1, y1, x2, y2⟩ := HA.out.all3
   go_enter Tryz.func24, Tryz.ntmps24
   go_wp2_with fail
   refine HEN.out.mono ?_
   rintro e w1 ⟨rfl, n1, rfl⟩
   have hb1 : Below W.heap.size W (W.drewN n1) := Joins.below_draws _ _ _
   have HK1 : Hid (K2 cb rb W (W.drewN n1)) := K2.of hb1
   have HA1 : Hid (Arr (W.drewN n1) 92 rb [.pointer (some ⟨cb, 0, none⟩), .iface 105 (.agg #[.int .i64 (k : Nat), .int .i64 (o : Nat)]), .int .i64 (lv : Nat)]) := HA.out.drewN n1
   generalize W.drewN n1 = w1 at HK1 HA1 ⊢
   clear hb1 HEN HS HA HCU x0 x1 x2 y0 y1 y2
   obtain ⟨x0, y0, x1, y1, x2, y2⟩ := HA1.out.all3
   go_wp2_with fail
   go_ret
   exact ⟨by show _ = Ending.returned (errF k o); rw [errF_at HCC.out]; rfl, HK1.out⟩
 | go o =>
  have HA : Hid (Arr W 92 rb [.pointer (some ⟨cb, 0, none⟩), .nilIface, .int .i64 (lv : Nat)]) := HA.out
  have HCU := hiD h.at
  have hle : o ≤ b.length := h.off
  clear hc
  by_cases hx : o < b.length
  ·have HEN := hiD (end_left HCU.out hx)
   have HE : Hid (finC b (.go o) = (16, o)) := if_pos hx
   have hq := eqNC (16 : Nat)
   clear hx hle h
   obtain ⟨x0, y0, x1, y1, x2, y2⟩ := HA.out.all3
   go_enter Tryz.func24, Tryz.ntmps24
   go_wp2_with fail
   refine HEN.out.mono ?_
   rintro e w1 ⟨rfl, n1, rfl⟩
   have hb1 : Below W.heap.size W (W.drewN n1) := Joins.below_draws _ _ _
   have HS1 := hiD (HS.out.later hb1)
   have HC1 : Hid (Cur (W.drewN n1) cb b o) := HCU.out.drewN n1
   have HK1 : Hid (K2 cb rb W (W.drewN n1)) := K2.of hb1
   have HA1 : Hid (Arr (W.drewN n1) 92 rb [.pointer (some ⟨cb, 0, none⟩), .nilIface, .int .i64 (lv : Nat)]) := HA.out.drewN n1
   generalize W.drewN n1 = w1 at HS1 HC1 HK1 HA1 ⊢
   clear hb1 HEN HS HA HCU x0 x1 x2 y0 y1 y2
   obtain ⟨x0, y0, x1, y1, x2, y2⟩ := HA1.out.all3
   go_wp2_with fail
   refine (at_any HC1.out).mono ?_
   rintro e w2 ⟨rfl, rfl⟩
   go_wp2_with fail
   refine (fail_any 16 o HS1.out).mono ?_
   rintro e w3 ⟨rfl, h3, k3⟩
   have HK3 := hiD (HK1.out.trans k3)
   have HA3 : Hid (Arr w3 92 rb [.pointer (some ⟨cb, 0, none⟩), .iface 105 (.agg #[.int .i64 (16 : Nat), .int .i64 (o : Nat)]), .int .i64 (lv : Nat)]) := h3.arr
   clear h3 k3 HS1 HC1 HK1 HA1 x0 x1 x2 y0 y1 y2
   obtain ⟨x0, y0, x1, y1, x2, y2⟩ := HA3.out.all3
   go_wp2_with fail
   go_ret
   rw [HE.out]
   exact ⟨rfl, HK3.out⟩
  ·have HEN := hiD (end_done' HCU.out (by omega))
   have HE : Hid (finC b (.go o) = (0, 0)) := if_neg hx
   clear hx hle h
   obtain ⟨x0, y0, x1, y1, x2, y2⟩ := HA.out.all3
   go_enter Tryz.func24, Tryz.ntmps24
   go_wp2_with fail
   refine HEN.out.mono ?_
   rintro e w1 ⟨rfl, n1, rfl⟩
   have hb1 : Below W.heap.size W (W.drewN n1) := Joins.below_draws _ _ _
   have HK1 : Hid (K2 cb rb W (W.drewN n1)) := K2.of hb1
   have HA1 : Hid (Arr (W.drewN n1) 92 rb [.pointer (some ⟨cb, 0, none⟩), .nilIface, .int .i64 (lv : Nat)]) := HA.out.drewN n1
   generalize W.drewN n1 = w1 at HK1 HA1 ⊢
   clear hb1 HEN HS HA HCU x0 x1 x2 y0 y1 y2
   obtain ⟨x0, y0, x1, y1, x2, y2⟩ := HA1.out.all3
   go_wp2_with fail
   go_ret
   rw [HE.out]
   exact ⟨rfl, HK1.out⟩
set_option maxRecDepth 100000 in
set_option maxHeartbeats 2000000 in
theorem newReader_any {vb : Value} (hr : Rd W.heap.size W vb b) (hl : b.length ≤ 1000000) (hE : Env W) : Calls Tryz.prog 22 #[vb] W fun e w' => ∃ cb rb, e = .returned (.pointer (some ⟨rb, 0, none⟩)) ∧ W.heap.size ≤ cb ∧ RS cb rb b 0 (.go 0) w' ∧ Below W.heap.size W w' := by
 have HN := hiD (new_any hr (Nat.le_refl _) (by omega))
 have HE := hiD hE
 have HLN := hiD hl
 clear hr hl hE
 go_enter Tryz.func22, Tryz.ntmps22
 go_wp2_with fail
 refine HN.out.mono ?_
 rintro e w1 ⟨c, rfl, hc, h1, b1⟩
 have hb2 : Below w1.heap.size w1 (w1.alloc (.cells #[.pointer (some ⟨c, 0, none⟩), .nilIface, .int .i64 0] 92)) := (Below.refl _ _).alloc (Nat.le_refl _) _
 have HS2 : Hid (RS c w1.heap.size b 0 (.go 0) (w1.alloc (.cells #[.pointer (some ⟨c, 0, none⟩), .nilIface, .int .i64 0] 92))) :=
  ⟨0, h1.below hb2 h1.lt, Arr.new' _ _ _ _ rfl, ⟨W, HE.out, hc, b1.trans (hb2.mono b1.size)⟩, h1.lt, by decide, HLN.out, fun _ e => by cases e; rfl⟩
 have HB2 := hiD (b1.trans (hb2.mono b1.size))
 have HC := hiD hc
 clear h1 b1 hc hb2 HN
 go_wp2_with fail
 go_ret
 exact ⟨c, _, rfl, HC.out, HS2.out, HB2.out⟩
end
theorem finC_ok {b : List UInt8} {α : Type} (r : α × St × Nat) : (∃ c a, asR r = .bad c a ∧ finC b r.2.1 = (c, a)) ∨ ∃ o, asR r = .ok r.1 o r.2.2 ∧ finC b r.2.1 = (if o < b.length then (16, o) else (0, 0)) := by
 obtain ⟨x, s, l⟩ := r
 cases s with
 | er c a => exact .inl ⟨c, a, rfl, rfl⟩
 | go o => exact .inr ⟨o, rfl, rfl⟩
theorem parseEx_fin (b : List UInt8) : parseEx b = (if (finC b (partC b 16 (.go 0) 0).2.1).1 = 0 then (partC b 16 (.go 0) 0).1 else ex0, finC b (partC b 16 (.go 0) 0).2.1) := by
 have h := part_as b 16 0 0
 unfold parseEx
 rcases finC_ok (b := b) (partC b 16 (.go 0) 0) with ⟨c, a, h1, h2⟩ | ⟨o, h1, h2⟩
 ·rw [h1] at h
  rw [← h, h2]
  have : c ≠ 0 := readE_ne 16 0 0 c a h.symm
  show _ = (if c = 0 then _ else _, _)
  rw [if_neg this]
 ·rw [h1] at h
  rw [← h, h2]
  by_cases ho : o < b.length
  ·simp only [if_pos ho]; rfl
  ·simp only [if_neg ho]; rfl
theorem part_code {b : List UInt8} {c a : Nat} (h : (partC b 16 (.go 0) 0).2.1 = .er c a) : c ≠ 0 := by
 have h1 := part_as b 16 0 0
 rw [asR_er h] at h1
 exact readE_ne 16 0 0 c a h1.symm
theorem VE.k2 {B cb rb : Nat} {e : Ex} {w w' : World} {v : Value} (h : VE B e w v) (hk : K2 cb rb w w') (h1 : cb < B) (h2 : rb < B) : VE B e w' v :=
 (RdE.keep (fun b hb n => World.cell?_of_block (hk.2.2.2.2 b hb.2 (by have := hb.1; omega) (by have := hb.1; omega))) h).imp fun b hb => ⟨hb.1, Nat.lt_of_lt_of_le hb.2 hk.2.2.2.1⟩
theorem resX2 {fn : Func} {p q : Tmp} (h : fn.results = #[.cell p 42, .tmp q]) {tmps : Array Value} {w : World} {g : Nat} {x0 x1 x2 x3 : Value} (hA : Arr w 42 g [x0, x1, x2, x3]) (hp : tmps.getD p undef = .pointer (some ⟨g, 0, none⟩)) :
  (results fn tmps).run Tryz.prog w = .ok (.tuple #[.agg #[x0, x1, x2, x3], tmps.getD q undef]) w :=
 results_cell_tmp h tmps w g 42 #[x0, x1, x2, x3] (0, 0) _ hp hA Tryz.underlying42 rfl (by kernel_rfl)
def EPost (W : World) (r : Ex × Nat × Nat) (e : Ending) (w' : World) : Prop := ∃ v, e = .returned (.tuple #[v, errF r.2.1 r.2.2]) ∧ VE W.heap.size r.1 w' v ∧ Below W.heap.size W w'
set_option maxRecDepth 100000 in
set_option maxHeartbeats 4000000 in
theorem cParseExpr_any {W : World} {b : List UInt8} {vb : Value} (hr : Rd W.heap.size W vb b) (hl : b.length ≤ 1000000) (hE : Env W) : Calls Tryz.prog 18 #[vb] W (EPost W (parseEx b)) := by
 have hb : Below W.heap.size W (W.alloc (.cells #[.int .i64 0, .string ⟨#[]⟩, .string ⟨#[]⟩, .slice none 0 0] 42)) := (Below.refl _ _).alloc (Nat.le_refl _) _
 have HG : Hid (Arr (W.alloc (.cells #[.int .i64 0, .string ⟨#[]⟩, .string ⟨#[]⟩, .slice none 0 0] 42)) 42 W.heap.size [.int .i64 0, .string ⟨#[]⟩, .string ⟨#[]⟩, .slice none 0 0]) := Arr.new' _ _ _ _ rfl
 have HN := hiD (newReader_any ((hr.below hb (Nat.le_refl _)).mono hb.size) hl (hE.below hb))
 have HB := hiD hb
 have HSZ : Hid ((W.alloc (.cells #[.int .i64 0, .string ⟨#[]⟩, .string ⟨#[]⟩, .slice none 0 0] 42)).heap.size = W.heap.size + 1) := World.size_alloc _ _
 have HE : Hid (parseEx b = (if (finC b (partC b 16 (.go 0) 0).2.1).1 = 0 then (partC b 16 (.go 0) 0).1 else ex0, finC b (partC b 16 (.go 0) 0).2.1)) := parseEx_fin b
 have HCD : Hid (∀ c a, (partC b 16 (.go 0) 0).2.1 = .er c a → c ≠ 0) := fun c a h => part_code h
 obtain ⟨R, hR⟩ : ∃ R, R = partC b 16 (.go 0) 0 := ⟨_, rfl⟩
 have HR := hiD hR
 rw [← hR] at HE HCD
 obtain ⟨⟨mk, mv, mn, ms⟩, s1, lv1⟩ := R
 clear hr hl hE hb hR
 obtain ⟨C, hC⟩ : ∃ C, C = (finC b s1).1 := ⟨_, rfl⟩
 obtain ⟨A, hA⟩ : ∃ A, A = (finC b s1).2 := ⟨_, rfl⟩
 have HF : Hid (finC b s1 = (C, A)) := by rw [hC, hA]; rfl
 have HE : Hid (parseEx b = (if C = 0 then .mk mk mv mn ms else ex0, C, A)) := by
  have h := HE.out
  show _ = _
  rw [h, HF.out]
 clear hC hA
 unfold EPost
 rw [HE.out]
 go_enter Tryz.func18, Tryz.ntmps18
 go_upto_region 1 with (fail)
 generalize W.alloc (.cells #[.int .i64 0, .string ⟨#[]⟩, .string ⟨#[]⟩, .slice none 0 0] 42) = w0 at HG HN HB HSZ ⊢
 go_wp2_with fail
 refine HN.out.mono ?_
 rintro e w1 ⟨cb, rb, rfl, hcb, h1, b1⟩
 have HS1 := hiD h1
 have HL : Hid (cb < rb ∧ rb < w1.heap.size) := h1.lt
 have HCB : Hid (W.heap.size < cb) := by have := HSZ.out; show _ < _; omega
 have HB1 := hiD (HB.out.trans (b1.mono HB.out.size))
 have HG1 := hiD (HG.out.later b1)
 have HX := hiD (expr16_any h1)
 unfold PPost at HX
 rw [← HR.out] at HX
 clear h1 b1 hcb HN HG HB HSZ HR HE
 go_wp2_with fail
 refine HX.out.mono ?_
 rintro e w2 ⟨v, rfl, r2, h2, k2⟩
 obtain ⟨q4, c4, rfl, _, _⟩ := RdE.form r2
 unfold exv at r2 ⊢
 dsimp only [Ex.kind, Ex.via, Ex.nm, Ex.kids] at r2 h2 ⊢
 have hb3 : Below w2.heap.size w2 (w2.alloc (.cells #[.int .i64 mk, .string (bstr mv), .string (bstr mn), .slice q4 ms.length c4] 42)) := (Below.refl _ _).alloc (Nat.le_refl _) _
 have HS3 := hiD (h2.later hb3)
 have HR3 := hiD (r2.later hb3)
 have HG3 := hiD ((k2.arr HG1.out (by have := HCB.out; omega) (by have := HCB.out; have := HL.out; omega)).later hb3)
 have HB3 := hiD ((HB1.out.trans (k2.below (B := W.heap.size) (by have := HCB.out; omega) (by have := HCB.out; have := HL.out; omega) HB1.out.size)).trans (hb3.mono (Nat.le_trans HB1.out.size k2.2.2.2.1)))
 have HA3 : Hid (Arr (w2.alloc (.cells #[.int .i64 mk, .string (bstr mv), .string (bstr mn), .slice q4 ms.length c4] 42)) 42 w2.heap.size [.int .i64 mk, .string (bstr mv), .string (bstr mn), .slice q4 ms.length c4]) := Arr.new' _ _ _ _ rfl
 have HFN := hiD (finish_any HS3.out HCD.out)
 rw [HF.out] at HFN
 have HSZ : Hid (w1.heap.size ≤ w2.heap.size) := k2.2.2.2.1
 clear r2 h2 k2 hb3 HX HS1 HB1 HG1
 go_upto_region 3 with (fail)
 obtain ⟨g5, hg5⟩ : ∃ g, g = w2.heap.size := ⟨_, rfl⟩
 rw [← hg5] at HA3 ⊢
 have HG5 : Hid (w1.heap.size ≤ g5) := by rw [hg5]; exact HSZ.out
 generalize w2.alloc (.cells #[.int .i64 mk, .string (bstr mv), .string (bstr mn), .slice q4 ms.length c4] 42) = w3 at HS3 HR3 HG3 HB3 HA3 HFN ⊢
 clear hg5 HSZ
 go_wp2_with fail
 refine HFN.out.mono ?_
 rintro e w4 ⟨rfl, k4⟩
 have HR4 := hiD (VE.k2 HR3.out k4 (by have := HL.out; omega) HL.out.2)
 have HG4 := hiD (k4.arr HG3.out (by have := HCB.out; omega) (by have := HCB.out; have := HL.out; omega))
 have HA4 := hiD (k4.arr HA3.out (by have := HG5.out; have := HL.out; omega) (by have := HG5.out; have := HL.out; omega))
 have HB4 := hiD (HB3.out.trans (k4.below (B := W.heap.size) (by have := HCB.out; omega) (by have := HCB.out; have := HL.out; omega) HB3.out.size))
 clear k4 HFN HS3 HR3 HG3 HA3 HB3
 by_cases hC : C = 0
 ·subst hC
  rw [show errF 0 A = .nilIface from rfl]
  obtain ⟨x0, y0, x1, y1, x2, y2, x3, y3⟩ := HA4.out.all4
  obtain ⟨p0, z0, p1, z1, p2, z2, p3, z3⟩ := HG4.out.all4
  go_wp2_with fail
  have hk := kp_set4 w4 W.heap.size (.int .i64 mk) (.string (bstr mv)) (.string (bstr mn)) (.slice q4 ms.length c4)
  have hA := HG4.out.set4x (.int .i64 mk) (.string (bstr mv)) (.string (bstr mn)) (.slice q4 ms.length c4)
  refine bodyPost_ret (resX2 rfl hA rfl) rfl ?_
  exact ⟨_, rfl, (VE.kp HR4.out hk (by have := HCB.out; have := HL.out; omega)).low (by have := HCB.out; have := HL.out; omega), HB4.out.trans (hk.below (Nat.le_refl _) HB4.out.size)⟩
 ·have hq := eqNF (C : Nat) (A : Nat)
  rw [errF_at hC]
  unfold faultN
  obtain ⟨p0, z0, p1, z1, p2, z2, p3, z3⟩ := HG4.out.all4
  go_wp2_with fail
  have hk := kp_set4 w4 W.heap.size (.int .i64 0) (.string ⟨#[]⟩) (.string ⟨#[]⟩) (.slice none 0 0)
  have hA := HG4.out.set4x (.int .i64 0) (.string ⟨#[]⟩) (.string ⟨#[]⟩) (.slice none 0 0)
  refine bodyPost_ret (resX2 rfl hA rfl) rfl ?_
  exact ⟨_, by rw [errF_at hC]; rfl, VE.leaf _ _ _ _ _, HB4.out.trans (hk.below (Nat.le_refl _) HB4.out.size)⟩
theorem asR_seq {α β : Type} {x : α} {s : St} {lv : Nat} {r : Rs α} (h : asR (x, s, lv) = r) {f : α → Nat → Nat → Rs β} {g : β × St × Nat} (hg : ∀ c a, s = .er c a → g.2.1 = .er c a) (hf : ∀ o, s = .go o → asR g = f x o lv) : asR g = r.then f := by
  subst h
  cases s with
  | er c a => rw [asR_er (hg c a rfl)]; rfl
  | go o => exact hf o rfl
theorem all_as (b : List UInt8) (o lv : Nat) : asR (allC b (.go o) lv) = allR b o lv := by
  unfold allR
  refine asR_seq (s := (nameC b false (.go o)).2) (nameC_name (lv := lv)) (fun c a h => by unfold allC; rw [h]; rfl) fun o1 h1 => ?_
  refine asR_seq (s := (nameC b true (.go o1)).2) (nameC_name (lv := lv)) (fun c a h => by unfold allC; rw [h1]; exact h) fun o2 h2 => ?_
  unfold allC; rw [h1, asR_go (o := o2) (by exact h2)]
theorem types_as (b : List UInt8) (o lv : Nat) : asR (typesC b (.go o) lv) = (numK b 1 32 15 o lv).then fun t o1 l1 => manyR (allR b) t o1 l1 := by
  refine asR_seq (s := (numC b (chkC 1 32) (.go o)).2) (numC_num (lv := lv)) (fun c a h => by unfold typesC; rw [h]; exact loop_er (all_er b) _ _ _ _ _) fun o1 h1 => ?_
  unfold typesC
  rw [h1, loop_many (all_er b) (all_as b)]
  cases manyR (allR b) (numC b (chkC 1 32) (.go o)).1 o1 lv <;> rfl
theorem numM_num {b : List UInt8} {o lv : Nat} : asR ((numC b chkM (.go o)).1, (numC b chkM (.go o)).2, lv) = numK b 1 2 6 o lv := by
  unfold numK
  by_cases h1 : (num (b.drop o)).2.2 ≠ 0
  · rw [numC_1 h1, if_pos h1]; rfl
  · rw [if_neg h1]
    by_cases h2 : 2 < (num (b.drop o)).1
    · have e : chkM (num (b.drop o)).1 = 6 := by unfold chkM; rw [if_pos (by omega)]
      rw [numC_2 h1 (by rw [e]; decide), e, if_pos h2]; rfl
    · rw [if_neg h2]
      by_cases h3 : (num (b.drop o)).1 < 1
      · have e : chkM (num (b.drop o)).1 = 6 := by unfold chkM; rw [if_pos (by omega)]
        rw [numC_2 h1 (by rw [e]; decide), e, if_pos h3]; rfl
      · have e : chkM (num (b.drop o)).1 = 0 := by unfold chkM; rw [if_neg (by omega)]
        rw [numC_3 h1 (by rw [e]; decide), if_neg h3]; rfl
theorem memK_er (b n : List UInt8) (k : Nat) (c a lv : Nat) : (memK b n k (.er c a) lv).2.1 = .er c a := by
  unfold memK
  split
  · rfl
  split
  · rfl
  · rfl
theorem mem_as (b : List UInt8) (o : Nat) : ∀ lv, (asR (memC b (.go o) lv)).then (fun x o1 _ => .ok x o1 0) = (memR b o lv).then (fun x o1 _ => .ok x o1 0) := by
  intro lv
  have key : ∀ (r r2 : Rs MemB), r = r2 → r.then (fun x o1 _ => .ok x o1 0) = r2.then (fun x o1 _ => (.ok x o1 0 : Rs MemB)) := fun r r2 h => by rw [h]
  unfold memR
  cases hn : (nameC b false (.go o)).2 with
  | er c a =>
    have h1 : nameR b false o lv = .bad c a := by rw [← nameC_name, asR_er (by exact hn)]
    rw [h1, asR_er (show (memC b (.go o) lv).2.1 = .er c a by unfold memC; rw [hn]; exact memK_er _ _ _ _ _ _)]; rfl
  | go o1 =>
    have h1 : nameR b false o lv = .ok (nameC b false (.go o)).1 o1 lv := by rw [← nameC_name, asR_go (o := o1) (by exact hn)]
    rw [h1]
    simp only [Rs.then]
    cases hk : (numC b chkM (.go o1)).2 with
    | er c a =>
      have h2 : numK b 1 2 6 o1 lv = .bad c a := by rw [← numM_num, asR_er (by exact hk)]
      rw [h2, asR_er (show (memC b (.go o) lv).2.1 = .er c a by unfold memC; rw [hn, hk]; exact memK_er _ _ _ _ _ _)]
    | go o2 =>
      have h2 : numK b 1 2 6 o1 lv = .ok (numC b chkM (.go o1)).1 o2 lv := by rw [← numM_num, asR_go (o := o2) (by exact hk)]
      rw [h2]
      have hv := chkM_val (b := b) (.go o1)
      have hv0 : (numC b chkM (.go o1)).1 ≠ 0 := by
        intro h0
        have h3 : 1 ≤ (numC b chkM (.go o1)).1 := by
          unfold numK at h2
          split at h2
          · cases h2
          split at h2
          · cases h2
          split at h2
          · cases h2
          rename_i a1 a2 a3
          injection h2 with e1 e2 e3
          omega
        omega
      have hm : memC b (.go o) lv = memK b (nameC b false (.go o)).1 (numC b chkM (.go o1)).1 (.go o2) lv := by unfold memC; rw [hn, hk]
      rw [hm]
      simp only []
      generalize (numC b chkM (.go o1)).1 = k at hv hv0
      have hk2 : k = 1 ∨ k = 2 := by omega
      rcases hk2 with rfl | rfl
      · rw [if_neg (by decide)]
        unfold relR
        have ht := types_as b o2 lv
        show Rs.then (asR ((_, 1, (typesC b (.go o2) lv).1, ex0), (typesC b (.go o2) lv).2)) _ = _
        generalize typesC b (.go o2) lv = T at ht ⊢
        obtain ⟨ls, s, l⟩ := T
        cases hnk : numK b 1 32 15 o2 lv with
        | bad c a =>
          rw [hnk] at ht
          cases s with
          | er c a => cases ht; rfl
          | go o => cases ht
        | ok t o3 l3 =>
          rw [hnk] at ht
          have ht : asR (ls, s, l) = manyR (allR b) t o3 l3 := ht
          simp only [Rs.then]
          rw [← ht]
          cases s <;> rfl
      · rw [if_pos rfl]
        unfold permR
        have ht := part_as b 16 o2 0
        show Rs.then (asR ((_, 2, [], (partC b 16 (.go o2) 0).1), (partC b 16 (.go o2) 0).2)) _ = _
        generalize partC b 16 (.go o2) 0 = T at ht ⊢
        obtain ⟨x, s, l⟩ := T
        rw [← ht]
        cases s <;> rfl
def asR0 {α : Type} (r : α × St × Nat) : Rs α := match r.2.1 with
  | .er c a => .bad c a
  | .go o => .ok r.1 o 0
def zr {α : Type} (r : Rs α) : Rs α := r.then fun x o _ => .ok x o 0
theorem asR0_zr {α : Type} (r : α × St × Nat) : asR0 r = zr (asR r) := by
  obtain ⟨x, s, l⟩ := r
  cases s <;> rfl
theorem zr_then {α β : Type} (r : Rs α) (f : α → Nat → Nat → Rs β) : zr (r.then f) = r.then fun x o l => zr (f x o l) := by cases r <;> rfl
theorem loop_lv0 {α : Type} {f : St → Nat → α × St × Nat} (hf : ∀ s lv, f s lv = ((f s 0).1, (f s 0).2.1, lv)) : ∀ (n : Nat) (acc : List α) (s : St) (lv : Nat), loopC f n acc s lv = ((loopC f n acc s 0).1, (loopC f n acc s 0).2.1, lv)
  | 0, _, _, _ => rfl
  | n + 1, acc, s, lv => by
    rw [loopC, loopC, hf s lv]
    have e : (f s 0).2.2 = 0 := by rw [hf s 0]
    rw [e]
    exact loop_lv0 hf n _ _ lv
theorem types_lv0 (b : List UInt8) (s : St) (lv : Nat) : typesC b s lv = ((typesC b s 0).1, (typesC b s 0).2.1, lv) := loop_lv0 (fun _ _ => rfl) _ _ _ _
theorem mem_lv0 (b : List UInt8) (s : St) (lv : Nat) : (memC b s lv).1 = (memC b s 0).1 ∧ (memC b s lv).2.1 = (memC b s 0).2.1 := by
  unfold memC memK
  split
  · rw [types_lv0 b _ lv]; exact ⟨rfl, rfl⟩
  split
  · exact ⟨rfl, rfl⟩
  · exact ⟨rfl, rfl⟩
theorem memR_zr (b : List UInt8) (o : Nat) : zr (memR b o 0) = memR b o 0 := by
  unfold memR
  rw [zr_then]
  congr 1; funext n o1 l1
  rw [zr_then]
  congr 1; funext k o2 l2
  split
  · unfold permR
    rw [zr_then]; rfl
  · unfold relR
    rw [zr_then]
    congr 1; funext t o3 l3
    rw [zr_then]; rfl
theorem mem_as0 (b : List UInt8) (o lv : Nat) : asR0 (memC b (.go o) lv) = memR b o 0 := by
  have h := mem_lv0 b (.go o) lv
  have e : asR0 (memC b (.go o) lv) = asR0 (memC b (.go o) 0) := by
    unfold asR0
    rw [h.1, h.2]
  rw [e, asR0_zr]
  have := mem_as b o 0
  exact this.trans (memR_zr b o)
theorem loop_many0 {α : Type} {f : St → Nat → α × St × Nat} {g : Nat → Nat → Rs α} (hf : Stays f) (hg : ∀ o lv, asR0 (f (.go o) lv) = g o 0) : ∀ (n : Nat) (acc : List α) (o lv : Nat), asR0 (loopC f n acc (.go o) lv) = (manyR g n o 0).then fun xs o1 l1 => .ok (acc ++ xs) o1 l1
  | 0, acc, o, lv => by show Rs.ok acc o 0 = Rs.ok (acc ++ []) o 0; rw [List.append_nil]
  | n + 1, acc, o, lv => by
    rw [loopC, manyR, ← hg o lv]
    obtain ⟨⟨x, s, l⟩, hx⟩ : ∃ r, r = f (.go o) lv := ⟨_, rfl⟩
    rw [← hx]
    cases s with
    | er c a =>
      show asR0 (loopC f n (acc ++ [x]) (.er c a) l) = .bad c a
      unfold asR0
      rw [loop_er hf]
    | go o1 =>
      show asR0 (loopC f n (acc ++ [x]) (.go o1) l) = Rs.then (Rs.then (manyR g n o1 0) _) _
      rw [loop_many0 hf hg n (acc ++ [x]) o1 l]
      cases manyR g n o1 0 with
      | bad c a => rfl
      | ok xs o2 l2 => show Rs.ok _ _ _ = Rs.ok _ _ _; rw [List.append_assoc]; rfl
theorem many_zero {α : Type} {g : Nat → Nat → Rs α} (hg : ∀ o x o1 l1, g o 0 = .ok x o1 l1 → l1 = 0) : ∀ (n o : Nat) xs o1 l1, manyR g n o 0 = .ok xs o1 l1 → l1 = 0
  | 0, o, xs, o1, l1, h => by cases h; rfl
  | n + 1, o, xs, o1, l1, h => by
    unfold manyR at h
    obtain ⟨x, oa, la, e1, h⟩ := then_ok h
    obtain ⟨ys, ob, lb, e2, h⟩ := then_ok h
    cases h
    obtain rfl := hg _ _ _ _ e1
    exact many_zero hg n _ _ _ _ e2
theorem asR0_seq {α β : Type} {x : α} {s : St} {lv : Nat} {r : Rs α} (h : asR (x, s, lv) = r) {f : α → Nat → Nat → Rs β} {g : β × St × Nat} (hg : ∀ c a, s = .er c a → g.2.1 = .er c a) (hf : ∀ o, s = .go o → asR0 g = f x o lv) : asR0 g = r.then f := by
  subst h
  cases s with
  | er c a => unfold asR0; rw [hg c a rfl]; rfl
  | go o => exact hf o rfl
theorem asR0_er {α : Type} {r : α × St × Nat} {c a : Nat} (h : r.2.1 = .er c a) : asR0 r = .bad c a := by unfold asR0; rw [h]
theorem def_as0 (b : List UInt8) (o lv : Nat) : asR0 (defC b (.go o) lv) = defR b o 0 := by
  unfold defR
  refine asR0_seq (s := (nameC b false (.go o)).2) (nameC_name (lv := 0)) (fun c a h => by unfold defC; rw [h]; exact loop_er (mem_er b) _ _ _ _ _) fun o1 h1 => ?_
  refine asR0_seq (s := (numC b (chkC 0 64) (.go o1)).2) (numC_num (lv := 0)) (fun c a h => by unfold defC; rw [h1, h]; exact loop_er (mem_er b) _ _ _ _ _) fun o2 h2 => ?_
  unfold defC
  rw [h1, h2]
  have h := loop_many0 (mem_er b) (mem_as0 b) (numC b (chkC 0 64) (.go o1)).1 [] o2 lv
  have hz := many_zero (g := memR b) (fun o x o1 l1 e => by
    have e2 := mem_as0 b o 0
    rw [e] at e2
    unfold asR0 at e2
    split at e2 <;> cases e2
    rfl) (numC b (chkC 0 64) (.go o1)).1 o2
  generalize loopC (memC b) (numC b (chkC 0 64) (.go o1)).1 [] (.go o2) lv = T at h ⊢
  obtain ⟨ms, s, l⟩ := T
  cases hm : manyR (memR b) (numC b (chkC 0 64) (.go o1)).1 o2 0 with
  | bad c a =>
    rw [hm] at h
    cases s with
    | er c a => cases h; rfl
    | go o => cases h
  | ok xs o3 l3 =>
    obtain rfl := hz _ _ _ hm
    rw [hm] at h
    cases s with
    | er c a => cases h
    | go o => cases h; rfl
theorem sch_as0 (b : List UInt8) (o lv : Nat) : asR0 (schC b (.go o) lv) = schR b o 0 := by
  unfold schR
  refine asR0_seq (s := (numC b (chkC 0 64) (.go o)).2) (numC_num (lv := 0)) (fun c a h => by unfold schC; rw [h]; exact loop_er (def_er b) _ _ _ _ _) fun o1 h1 => ?_
  unfold schC
  rw [h1, loop_many0 (def_er b) (def_as0 b)]
  cases manyR (defR b) (numC b (chkC 0 64) (.go o)).1 o1 0 <;> rfl
theorem parseSc_fin (b : List UInt8) : parseSc b = (if (finC b (schC b (.go 0) 0).2.1).1 = 0 then (schC b (.go 0) 0).1 else [], finC b (schC b (.go 0) 0).2.1) := by
  have h := sch_as0 b 0 0
  unfold parseSc
  obtain ⟨⟨l, s, v⟩, hr⟩ : ∃ r, r = schC b (.go 0) 0 := ⟨_, rfl⟩
  rw [← hr] at h ⊢
  cases s with
  | er c a =>
    have h : Rs.bad c a = schR b 0 0 := h
    rw [← h]
    have : c ≠ 0 := schR_ne 0 0 c a h.symm
    show _ = (if c = 0 then _ else _, _)
    rw [if_neg this]; rfl
  | go o =>
    have h : Rs.ok l o 0 = schR b 0 0 := h
    rw [← h]
    show (if o < b.length then _ else _) = (if (if o < b.length then (16, o) else (0, 0)).1 = 0 then _ else _, if o < b.length then (16, o) else (0, 0))
    by_cases ho : o < b.length
    · simp only [if_pos ho]; rfl
    · simp only [if_neg ho]; rfl
theorem sch_code {b : List UInt8} {c a : Nat} (h : (schC b (.go 0) 0).2.1 = .er c a) : c ≠ 0 := by
  have h1 := sch_as0 b 0 0
  rw [asR0_er h] at h1
  exact schR_ne 0 0 c a h1.symm
def CPost (W : World) (r : List DefB × Nat × Nat) (e : Ending) (w' : World) : Prop := ∃ v, e = .returned (.tuple #[v, errF r.2.1 r.2.2]) ∧ VS W.heap.size r.1 w' v ∧ Below W.heap.size W w'
theorem VS.k2 {B cb rb : Nat} {l : List DefB} {w w' : World} {v : Value} (h : VS B l w v) (hk : K2 cb rb w w') (h1 : cb < B) (h2 : rb < B) : VS B l w' v := by
  obtain ⟨u, hv, hr⟩ := h
  exact ⟨u, hv, (hr.keep fun b hb n => World.cell?_of_block (hk.2.2.2.2 b hb.2 (by have := hb.1; omega) (by have := hb.1; omega))).imp fun b hb => ⟨hb.1, Nat.lt_of_lt_of_le hb.2 hk.2.2.2.1⟩⟩
theorem VS.later {B : Nat} {l : List DefB} {w w' : World} {v : Value} (h : VS B l w v) (hb : Below w.heap.size w w') : VS B l w' v := by
  obtain ⟨u, hv, hr⟩ := h
  exact ⟨u, hv, (hr.keep fun b hb' n => hb.cell (p := ⟨b, n, none⟩) hb'.2).imp fun b hb' => ⟨hb'.1, Nat.lt_of_lt_of_le hb'.2 hb.size⟩⟩
theorem resS2 {fn : Func} {p q : Tmp} (h : fn.results = #[.cell p 26, .tmp q]) {tmps : Array Value} {w : World} {g : Nat} {x0 : Value} (hA : Arr w 26 g [x0]) (hp : tmps.getD p undef = .pointer (some ⟨g, 0, none⟩)) :
    (results fn tmps).run Tryz.prog w = .ok (.tuple #[.agg #[x0], tmps.getD q undef]) w :=
  results_cell_tmp h tmps w g 26 #[x0] (0, 0) _ hp hA Tryz.underlying26 rfl (by kernel_rfl)
set_option maxRecDepth 100000 in
set_option maxHeartbeats 4000000 in
theorem cParse_any {W : World} {b : List UInt8} {vb : Value} (hr : Rd W.heap.size W vb b) (hl : b.length ≤ 1000000) (hE : Env W) : Calls Tryz.prog 8 #[vb] W (CPost W (parseSc b)) := by
  have hb : Below W.heap.size W (W.alloc (.cells #[.slice none 0 0] 26)) := (Below.refl _ _).alloc (Nat.le_refl _) _
  have HG : Hid (Arr (W.alloc (.cells #[.slice none 0 0] 26)) 26 W.heap.size [.slice none 0 0]) := Arr.new' _ _ _ _ rfl
  have HN := hiD (newReader_any ((hr.below hb (Nat.le_refl _)).mono hb.size) hl (hE.below hb))
  have HB := hiD hb
  have HSZ : Hid ((W.alloc (.cells #[.slice none 0 0] 26)).heap.size = W.heap.size + 1) := World.size_alloc _ _
  have HE : Hid (parseSc b = (if (finC b (schC b (.go 0) 0).2.1).1 = 0 then (schC b (.go 0) 0).1 else [], finC b (schC b (.go 0) 0).2.1)) := parseSc_fin b
  have HCD : Hid (∀ c a, (schC b (.go 0) 0).2.1 = .er c a → c ≠ 0) := fun c a h => sch_code h
  obtain ⟨R, hR⟩ : ∃ R, R = schC b (.go 0) 0 := ⟨_, rfl⟩
  have HR := hiD hR
  rw [← hR] at HE HCD
  obtain ⟨l, s1, lv1⟩ := R
  clear hr hl hE hb hR
  obtain ⟨C, hC⟩ : ∃ C, C = (finC b s1).1 := ⟨_, rfl⟩
  obtain ⟨A, hA⟩ : ∃ A, A = (finC b s1).2 := ⟨_, rfl⟩
  have HF : Hid (finC b s1 = (C, A)) := by rw [hC, hA]; rfl
  have HE : Hid (parseSc b = (if C = 0 then l else [], C, A)) := by
    have h := HE.out
    show _ = _
    rw [h, HF.out]
  clear hC hA
  unfold CPost
  rw [HE.out]
  go_enter Tryz.func8, Tryz.ntmps8
  go_upto_region 1 with (fail)
  generalize W.alloc (.cells #[.slice none 0 0] 26) = w0 at HG HN HB HSZ ⊢
  go_wp2_with fail
  refine HN.out.mono ?_
  rintro e w1 ⟨cb, rb, rfl, hcb, h1, b1⟩
  have HS1 := hiD h1
  have HL : Hid (cb < rb ∧ rb < w1.heap.size) := h1.lt
  have HCB : Hid (W.heap.size < cb) := by have := HSZ.out; show _ < _; omega
  have HB1 := hiD (HB.out.trans (b1.mono HB.out.size))
  have HG1 := hiD (HG.out.later b1)
  have HX := hiD (cSchema_any h1)
  unfold SPost at HX
  rw [← HR.out] at HX
  clear h1 b1 hcb HN HG HB HSZ HR HE
  go_wp2_with fail
  refine HX.out.mono ?_
  rintro e w2 ⟨v, rfl, r2, h2, k2⟩
  obtain ⟨q4, c4, rfl, _⟩ := VS.form r2
  dsimp only [] at r2 h2 ⊢
  have hb3 : Below w2.heap.size w2 (w2.alloc (.cells #[.slice q4 l.length c4] 26)) := (Below.refl _ _).alloc (Nat.le_refl _) _
  have HS3 := hiD (h2.later hb3)
  have HR3 := hiD (r2.later hb3)
  have HG3 := hiD ((k2.arr HG1.out (by have := HCB.out; omega) (by have := HCB.out; have := HL.out; omega)).later hb3)
  have HB3 := hiD ((HB1.out.trans (k2.below (B := W.heap.size) (by have := HCB.out; omega) (by have := HCB.out; have := HL.out; omega) HB1.out.size)).trans (hb3.mono (Nat.le_trans HB1.out.size k2.2.2.2.1)))
  have HA3 : Hid (Arr (w2.alloc (.cells #[.slice q4 l.length c4] 26)) 26 w2.heap.size [.slice q4 l.length c4]) := Arr.new' _ _ _ _ rfl
  have HFN := hiD (finish_any HS3.out HCD.out)
  rw [HF.out] at HFN
  have HSZ : Hid (w1.heap.size ≤ w2.heap.size) := k2.2.2.2.1
  clear r2 h2 k2 hb3 HX HS1 HB1 HG1
  go_upto_region 3 with (fail)
  obtain ⟨g5, hg5⟩ : ∃ g, g = w2.heap.size := ⟨_, rfl⟩
  rw [← hg5] at HA3 ⊢
  have HG5 : Hid (w1.heap.size ≤ g5) := by rw [hg5]; exact HSZ.out
  generalize w2.alloc (.cells #[.slice q4 l.length c4] 26) = w3 at HS3 HR3 HG3 HB3 HA3 HFN ⊢
  clear hg5 HSZ
  go_wp2_with fail
  refine HFN.out.mono ?_
  rintro e w4 ⟨rfl, k4⟩
  have HR4 := hiD (VS.k2 HR3.out k4 (by have := HL.out; omega) HL.out.2)
  have HG4 := hiD (k4.arr HG3.out (by have := HCB.out; omega) (by have := HCB.out; have := HL.out; omega))
  have HA4 := hiD (k4.arr HA3.out (by have := HG5.out; have := HL.out; omega) (by have := HG5.out; have := HL.out; omega))
  have HB4 := hiD (HB3.out.trans (k4.below (B := W.heap.size) (by have := HCB.out; omega) (by have := HCB.out; have := HL.out; omega) HB3.out.size))
  clear k4 HFN HS3 HR3 HG3 HA3 HB3
  by_cases hC : C = 0
  · subst hC
    rw [show errF 0 A = .nilIface from rfl]
    obtain ⟨x0, y0⟩ := HA4.out.all1
    obtain ⟨p0, z0⟩ := HG4.out.all1
    go_wp2_with fail
    have hk := kp_setS w4 W.heap.size (.slice q4 l.length c4)
    have hA := HG4.out.setS (.slice q4 l.length c4)
    refine bodyPost_ret (resS2 rfl hA rfl) rfl ?_
    exact ⟨_, rfl, (VS.kp HR4.out hk (by have := HCB.out; have := HL.out; omega)).low (by have := HCB.out; have := HL.out; omega), HB4.out.trans (hk.below (Nat.le_refl _) HB4.out.size)⟩
  · have hq := eqNF (C : Nat) (A : Nat)
    rw [errF_at hC]
    unfold faultN
    obtain ⟨p0, z0⟩ := HG4.out.all1
    go_wp2_with fail
    have hk := kp_setS w4 W.heap.size (.slice none 0 0)
    have hA := HG4.out.setS (.slice none 0 0)
    refine bodyPost_ret (resS2 rfl hA rfl) rfl ?_
    exact ⟨_, by rw [errF_at hC]; rfl, ⟨_, rfl, RdK.nil _ _ _⟩, HB4.out.trans (hk.below (Nat.le_refl _) HB4.out.size)⟩
theorem Arr.setP {w : World} {t : TypeId} {g : Nat} {y0 y1 y2 y3 y4 : Value} (h : Arr w t g [y0, y1, y2, y3, y4]) (x0 x1 x2 x3 x4 : Value) : Arr (((((w.setCell ⟨g, 0, none⟩ x0).setCell ⟨g, 1, none⟩ x1).setCell ⟨g, 2, none⟩ x2).setCell ⟨g, 3, none⟩ x3).setCell ⟨g, 4, none⟩ x4) t g [x0, x1, x2, x3, x4] := (((((h.set 0 x0).set 1 x1).set 2 x2).set 3 x3).set 4 x4)
theorem kp_setP (w : World) (g : Nat) (x0 x1 x2 x3 x4 : Value) : Kp g w (((((w.setCell ⟨g, 0, none⟩ x0).setCell ⟨g, 1, none⟩ x1).setCell ⟨g, 2, none⟩ x2).setCell ⟨g, 3, none⟩ x3).setCell ⟨g, 4, none⟩ x4) := ((((((Kp.of (pb := g) (Below.refl _ _)).set 0 x0).set 1 x1).set 2 x2).set 3 x3).set 4 x4)
theorem resP {fn : Func} {p : Tmp} (h : fn.results = #[.cell p 59]) {tmps : Array Value} {w : World} {g : Nat} {x0 x1 x2 x3 x4 : Value} (hA : Arr w 59 g [x0, x1, x2, x3, x4]) (hp : tmps.getD p undef = .pointer (some ⟨g, 0, none⟩)) :
  (results fn tmps).run Tryz.prog w = .ok (.agg #[x0, x1, x2, x3, x4]) w :=
 results_cell_row h tmps w g 59 #[x0, x1, x2, x3, x4] (0, 0) _ hp hA Tryz.underlying59 rfl (by kernel_rfl)
def cO : St → Nat
 | .go _ => 0
 | .er c _ => c
def aO : St → Nat
 | .go _ => 0
 | .er _ a => a
def PlO (b : List UInt8) (s : St) (o : Nat) : Prop := o ≤ b.length ∧ (∀ o', s = .go o' → o = o') ∧ ∀ c a, s = .er c a → c ≠ 0
def chkR (lo hi high x : Nat) : Nat := if hi < x then high else if x < lo then 6 else 0
theorem resP2 {fn : Func} {p q : Tmp} (h : fn.results = #[.cell p 59, .tmp q]) {tmps : Array Value} {w : World} {g : Nat} {x0 x1 x2 x3 x4 : Value} (hA : Arr w 59 g [x0, x1, x2, x3, x4]) (hp : tmps.getD p undef = .pointer (some ⟨g, 0, none⟩)) :
  (results fn tmps).run Tryz.prog w = .ok (.tuple #[.agg #[x0, x1, x2, x3, x4], tmps.getD q undef]) w :=
 results_cell_tmp h tmps w g 59 #[x0, x1, x2, x3, x4] (0, 0) _ hp hA Tryz.underlying59 rfl (by kernel_rfl)
theorem convU (n : Nat) (h : n ≤ 1000000) (w : World) : (convert 3 94 (.int .i64 (n : Nat))).run Tryz.prog w = .ok (.int .u64 n) w := by
 have e : IntKind.wrap .u64 (n : Int) = n := by
  unfold IntKind.wrap; simp [IntKind.bits, IntKind.signed]; omega
 simp [convert, run_underlying Tryz.underlying3, run_underlying Tryz.underlying94, Conv.intToInt, e]
theorem below_box {B0 : Nat} {W w : World} (h : Below B0 W w) {g : Nat} (hg : B0 ≤ g) (i : Nat) (v : Value) : Below B0 W (w.setCell ⟨g, i, none⟩ v) := h.setCell (p := ⟨g, i, none⟩) hg v
theorem below_set5 {B0 : Nat} {W w : World} (h : Below B0 W w) {g : Nat} (hg : B0 ≤ g) (x0 x1 x2 x3 x4 : Value) : Below B0 W (((((w.setCell ⟨g, 0, none⟩ x0).setCell ⟨g, 1, none⟩ x1).setCell ⟨g, 2, none⟩ x2).setCell ⟨g, 3, none⟩ x3).setCell ⟨g, 4, none⟩ x4) :=
 below_box (below_box (below_box (below_box (below_box h hg _ _) hg _ _) hg _ _) hg _ _) hg _ _
section
variable {b : List UInt8} {s : St} {W : World} {q : Option Addr} {cp o lv : Nat}
set_option maxRecDepth 100000 in
set_option maxHeartbeats 2000000 in
theorem rFail_any (c a : Nat) : Calls Tryz.prog 53 #[.agg #[.slice q b.length cp, .int .i64 (o : Nat), .int .i64 0, .int .i64 0, .int .i64 (lv : Nat)], .int .i64 (c : Nat), .int .i64 (a : Nat)] W fun e w' => e = .returned (.agg #[.slice q b.length cp, .int .i64 (o : Nat), .int .i64 (c : Nat), .int .i64 (a : Nat), .int .i64 (lv : Nat)]) ∧ Below W.heap.size W w' := by
 have HA : Hid (Arr ((W.alloc (.cells #[.slice q b.length cp, .int .i64 (o : Nat), .int .i64 0, .int .i64 0, .int .i64 (lv : Nat)] 59)).alloc (.cells #[.slice none 0 0, .int .i64 0, .int .i64 0, .int .i64 0, .int .i64 0] 59)) 59 W.heap.size [.slice q b.length cp, .int .i64 (o : Nat), .int .i64 0, .int .i64 0, .int .i64 (lv : Nat)]) := (Arr.new' _ _ _ _ rfl).alloc _
 have HZ : Hid (Arr ((W.alloc (.cells #[.slice q b.length cp, .int .i64 (o : Nat), .int .i64 0, .int .i64 0, .int .i64 (lv : Nat)] 59)).alloc (.cells #[.slice none 0 0, .int .i64 0, .int .i64 0, .int .i64 0, .int .i64 0] 59)) 59 (W.heap.size + 1) [.slice none 0 0, .int .i64 0, .int .i64 0, .int .i64 0, .int .i64 0]) := Arr.new2 _ _ _ _ _ rfl
 have HB : Hid (Below W.heap.size W ((W.alloc (.cells #[.slice q b.length cp, .int .i64 (o : Nat), .int .i64 0, .int .i64 0, .int .i64 (lv : Nat)] 59)).alloc (.cells #[.slice none 0 0, .int .i64 0, .int .i64 0, .int .i64 0, .int .i64 0] 59))) := ((Below.refl _ _).alloc (Nat.le_refl _) _).alloc (by simp) _
 obtain ⟨x0, y0, x1, y1, x2, y2, x3, y3, x4, y4⟩ := HA.out.all5
 obtain ⟨p0, z0, p1, z1, p2, z2, p3, z3, p4, z4⟩ := HZ.out.all5
 go_enter Tryz.func53, Tryz.ntmps53
 go_upto_region 4 with (fail)
 clear x0 y0 x1 y1 x2 y2 x3 y3 x4 y4
 clear p0 z0 p1 z1 p2 z2 p3 z3 p4 z4
 have HA1 : Hid (Arr ((W.alloc (.cells #[.slice q b.length cp, .int .i64 (o : Nat), .int .i64 (c : Nat), .int .i64 (a : Nat), .int .i64 (lv : Nat)] 59)).alloc (.cells #[.slice none 0 0, .int .i64 0, .int .i64 0, .int .i64 0, .int .i64 0] 59)) 59 W.heap.size [.slice q b.length cp, .int .i64 (o : Nat), .int .i64 (c : Nat), .int .i64 (a : Nat), .int .i64 (lv : Nat)]) := (Arr.new' _ _ _ _ rfl).alloc _
 have HZ1 : Hid (Arr ((W.alloc (.cells #[.slice q b.length cp, .int .i64 (o : Nat), .int .i64 (c : Nat), .int .i64 (a : Nat), .int .i64 (lv : Nat)] 59)).alloc (.cells #[.slice none 0 0, .int .i64 0, .int .i64 0, .int .i64 0, .int .i64 0] 59)) 59 (W.heap.size + 1) [.slice none 0 0, .int .i64 0, .int .i64 0, .int .i64 0, .int .i64 0]) := Arr.new2 _ _ _ _ _ rfl
 have HB1 : Hid (Below W.heap.size W ((W.alloc (.cells #[.slice q b.length cp, .int .i64 (o : Nat), .int .i64 (c : Nat), .int .i64 (a : Nat), .int .i64 (lv : Nat)] 59)).alloc (.cells #[.slice none 0 0, .int .i64 0, .int .i64 0, .int .i64 0, .int .i64 0] 59))) := ((Below.refl _ _).alloc (Nat.le_refl _) _).alloc (by simp) _
 clear HA HZ HB
 generalize ((W.alloc (.cells #[.slice q b.length cp, .int .i64 (o : Nat), .int .i64 (c : Nat), .int .i64 (a : Nat), .int .i64 (lv : Nat)] 59)).alloc (.cells #[.slice none 0 0, .int .i64 0, .int .i64 0, .int .i64 0, .int .i64 0] 59)) = w1 at HA1 HZ1 HB1 ⊢
 obtain ⟨x0, y0, x1, y1, x2, y2, x3, y3, x4, y4⟩ := HA1.out.all5
 obtain ⟨p0, z0, p1, z1, p2, z2, p3, z3, p4, z4⟩ := HZ1.out.all5
 go_wp2_with fail
 have hA := HZ1.out.setP (.slice q b.length cp) (.int .i64 (o : Nat)) (.int .i64 (c : Nat)) (.int .i64 (a : Nat)) (.int .i64 (lv : Nat))
 exact bodyPost_ret (resP rfl hA rfl) rfl ⟨rfl, below_set5 HB1.out (Nat.le_succ _) _ _ _ _ _⟩
theorem num_next {b : List UInt8} {o : Nat} (ho : o ≤ b.length) : o + (num (b.drop o)).2.1 ≤ b.length := by
 by_cases h : (num (b.drop o)).2.2 = 0
 ·have := (num_at h).2.1
  rw [List.length_drop] at this
  omega
 ·have h2 : (num (b.drop o)).2.1 = 0 := (numGo_bad (b.drop o) 0 0 h).2
  rw [h2]; exact ho
set_option maxRecDepth 100000 in
set_option maxHeartbeats 8000000 in
theorem rNumber_any (lo hi high : Nat) (hr : Rd W.heap.size W (.slice q b.length cp) b) (hp : PlO b s o) (hbl : b.length ≤ 1000000) (hhi : hi ≤ 1000000) (hlo : lo ≤ 1000000) (hg : high ≠ 0) : Calls Tryz.prog 25 #[.agg #[.slice q b.length cp, .int .i64 (o : Nat), .int .i64 (cO (s) : Nat), .int .i64 (aO (s) : Nat), .int .i64 (lv : Nat)], .int .i64 (lo : Nat), .int .i64 (hi : Nat), .int .i64 (high : Nat)] W fun e w' => ∃ o2, e = .returned (.tuple #[.agg #[.slice q b.length cp, .int .i64 (o2 : Nat), .int .i64 (cO ((numC b (chkR lo hi high) s).2) : Nat), .int .i64 (aO ((numC b (chkR lo hi high) s).2) : Nat), .int .i64 (lv : Nat)], .int .i64 ((numC b (chkR lo hi high) s).1 : Nat)]) ∧ PlO b ((numC b (chkR lo hi high) s).2) o2 ∧ Below W.heap.size W w' := by
 cases s with
 | er c a =>
  have HPO := hiD hp
  have hc : ¬ (c : Int) = 0 := by have := hp.2.2 c a rfl; omega
  have hc2 : ((c : Int) != 0) = true := by rw [bne_iff_ne]; exact hc
  show Calls _ _ #[.agg #[.slice q b.length cp, .int .i64 (o : Nat), .int .i64 (c : Nat), .int .i64 (a : Nat), .int .i64 (lv : Nat)], _, _, _] _ _
  clear hp hbl hhi hlo hg
  have hb2 : Below W.heap.size W ((W.alloc (.cells #[.slice q b.length cp, .int .i64 (o : Nat), .int .i64 (c : Nat), .int .i64 (a : Nat), .int .i64 (lv : Nat)] 59)).alloc (.cells #[.slice none 0 0, .int .i64 0, .int .i64 0, .int .i64 0, .int .i64 0] 59)) := ((Below.refl _ _).alloc (Nat.le_refl _) _).alloc (by simp) _
  have HA : Hid (Arr ((W.alloc (.cells #[.slice q b.length cp, .int .i64 (o : Nat), .int .i64 (c : Nat), .int .i64 (a : Nat), .int .i64 (lv : Nat)] 59)).alloc (.cells #[.slice none 0 0, .int .i64 0, .int .i64 0, .int .i64 0, .int .i64 0] 59)) 59 W.heap.size [.slice q b.length cp, .int .i64 (o : Nat), .int .i64 (c : Nat), .int .i64 (a : Nat), .int .i64 (lv : Nat)]) := (Arr.new' _ _ _ _ rfl).alloc _
  have HZ : Hid (Arr ((W.alloc (.cells #[.slice q b.length cp, .int .i64 (o : Nat), .int .i64 (c : Nat), .int .i64 (a : Nat), .int .i64 (lv : Nat)] 59)).alloc (.cells #[.slice none 0 0, .int .i64 0, .int .i64 0, .int .i64 0, .int .i64 0] 59)) 59 (W.heap.size + 1) [.slice none 0 0, .int .i64 0, .int .i64 0, .int .i64 0, .int .i64 0]) := Arr.new2 _ _ _ _ _ rfl
  have HB := hiD hb2
  have HR := hiD ((hr.below hb2 (Nat.le_refl _)).mono hb2.size)
  clear hr hb2
  go_enter Tryz.func25, Tryz.ntmps25
  go_upto_region 1 with (fail)
  generalize ((W.alloc (.cells #[.slice q b.length cp, .int .i64 (o : Nat), .int .i64 (c : Nat), .int .i64 (a : Nat), .int .i64 (lv : Nat)] 59)).alloc (.cells #[.slice none 0 0, .int .i64 0, .int .i64 0, .int .i64 0, .int .i64 0] 59)) = w1 at HA HZ HB ⊢
  obtain ⟨x0, y0, x1, y1, x2, y2, x3, y3, x4, y4⟩ := HA.out.all5
  obtain ⟨p0, z0, p1, z1, p2, z2, p3, z3, p4, z4⟩ := HZ.out.all5
  go_wp2_with fail
  have hA := HZ.out.setP (.slice q b.length cp) (.int .i64 (o : Nat)) (.int .i64 (c : Nat)) (.int .i64 (a : Nat)) (.int .i64 (lv : Nat))
  exact bodyPost_ret (resP2 rfl hA rfl) rfl ⟨o, rfl, HPO.out, below_set5 HB.out (Nat.le_succ _) _ _ _ _ _⟩
 | go oo =>
  show Calls _ _ #[.agg #[.slice q b.length cp, .int .i64 (o : Nat), .int .i64 0, .int .i64 0, .int .i64 (lv : Nat)], _, _, _] _ _
  have HBL := hiD hbl
  have HH := hiD hhi
  obtain rfl : o = oo := hp.2.1 oo rfl
  have HOL : Hid (o ≤ b.length) := hp.1
  have hcv1 := convU lo hlo
  have hcv2 := convU hi hhi
  have HHG := hiD hg
  have hb2 : Below W.heap.size W ((W.alloc (.cells #[.slice q b.length cp, .int .i64 (o : Nat), .int .i64 0, .int .i64 0, .int .i64 (lv : Nat)] 59)).alloc (.cells #[.slice none 0 0, .int .i64 0, .int .i64 0, .int .i64 0, .int .i64 0] 59)) := ((Below.refl _ _).alloc (Nat.le_refl _) _).alloc (by simp) _
  have HA : Hid (Arr ((W.alloc (.cells #[.slice q b.length cp, .int .i64 (o : Nat), .int .i64 0, .int .i64 0, .int .i64 (lv : Nat)] 59)).alloc (.cells #[.slice none 0 0, .int .i64 0, .int .i64 0, .int .i64 0, .int .i64 0] 59)) 59 W.heap.size [.slice q b.length cp, .int .i64 (o : Nat), .int .i64 0, .int .i64 0, .int .i64 (lv : Nat)]) := (Arr.new' _ _ _ _ rfl).alloc _
  have HZ : Hid (Arr ((W.alloc (.cells #[.slice q b.length cp, .int .i64 (o : Nat), .int .i64 0, .int .i64 0, .int .i64 (lv : Nat)] 59)).alloc (.cells #[.slice none 0 0, .int .i64 0, .int .i64 0, .int .i64 0, .int .i64 0] 59)) 59 (W.heap.size + 1) [.slice none 0 0, .int .i64 0, .int .i64 0, .int .i64 0, .int .i64 0]) := Arr.new2 _ _ _ _ _ rfl
  have HB := hiD hb2
  have HR := hiD ((hr.below hb2 (Nat.le_refl _)).mono hb2.size)
  clear hr hb2
  have HNU : Hid (∀ w, Rd w.heap.size w (.slice q b.length cp) b → Calls Tryz.prog 52 #[.slice q b.length cp, .int .i64 (o : Nat)] w fun e w' => e = .returned (.tuple #[.int .u64 ((num (b.drop o)).1 : Nat), .int .i64 ((o + (num (b.drop o)).2.1 : Nat) : Int), .int .i64 ((num (b.drop o)).2.2 : Nat)]) ∧ w = w') := fun w h => rnumber_at h HBL.out o HOL.out
  have HN1 : Hid ((num (b.drop o)).2.2 ≠ 0 → numC b (chkR lo hi high) (.go o) = (0, .er (num (b.drop o)).2.2 o)) := numC_1
  have HN2 : Hid (¬ (num (b.drop o)).2.2 ≠ 0 → hi < (num (b.drop o)).1 → numC b (chkR lo hi high) (.go o) = (0, .er high o)) := fun h h2 => by
   have e : chkR lo hi high (num (b.drop o)).1 = high := if_pos h2
   rw [numC_2 h (by rw [e]; exact HHG.out), e]
  have HN3 : Hid (¬ (num (b.drop o)).2.2 ≠ 0 → ¬ hi < (num (b.drop o)).1 → (num (b.drop o)).1 < lo → numC b (chkR lo hi high) (.go o) = (0, .er 6 o)) := fun h h2 h3 => by
   have e : chkR lo hi high (num (b.drop o)).1 = 6 := (if_neg h2).trans (if_pos h3)
   rw [numC_2 h (by rw [e]; decide), e]
  have HN4 : Hid (¬ (num (b.drop o)).2.2 ≠ 0 → ¬ hi < (num (b.drop o)).1 → ¬ (num (b.drop o)).1 < lo → numC b (chkR lo hi high) (.go o) = ((num (b.drop o)).1, .go (o + (num (b.drop o)).2.1))) := fun h h2 h3 => by
   have e : chkR lo hi high (num (b.drop o)).1 = 0 := (if_neg h2).trans (if_neg h3)
   rw [numC_3 h (by rw [e]; decide)]
  have HNX : Hid (o + (num (b.drop o)).2.1 ≤ b.length) := num_next HOL.out
  obtain ⟨x, hx⟩ : ∃ x, x = (num (b.drop o)).1 := ⟨_, rfl⟩
  obtain ⟨nx, hnx⟩ : ∃ x, x = o + (num (b.drop o)).2.1 := ⟨_, rfl⟩
  obtain ⟨cc, hcc⟩ : ∃ x, x = (num (b.drop o)).2.2 := ⟨_, rfl⟩
  rw [← hx, ← hnx, ← hcc] at HNU
  rw [← hcc] at HN1
  rw [← hx, ← hcc] at HN2
  rw [← hx, ← hcc] at HN3
  rw [← hx, ← hcc, ← hnx] at HN4
  rw [← hnx] at HNX
  have HNY := hiD (HNU.out _ HR.out)
  clear hp hx hnx hcc hbl hhi hlo hg HNU HR
  by_cases h1 : cc ≠ 0
  ·have HE := hiD (HN1.out h1)
   have HCZ := hiD h1
   have h1' : ¬ (cc : Int) = 0 := by omega
   have h1'' : ((cc : Int) != 0) = true := by rw [bne_iff_ne]; exact h1'
   clear HN1 HN2 HN3 HN4 h1
   go_enter Tryz.func25, Tryz.ntmps25
   go_upto_region 1 with (fail)
   generalize ((W.alloc (.cells #[.slice q b.length cp, .int .i64 (o : Nat), .int .i64 0, .int .i64 0, .int .i64 (lv : Nat)] 59)).alloc (.cells #[.slice none 0 0, .int .i64 0, .int .i64 0, .int .i64 0, .int .i64 0] 59)) = w1 at HA HZ HB HNY ⊢
   obtain ⟨x0, y0, x1, y1, x2, y2, x3, y3, x4, y4⟩ := HA.out.all5
   obtain ⟨p0, z0, p1, z1, p2, z2, p3, z3, p4, z4⟩ := HZ.out.all5
   go_wp2_with fail
   refine HNY.out.mono ?_
   rintro e w2 ⟨rfl, rfl⟩
   have HA1 : Hid (Arr (w1.setCell ⟨W.heap.size, 1, none⟩ (.int .i64 (nx : Nat))) 59 W.heap.size [.slice q b.length cp, .int .i64 (nx : Nat), .int .i64 0, .int .i64 0, .int .i64 (lv : Nat)]) := HA.out.set 1 _
   have HZ1 : Hid (Arr (w1.setCell ⟨W.heap.size, 1, none⟩ (.int .i64 (nx : Nat))) 59 (W.heap.size + 1) [.slice none 0 0, .int .i64 0, .int .i64 0, .int .i64 0, .int .i64 0]) := HZ.out.setCell (by simp only [ne_eq]; omega) _
   have HB1 : Hid (Below W.heap.size W (w1.setCell ⟨W.heap.size, 1, none⟩ (.int .i64 (nx : Nat)))) := below_box HB.out (Nat.le_refl _) _ _
   clear HA HZ HB
   go_upto_region 6 with (fail)
   generalize (w1.setCell ⟨W.heap.size, 1, none⟩ (.int .i64 (nx : Nat))) = w3 at HA1 HZ1 HB1 ⊢
   clear x0 x1 x2 x3 x4 y0 y1 y2 y3 y4 p0 p1 p2 p3 p4 z0 z1 z2 z3 z4
   obtain ⟨x0, y0, x1, y1, x2, y2, x3, y3, x4, y4⟩ := HA1.out.all5
   obtain ⟨p0, z0, p1, z1, p2, z2, p3, z3, p4, z4⟩ := HZ1.out.all5
   go_wp2_with fail
   refine (rFail_any (W := w3) (cc) o).mono ?_
   rintro e w4 ⟨rfl, b4⟩
   have HZ4 := hiD (HZ1.out.later b4)
   have HB4 := hiD (HB1.out.trans (b4.mono HB1.out.size))
   clear b4 HA1 HZ1 HB1 x0 x1 x2 x3 x4 y0 y1 y2 y3 y4
   obtain ⟨p0, z0, p1, z1, p2, z2, p3, z3, p4, z4⟩ := HZ4.out.all5
   go_wp2_with fail
   have hA := HZ4.out.setP (.slice q b.length cp) (.int .i64 (nx : Nat)) (.int .i64 (cc : Nat)) (.int .i64 (o : Nat)) (.int .i64 (lv : Nat))
   refine bodyPost_ret (resP2 rfl hA rfl) rfl ?_
   rw [HE.out]
   exact ⟨_, rfl, ⟨HNX.out, (fun _ e => by cases e), (fun c a e => by cases e; exact HCZ.out)⟩, below_set5 HB4.out (Nat.le_succ _) _ _ _ _ _⟩
  ·have hc0 : cc = 0 := Classical.not_not.1 h1
   subst hc0
   by_cases h2 : hi < x
   ·have HE := hiD (HN2.out h1 h2)
    have HCZ := HHG
    have h2' : (hi : Int) < x := by omega
    clear HN1 HN2 HN3 HN4 h1 h2
    go_enter Tryz.func25, Tryz.ntmps25
    go_upto_region 1 with (fail)
    generalize ((W.alloc (.cells #[.slice q b.length cp, .int .i64 (o : Nat), .int .i64 0, .int .i64 0, .int .i64 (lv : Nat)] 59)).alloc (.cells #[.slice none 0 0, .int .i64 0, .int .i64 0, .int .i64 0, .int .i64 0] 59)) = w1 at HA HZ HB HNY ⊢
    obtain ⟨x0, y0, x1, y1, x2, y2, x3, y3, x4, y4⟩ := HA.out.all5
    obtain ⟨p0, z0, p1, z1, p2, z2, p3, z3, p4, z4⟩ := HZ.out.all5
    go_wp2_with fail
    refine HNY.out.mono ?_
    rintro e w2 ⟨rfl, rfl⟩
    have HA1 : Hid (Arr (w1.setCell ⟨W.heap.size, 1, none⟩ (.int .i64 (nx : Nat))) 59 W.heap.size [.slice q b.length cp, .int .i64 (nx : Nat), .int .i64 0, .int .i64 0, .int .i64 (lv : Nat)]) := HA.out.set 1 _
    have HZ1 : Hid (Arr (w1.setCell ⟨W.heap.size, 1, none⟩ (.int .i64 (nx : Nat))) 59 (W.heap.size + 1) [.slice none 0 0, .int .i64 0, .int .i64 0, .int .i64 0, .int .i64 0]) := HZ.out.setCell (by simp only [ne_eq]; omega) _
    have HB1 : Hid (Below W.heap.size W (w1.setCell ⟨W.heap.size, 1, none⟩ (.int .i64 (nx : Nat)))) := below_box HB.out (Nat.le_refl _) _ _
    clear HA HZ HB
    go_upto_region 6 with (fail)
    generalize (w1.setCell ⟨W.heap.size, 1, none⟩ (.int .i64 (nx : Nat))) = w3 at HA1 HZ1 HB1 ⊢
    clear x0 x1 x2 x3 x4 y0 y1 y2 y3 y4 p0 p1 p2 p3 p4 z0 z1 z2 z3 z4
    obtain ⟨x0, y0, x1, y1, x2, y2, x3, y3, x4, y4⟩ := HA1.out.all5
    obtain ⟨p0, z0, p1, z1, p2, z2, p3, z3, p4, z4⟩ := HZ1.out.all5
    go_wp2_with fail
    refine (rFail_any (W := w3) (high) o).mono ?_
    rintro e w4 ⟨rfl, b4⟩
    have HZ4 := hiD (HZ1.out.later b4)
    have HB4 := hiD (HB1.out.trans (b4.mono HB1.out.size))
    clear b4 HA1 HZ1 HB1 x0 x1 x2 x3 x4 y0 y1 y2 y3 y4
    obtain ⟨p0, z0, p1, z1, p2, z2, p3, z3, p4, z4⟩ := HZ4.out.all5
    go_wp2_with fail
    have hA := HZ4.out.setP (.slice q b.length cp) (.int .i64 (nx : Nat)) (.int .i64 (high : Nat)) (.int .i64 (o : Nat)) (.int .i64 (lv : Nat))
    refine bodyPost_ret (resP2 rfl hA rfl) rfl ?_
    rw [HE.out]
    exact ⟨_, rfl, ⟨HNX.out, (fun _ e => by cases e), (fun c a e => by cases e; exact HCZ.out)⟩, below_set5 HB4.out (Nat.le_succ _) _ _ _ _ _⟩
   ·have h2' : ¬ (hi : Int) < x := by omega
    by_cases h3 : x < lo
    ·have HE := hiD (HN3.out h1 h2 h3)
     have HCZ : Hid (6 ≠ 0) := by show _ ≠ _; decide
     have h3' : (x : Int) < lo := by omega
     clear HN1 HN2 HN3 HN4 h1 h2 h3
     go_enter Tryz.func25, Tryz.ntmps25
     go_upto_region 1 with (fail)
     generalize ((W.alloc (.cells #[.slice q b.length cp, .int .i64 (o : Nat), .int .i64 0, .int .i64 0, .int .i64 (lv : Nat)] 59)).alloc (.cells #[.slice none 0 0, .int .i64 0, .int .i64 0, .int .i64 0, .int .i64 0] 59)) = w1 at HA HZ HB HNY ⊢
     obtain ⟨x0, y0, x1, y1, x2, y2, x3, y3, x4, y4⟩ := HA.out.all5
     obtain ⟨p0, z0, p1, z1, p2, z2, p3, z3, p4, z4⟩ := HZ.out.all5
     go_wp2_with fail
     refine HNY.out.mono ?_
     rintro e w2 ⟨rfl, rfl⟩
     have HA1 : Hid (Arr (w1.setCell ⟨W.heap.size, 1, none⟩ (.int .i64 (nx : Nat))) 59 W.heap.size [.slice q b.length cp, .int .i64 (nx : Nat), .int .i64 0, .int .i64 0, .int .i64 (lv : Nat)]) := HA.out.set 1 _
     have HZ1 : Hid (Arr (w1.setCell ⟨W.heap.size, 1, none⟩ (.int .i64 (nx : Nat))) 59 (W.heap.size + 1) [.slice none 0 0, .int .i64 0, .int .i64 0, .int .i64 0, .int .i64 0]) := HZ.out.setCell (by simp only [ne_eq]; omega) _
     have HB1 : Hid (Below W.heap.size W (w1.setCell ⟨W.heap.size, 1, none⟩ (.int .i64 (nx : Nat)))) := below_box HB.out (Nat.le_refl _) _ _
     clear HA HZ HB
     go_upto_region 6 with (fail)
     generalize (w1.setCell ⟨W.heap.size, 1, none⟩ (.int .i64 (nx : Nat))) = w3 at HA1 HZ1 HB1 ⊢
     clear x0 x1 x2 x3 x4 y0 y1 y2 y3 y4 p0 p1 p2 p3 p4 z0 z1 z2 z3 z4
     obtain ⟨x0, y0, x1, y1, x2, y2, x3, y3, x4, y4⟩ := HA1.out.all5
     obtain ⟨p0, z0, p1, z1, p2, z2, p3, z3, p4, z4⟩ := HZ1.out.all5
     go_wp2_with fail
     refine (rFail_any (W := w3) (6) o).mono ?_
     rintro e w4 ⟨rfl, b4⟩
     have HZ4 := hiD (HZ1.out.later b4)
     have HB4 := hiD (HB1.out.trans (b4.mono HB1.out.size))
     clear b4 HA1 HZ1 HB1 x0 x1 x2 x3 x4 y0 y1 y2 y3 y4
     obtain ⟨p0, z0, p1, z1, p2, z2, p3, z3, p4, z4⟩ := HZ4.out.all5
     go_wp2_with fail
     have hA := HZ4.out.setP (.slice q b.length cp) (.int .i64 (nx : Nat)) (.int .i64 6) (.int .i64 (o : Nat)) (.int .i64 (lv : Nat))
     refine bodyPost_ret (resP2 rfl hA rfl) rfl ?_
     rw [HE.out]
     exact ⟨_, rfl, ⟨HNX.out, (fun _ e => by cases e), (fun c a e => by cases e; exact HCZ.out)⟩, below_set5 HB4.out (Nat.le_succ _) _ _ _ _ _⟩
    ·have HE := hiD (HN4.out h1 h2 h3)
     have h3' : ¬ (x : Int) < lo := by omega
     have hw : IntKind.i64.wrap (x : Int) = (x : Int) := by rw [IntKind.wrap_i64]; have := HH.out; omega
     have hw2 : wrap64 (x : Int) = (x : Int) := by unfold wrap64; have := HH.out; omega
     clear HN1 HN2 HN3 HN4 h1 h2 h3
     go_enter Tryz.func25, Tryz.ntmps25
     go_upto_region 1 with (fail)
     generalize ((W.alloc (.cells #[.slice q b.length cp, .int .i64 (o : Nat), .int .i64 0, .int .i64 0, .int .i64 (lv : Nat)] 59)).alloc (.cells #[.slice none 0 0, .int .i64 0, .int .i64 0, .int .i64 0, .int .i64 0] 59)) = w1 at HA HZ HB HNY ⊢
     obtain ⟨x0, y0, x1, y1, x2, y2, x3, y3, x4, y4⟩ := HA.out.all5
     obtain ⟨p0, z0, p1, z1, p2, z2, p3, z3, p4, z4⟩ := HZ.out.all5
     go_wp2_with fail
     refine HNY.out.mono ?_
     rintro e w2 ⟨rfl, rfl⟩
     have HA1 : Hid (Arr (w1.setCell ⟨W.heap.size, 1, none⟩ (.int .i64 (nx : Nat))) 59 W.heap.size [.slice q b.length cp, .int .i64 (nx : Nat), .int .i64 0, .int .i64 0, .int .i64 (lv : Nat)]) := HA.out.set 1 _
     have HZ1 : Hid (Arr (w1.setCell ⟨W.heap.size, 1, none⟩ (.int .i64 (nx : Nat))) 59 (W.heap.size + 1) [.slice none 0 0, .int .i64 0, .int .i64 0, .int .i64 0, .int .i64 0]) := HZ.out.setCell (by simp only [ne_eq]; omega) _
     have HB1 : Hid (Below W.heap.size W (w1.setCell ⟨W.heap.size, 1, none⟩ (.int .i64 (nx : Nat)))) := below_box HB.out (Nat.le_refl _) _ _
     clear HA HZ HB
     go_upto_region 6 with (fail)
     generalize (w1.setCell ⟨W.heap.size, 1, none⟩ (.int .i64 (nx : Nat))) = w3 at HA1 HZ1 HB1 ⊢
     clear x0 x1 x2 x3 x4 y0 y1 y2 y3 y4 p0 p1 p2 p3 p4 z0 z1 z2 z3 z4
     obtain ⟨x0, y0, x1, y1, x2, y2, x3, y3, x4, y4⟩ := HA1.out.all5
     obtain ⟨p0, z0, p1, z1, p2, z2, p3, z3, p4, z4⟩ := HZ1.out.all5
     go_wp2_with fail
     have hA := HZ1.out.setP (.slice q b.length cp) (.int .i64 (nx : Nat)) (.int .i64 0) (.int .i64 0) (.int .i64 (lv : Nat))
     refine bodyPost_ret (resP2 rfl hA rfl) rfl ?_
     rw [HE.out]
     exact ⟨_, rfl, ⟨HNX.out, (fun _ e => by cases e; rfl), (fun c a e => by cases e)⟩, below_set5 HB1.out (Nat.le_succ _) _ _ _ _ _⟩
end
end Go.Proofs.YtdnmgemjhpkekaaGreatDoor
