/-
  The reference's place: fail, number, name.
-/
import Derived.Test.YtdnmgemjhpkekaaGreatDoorMg4
namespace Go.Proofs.YtdnmgemjhpkekaaGreatDoor
open Go.ChangeShapes Go.WideShapes Go.ChangeAt Go.RowKit
set_option linter.unusedVariables false

theorem Arr.setP {w : World} {t : TypeId} {g : Nat} {y0 y1 y2 y3 y4 : Value} (h : Arr w t g [y0, y1, y2, y3, y4]) (x0 x1 x2 x3 x4 : Value) : Arr (((((w.setCell ⟨g, 0, none⟩ x0).setCell ⟨g, 1, none⟩ x1).setCell ⟨g, 2, none⟩ x2).setCell ⟨g, 3, none⟩ x3).setCell ⟨g, 4, none⟩ x4) t g [x0, x1, x2, x3, x4] := (((((h.set 0 x0).set 1 x1).set 2 x2).set 3 x3).set 4 x4)
theorem kp_setP (w : World) (g : Nat) (x0 x1 x2 x3 x4 : Value) : Kp g w (((((w.setCell ⟨g, 0, none⟩ x0).setCell ⟨g, 1, none⟩ x1).setCell ⟨g, 2, none⟩ x2).setCell ⟨g, 3, none⟩ x3).setCell ⟨g, 4, none⟩ x4) := ((((((Kp.of (pb := g) (Below.refl _ _)).set 0 x0).set 1 x1).set 2 x2).set 3 x3).set 4 x4)
theorem resP {fn : Func} {p : Tmp} (h : fn.results = #[.cell p 59]) {tmps : Array Value} {w : World} {g : Nat} {x0 x1 x2 x3 x4 : Value} (hA : Arr w 59 g [x0, x1, x2, x3, x4]) (hp : tmps.getD p undef = .pointer (some ⟨g, 0, none⟩)) :
    (results fn tmps).run Tryz.prog w = .ok (.agg #[x0, x1, x2, x3, x4]) w :=
  results_cell_row h tmps w g 59 #[x0, x1, x2, x3, x4] (0, 0) _ hp hA Tryz.underlying59 rfl (by kernel_rfl)
def cO : St → Nat
  | .go _ => 0
  | .er c _ => c
def aO : St → Nat
  | .go _ => 0
  | .er _ a => a
/-- The offset o in a place of the state s. -/
def PlO (b : List UInt8) (s : St) (o : Nat) : Prop := o ≤ b.length ∧ (∀ o', s = .go o' → o = o') ∧ ∀ c a, s = .er c a → c ≠ 0
def chkR (lo hi high x : Nat) : Nat := if hi < x then high else if x < lo then 6 else 0
theorem resP2 {fn : Func} {p q : Tmp} (h : fn.results = #[.cell p 59, .tmp q]) {tmps : Array Value} {w : World} {g : Nat} {x0 x1 x2 x3 x4 : Value} (hA : Arr w 59 g [x0, x1, x2, x3, x4]) (hp : tmps.getD p undef = .pointer (some ⟨g, 0, none⟩)) :
    (results fn tmps).run Tryz.prog w = .ok (.tuple #[.agg #[x0, x1, x2, x3, x4], tmps.getD q undef]) w :=
  results_cell_tmp h tmps w g 59 #[x0, x1, x2, x3, x4] (0, 0) _ hp hA Tryz.underlying59 rfl (by kernel_rfl)
theorem convU (n : Nat) (h : n ≤ 1000000) (w : World) : (convert 3 94 (.int .i64 (n : Nat))).run Tryz.prog w = .ok (.int .u64 n) w := by
  have e : IntKind.wrap .u64 (n : Int) = n := by
    unfold IntKind.wrap; simp [IntKind.bits, IntKind.signed]; omega
  simp [convert, run_underlying Tryz.underlying3, run_underlying Tryz.underlying94, Conv.intToInt, e]
theorem below_box {B0 : Nat} {W w : World} (h : Below B0 W w) {g : Nat} (hg : B0 ≤ g) (i : Nat) (v : Value) : Below B0 W (w.setCell ⟨g, i, none⟩ v) := h.setCell (p := ⟨g, i, none⟩) hg v
theorem below_set5 {B0 : Nat} {W w : World} (h : Below B0 W w) {g : Nat} (hg : B0 ≤ g) (x0 x1 x2 x3 x4 : Value) : Below B0 W (((((w.setCell ⟨g, 0, none⟩ x0).setCell ⟨g, 1, none⟩ x1).setCell ⟨g, 2, none⟩ x2).setCell ⟨g, 3, none⟩ x3).setCell ⟨g, 4, none⟩ x4) :=
  below_box (below_box (below_box (below_box (below_box h hg _ _) hg _ _) hg _ _) hg _ _) hg _ _
section
variable {b : List UInt8} {s : St} {W : World} {q : Option Addr} {cp o lv : Nat}
set_option maxRecDepth 100000 in
set_option maxHeartbeats 2000000 in
theorem rFail_any (c a : Nat) : Calls Tryz.prog 53 #[.agg #[.slice q b.length cp, .int .i64 (o : Nat), .int .i64 0, .int .i64 0, .int .i64 (lv : Nat)], .int .i64 (c : Nat), .int .i64 (a : Nat)] W fun e w' => e = .returned (.agg #[.slice q b.length cp, .int .i64 (o : Nat), .int .i64 (c : Nat), .int .i64 (a : Nat), .int .i64 (lv : Nat)]) ∧ Below W.heap.size W w' := by
  have HA : Hid (Arr ((W.alloc (.cells #[.slice q b.length cp, .int .i64 (o : Nat), .int .i64 0, .int .i64 0, .int .i64 (lv : Nat)] 59)).alloc (.cells #[.slice none 0 0, .int .i64 0, .int .i64 0, .int .i64 0, .int .i64 0] 59)) 59 W.heap.size [.slice q b.length cp, .int .i64 (o : Nat), .int .i64 0, .int .i64 0, .int .i64 (lv : Nat)]) := (Arr.new' _ _ _ _ rfl).alloc _
  have HZ : Hid (Arr ((W.alloc (.cells #[.slice q b.length cp, .int .i64 (o : Nat), .int .i64 0, .int .i64 0, .int .i64 (lv : Nat)] 59)).alloc (.cells #[.slice none 0 0, .int .i64 0, .int .i64 0, .int .i64 0, .int .i64 0] 59)) 59 (W.heap.size + 1) [.slice none 0 0, .int .i64 0, .int .i64 0, .int .i64 0, .int .i64 0]) := Arr.new2 _ _ _ _ _ rfl
  have HB : Hid (Below W.heap.size W ((W.alloc (.cells #[.slice q b.length cp, .int .i64 (o : Nat), .int .i64 0, .int .i64 0, .int .i64 (lv : Nat)] 59)).alloc (.cells #[.slice none 0 0, .int .i64 0, .int .i64 0, .int .i64 0, .int .i64 0] 59))) := ((Below.refl _ _).alloc (Nat.le_refl _) _).alloc (by simp) _
  have x0 := HA.out.cell 0
  have y0 := HA.out.free 0
  have x1 := HA.out.cell 1
  have y1 := HA.out.free 1
  have x2 := HA.out.cell 2
  have y2 := HA.out.free 2
  have x3 := HA.out.cell 3
  have y3 := HA.out.free 3
  have x4 := HA.out.cell 4
  have y4 := HA.out.free 4
  simp only [List.getElem?_cons_zero, List.getElem?_cons_succ] at x0 x1 x2 x3 x4
  have p0 := HZ.out.cell 0
  have z0 := HZ.out.free 0
  have p1 := HZ.out.cell 1
  have z1 := HZ.out.free 1
  have p2 := HZ.out.cell 2
  have z2 := HZ.out.free 2
  have p3 := HZ.out.cell 3
  have z3 := HZ.out.free 3
  have p4 := HZ.out.cell 4
  have z4 := HZ.out.free 4
  simp only [List.getElem?_cons_zero, List.getElem?_cons_succ] at p0 p1 p2 p3 p4
  go_enter Tryz.func53, Tryz.ntmps53
  go_upto_region 4 with (fail)
  clear x0 y0 x1 y1 x2 y2 x3 y3 x4 y4
  clear p0 z0 p1 z1 p2 z2 p3 z3 p4 z4
  have HA1 : Hid (Arr ((W.alloc (.cells #[.slice q b.length cp, .int .i64 (o : Nat), .int .i64 (c : Nat), .int .i64 (a : Nat), .int .i64 (lv : Nat)] 59)).alloc (.cells #[.slice none 0 0, .int .i64 0, .int .i64 0, .int .i64 0, .int .i64 0] 59)) 59 W.heap.size [.slice q b.length cp, .int .i64 (o : Nat), .int .i64 (c : Nat), .int .i64 (a : Nat), .int .i64 (lv : Nat)]) := (Arr.new' _ _ _ _ rfl).alloc _
  have HZ1 : Hid (Arr ((W.alloc (.cells #[.slice q b.length cp, .int .i64 (o : Nat), .int .i64 (c : Nat), .int .i64 (a : Nat), .int .i64 (lv : Nat)] 59)).alloc (.cells #[.slice none 0 0, .int .i64 0, .int .i64 0, .int .i64 0, .int .i64 0] 59)) 59 (W.heap.size + 1) [.slice none 0 0, .int .i64 0, .int .i64 0, .int .i64 0, .int .i64 0]) := Arr.new2 _ _ _ _ _ rfl
  have HB1 : Hid (Below W.heap.size W ((W.alloc (.cells #[.slice q b.length cp, .int .i64 (o : Nat), .int .i64 (c : Nat), .int .i64 (a : Nat), .int .i64 (lv : Nat)] 59)).alloc (.cells #[.slice none 0 0, .int .i64 0, .int .i64 0, .int .i64 0, .int .i64 0] 59))) := ((Below.refl _ _).alloc (Nat.le_refl _) _).alloc (by simp) _
  clear HA HZ HB
  generalize ((W.alloc (.cells #[.slice q b.length cp, .int .i64 (o : Nat), .int .i64 (c : Nat), .int .i64 (a : Nat), .int .i64 (lv : Nat)] 59)).alloc (.cells #[.slice none 0 0, .int .i64 0, .int .i64 0, .int .i64 0, .int .i64 0] 59)) = w1 at HA1 HZ1 HB1 ⊢
  have x0 := HA1.out.cell 0
  have y0 := HA1.out.free 0
  have x1 := HA1.out.cell 1
  have y1 := HA1.out.free 1
  have x2 := HA1.out.cell 2
  have y2 := HA1.out.free 2
  have x3 := HA1.out.cell 3
  have y3 := HA1.out.free 3
  have x4 := HA1.out.cell 4
  have y4 := HA1.out.free 4
  simp only [List.getElem?_cons_zero, List.getElem?_cons_succ] at x0 x1 x2 x3 x4
  have p0 := HZ1.out.cell 0
  have z0 := HZ1.out.free 0
  have p1 := HZ1.out.cell 1
  have z1 := HZ1.out.free 1
  have p2 := HZ1.out.cell 2
  have z2 := HZ1.out.free 2
  have p3 := HZ1.out.cell 3
  have z3 := HZ1.out.free 3
  have p4 := HZ1.out.cell 4
  have z4 := HZ1.out.free 4
  simp only [List.getElem?_cons_zero, List.getElem?_cons_succ] at p0 p1 p2 p3 p4
  go_wp2_with fail
  have hA := HZ1.out.setP (.slice q b.length cp) (.int .i64 (o : Nat)) (.int .i64 (c : Nat)) (.int .i64 (a : Nat)) (.int .i64 (lv : Nat))
  exact bodyPost_ret (resP rfl hA rfl) rfl ⟨rfl, below_set5 HB1.out (Nat.le_succ _) _ _ _ _ _⟩
theorem num_next {b : List UInt8} {o : Nat} (ho : o ≤ b.length) : o + (num (b.drop o)).2.1 ≤ b.length := by
  by_cases h : (num (b.drop o)).2.2 = 0
  · have := (num_at h).2.1
    rw [List.length_drop] at this
    omega
  · have h2 : (num (b.drop o)).2.1 = 0 := (numGo_bad (b.drop o) 0 0 h).2
    rw [h2]; exact ho
set_option maxRecDepth 100000 in
set_option maxHeartbeats 8000000 in
theorem rNumber_any (lo hi high : Nat) (hr : Rd W.heap.size W (.slice q b.length cp) b) (hp : PlO b s o) (hbl : b.length ≤ 1000000) (hhi : hi ≤ 1000000) (hlo : lo ≤ 1000000) (hg : high ≠ 0) : Calls Tryz.prog 25 #[.agg #[.slice q b.length cp, .int .i64 (o : Nat), .int .i64 (cO (s) : Nat), .int .i64 (aO (s) : Nat), .int .i64 (lv : Nat)], .int .i64 (lo : Nat), .int .i64 (hi : Nat), .int .i64 (high : Nat)] W fun e w' => ∃ o2, e = .returned (.tuple #[.agg #[.slice q b.length cp, .int .i64 (o2 : Nat), .int .i64 (cO ((numC b (chkR lo hi high) s).2) : Nat), .int .i64 (aO ((numC b (chkR lo hi high) s).2) : Nat), .int .i64 (lv : Nat)], .int .i64 ((numC b (chkR lo hi high) s).1 : Nat)]) ∧ PlO b ((numC b (chkR lo hi high) s).2) o2 ∧ Below W.heap.size W w' := by
  cases s with
  | er c a =>
    have HPO := Lib.hid hp
    have hc : ¬ (c : Int) = 0 := by have := hp.2.2 c a rfl; omega
    have hc2 : ((c : Int) != 0) = true := by rw [bne_iff_ne]; exact hc
    show Calls _ _ #[.agg #[.slice q b.length cp, .int .i64 (o : Nat), .int .i64 (c : Nat), .int .i64 (a : Nat), .int .i64 (lv : Nat)], _, _, _] _ _
    clear hp hbl hhi hlo hg
    have hb2 : Below W.heap.size W ((W.alloc (.cells #[.slice q b.length cp, .int .i64 (o : Nat), .int .i64 (c : Nat), .int .i64 (a : Nat), .int .i64 (lv : Nat)] 59)).alloc (.cells #[.slice none 0 0, .int .i64 0, .int .i64 0, .int .i64 0, .int .i64 0] 59)) := ((Below.refl _ _).alloc (Nat.le_refl _) _).alloc (by simp) _
    have HA : Hid (Arr ((W.alloc (.cells #[.slice q b.length cp, .int .i64 (o : Nat), .int .i64 (c : Nat), .int .i64 (a : Nat), .int .i64 (lv : Nat)] 59)).alloc (.cells #[.slice none 0 0, .int .i64 0, .int .i64 0, .int .i64 0, .int .i64 0] 59)) 59 W.heap.size [.slice q b.length cp, .int .i64 (o : Nat), .int .i64 (c : Nat), .int .i64 (a : Nat), .int .i64 (lv : Nat)]) := (Arr.new' _ _ _ _ rfl).alloc _
    have HZ : Hid (Arr ((W.alloc (.cells #[.slice q b.length cp, .int .i64 (o : Nat), .int .i64 (c : Nat), .int .i64 (a : Nat), .int .i64 (lv : Nat)] 59)).alloc (.cells #[.slice none 0 0, .int .i64 0, .int .i64 0, .int .i64 0, .int .i64 0] 59)) 59 (W.heap.size + 1) [.slice none 0 0, .int .i64 0, .int .i64 0, .int .i64 0, .int .i64 0]) := Arr.new2 _ _ _ _ _ rfl
    have HB := Lib.hid hb2
    have HR := Lib.hid ((hr.below hb2 (Nat.le_refl _)).mono hb2.size)
    clear hr hb2
    go_enter Tryz.func25, Tryz.ntmps25
    go_upto_region 1 with (fail)
    generalize ((W.alloc (.cells #[.slice q b.length cp, .int .i64 (o : Nat), .int .i64 (c : Nat), .int .i64 (a : Nat), .int .i64 (lv : Nat)] 59)).alloc (.cells #[.slice none 0 0, .int .i64 0, .int .i64 0, .int .i64 0, .int .i64 0] 59)) = w1 at HA HZ HB ⊢
    have x0 := HA.out.cell 0
    have y0 := HA.out.free 0
    have x1 := HA.out.cell 1
    have y1 := HA.out.free 1
    have x2 := HA.out.cell 2
    have y2 := HA.out.free 2
    have x3 := HA.out.cell 3
    have y3 := HA.out.free 3
    have x4 := HA.out.cell 4
    have y4 := HA.out.free 4
    simp only [List.getElem?_cons_zero, List.getElem?_cons_succ] at x0 x1 x2 x3 x4
    have p0 := HZ.out.cell 0
    have z0 := HZ.out.free 0
    have p1 := HZ.out.cell 1
    have z1 := HZ.out.free 1
    have p2 := HZ.out.cell 2
    have z2 := HZ.out.free 2
    have p3 := HZ.out.cell 3
    have z3 := HZ.out.free 3
    have p4 := HZ.out.cell 4
    have z4 := HZ.out.free 4
    simp only [List.getElem?_cons_zero, List.getElem?_cons_succ] at p0 p1 p2 p3 p4
    go_wp2_with fail
    have hA := HZ.out.setP (.slice q b.length cp) (.int .i64 (o : Nat)) (.int .i64 (c : Nat)) (.int .i64 (a : Nat)) (.int .i64 (lv : Nat))
    exact bodyPost_ret (resP2 rfl hA rfl) rfl ⟨o, rfl, HPO.out, below_set5 HB.out (Nat.le_succ _) _ _ _ _ _⟩
  | go oo =>
    show Calls _ _ #[.agg #[.slice q b.length cp, .int .i64 (o : Nat), .int .i64 0, .int .i64 0, .int .i64 (lv : Nat)], _, _, _] _ _
    have HBL := Lib.hid hbl
    have HH := Lib.hid hhi
    obtain rfl : o = oo := hp.2.1 oo rfl
    have HOL : Hid (o ≤ b.length) := hp.1
    have hcv1 := convU lo hlo
    have hcv2 := convU hi hhi
    have HHG := Lib.hid hg
    have hb2 : Below W.heap.size W ((W.alloc (.cells #[.slice q b.length cp, .int .i64 (o : Nat), .int .i64 0, .int .i64 0, .int .i64 (lv : Nat)] 59)).alloc (.cells #[.slice none 0 0, .int .i64 0, .int .i64 0, .int .i64 0, .int .i64 0] 59)) := ((Below.refl _ _).alloc (Nat.le_refl _) _).alloc (by simp) _
    have HA : Hid (Arr ((W.alloc (.cells #[.slice q b.length cp, .int .i64 (o : Nat), .int .i64 0, .int .i64 0, .int .i64 (lv : Nat)] 59)).alloc (.cells #[.slice none 0 0, .int .i64 0, .int .i64 0, .int .i64 0, .int .i64 0] 59)) 59 W.heap.size [.slice q b.length cp, .int .i64 (o : Nat), .int .i64 0, .int .i64 0, .int .i64 (lv : Nat)]) := (Arr.new' _ _ _ _ rfl).alloc _
    have HZ : Hid (Arr ((W.alloc (.cells #[.slice q b.length cp, .int .i64 (o : Nat), .int .i64 0, .int .i64 0, .int .i64 (lv : Nat)] 59)).alloc (.cells #[.slice none 0 0, .int .i64 0, .int .i64 0, .int .i64 0, .int .i64 0] 59)) 59 (W.heap.size + 1) [.slice none 0 0, .int .i64 0, .int .i64 0, .int .i64 0, .int .i64 0]) := Arr.new2 _ _ _ _ _ rfl
    have HB := Lib.hid hb2
    have HR := Lib.hid ((hr.below hb2 (Nat.le_refl _)).mono hb2.size)
    clear hr hb2
    have HNU : Hid (∀ w, Rd w.heap.size w (.slice q b.length cp) b → Calls Tryz.prog 52 #[.slice q b.length cp, .int .i64 (o : Nat)] w fun e w' => e = .returned (.tuple #[.int .u64 ((num (b.drop o)).1 : Nat), .int .i64 ((o + (num (b.drop o)).2.1 : Nat) : Int), .int .i64 ((num (b.drop o)).2.2 : Nat)]) ∧ w = w') := fun w h => rnumber_at h HBL.out o HOL.out
    have HN1 : Hid ((num (b.drop o)).2.2 ≠ 0 → numC b (chkR lo hi high) (.go o) = (0, .er (num (b.drop o)).2.2 o)) := numC_1
    have HN2 : Hid (¬ (num (b.drop o)).2.2 ≠ 0 → hi < (num (b.drop o)).1 → numC b (chkR lo hi high) (.go o) = (0, .er high o)) := fun h h2 => by
      have e : chkR lo hi high (num (b.drop o)).1 = high := if_pos h2
      rw [numC_2 h (by rw [e]; exact HHG.out), e]
    have HN3 : Hid (¬ (num (b.drop o)).2.2 ≠ 0 → ¬ hi < (num (b.drop o)).1 → (num (b.drop o)).1 < lo → numC b (chkR lo hi high) (.go o) = (0, .er 6 o)) := fun h h2 h3 => by
      have e : chkR lo hi high (num (b.drop o)).1 = 6 := (if_neg h2).trans (if_pos h3)
      rw [numC_2 h (by rw [e]; decide), e]
    have HN4 : Hid (¬ (num (b.drop o)).2.2 ≠ 0 → ¬ hi < (num (b.drop o)).1 → ¬ (num (b.drop o)).1 < lo → numC b (chkR lo hi high) (.go o) = ((num (b.drop o)).1, .go (o + (num (b.drop o)).2.1))) := fun h h2 h3 => by
      have e : chkR lo hi high (num (b.drop o)).1 = 0 := (if_neg h2).trans (if_neg h3)
      rw [numC_3 h (by rw [e]; decide)]
    have HNX : Hid (o + (num (b.drop o)).2.1 ≤ b.length) := num_next HOL.out
    obtain ⟨x, hx⟩ : ∃ x, x = (num (b.drop o)).1 := ⟨_, rfl⟩
    obtain ⟨nx, hnx⟩ : ∃ x, x = o + (num (b.drop o)).2.1 := ⟨_, rfl⟩
    obtain ⟨cc, hcc⟩ : ∃ x, x = (num (b.drop o)).2.2 := ⟨_, rfl⟩
    rw [← hx, ← hnx, ← hcc] at HNU
    rw [← hcc] at HN1
    rw [← hx, ← hcc] at HN2
    rw [← hx, ← hcc] at HN3
    rw [← hx, ← hcc, ← hnx] at HN4
    rw [← hnx] at HNX
    have HNY := Lib.hid (HNU.out _ HR.out)
    clear hp hx hnx hcc hbl hhi hlo hg HNU HR
    by_cases h1 : cc ≠ 0
    · have HE := Lib.hid (HN1.out h1)
      have HCZ := Lib.hid h1
      have h1' : ¬ (cc : Int) = 0 := by omega
      have h1'' : ((cc : Int) != 0) = true := by rw [bne_iff_ne]; exact h1'
      clear HN1 HN2 HN3 HN4 h1
      go_enter Tryz.func25, Tryz.ntmps25
      go_upto_region 1 with (fail)
      generalize ((W.alloc (.cells #[.slice q b.length cp, .int .i64 (o : Nat), .int .i64 0, .int .i64 0, .int .i64 (lv : Nat)] 59)).alloc (.cells #[.slice none 0 0, .int .i64 0, .int .i64 0, .int .i64 0, .int .i64 0] 59)) = w1 at HA HZ HB HNY ⊢
      have x0 := HA.out.cell 0
      have y0 := HA.out.free 0
      have x1 := HA.out.cell 1
      have y1 := HA.out.free 1
      have x2 := HA.out.cell 2
      have y2 := HA.out.free 2
      have x3 := HA.out.cell 3
      have y3 := HA.out.free 3
      have x4 := HA.out.cell 4
      have y4 := HA.out.free 4
      simp only [List.getElem?_cons_zero, List.getElem?_cons_succ] at x0 x1 x2 x3 x4
      have p0 := HZ.out.cell 0
      have z0 := HZ.out.free 0
      have p1 := HZ.out.cell 1
      have z1 := HZ.out.free 1
      have p2 := HZ.out.cell 2
      have z2 := HZ.out.free 2
      have p3 := HZ.out.cell 3
      have z3 := HZ.out.free 3
      have p4 := HZ.out.cell 4
      have z4 := HZ.out.free 4
      simp only [List.getElem?_cons_zero, List.getElem?_cons_succ] at p0 p1 p2 p3 p4
      go_wp2_with fail
      refine HNY.out.mono ?_
      rintro e w2 ⟨rfl, rfl⟩
      have HA1 : Hid (Arr (w1.setCell ⟨W.heap.size, 1, none⟩ (.int .i64 (nx : Nat))) 59 W.heap.size [.slice q b.length cp, .int .i64 (nx : Nat), .int .i64 0, .int .i64 0, .int .i64 (lv : Nat)]) := HA.out.set 1 _
      have HZ1 : Hid (Arr (w1.setCell ⟨W.heap.size, 1, none⟩ (.int .i64 (nx : Nat))) 59 (W.heap.size + 1) [.slice none 0 0, .int .i64 0, .int .i64 0, .int .i64 0, .int .i64 0]) := HZ.out.setCell (by simp only [ne_eq]; omega) _
      have HB1 : Hid (Below W.heap.size W (w1.setCell ⟨W.heap.size, 1, none⟩ (.int .i64 (nx : Nat)))) := below_box HB.out (Nat.le_refl _) _ _
      clear HA HZ HB
      go_upto_region 6 with (fail)
      generalize (w1.setCell ⟨W.heap.size, 1, none⟩ (.int .i64 (nx : Nat))) = w3 at HA1 HZ1 HB1 ⊢
      clear x0 x1 x2 x3 x4 y0 y1 y2 y3 y4 p0 p1 p2 p3 p4 z0 z1 z2 z3 z4
      have x0 := HA1.out.cell 0
      have y0 := HA1.out.free 0
      have x1 := HA1.out.cell 1
      have y1 := HA1.out.free 1
      have x2 := HA1.out.cell 2
      have y2 := HA1.out.free 2
      have x3 := HA1.out.cell 3
      have y3 := HA1.out.free 3
      have x4 := HA1.out.cell 4
      have y4 := HA1.out.free 4
      simp only [List.getElem?_cons_zero, List.getElem?_cons_succ] at x0 x1 x2 x3 x4
      have p0 := HZ1.out.cell 0
      have z0 := HZ1.out.free 0
      have p1 := HZ1.out.cell 1
      have z1 := HZ1.out.free 1
      have p2 := HZ1.out.cell 2
      have z2 := HZ1.out.free 2
      have p3 := HZ1.out.cell 3
      have z3 := HZ1.out.free 3
      have p4 := HZ1.out.cell 4
      have z4 := HZ1.out.free 4
      simp only [List.getElem?_cons_zero, List.getElem?_cons_succ] at p0 p1 p2 p3 p4
      go_wp2_with fail
      refine (rFail_any (W := w3) (cc) o).mono ?_
      rintro e w4 ⟨rfl, b4⟩
      have HZ4 := Lib.hid (HZ1.out.later b4)
      have HB4 := Lib.hid (HB1.out.trans (b4.mono HB1.out.size))
      clear b4 HA1 HZ1 HB1 x0 x1 x2 x3 x4 y0 y1 y2 y3 y4
      have p0 := HZ4.out.cell 0
      have z0 := HZ4.out.free 0
      have p1 := HZ4.out.cell 1
      have z1 := HZ4.out.free 1
      have p2 := HZ4.out.cell 2
      have z2 := HZ4.out.free 2
      have p3 := HZ4.out.cell 3
      have z3 := HZ4.out.free 3
      have p4 := HZ4.out.cell 4
      have z4 := HZ4.out.free 4
      simp only [List.getElem?_cons_zero, List.getElem?_cons_succ] at p0 p1 p2 p3 p4
      go_wp2_with fail
      have hA := HZ4.out.setP (.slice q b.length cp) (.int .i64 (nx : Nat)) (.int .i64 (cc : Nat)) (.int .i64 (o : Nat)) (.int .i64 (lv : Nat))
      refine bodyPost_ret (resP2 rfl hA rfl) rfl ?_
      rw [HE.out]
      exact ⟨_, rfl, ⟨HNX.out, (fun _ e => by cases e), (fun c a e => by cases e; exact HCZ.out)⟩, below_set5 HB4.out (Nat.le_succ _) _ _ _ _ _⟩
    · have hc0 : cc = 0 := Classical.not_not.1 h1
      subst hc0
      by_cases h2 : hi < x
      · have HE := Lib.hid (HN2.out h1 h2)
        have HCZ := HHG
        have h2' : (hi : Int) < x := by omega
        clear HN1 HN2 HN3 HN4 h1 h2
        go_enter Tryz.func25, Tryz.ntmps25
        go_upto_region 1 with (fail)
        generalize ((W.alloc (.cells #[.slice q b.length cp, .int .i64 (o : Nat), .int .i64 0, .int .i64 0, .int .i64 (lv : Nat)] 59)).alloc (.cells #[.slice none 0 0, .int .i64 0, .int .i64 0, .int .i64 0, .int .i64 0] 59)) = w1 at HA HZ HB HNY ⊢
        have x0 := HA.out.cell 0
        have y0 := HA.out.free 0
        have x1 := HA.out.cell 1
        have y1 := HA.out.free 1
        have x2 := HA.out.cell 2
        have y2 := HA.out.free 2
        have x3 := HA.out.cell 3
        have y3 := HA.out.free 3
        have x4 := HA.out.cell 4
        have y4 := HA.out.free 4
        simp only [List.getElem?_cons_zero, List.getElem?_cons_succ] at x0 x1 x2 x3 x4
        have p0 := HZ.out.cell 0
        have z0 := HZ.out.free 0
        have p1 := HZ.out.cell 1
        have z1 := HZ.out.free 1
        have p2 := HZ.out.cell 2
        have z2 := HZ.out.free 2
        have p3 := HZ.out.cell 3
        have z3 := HZ.out.free 3
        have p4 := HZ.out.cell 4
        have z4 := HZ.out.free 4
        simp only [List.getElem?_cons_zero, List.getElem?_cons_succ] at p0 p1 p2 p3 p4
        go_wp2_with fail
        refine HNY.out.mono ?_
        rintro e w2 ⟨rfl, rfl⟩
        have HA1 : Hid (Arr (w1.setCell ⟨W.heap.size, 1, none⟩ (.int .i64 (nx : Nat))) 59 W.heap.size [.slice q b.length cp, .int .i64 (nx : Nat), .int .i64 0, .int .i64 0, .int .i64 (lv : Nat)]) := HA.out.set 1 _
        have HZ1 : Hid (Arr (w1.setCell ⟨W.heap.size, 1, none⟩ (.int .i64 (nx : Nat))) 59 (W.heap.size + 1) [.slice none 0 0, .int .i64 0, .int .i64 0, .int .i64 0, .int .i64 0]) := HZ.out.setCell (by simp only [ne_eq]; omega) _
        have HB1 : Hid (Below W.heap.size W (w1.setCell ⟨W.heap.size, 1, none⟩ (.int .i64 (nx : Nat)))) := below_box HB.out (Nat.le_refl _) _ _
        clear HA HZ HB
        go_upto_region 6 with (fail)
        generalize (w1.setCell ⟨W.heap.size, 1, none⟩ (.int .i64 (nx : Nat))) = w3 at HA1 HZ1 HB1 ⊢
        clear x0 x1 x2 x3 x4 y0 y1 y2 y3 y4 p0 p1 p2 p3 p4 z0 z1 z2 z3 z4
        have x0 := HA1.out.cell 0
        have y0 := HA1.out.free 0
        have x1 := HA1.out.cell 1
        have y1 := HA1.out.free 1
        have x2 := HA1.out.cell 2
        have y2 := HA1.out.free 2
        have x3 := HA1.out.cell 3
        have y3 := HA1.out.free 3
        have x4 := HA1.out.cell 4
        have y4 := HA1.out.free 4
        simp only [List.getElem?_cons_zero, List.getElem?_cons_succ] at x0 x1 x2 x3 x4
        have p0 := HZ1.out.cell 0
        have z0 := HZ1.out.free 0
        have p1 := HZ1.out.cell 1
        have z1 := HZ1.out.free 1
        have p2 := HZ1.out.cell 2
        have z2 := HZ1.out.free 2
        have p3 := HZ1.out.cell 3
        have z3 := HZ1.out.free 3
        have p4 := HZ1.out.cell 4
        have z4 := HZ1.out.free 4
        simp only [List.getElem?_cons_zero, List.getElem?_cons_succ] at p0 p1 p2 p3 p4
        go_wp2_with fail
        refine (rFail_any (W := w3) (high) o).mono ?_
        rintro e w4 ⟨rfl, b4⟩
        have HZ4 := Lib.hid (HZ1.out.later b4)
        have HB4 := Lib.hid (HB1.out.trans (b4.mono HB1.out.size))
        clear b4 HA1 HZ1 HB1 x0 x1 x2 x3 x4 y0 y1 y2 y3 y4
        have p0 := HZ4.out.cell 0
        have z0 := HZ4.out.free 0
        have p1 := HZ4.out.cell 1
        have z1 := HZ4.out.free 1
        have p2 := HZ4.out.cell 2
        have z2 := HZ4.out.free 2
        have p3 := HZ4.out.cell 3
        have z3 := HZ4.out.free 3
        have p4 := HZ4.out.cell 4
        have z4 := HZ4.out.free 4
        simp only [List.getElem?_cons_zero, List.getElem?_cons_succ] at p0 p1 p2 p3 p4
        go_wp2_with fail
        have hA := HZ4.out.setP (.slice q b.length cp) (.int .i64 (nx : Nat)) (.int .i64 (high : Nat)) (.int .i64 (o : Nat)) (.int .i64 (lv : Nat))
        refine bodyPost_ret (resP2 rfl hA rfl) rfl ?_
        rw [HE.out]
        exact ⟨_, rfl, ⟨HNX.out, (fun _ e => by cases e), (fun c a e => by cases e; exact HCZ.out)⟩, below_set5 HB4.out (Nat.le_succ _) _ _ _ _ _⟩
      · have h2' : ¬ (hi : Int) < x := by omega
        by_cases h3 : x < lo
        · have HE := Lib.hid (HN3.out h1 h2 h3)
          have HCZ : Hid (6 ≠ 0) := by show _ ≠ _; decide
          have h3' : (x : Int) < lo := by omega
          clear HN1 HN2 HN3 HN4 h1 h2 h3
          go_enter Tryz.func25, Tryz.ntmps25
          go_upto_region 1 with (fail)
          generalize ((W.alloc (.cells #[.slice q b.length cp, .int .i64 (o : Nat), .int .i64 0, .int .i64 0, .int .i64 (lv : Nat)] 59)).alloc (.cells #[.slice none 0 0, .int .i64 0, .int .i64 0, .int .i64 0, .int .i64 0] 59)) = w1 at HA HZ HB HNY ⊢
          have x0 := HA.out.cell 0
          have y0 := HA.out.free 0
          have x1 := HA.out.cell 1
          have y1 := HA.out.free 1
          have x2 := HA.out.cell 2
          have y2 := HA.out.free 2
          have x3 := HA.out.cell 3
          have y3 := HA.out.free 3
          have x4 := HA.out.cell 4
          have y4 := HA.out.free 4
          simp only [List.getElem?_cons_zero, List.getElem?_cons_succ] at x0 x1 x2 x3 x4
          have p0 := HZ.out.cell 0
          have z0 := HZ.out.free 0
          have p1 := HZ.out.cell 1
          have z1 := HZ.out.free 1
          have p2 := HZ.out.cell 2
          have z2 := HZ.out.free 2
          have p3 := HZ.out.cell 3
          have z3 := HZ.out.free 3
          have p4 := HZ.out.cell 4
          have z4 := HZ.out.free 4
          simp only [List.getElem?_cons_zero, List.getElem?_cons_succ] at p0 p1 p2 p3 p4
          go_wp2_with fail
          refine HNY.out.mono ?_
          rintro e w2 ⟨rfl, rfl⟩
          have HA1 : Hid (Arr (w1.setCell ⟨W.heap.size, 1, none⟩ (.int .i64 (nx : Nat))) 59 W.heap.size [.slice q b.length cp, .int .i64 (nx : Nat), .int .i64 0, .int .i64 0, .int .i64 (lv : Nat)]) := HA.out.set 1 _
          have HZ1 : Hid (Arr (w1.setCell ⟨W.heap.size, 1, none⟩ (.int .i64 (nx : Nat))) 59 (W.heap.size + 1) [.slice none 0 0, .int .i64 0, .int .i64 0, .int .i64 0, .int .i64 0]) := HZ.out.setCell (by simp only [ne_eq]; omega) _
          have HB1 : Hid (Below W.heap.size W (w1.setCell ⟨W.heap.size, 1, none⟩ (.int .i64 (nx : Nat)))) := below_box HB.out (Nat.le_refl _) _ _
          clear HA HZ HB
          go_upto_region 6 with (fail)
          generalize (w1.setCell ⟨W.heap.size, 1, none⟩ (.int .i64 (nx : Nat))) = w3 at HA1 HZ1 HB1 ⊢
          clear x0 x1 x2 x3 x4 y0 y1 y2 y3 y4 p0 p1 p2 p3 p4 z0 z1 z2 z3 z4
          have x0 := HA1.out.cell 0
          have y0 := HA1.out.free 0
          have x1 := HA1.out.cell 1
          have y1 := HA1.out.free 1
          have x2 := HA1.out.cell 2
          have y2 := HA1.out.free 2
          have x3 := HA1.out.cell 3
          have y3 := HA1.out.free 3
          have x4 := HA1.out.cell 4
          have y4 := HA1.out.free 4
          simp only [List.getElem?_cons_zero, List.getElem?_cons_succ] at x0 x1 x2 x3 x4
          have p0 := HZ1.out.cell 0
          have z0 := HZ1.out.free 0
          have p1 := HZ1.out.cell 1
          have z1 := HZ1.out.free 1
          have p2 := HZ1.out.cell 2
          have z2 := HZ1.out.free 2
          have p3 := HZ1.out.cell 3
          have z3 := HZ1.out.free 3
          have p4 := HZ1.out.cell 4
          have z4 := HZ1.out.free 4
          simp only [List.getElem?_cons_zero, List.getElem?_cons_succ] at p0 p1 p2 p3 p4
          go_wp2_with fail
          refine (rFail_any (W := w3) (6) o).mono ?_
          rintro e w4 ⟨rfl, b4⟩
          have HZ4 := Lib.hid (HZ1.out.later b4)
          have HB4 := Lib.hid (HB1.out.trans (b4.mono HB1.out.size))
          clear b4 HA1 HZ1 HB1 x0 x1 x2 x3 x4 y0 y1 y2 y3 y4
          have p0 := HZ4.out.cell 0
          have z0 := HZ4.out.free 0
          have p1 := HZ4.out.cell 1
          have z1 := HZ4.out.free 1
          have p2 := HZ4.out.cell 2
          have z2 := HZ4.out.free 2
          have p3 := HZ4.out.cell 3
          have z3 := HZ4.out.free 3
          have p4 := HZ4.out.cell 4
          have z4 := HZ4.out.free 4
          simp only [List.getElem?_cons_zero, List.getElem?_cons_succ] at p0 p1 p2 p3 p4
          go_wp2_with fail
          have hA := HZ4.out.setP (.slice q b.length cp) (.int .i64 (nx : Nat)) (.int .i64 6) (.int .i64 (o : Nat)) (.int .i64 (lv : Nat))
          refine bodyPost_ret (resP2 rfl hA rfl) rfl ?_
          rw [HE.out]
          exact ⟨_, rfl, ⟨HNX.out, (fun _ e => by cases e), (fun c a e => by cases e; exact HCZ.out)⟩, below_set5 HB4.out (Nat.le_succ _) _ _ _ _ _⟩
        · have HE := Lib.hid (HN4.out h1 h2 h3)
          have h3' : ¬ (x : Int) < lo := by omega
          have hw : IntKind.i64.wrap (x : Int) = (x : Int) := by rw [IntKind.wrap_i64]; have := HH.out; omega
          have hw2 : wrap64 (x : Int) = (x : Int) := by unfold wrap64; have := HH.out; omega
          clear HN1 HN2 HN3 HN4 h1 h2 h3
          go_enter Tryz.func25, Tryz.ntmps25
          go_upto_region 1 with (fail)
          generalize ((W.alloc (.cells #[.slice q b.length cp, .int .i64 (o : Nat), .int .i64 0, .int .i64 0, .int .i64 (lv : Nat)] 59)).alloc (.cells #[.slice none 0 0, .int .i64 0, .int .i64 0, .int .i64 0, .int .i64 0] 59)) = w1 at HA HZ HB HNY ⊢
          have x0 := HA.out.cell 0
          have y0 := HA.out.free 0
          have x1 := HA.out.cell 1
          have y1 := HA.out.free 1
          have x2 := HA.out.cell 2
          have y2 := HA.out.free 2
          have x3 := HA.out.cell 3
          have y3 := HA.out.free 3
          have x4 := HA.out.cell 4
          have y4 := HA.out.free 4
          simp only [List.getElem?_cons_zero, List.getElem?_cons_succ] at x0 x1 x2 x3 x4
          have p0 := HZ.out.cell 0
          have z0 := HZ.out.free 0
          have p1 := HZ.out.cell 1
          have z1 := HZ.out.free 1
          have p2 := HZ.out.cell 2
          have z2 := HZ.out.free 2
          have p3 := HZ.out.cell 3
          have z3 := HZ.out.free 3
          have p4 := HZ.out.cell 4
          have z4 := HZ.out.free 4
          simp only [List.getElem?_cons_zero, List.getElem?_cons_succ] at p0 p1 p2 p3 p4
          go_wp2_with fail
          refine HNY.out.mono ?_
          rintro e w2 ⟨rfl, rfl⟩
          have HA1 : Hid (Arr (w1.setCell ⟨W.heap.size, 1, none⟩ (.int .i64 (nx : Nat))) 59 W.heap.size [.slice q b.length cp, .int .i64 (nx : Nat), .int .i64 0, .int .i64 0, .int .i64 (lv : Nat)]) := HA.out.set 1 _
          have HZ1 : Hid (Arr (w1.setCell ⟨W.heap.size, 1, none⟩ (.int .i64 (nx : Nat))) 59 (W.heap.size + 1) [.slice none 0 0, .int .i64 0, .int .i64 0, .int .i64 0, .int .i64 0]) := HZ.out.setCell (by simp only [ne_eq]; omega) _
          have HB1 : Hid (Below W.heap.size W (w1.setCell ⟨W.heap.size, 1, none⟩ (.int .i64 (nx : Nat)))) := below_box HB.out (Nat.le_refl _) _ _
          clear HA HZ HB
          go_upto_region 6 with (fail)
          generalize (w1.setCell ⟨W.heap.size, 1, none⟩ (.int .i64 (nx : Nat))) = w3 at HA1 HZ1 HB1 ⊢
          clear x0 x1 x2 x3 x4 y0 y1 y2 y3 y4 p0 p1 p2 p3 p4 z0 z1 z2 z3 z4
          have x0 := HA1.out.cell 0
          have y0 := HA1.out.free 0
          have x1 := HA1.out.cell 1
          have y1 := HA1.out.free 1
          have x2 := HA1.out.cell 2
          have y2 := HA1.out.free 2
          have x3 := HA1.out.cell 3
          have y3 := HA1.out.free 3
          have x4 := HA1.out.cell 4
          have y4 := HA1.out.free 4
          simp only [List.getElem?_cons_zero, List.getElem?_cons_succ] at x0 x1 x2 x3 x4
          have p0 := HZ1.out.cell 0
          have z0 := HZ1.out.free 0
          have p1 := HZ1.out.cell 1
          have z1 := HZ1.out.free 1
          have p2 := HZ1.out.cell 2
          have z2 := HZ1.out.free 2
          have p3 := HZ1.out.cell 3
          have z3 := HZ1.out.free 3
          have p4 := HZ1.out.cell 4
          have z4 := HZ1.out.free 4
          simp only [List.getElem?_cons_zero, List.getElem?_cons_succ] at p0 p1 p2 p3 p4
          go_wp2_with fail
          have hA := HZ1.out.setP (.slice q b.length cp) (.int .i64 (nx : Nat)) (.int .i64 0) (.int .i64 0) (.int .i64 (lv : Nat))
          refine bodyPost_ret (resP2 rfl hA rfl) rfl ?_
          rw [HE.out]
          exact ⟨_, rfl, ⟨HNX.out, (fun _ e => by cases e; rfl), (fun c a e => by cases e)⟩, below_set5 HB1.out (Nat.le_succ _) _ _ _ _ _⟩
end
end Go.Proofs.YtdnmgemjhpkekaaGreatDoor
/-
  The reference's name and finish.
-/
namespace Go.Proofs.YtdnmgemjhpkekaaGreatDoor
open Go.ChangeShapes Go.WideShapes Go.ChangeAt Go.RowKit
set_option linter.unusedVariables false

theorem part_next {b : List UInt8} {o : Nat} (ho : o ≤ b.length) : o + (partP 64 (b.drop o)).2.1 ≤ b.length := by
  have := partP_small 64 (b.drop o)
  rw [List.length_drop] at this
  omega
theorem part_len {b : List UInt8} {o : Nat} : (partP 64 (b.drop o)).1.length ≤ 64 := by
  by_cases h : (partP 64 (b.drop o)).2.2 = 0
  · exact (part_back h).1
  · rw [(partP_bad h).1]; exact Nat.zero_le _
section
variable {b : List UInt8} {s : St} {W : World} {q : Option Addr} {cp o lv : Nat}
set_option maxRecDepth 100000 in
set_option maxHeartbeats 8000000 in
theorem rName_any (emp : Bool) (hr : Rd W.heap.size W (.slice q b.length cp) b) (hp : PlO b s o) (hbl : b.length ≤ 1000000) : Calls Tryz.prog 26 #[.agg #[.slice q b.length cp, .int .i64 (o : Nat), .int .i64 (cO (s) : Nat), .int .i64 (aO (s) : Nat), .int .i64 (lv : Nat)], .bool emp] W fun e w' => ∃ o2, e = .returned (.tuple #[.agg #[.slice q b.length cp, .int .i64 (o2 : Nat), .int .i64 (cO (nameC b emp s).2 : Nat), .int .i64 (aO (nameC b emp s).2 : Nat), .int .i64 (lv : Nat)], .string (bstr (nameC b emp s).1)]) ∧ PlO b (nameC b emp s).2 o2 ∧ Below W.heap.size W w' := by
  cases s with
  | er c a =>
    have HPO := Lib.hid hp
    have hc : ¬ (c : Int) = 0 := by have := hp.2.2 c a rfl; omega
    have hc2 : ((c : Int) != 0) = true := by rw [bne_iff_ne]; exact hc
    show Calls _ _ #[.agg #[.slice q b.length cp, .int .i64 (o : Nat), .int .i64 (c : Nat), .int .i64 (a : Nat), .int .i64 (lv : Nat)], _] _ _
    clear hp hbl
    have hb2 : Below W.heap.size W ((W.alloc (.cells #[.slice q b.length cp, .int .i64 (o : Nat), .int .i64 (c : Nat), .int .i64 (a : Nat), .int .i64 (lv : Nat)] 59)).alloc (.cells #[.slice none 0 0, .int .i64 0, .int .i64 0, .int .i64 0, .int .i64 0] 59)) := ((Below.refl _ _).alloc (Nat.le_refl _) _).alloc (by simp) _
    have HA : Hid (Arr ((W.alloc (.cells #[.slice q b.length cp, .int .i64 (o : Nat), .int .i64 (c : Nat), .int .i64 (a : Nat), .int .i64 (lv : Nat)] 59)).alloc (.cells #[.slice none 0 0, .int .i64 0, .int .i64 0, .int .i64 0, .int .i64 0] 59)) 59 W.heap.size [.slice q b.length cp, .int .i64 (o : Nat), .int .i64 (c : Nat), .int .i64 (a : Nat), .int .i64 (lv : Nat)]) := (Arr.new' _ _ _ _ rfl).alloc _
    have HZ : Hid (Arr ((W.alloc (.cells #[.slice q b.length cp, .int .i64 (o : Nat), .int .i64 (c : Nat), .int .i64 (a : Nat), .int .i64 (lv : Nat)] 59)).alloc (.cells #[.slice none 0 0, .int .i64 0, .int .i64 0, .int .i64 0, .int .i64 0] 59)) 59 (W.heap.size + 1) [.slice none 0 0, .int .i64 0, .int .i64 0, .int .i64 0, .int .i64 0]) := Arr.new2 _ _ _ _ _ rfl
    have HB := Lib.hid hb2
    have HR := Lib.hid ((hr.below hb2 (Nat.le_refl _)).mono hb2.size)
    clear hr hb2
    go_enter Tryz.func26, Tryz.ntmps26
    go_upto_region 1 with (fail)
    generalize ((W.alloc (.cells #[.slice q b.length cp, .int .i64 (o : Nat), .int .i64 (c : Nat), .int .i64 (a : Nat), .int .i64 (lv : Nat)] 59)).alloc (.cells #[.slice none 0 0, .int .i64 0, .int .i64 0, .int .i64 0, .int .i64 0] 59)) = w1 at HA HZ HB ⊢
    have x0 := HA.out.cell 0
    have y0 := HA.out.free 0
    have x1 := HA.out.cell 1
    have y1 := HA.out.free 1
    have x2 := HA.out.cell 2
    have y2 := HA.out.free 2
    have x3 := HA.out.cell 3
    have y3 := HA.out.free 3
    have x4 := HA.out.cell 4
    have y4 := HA.out.free 4
    simp only [List.getElem?_cons_zero, List.getElem?_cons_succ] at x0 x1 x2 x3 x4
    have p0 := HZ.out.cell 0
    have z0 := HZ.out.free 0
    have p1 := HZ.out.cell 1
    have z1 := HZ.out.free 1
    have p2 := HZ.out.cell 2
    have z2 := HZ.out.free 2
    have p3 := HZ.out.cell 3
    have z3 := HZ.out.free 3
    have p4 := HZ.out.cell 4
    have z4 := HZ.out.free 4
    simp only [List.getElem?_cons_zero, List.getElem?_cons_succ] at p0 p1 p2 p3 p4
    go_wp2_with fail
    have hA := HZ.out.setP (.slice q b.length cp) (.int .i64 (o : Nat)) (.int .i64 (c : Nat)) (.int .i64 (a : Nat)) (.int .i64 (lv : Nat))
    exact bodyPost_ret (resP2 rfl hA rfl) rfl ⟨o, rfl, HPO.out, below_set5 HB.out (Nat.le_succ _) _ _ _ _ _⟩
  | go oo =>
    show Calls _ _ #[.agg #[.slice q b.length cp, .int .i64 (o : Nat), .int .i64 0, .int .i64 0, .int .i64 (lv : Nat)], _] _ _
    have HBL := Lib.hid hbl
    obtain rfl : o = oo := hp.2.1 oo rfl
    have HOL : Hid (o ≤ b.length) := hp.1
    have hb2 : Below W.heap.size W ((W.alloc (.cells #[.slice q b.length cp, .int .i64 (o : Nat), .int .i64 0, .int .i64 0, .int .i64 (lv : Nat)] 59)).alloc (.cells #[.slice none 0 0, .int .i64 0, .int .i64 0, .int .i64 0, .int .i64 0] 59)) := ((Below.refl _ _).alloc (Nat.le_refl _) _).alloc (by simp) _
    have HA : Hid (Arr ((W.alloc (.cells #[.slice q b.length cp, .int .i64 (o : Nat), .int .i64 0, .int .i64 0, .int .i64 (lv : Nat)] 59)).alloc (.cells #[.slice none 0 0, .int .i64 0, .int .i64 0, .int .i64 0, .int .i64 0] 59)) 59 W.heap.size [.slice q b.length cp, .int .i64 (o : Nat), .int .i64 0, .int .i64 0, .int .i64 (lv : Nat)]) := (Arr.new' _ _ _ _ rfl).alloc _
    have HZ : Hid (Arr ((W.alloc (.cells #[.slice q b.length cp, .int .i64 (o : Nat), .int .i64 0, .int .i64 0, .int .i64 (lv : Nat)] 59)).alloc (.cells #[.slice none 0 0, .int .i64 0, .int .i64 0, .int .i64 0, .int .i64 0] 59)) 59 (W.heap.size + 1) [.slice none 0 0, .int .i64 0, .int .i64 0, .int .i64 0, .int .i64 0]) := Arr.new2 _ _ _ _ _ rfl
    have HB := Lib.hid hb2
    have HR := Lib.hid ((hr.below hb2 (Nat.le_refl _)).mono hb2.size)
    clear hr hb2
    have HNY := Lib.hid (rread_at HR.out HBL.out o HOL.out 64 (by decide))
    have HNX : Hid (o + (partP 64 (b.drop o)).2.1 ≤ b.length) := part_next HOL.out
    have HTL : Hid ((partP 64 (b.drop o)).1.length ≤ 64) := part_len
    have HE1 : Hid ((partP 64 (b.drop o)).2.2 ≠ 0 → nameC b emp (.go o) = ([], .er (partP 64 (b.drop o)).2.2 o)) := fun h => if_pos h
    have HE2 : Hid (∀ t, (partP 64 (b.drop o)).1 = t → ¬ (partP 64 (b.drop o)).2.2 ≠ 0 → emp = true ∧ t = [] → nameC b emp (.go o) = ([], .go (o + (partP 64 (b.drop o)).2.1))) := fun t ht h1 h2 => (if_neg h1).trans (if_pos (by rw [ht]; exact h2))
    have HE3 : Hid (∀ t, (partP 64 (b.drop o)).1 = t → ¬ (partP 64 (b.drop o)).2.2 ≠ 0 → ¬ (emp = true ∧ t = []) → isName (bstr t) = false → nameC b emp (.go o) = ([], .er 5 o)) := fun t ht h1 h2 h3 => (if_neg h1).trans ((if_neg (by rw [ht]; exact h2)).trans (if_pos (by rw [ht]; exact h3)))
    have HE4 : Hid (∀ t, (partP 64 (b.drop o)).1 = t → ¬ (partP 64 (b.drop o)).2.2 ≠ 0 → ¬ (emp = true ∧ t = []) → ¬ isName (bstr t) = false → nameC b emp (.go o) = (t, .go (o + (partP 64 (b.drop o)).2.1))) := fun t ht h1 h2 h3 => by
      subst ht
      exact (if_neg h1).trans ((if_neg h2).trans (if_neg h3))
    obtain ⟨t, ht⟩ : ∃ t, t = (partP 64 (b.drop o)).1 := ⟨_, rfl⟩
    obtain ⟨nx, hnx⟩ : ∃ n, n = o + (partP 64 (b.drop o)).2.1 := ⟨_, rfl⟩
    obtain ⟨cc, hcc⟩ : ∃ n, n = (partP 64 (b.drop o)).2.2 := ⟨_, rfl⟩
    have HE2 := Lib.hid (HE2.out t ht.symm)
    have HE3 := Lib.hid (HE3.out t ht.symm)
    have HE4 := Lib.hid (HE4.out t ht.symm)
    rw [← hcc] at HE1 HE2 HE3 HE4
    rw [← hnx] at HNX HE2 HE4
    rw [← ht] at HTL
    rw [← ht, ← hnx, ← hcc] at HNY
    have HNY : Hid (Calls Tryz.prog 54 #[.slice q b.length cp, .int .i64 (o : Nat), .int .i64 64] ((W.alloc (.cells #[.slice q b.length cp, .int .i64 (o : Nat), .int .i64 0, .int .i64 0, .int .i64 (lv : Nat)] 59)).alloc (.cells #[.slice none 0 0, .int .i64 0, .int .i64 0, .int .i64 0, .int .i64 0] 59)) fun e w' => e = .returned (.tuple #[.string (bstr t), .int .i64 (nx : Nat), .int .i64 (cc : Nat)]) ∧ ((W.alloc (.cells #[.slice q b.length cp, .int .i64 (o : Nat), .int .i64 0, .int .i64 0, .int .i64 (lv : Nat)] 59)).alloc (.cells #[.slice none 0 0, .int .i64 0, .int .i64 0, .int .i64 0, .int .i64 0] 59)) = w') := HNY.out
    clear ht hnx hcc hp hbl HR
    have HI : Hid (∀ nb, nb = isName (bstr t) → ∀ w, Calls Tryz.prog 37 #[.string (bstr t)] w fun e w' => e = .returned (.bool nb) ∧ w = w') := fun nb h w => by rw [h]; exact risName_any (bstr t) (by rw [bstr_size]; have := HTL.out; omega) w
    by_cases h1 : cc ≠ 0
    · have HE := Lib.hid (HE1.out h1)
      have HCZ := Lib.hid h1
      have h1' : ¬ (cc : Int) = 0 := by omega
      have h1'' : ((cc : Int) != 0) = true := by rw [bne_iff_ne]; exact h1'
      clear HE1 HE2 HE3 HE4 h1
      go_enter Tryz.func26, Tryz.ntmps26
      go_upto_region 1 with (fail)
      generalize ((W.alloc (.cells #[.slice q b.length cp, .int .i64 (o : Nat), .int .i64 0, .int .i64 0, .int .i64 (lv : Nat)] 59)).alloc (.cells #[.slice none 0 0, .int .i64 0, .int .i64 0, .int .i64 0, .int .i64 0] 59)) = w1 at HA HZ HB HNY ⊢
      have x0 := HA.out.cell 0
      have y0 := HA.out.free 0
      have x1 := HA.out.cell 1
      have y1 := HA.out.free 1
      have x2 := HA.out.cell 2
      have y2 := HA.out.free 2
      have x3 := HA.out.cell 3
      have y3 := HA.out.free 3
      have x4 := HA.out.cell 4
      have y4 := HA.out.free 4
      simp only [List.getElem?_cons_zero, List.getElem?_cons_succ] at x0 x1 x2 x3 x4
      have p0 := HZ.out.cell 0
      have z0 := HZ.out.free 0
      have p1 := HZ.out.cell 1
      have z1 := HZ.out.free 1
      have p2 := HZ.out.cell 2
      have z2 := HZ.out.free 2
      have p3 := HZ.out.cell 3
      have z3 := HZ.out.free 3
      have p4 := HZ.out.cell 4
      have z4 := HZ.out.free 4
      simp only [List.getElem?_cons_zero, List.getElem?_cons_succ] at p0 p1 p2 p3 p4
      go_wp2_with fail
      refine HNY.out.mono ?_
      rintro e w2 ⟨rfl, rfl⟩
      have HA1 : Hid (Arr (w1.setCell ⟨W.heap.size, 1, none⟩ (.int .i64 (nx : Nat))) 59 W.heap.size [.slice q b.length cp, .int .i64 (nx : Nat), .int .i64 0, .int .i64 0, .int .i64 (lv : Nat)]) := HA.out.set 1 _
      have HZ1 : Hid (Arr (w1.setCell ⟨W.heap.size, 1, none⟩ (.int .i64 (nx : Nat))) 59 (W.heap.size + 1) [.slice none 0 0, .int .i64 0, .int .i64 0, .int .i64 0, .int .i64 0]) := HZ.out.setCell (by simp only [ne_eq]; omega) _
      have HB1 : Hid (Below W.heap.size W (w1.setCell ⟨W.heap.size, 1, none⟩ (.int .i64 (nx : Nat)))) := below_box HB.out (Nat.le_refl _) _ _
      clear HA HZ HB
      go_upto_region 6 with (fail)
      generalize (w1.setCell ⟨W.heap.size, 1, none⟩ (.int .i64 (nx : Nat))) = w3 at HA1 HZ1 HB1 ⊢
      clear x0 x1 x2 x3 x4 y0 y1 y2 y3 y4 p0 p1 p2 p3 p4 z0 z1 z2 z3 z4
      have x0 := HA1.out.cell 0
      have y0 := HA1.out.free 0
      have x1 := HA1.out.cell 1
      have y1 := HA1.out.free 1
      have x2 := HA1.out.cell 2
      have y2 := HA1.out.free 2
      have x3 := HA1.out.cell 3
      have y3 := HA1.out.free 3
      have x4 := HA1.out.cell 4
      have y4 := HA1.out.free 4
      simp only [List.getElem?_cons_zero, List.getElem?_cons_succ] at x0 x1 x2 x3 x4
      have p0 := HZ1.out.cell 0
      have z0 := HZ1.out.free 0
      have p1 := HZ1.out.cell 1
      have z1 := HZ1.out.free 1
      have p2 := HZ1.out.cell 2
      have z2 := HZ1.out.free 2
      have p3 := HZ1.out.cell 3
      have z3 := HZ1.out.free 3
      have p4 := HZ1.out.cell 4
      have z4 := HZ1.out.free 4
      simp only [List.getElem?_cons_zero, List.getElem?_cons_succ] at p0 p1 p2 p3 p4
      go_wp2_with fail
      refine (rFail_any (W := w3) (cc) o).mono ?_
      rintro e w4 ⟨rfl, b4⟩
      have HZ4 := Lib.hid (HZ1.out.later b4)
      have HB4 := Lib.hid (HB1.out.trans (b4.mono HB1.out.size))
      clear b4 HA1 HZ1 HB1 x0 x1 x2 x3 x4 y0 y1 y2 y3 y4 p0 p1 p2 p3 p4 z0 z1 z2 z3 z4
      have p0 := HZ4.out.cell 0
      have z0 := HZ4.out.free 0
      have p1 := HZ4.out.cell 1
      have z1 := HZ4.out.free 1
      have p2 := HZ4.out.cell 2
      have z2 := HZ4.out.free 2
      have p3 := HZ4.out.cell 3
      have z3 := HZ4.out.free 3
      have p4 := HZ4.out.cell 4
      have z4 := HZ4.out.free 4
      simp only [List.getElem?_cons_zero, List.getElem?_cons_succ] at p0 p1 p2 p3 p4
      go_wp2_with fail
      have hA := HZ4.out.setP (.slice q b.length cp) (.int .i64 (nx : Nat)) (.int .i64 (cc : Nat)) (.int .i64 (o : Nat)) (.int .i64 (lv : Nat))
      refine bodyPost_ret (resP2 rfl hA rfl) rfl ?_
      rw [HE.out]
      exact ⟨_, rfl, ⟨HNX.out, (fun _ e => by cases e), (fun c a e => by cases e; exact HCZ.out)⟩, below_set5 HB4.out (Nat.le_succ _) _ _ _ _ _⟩
    · have hc0 : cc = 0 := Classical.not_not.1 h1
      clear HE1
      subst hc0
      have HF2 := Lib.hid (HE2.out h1)
      have HF3 := Lib.hid (HE3.out h1)
      have HF4 := Lib.hid (HE4.out h1)
      clear h1 HE2 HE3 HE4
      have HNY : Hid (Calls Tryz.prog 54 #[.slice q b.length cp, .int .i64 (o : Nat), .int .i64 64] ((W.alloc (.cells #[.slice q b.length cp, .int .i64 (o : Nat), .int .i64 0, .int .i64 0, .int .i64 (lv : Nat)] 59)).alloc (.cells #[.slice none 0 0, .int .i64 0, .int .i64 0, .int .i64 0, .int .i64 0] 59)) fun e w' => e = .returned (.tuple #[.string (bstr t), .int .i64 (nx : Nat), .int .i64 0]) ∧ ((W.alloc (.cells #[.slice q b.length cp, .int .i64 (o : Nat), .int .i64 0, .int .i64 0, .int .i64 (lv : Nat)] 59)).alloc (.cells #[.slice none 0 0, .int .i64 0, .int .i64 0, .int .i64 0, .int .i64 0] 59)) = w') := HNY.out
      obtain ⟨nb, hnb⟩ : ∃ nb, nb = isName (bstr t) := ⟨_, rfl⟩
      have HJ := Lib.hid (HI.out nb hnb)
      clear HI
      rw [← hnb] at HF3 HF4
      have HNB := Lib.hid hnb
      clear hnb
      cases nb with
      | true =>
        have HNE : Hid (t ≠ []) := fun h => by have := HNB.out; rw [h] at this; exact absurd this.symm (by decide)
        have HE := Lib.hid (HF4.out (fun h => HNE.out h.2) (by simp))
        clear HF2 HF3 HF4 HNE HNB
        go_enter Tryz.func26, Tryz.ntmps26
        go_upto_region 1 with (fail)
        generalize ((W.alloc (.cells #[.slice q b.length cp, .int .i64 (o : Nat), .int .i64 0, .int .i64 0, .int .i64 (lv : Nat)] 59)).alloc (.cells #[.slice none 0 0, .int .i64 0, .int .i64 0, .int .i64 0, .int .i64 0] 59)) = w1 at HA HZ HB HNY ⊢
        have x0 := HA.out.cell 0
        have y0 := HA.out.free 0
        have x1 := HA.out.cell 1
        have y1 := HA.out.free 1
        have x2 := HA.out.cell 2
        have y2 := HA.out.free 2
        have x3 := HA.out.cell 3
        have y3 := HA.out.free 3
        have x4 := HA.out.cell 4
        have y4 := HA.out.free 4
        simp only [List.getElem?_cons_zero, List.getElem?_cons_succ] at x0 x1 x2 x3 x4
        have p0 := HZ.out.cell 0
        have z0 := HZ.out.free 0
        have p1 := HZ.out.cell 1
        have z1 := HZ.out.free 1
        have p2 := HZ.out.cell 2
        have z2 := HZ.out.free 2
        have p3 := HZ.out.cell 3
        have z3 := HZ.out.free 3
        have p4 := HZ.out.cell 4
        have z4 := HZ.out.free 4
        simp only [List.getElem?_cons_zero, List.getElem?_cons_succ] at p0 p1 p2 p3 p4
        go_wp2_with fail
        refine HNY.out.mono ?_
        rintro e w2 ⟨rfl, rfl⟩
        have HA1 : Hid (Arr (w1.setCell ⟨W.heap.size, 1, none⟩ (.int .i64 (nx : Nat))) 59 W.heap.size [.slice q b.length cp, .int .i64 (nx : Nat), .int .i64 0, .int .i64 0, .int .i64 (lv : Nat)]) := HA.out.set 1 _
        have HZ1 : Hid (Arr (w1.setCell ⟨W.heap.size, 1, none⟩ (.int .i64 (nx : Nat))) 59 (W.heap.size + 1) [.slice none 0 0, .int .i64 0, .int .i64 0, .int .i64 0, .int .i64 0]) := HZ.out.setCell (by simp only [ne_eq]; omega) _
        have HB1 : Hid (Below W.heap.size W (w1.setCell ⟨W.heap.size, 1, none⟩ (.int .i64 (nx : Nat)))) := below_box HB.out (Nat.le_refl _) _ _
        clear HA HZ HB
        go_upto_region 6 with (fail)
        generalize (w1.setCell ⟨W.heap.size, 1, none⟩ (.int .i64 (nx : Nat))) = w3 at HA1 HZ1 HB1 ⊢
        clear x0 x1 x2 x3 x4 y0 y1 y2 y3 y4 p0 p1 p2 p3 p4 z0 z1 z2 z3 z4
        have x0 := HA1.out.cell 0
        have y0 := HA1.out.free 0
        have x1 := HA1.out.cell 1
        have y1 := HA1.out.free 1
        have x2 := HA1.out.cell 2
        have y2 := HA1.out.free 2
        have x3 := HA1.out.cell 3
        have y3 := HA1.out.free 3
        have x4 := HA1.out.cell 4
        have y4 := HA1.out.free 4
        simp only [List.getElem?_cons_zero, List.getElem?_cons_succ] at x0 x1 x2 x3 x4
        have p0 := HZ1.out.cell 0
        have z0 := HZ1.out.free 0
        have p1 := HZ1.out.cell 1
        have z1 := HZ1.out.free 1
        have p2 := HZ1.out.cell 2
        have z2 := HZ1.out.free 2
        have p3 := HZ1.out.cell 3
        have z3 := HZ1.out.free 3
        have p4 := HZ1.out.cell 4
        have z4 := HZ1.out.free 4
        simp only [List.getElem?_cons_zero, List.getElem?_cons_succ] at p0 p1 p2 p3 p4
        go_wp2_with fail
        refine (HJ.out _).mono ?_
        rintro e w5 ⟨rfl, rfl⟩
        go_wp2_with fail
        have hA := HZ1.out.setP (.slice q b.length cp) (.int .i64 (nx : Nat)) (.int .i64 0) (.int .i64 0) (.int .i64 (lv : Nat))
        refine bodyPost_ret (resP2 rfl hA rfl) rfl ?_
        rw [HE.out]
        exact ⟨_, rfl, ⟨HNX.out, (fun _ e => by cases e; rfl), (fun c a e => by cases e)⟩, below_set5 HB1.out (Nat.le_succ _) _ _ _ _ _⟩
      | false =>
        by_cases h2 : t = []
        · subst h2
          have hs0 : bstr [] = ⟨#[]⟩ := rfl
          rw [hs0] at HJ HNY
          cases emp with
          | true =>
            have HE := Lib.hid (HF2.out ⟨rfl, rfl⟩)
            clear HF2 HF3 HF4 HNB hs0
            go_enter Tryz.func26, Tryz.ntmps26
            go_upto_region 1 with (fail)
            generalize ((W.alloc (.cells #[.slice q b.length cp, .int .i64 (o : Nat), .int .i64 0, .int .i64 0, .int .i64 (lv : Nat)] 59)).alloc (.cells #[.slice none 0 0, .int .i64 0, .int .i64 0, .int .i64 0, .int .i64 0] 59)) = w1 at HA HZ HB HNY ⊢
            have x0 := HA.out.cell 0
            have y0 := HA.out.free 0
            have x1 := HA.out.cell 1
            have y1 := HA.out.free 1
            have x2 := HA.out.cell 2
            have y2 := HA.out.free 2
            have x3 := HA.out.cell 3
            have y3 := HA.out.free 3
            have x4 := HA.out.cell 4
            have y4 := HA.out.free 4
            simp only [List.getElem?_cons_zero, List.getElem?_cons_succ] at x0 x1 x2 x3 x4
            have p0 := HZ.out.cell 0
            have z0 := HZ.out.free 0
            have p1 := HZ.out.cell 1
            have z1 := HZ.out.free 1
            have p2 := HZ.out.cell 2
            have z2 := HZ.out.free 2
            have p3 := HZ.out.cell 3
            have z3 := HZ.out.free 3
            have p4 := HZ.out.cell 4
            have z4 := HZ.out.free 4
            simp only [List.getElem?_cons_zero, List.getElem?_cons_succ] at p0 p1 p2 p3 p4
            go_wp2_with fail
            refine HNY.out.mono ?_
            rintro e w2 ⟨rfl, rfl⟩
            have HA1 : Hid (Arr (w1.setCell ⟨W.heap.size, 1, none⟩ (.int .i64 (nx : Nat))) 59 W.heap.size [.slice q b.length cp, .int .i64 (nx : Nat), .int .i64 0, .int .i64 0, .int .i64 (lv : Nat)]) := HA.out.set 1 _
            have HZ1 : Hid (Arr (w1.setCell ⟨W.heap.size, 1, none⟩ (.int .i64 (nx : Nat))) 59 (W.heap.size + 1) [.slice none 0 0, .int .i64 0, .int .i64 0, .int .i64 0, .int .i64 0]) := HZ.out.setCell (by simp only [ne_eq]; omega) _
            have HB1 : Hid (Below W.heap.size W (w1.setCell ⟨W.heap.size, 1, none⟩ (.int .i64 (nx : Nat)))) := below_box HB.out (Nat.le_refl _) _ _
            clear HA HZ HB
            go_upto_region 6 with (fail)
            generalize (w1.setCell ⟨W.heap.size, 1, none⟩ (.int .i64 (nx : Nat))) = w3 at HA1 HZ1 HB1 ⊢
            clear x0 x1 x2 x3 x4 y0 y1 y2 y3 y4 p0 p1 p2 p3 p4 z0 z1 z2 z3 z4
            have x0 := HA1.out.cell 0
            have y0 := HA1.out.free 0
            have x1 := HA1.out.cell 1
            have y1 := HA1.out.free 1
            have x2 := HA1.out.cell 2
            have y2 := HA1.out.free 2
            have x3 := HA1.out.cell 3
            have y3 := HA1.out.free 3
            have x4 := HA1.out.cell 4
            have y4 := HA1.out.free 4
            simp only [List.getElem?_cons_zero, List.getElem?_cons_succ] at x0 x1 x2 x3 x4
            have p0 := HZ1.out.cell 0
            have z0 := HZ1.out.free 0
            have p1 := HZ1.out.cell 1
            have z1 := HZ1.out.free 1
            have p2 := HZ1.out.cell 2
            have z2 := HZ1.out.free 2
            have p3 := HZ1.out.cell 3
            have z3 := HZ1.out.free 3
            have p4 := HZ1.out.cell 4
            have z4 := HZ1.out.free 4
            simp only [List.getElem?_cons_zero, List.getElem?_cons_succ] at p0 p1 p2 p3 p4
            go_wp2_with fail
            refine (HJ.out _).mono ?_
            rintro e w5 ⟨rfl, rfl⟩
            go_wp2_with fail
            have hA := HZ1.out.setP (.slice q b.length cp) (.int .i64 (nx : Nat)) (.int .i64 0) (.int .i64 0) (.int .i64 (lv : Nat))
            refine bodyPost_ret (resP2 rfl hA rfl) rfl ?_
            rw [HE.out]
            exact ⟨_, rfl, ⟨HNX.out, (fun _ e => by cases e; rfl), (fun c a e => by cases e)⟩, below_set5 HB1.out (Nat.le_succ _) _ _ _ _ _⟩
          | false =>
            have HE := Lib.hid (HF3.out (by simp) rfl)
            have HCZ : Hid (5 ≠ 0) := by show _ ≠ _; decide
            clear HF2 HF3 HF4 HNB hs0
            go_enter Tryz.func26, Tryz.ntmps26
            go_upto_region 1 with (fail)
            generalize ((W.alloc (.cells #[.slice q b.length cp, .int .i64 (o : Nat), .int .i64 0, .int .i64 0, .int .i64 (lv : Nat)] 59)).alloc (.cells #[.slice none 0 0, .int .i64 0, .int .i64 0, .int .i64 0, .int .i64 0] 59)) = w1 at HA HZ HB HNY ⊢
            have x0 := HA.out.cell 0
            have y0 := HA.out.free 0
            have x1 := HA.out.cell 1
            have y1 := HA.out.free 1
            have x2 := HA.out.cell 2
            have y2 := HA.out.free 2
            have x3 := HA.out.cell 3
            have y3 := HA.out.free 3
            have x4 := HA.out.cell 4
            have y4 := HA.out.free 4
            simp only [List.getElem?_cons_zero, List.getElem?_cons_succ] at x0 x1 x2 x3 x4
            have p0 := HZ.out.cell 0
            have z0 := HZ.out.free 0
            have p1 := HZ.out.cell 1
            have z1 := HZ.out.free 1
            have p2 := HZ.out.cell 2
            have z2 := HZ.out.free 2
            have p3 := HZ.out.cell 3
            have z3 := HZ.out.free 3
            have p4 := HZ.out.cell 4
            have z4 := HZ.out.free 4
            simp only [List.getElem?_cons_zero, List.getElem?_cons_succ] at p0 p1 p2 p3 p4
            go_wp2_with fail
            refine HNY.out.mono ?_
            rintro e w2 ⟨rfl, rfl⟩
            have HA1 : Hid (Arr (w1.setCell ⟨W.heap.size, 1, none⟩ (.int .i64 (nx : Nat))) 59 W.heap.size [.slice q b.length cp, .int .i64 (nx : Nat), .int .i64 0, .int .i64 0, .int .i64 (lv : Nat)]) := HA.out.set 1 _
            have HZ1 : Hid (Arr (w1.setCell ⟨W.heap.size, 1, none⟩ (.int .i64 (nx : Nat))) 59 (W.heap.size + 1) [.slice none 0 0, .int .i64 0, .int .i64 0, .int .i64 0, .int .i64 0]) := HZ.out.setCell (by simp only [ne_eq]; omega) _
            have HB1 : Hid (Below W.heap.size W (w1.setCell ⟨W.heap.size, 1, none⟩ (.int .i64 (nx : Nat)))) := below_box HB.out (Nat.le_refl _) _ _
            clear HA HZ HB
            go_upto_region 6 with (fail)
            generalize (w1.setCell ⟨W.heap.size, 1, none⟩ (.int .i64 (nx : Nat))) = w3 at HA1 HZ1 HB1 ⊢
            clear x0 x1 x2 x3 x4 y0 y1 y2 y3 y4 p0 p1 p2 p3 p4 z0 z1 z2 z3 z4
            have x0 := HA1.out.cell 0
            have y0 := HA1.out.free 0
            have x1 := HA1.out.cell 1
            have y1 := HA1.out.free 1
            have x2 := HA1.out.cell 2
            have y2 := HA1.out.free 2
            have x3 := HA1.out.cell 3
            have y3 := HA1.out.free 3
            have x4 := HA1.out.cell 4
            have y4 := HA1.out.free 4
            simp only [List.getElem?_cons_zero, List.getElem?_cons_succ] at x0 x1 x2 x3 x4
            have p0 := HZ1.out.cell 0
            have z0 := HZ1.out.free 0
            have p1 := HZ1.out.cell 1
            have z1 := HZ1.out.free 1
            have p2 := HZ1.out.cell 2
            have z2 := HZ1.out.free 2
            have p3 := HZ1.out.cell 3
            have z3 := HZ1.out.free 3
            have p4 := HZ1.out.cell 4
            have z4 := HZ1.out.free 4
            simp only [List.getElem?_cons_zero, List.getElem?_cons_succ] at p0 p1 p2 p3 p4
            go_wp2_with fail
            refine (HJ.out _).mono ?_
            rintro e w5 ⟨rfl, rfl⟩
            go_wp2_with fail
            refine (rFail_any (W := w3) (5) o).mono ?_
            rintro e w4 ⟨rfl, b4⟩
            have HZ4 := Lib.hid (HZ1.out.later b4)
            have HB4 := Lib.hid (HB1.out.trans (b4.mono HB1.out.size))
            clear b4 HA1 HZ1 HB1 x0 x1 x2 x3 x4 y0 y1 y2 y3 y4 p0 p1 p2 p3 p4 z0 z1 z2 z3 z4
            have p0 := HZ4.out.cell 0
            have z0 := HZ4.out.free 0
            have p1 := HZ4.out.cell 1
            have z1 := HZ4.out.free 1
            have p2 := HZ4.out.cell 2
            have z2 := HZ4.out.free 2
            have p3 := HZ4.out.cell 3
            have z3 := HZ4.out.free 3
            have p4 := HZ4.out.cell 4
            have z4 := HZ4.out.free 4
            simp only [List.getElem?_cons_zero, List.getElem?_cons_succ] at p0 p1 p2 p3 p4
            go_wp2_with fail
            have hA := HZ4.out.setP (.slice q b.length cp) (.int .i64 (nx : Nat)) (.int .i64 5) (.int .i64 (o : Nat)) (.int .i64 (lv : Nat))
            refine bodyPost_ret (resP2 rfl hA rfl) rfl ?_
            rw [HE.out]
            exact ⟨_, rfl, ⟨HNX.out, (fun _ e => by cases e), (fun c a e => by cases e; exact HCZ.out)⟩, below_set5 HB4.out (Nat.le_succ _) _ _ _ _ _⟩
        · have hne : ((bstr t).toList == (ByteArray.mk #[]).toList) = false := bstr_ne h2
          have hne2 : ¬ (bstr t).toList = [] := by rw [toList_data, bstr_data]; exact h2
          have hne3 : (bstr t).toList.isEmpty = false := by rw [toList_data, bstr_data]; simpa using h2
          have HE := Lib.hid (HF3.out (fun h => h2 h.2) rfl)
          have HCZ : Hid (5 ≠ 0) := by show _ ≠ _; decide
          clear HF2 HF3 HF4 HNB h2
          cases emp with
          | true =>
            go_enter Tryz.func26, Tryz.ntmps26
            go_upto_region 1 with (fail)
            generalize ((W.alloc (.cells #[.slice q b.length cp, .int .i64 (o : Nat), .int .i64 0, .int .i64 0, .int .i64 (lv : Nat)] 59)).alloc (.cells #[.slice none 0 0, .int .i64 0, .int .i64 0, .int .i64 0, .int .i64 0] 59)) = w1 at HA HZ HB HNY ⊢
            have x0 := HA.out.cell 0
            have y0 := HA.out.free 0
            have x1 := HA.out.cell 1
            have y1 := HA.out.free 1
            have x2 := HA.out.cell 2
            have y2 := HA.out.free 2
            have x3 := HA.out.cell 3
            have y3 := HA.out.free 3
            have x4 := HA.out.cell 4
            have y4 := HA.out.free 4
            simp only [List.getElem?_cons_zero, List.getElem?_cons_succ] at x0 x1 x2 x3 x4
            have p0 := HZ.out.cell 0
            have z0 := HZ.out.free 0
            have p1 := HZ.out.cell 1
            have z1 := HZ.out.free 1
            have p2 := HZ.out.cell 2
            have z2 := HZ.out.free 2
            have p3 := HZ.out.cell 3
            have z3 := HZ.out.free 3
            have p4 := HZ.out.cell 4
            have z4 := HZ.out.free 4
            simp only [List.getElem?_cons_zero, List.getElem?_cons_succ] at p0 p1 p2 p3 p4
            go_wp2_with fail
            refine HNY.out.mono ?_
            rintro e w2 ⟨rfl, rfl⟩
            have HA1 : Hid (Arr (w1.setCell ⟨W.heap.size, 1, none⟩ (.int .i64 (nx : Nat))) 59 W.heap.size [.slice q b.length cp, .int .i64 (nx : Nat), .int .i64 0, .int .i64 0, .int .i64 (lv : Nat)]) := HA.out.set 1 _
            have HZ1 : Hid (Arr (w1.setCell ⟨W.heap.size, 1, none⟩ (.int .i64 (nx : Nat))) 59 (W.heap.size + 1) [.slice none 0 0, .int .i64 0, .int .i64 0, .int .i64 0, .int .i64 0]) := HZ.out.setCell (by simp only [ne_eq]; omega) _
            have HB1 : Hid (Below W.heap.size W (w1.setCell ⟨W.heap.size, 1, none⟩ (.int .i64 (nx : Nat)))) := below_box HB.out (Nat.le_refl _) _ _
            clear HA HZ HB
            go_upto_region 6 with (fail)
            generalize (w1.setCell ⟨W.heap.size, 1, none⟩ (.int .i64 (nx : Nat))) = w3 at HA1 HZ1 HB1 ⊢
            clear x0 x1 x2 x3 x4 y0 y1 y2 y3 y4 p0 p1 p2 p3 p4 z0 z1 z2 z3 z4
            have x0 := HA1.out.cell 0
            have y0 := HA1.out.free 0
            have x1 := HA1.out.cell 1
            have y1 := HA1.out.free 1
            have x2 := HA1.out.cell 2
            have y2 := HA1.out.free 2
            have x3 := HA1.out.cell 3
            have y3 := HA1.out.free 3
            have x4 := HA1.out.cell 4
            have y4 := HA1.out.free 4
            simp only [List.getElem?_cons_zero, List.getElem?_cons_succ] at x0 x1 x2 x3 x4
            have p0 := HZ1.out.cell 0
            have z0 := HZ1.out.free 0
            have p1 := HZ1.out.cell 1
            have z1 := HZ1.out.free 1
            have p2 := HZ1.out.cell 2
            have z2 := HZ1.out.free 2
            have p3 := HZ1.out.cell 3
            have z3 := HZ1.out.free 3
            have p4 := HZ1.out.cell 4
            have z4 := HZ1.out.free 4
            simp only [List.getElem?_cons_zero, List.getElem?_cons_succ] at p0 p1 p2 p3 p4
            go_wp2_with fail
            refine (HJ.out _).mono ?_
            rintro e w5 ⟨rfl, rfl⟩
            go_wp2_with fail
            refine (rFail_any (W := w3) (5) o).mono ?_
            rintro e w4 ⟨rfl, b4⟩
            have HZ4 := Lib.hid (HZ1.out.later b4)
            have HB4 := Lib.hid (HB1.out.trans (b4.mono HB1.out.size))
            clear b4 HA1 HZ1 HB1 x0 x1 x2 x3 x4 y0 y1 y2 y3 y4 p0 p1 p2 p3 p4 z0 z1 z2 z3 z4
            have p0 := HZ4.out.cell 0
            have z0 := HZ4.out.free 0
            have p1 := HZ4.out.cell 1
            have z1 := HZ4.out.free 1
            have p2 := HZ4.out.cell 2
            have z2 := HZ4.out.free 2
            have p3 := HZ4.out.cell 3
            have z3 := HZ4.out.free 3
            have p4 := HZ4.out.cell 4
            have z4 := HZ4.out.free 4
            simp only [List.getElem?_cons_zero, List.getElem?_cons_succ] at p0 p1 p2 p3 p4
            go_wp2_with fail
            have hA := HZ4.out.setP (.slice q b.length cp) (.int .i64 (nx : Nat)) (.int .i64 5) (.int .i64 (o : Nat)) (.int .i64 (lv : Nat))
            refine bodyPost_ret (resP2 rfl hA rfl) rfl ?_
            rw [HE.out]
            exact ⟨_, rfl, ⟨HNX.out, (fun _ e => by cases e), (fun c a e => by cases e; exact HCZ.out)⟩, below_set5 HB4.out (Nat.le_succ _) _ _ _ _ _⟩
          | false =>
            go_enter Tryz.func26, Tryz.ntmps26
            go_upto_region 1 with (fail)
            generalize ((W.alloc (.cells #[.slice q b.length cp, .int .i64 (o : Nat), .int .i64 0, .int .i64 0, .int .i64 (lv : Nat)] 59)).alloc (.cells #[.slice none 0 0, .int .i64 0, .int .i64 0, .int .i64 0, .int .i64 0] 59)) = w1 at HA HZ HB HNY ⊢
            have x0 := HA.out.cell 0
            have y0 := HA.out.free 0
            have x1 := HA.out.cell 1
            have y1 := HA.out.free 1
            have x2 := HA.out.cell 2
            have y2 := HA.out.free 2
            have x3 := HA.out.cell 3
            have y3 := HA.out.free 3
            have x4 := HA.out.cell 4
            have y4 := HA.out.free 4
            simp only [List.getElem?_cons_zero, List.getElem?_cons_succ] at x0 x1 x2 x3 x4
            have p0 := HZ.out.cell 0
            have z0 := HZ.out.free 0
            have p1 := HZ.out.cell 1
            have z1 := HZ.out.free 1
            have p2 := HZ.out.cell 2
            have z2 := HZ.out.free 2
            have p3 := HZ.out.cell 3
            have z3 := HZ.out.free 3
            have p4 := HZ.out.cell 4
            have z4 := HZ.out.free 4
            simp only [List.getElem?_cons_zero, List.getElem?_cons_succ] at p0 p1 p2 p3 p4
            go_wp2_with fail
            refine HNY.out.mono ?_
            rintro e w2 ⟨rfl, rfl⟩
            have HA1 : Hid (Arr (w1.setCell ⟨W.heap.size, 1, none⟩ (.int .i64 (nx : Nat))) 59 W.heap.size [.slice q b.length cp, .int .i64 (nx : Nat), .int .i64 0, .int .i64 0, .int .i64 (lv : Nat)]) := HA.out.set 1 _
            have HZ1 : Hid (Arr (w1.setCell ⟨W.heap.size, 1, none⟩ (.int .i64 (nx : Nat))) 59 (W.heap.size + 1) [.slice none 0 0, .int .i64 0, .int .i64 0, .int .i64 0, .int .i64 0]) := HZ.out.setCell (by simp only [ne_eq]; omega) _
            have HB1 : Hid (Below W.heap.size W (w1.setCell ⟨W.heap.size, 1, none⟩ (.int .i64 (nx : Nat)))) := below_box HB.out (Nat.le_refl _) _ _
            clear HA HZ HB
            go_upto_region 6 with (fail)
            generalize (w1.setCell ⟨W.heap.size, 1, none⟩ (.int .i64 (nx : Nat))) = w3 at HA1 HZ1 HB1 ⊢
            clear x0 x1 x2 x3 x4 y0 y1 y2 y3 y4 p0 p1 p2 p3 p4 z0 z1 z2 z3 z4
            have x0 := HA1.out.cell 0
            have y0 := HA1.out.free 0
            have x1 := HA1.out.cell 1
            have y1 := HA1.out.free 1
            have x2 := HA1.out.cell 2
            have y2 := HA1.out.free 2
            have x3 := HA1.out.cell 3
            have y3 := HA1.out.free 3
            have x4 := HA1.out.cell 4
            have y4 := HA1.out.free 4
            simp only [List.getElem?_cons_zero, List.getElem?_cons_succ] at x0 x1 x2 x3 x4
            have p0 := HZ1.out.cell 0
            have z0 := HZ1.out.free 0
            have p1 := HZ1.out.cell 1
            have z1 := HZ1.out.free 1
            have p2 := HZ1.out.cell 2
            have z2 := HZ1.out.free 2
            have p3 := HZ1.out.cell 3
            have z3 := HZ1.out.free 3
            have p4 := HZ1.out.cell 4
            have z4 := HZ1.out.free 4
            simp only [List.getElem?_cons_zero, List.getElem?_cons_succ] at p0 p1 p2 p3 p4
            go_wp2_with fail
            refine (HJ.out _).mono ?_
            rintro e w5 ⟨rfl, rfl⟩
            go_wp2_with fail
            refine (rFail_any (W := w3) (5) o).mono ?_
            rintro e w4 ⟨rfl, b4⟩
            have HZ4 := Lib.hid (HZ1.out.later b4)
            have HB4 := Lib.hid (HB1.out.trans (b4.mono HB1.out.size))
            clear b4 HA1 HZ1 HB1 x0 x1 x2 x3 x4 y0 y1 y2 y3 y4 p0 p1 p2 p3 p4 z0 z1 z2 z3 z4
            have p0 := HZ4.out.cell 0
            have z0 := HZ4.out.free 0
            have p1 := HZ4.out.cell 1
            have z1 := HZ4.out.free 1
            have p2 := HZ4.out.cell 2
            have z2 := HZ4.out.free 2
            have p3 := HZ4.out.cell 3
            have z3 := HZ4.out.free 3
            have p4 := HZ4.out.cell 4
            have z4 := HZ4.out.free 4
            simp only [List.getElem?_cons_zero, List.getElem?_cons_succ] at p0 p1 p2 p3 p4
            go_wp2_with fail
            have hA := HZ4.out.setP (.slice q b.length cp) (.int .i64 (nx : Nat)) (.int .i64 5) (.int .i64 (o : Nat)) (.int .i64 (lv : Nat))
            refine bodyPost_ret (resP2 rfl hA rfl) rfl ?_
            rw [HE.out]
            exact ⟨_, rfl, ⟨HNX.out, (fun _ e => by cases e), (fun c a e => by cases e; exact HCZ.out)⟩, below_set5 HB4.out (Nat.le_succ _) _ _ _ _ _⟩
end
end Go.Proofs.YtdnmgemjhpkekaaGreatDoor
/-
  What the reference reads as an expression, as a function on bytes; the results in two cells.
-/
namespace Go.Proofs.YtdnmgemjhpkekaaGreatDoor
open Go.ChangeShapes Go.WideShapes Go.ChangeAt Go.RowKit
set_option linter.unusedVariables false

def loopE {α : Type} (f : Nat → Nat → α × St × Nat) : Nat → List α → St → Nat → List α × St × Nat
  | 0, acc, s, lv => (acc, s, lv)
  | n + 1, acc, .er c a, lv => (acc, .er c a, lv)
  | n + 1, acc, .go o, lv => loopE f n (acc ++ [(f o lv).1]) (f o lv).2.1 (f o lv).2.2
def kidsQ (b : List UInt8) (k : Nat) (o : Nat) : Nat × St := if k < 5 then numC b (chkR 2 32 15) (.go o) else (2, .go o)
def bodyE (b : List UInt8) (f : Nat → Nat → Ex × St × Nat) (k o : Nat) (lv : Nat) : Ex × St × Nat :=
  if k < 3 then leafC b k (.go o) lv
  else (.mk (k : Nat) [] [] (loopE f (kidsQ b k o).1 [] (kidsQ b k o).2 lv).1, (loopE f (kidsQ b k o).1 [] (kidsQ b k o).2 lv).2)
def topE (d o : Nat) (lv : Nat) (g : Nat → Nat → Ex × St × Nat) : Nat × St → Ex × St × Nat
  | (k, .er c a) => (ex0, .er c a, lv)
  | (k, .go o1) => if d = 0 then (ex0, .er 7 o, lv) else if k < 3 ∧ lv = 32 then (ex0, .er 15 o, lv) else g k o1
theorem topE_go {d o lv : Nat} {g : Nat → Nat → Ex × St × Nat} {k o1 : Nat} : topE d o lv g (k, .go o1) = if d = 0 then (ex0, .er 7 o, lv) else if k < 3 ∧ lv = 32 then (ex0, .er 15 o, lv) else g k o1 := rfl
def refC (b : List UInt8) : Nat → Nat → Nat → Ex × St × Nat
  | 0, o, lv => topE 0 o lv (fun _ _ => (ex0, .er 7 o, lv)) (numC b (chkR 1 5 6) (.go o))
  | d + 1, o, lv => topE (d + 1) o lv (fun k o1 => bodyE b (refC b d) k o1 lv) (numC b (chkR 1 5 6) (.go o))
theorem numR_num {b : List UInt8} {lo hi high o lv : Nat} (hh : high ≠ 0) : asR ((numC b (chkR lo hi high) (.go o)).1, (numC b (chkR lo hi high) (.go o)).2, lv) = numK b lo hi high o lv := by
  unfold numK
  by_cases h1 : (num (b.drop o)).2.2 ≠ 0
  · rw [numC_1 h1, if_pos h1]; rfl
  · rw [if_neg h1]
    by_cases h2 : hi < (num (b.drop o)).1
    · have e : chkR lo hi high (num (b.drop o)).1 = high := by unfold chkR; rw [if_pos h2]
      rw [numC_2 h1 (by rw [e]; exact hh), e, if_pos h2]; rfl
    · rw [if_neg h2]
      by_cases h3 : (num (b.drop o)).1 < lo
      · have e : chkR lo hi high (num (b.drop o)).1 = 6 := by unfold chkR; rw [if_neg h2, if_pos h3]
        rw [numC_2 h1 (by rw [e]; decide), e, if_pos h3]; rfl
      · have e : chkR lo hi high (num (b.drop o)).1 = 0 := by unfold chkR; rw [if_neg h2, if_neg h3]
        rw [numC_3 h1 (by rw [e]; decide), if_neg h3]; rfl
theorem loopE_er {α : Type} (f : Nat → Nat → α × St × Nat) (n : Nat) (acc : List α) (c a lv : Nat) : loopE f n acc (.er c a) lv = (acc, .er c a, lv) := by cases n <;> rfl
/-- A function that reads as g does, and never counts beyond 32. -/
def ReadsAs {α : Type} (f : Nat → Nat → α × St × Nat) (g : Nat → Nat → Rs α) : Prop := ∀ o lv, lv ≤ 32 → asR (f o lv) = g o lv ∧ (f o lv).2.2 ≤ 32
theorem loopE_many {α : Type} {f : Nat → Nat → α × St × Nat} {g : Nat → Nat → Rs α} (hg : ReadsAs f g) : ∀ (n : Nat) (acc : List α) (o lv : Nat), lv ≤ 32 → asR (loopE f n acc (.go o) lv) = ((manyR g n o lv).then fun xs o1 l1 => .ok (acc ++ xs) o1 l1) ∧ (loopE f n acc (.go o) lv).2.2 ≤ 32
  | 0, acc, o, lv, hl => ⟨by show Rs.ok acc o lv = Rs.ok (acc ++ []) o lv; rw [List.append_nil], hl⟩
  | n + 1, acc, o, lv, hl => by
    obtain ⟨h1, h2⟩ := hg o lv hl
    rw [loopE, manyR]
    rw [← h1]
    generalize f o lv = r at h1 h2 ⊢
    obtain ⟨x, s, l1⟩ := r
    cases s with
    | er c a => rw [loopE_er]; exact ⟨rfl, h2⟩
    | go o1 =>
      obtain ⟨h3, h4⟩ := loopE_many hg n (acc ++ [x]) o1 l1 h2
      refine ⟨?_, h4⟩
      show asR (loopE f n (acc ++ [x]) (.go o1) l1) = _
      rw [h3]
      show _ = Rs.then (Rs.then (manyR g n o1 l1) _) _
      cases manyR g n o1 l1 with
      | bad c a => rfl
      | ok xs o2 l2 => show Rs.ok _ _ _ = Rs.ok _ _ _; rw [List.append_assoc]; rfl
theorem leaf_lv (b : List UInt8) (k : Nat) (s : St) (lv : Nat) : (leafC b k s lv).2.2 = lv + 1 := by unfold leafC; split <;> rfl
theorem kidsQ_as (b : List UInt8) (k o lv : Nat) : asR ((kidsQ b k o).1, (kidsQ b k o).2, lv) = kidsR b k o lv := by
  unfold kidsQ kidsR
  split
  · exact numR_num (by decide)
  · rfl
theorem body_as {b : List UInt8} {f : Nat → Nat → Ex × St × Nat} {g : Nat → Nat → Rs Ex} (hg : ReadsAs f g) {k o1 lv : Nat} (hl : lv ≤ 32) (hk : k < 3 → lv < 32) : asR (bodyE b f k o1 lv) = (if k < 3 then leafR b k o1 lv else (kidsR b k o1 lv).then fun n o2 l2 => (manyR g n o2 l2).then fun ks o3 l3 => .ok (.mk (k : Nat) [] [] ks) o3 l3) ∧ (bodyE b f k o1 lv).2.2 ≤ 32 := by
  unfold bodyE
  by_cases h : k < 3
  · rw [if_pos h, if_pos h]
    exact ⟨leaf_as _ _ _ _, by rw [leaf_lv]; exact hk h⟩
  · rw [if_neg h, if_neg h, ← kidsQ_as]
    generalize kidsQ b k o1 = r
    obtain ⟨n, s⟩ := r
    cases s with
    | er c a => simp only [loopE_er]; exact ⟨rfl, hl⟩
    | go o2 =>
      obtain ⟨h3, h4⟩ := loopE_many hg n [] o2 lv hl
      refine ⟨?_, h4⟩
      show _ = Rs.then (manyR g n o2 lv) _
      show asR (_, loopE f n [] (.go o2) lv |>.2) = _
      generalize loopE f n [] (.go o2) lv = r at h3
      obtain ⟨xs, s3, l3⟩ := r
      cases s3 with
      | er c a =>
        change Rs.bad c a = _ at h3
        show Rs.bad c a = _
        cases hm : manyR g n o2 lv with
        | bad c2 a2 => rw [hm] at h3; change Rs.bad c a = Rs.bad c2 a2 at h3; cases h3; rfl
        | ok ys o4 l4 => rw [hm] at h3; cases h3
      | go o3 =>
        change Rs.ok xs o3 l3 = _ at h3
        show Rs.ok _ _ _ = _
        cases hm : manyR g n o2 lv with
        | bad c2 a2 => rw [hm] at h3; cases h3
        | ok ys o4 l4 => rw [hm] at h3; change Rs.ok _ _ _ = Rs.ok _ _ _ at h3; cases h3; rfl
theorem ref_as (b : List UInt8) : ∀ d, ReadsAs (refC b d) (readE b d)
  | 0, o, lv, hl => by
    unfold refC readE
    rw [← numR_num (by decide)]
    generalize numC b (chkR 1 5 6) (.go o) = r
    obtain ⟨k, s⟩ := r
    cases s with
    | er c a => exact ⟨rfl, hl⟩
    | go o1 => exact ⟨rfl, hl⟩
  | d + 1, o, lv, hl => by
    unfold refC readE
    rw [← numR_num (by decide)]
    generalize numC b (chkR 1 5 6) (.go o) = r
    obtain ⟨k, s⟩ := r
    cases s with
    | er c a => exact ⟨rfl, hl⟩
    | go o1 =>
      rw [topE_go, if_neg (by omega)]
      show asR _ = (if k < 3 then _ else _) ∧ _
      by_cases h : k < 3 ∧ lv = 32
      · rw [if_pos h, if_pos h.1, if_pos (by omega)]
        exact ⟨rfl, hl⟩
      · rw [if_neg h]
        have hb := body_as (b := b) (ref_as b d) (k := k) (o1 := o1) hl (fun hk => by omega)
        refine ⟨hb.1.trans ?_, hb.2⟩
        by_cases hk : k < 3
        · rw [if_pos hk, if_pos hk, if_neg (by omega)]
        · rw [if_neg hk, if_neg hk]
theorem resPX {fn : Func} {p q : Tmp} (h : fn.results = #[.cell p 59, .cell q 42]) {tmps : Array Value} {w : World} {g g2 : Nat} {x0 x1 x2 x3 x4 u0 u1 u2 u3 : Value} (hA : Arr w 59 g [x0, x1, x2, x3, x4]) (hE : Arr w 42 g2 [u0, u1, u2, u3]) (hp : tmps.getD p undef = .pointer (some ⟨g, 0, none⟩)) (hq : tmps.getD q undef = .pointer (some ⟨g2, 0, none⟩)) :
    (results fn tmps).run Tryz.prog w = .ok (.tuple #[.agg #[x0, x1, x2, x3, x4], .agg #[u0, u1, u2, u3]]) w := by
  have hp' : tmps[p]?.getD undef = .pointer (some ⟨g, 0, none⟩) := by simpa using hp
  have hq' : tmps[q]?.getD undef = .pointer (some ⟨g2, 0, none⟩) := by simpa using hq
  have r1 := run_loadVar_row (P := Tryz.prog) w g _ 59 #[x0, x1, x2, x3, x4] (0, 0) _ hA Tryz.underlying59 rfl (by kernel_rfl)
  have r2 := run_loadVar_row (P := Tryz.prog) w g2 _ 42 #[u0, u1, u2, u3] (0, 0) _ hE Tryz.underlying42 rfl (by kernel_rfl)
  simp [results, h, hp', hq', asAddr, r1, r2]
end Go.Proofs.YtdnmgemjhpkekaaGreatDoor
/-
  The reference's read: the boxes, and the contracts of what it calls.
-/
namespace Go.Proofs.YtdnmgemjhpkekaaGreatDoor
open Go.ChangeShapes Go.WideShapes Go.ChangeAt Go.RowKit
set_option linter.unusedVariables false

theorem below_grown' {B : Nat} {W w w' : World} {row : Option Nat} (h : Below B W w) (hg : w.grownBy w' row) (hr : ∀ k, row = some k → B ≤ k) (hB : B ≤ W.heap.size) : Below B W w' :=
  ⟨hg.os.trans h.os, hg.tape.trans h.tape, hg.output.trans h.output, Nat.le_trans h.size hg.size, fun k hk => (hg.block k (Nat.lt_of_lt_of_le (Nat.lt_of_lt_of_le hk hB) h.size) (fun e => by have := hr k e.symm; omega)).trans (h.block k hk)⟩
/-- The boxes of a read: the place, both results, the expression. -/
def RB (W : World) (ps z4 z5 es : List Value) (w : World) : Prop := Arr w 59 W.heap.size ps ∧ Arr w 59 (W.heap.size + 1) z4 ∧ Arr w 42 (W.heap.size + 2) z5 ∧ Arr w 42 (W.heap.size + 3) es ∧ Below W.heap.size W w
section
variable {W w w' : World} {ps z4 z5 es : List Value}
theorem RB.later (h : RB W ps z4 z5 es w) (hb : Below w.heap.size w w') : RB W ps z4 z5 es w' := ⟨h.1.later hb, h.2.1.later hb, h.2.2.1.later hb, h.2.2.2.1.later hb, h.2.2.2.2.trans (hb.mono h.2.2.2.2.size)⟩
theorem RB.drew (h : RB W ps z4 z5 es w) : RB W ps z4 z5 es w.drew := h.later (Below.refl _ _).drew
theorem RB.cp (h : RB W ps z4 z5 es w) {i : Nat} (v : Value) (hi : i < 5) : RB W (ps.set i v) z4 z5 es (w.setCell ⟨W.heap.size, i, none⟩ v) :=
  ⟨h.1.set i v, h.2.1.setCell (by simp only [ne_eq]; omega) v, h.2.2.1.setCell (by simp only [ne_eq]; omega) v, h.2.2.2.1.setCell (by simp only [ne_eq]; omega) v, below_box h.2.2.2.2 (Nat.le_refl _) i v⟩
theorem RB.c4 (h : RB W ps z4 z5 es w) {i : Nat} (v : Value) (hi : i < 5) : RB W ps (z4.set i v) z5 es (w.setCell ⟨W.heap.size + 1, i, none⟩ v) :=
  ⟨h.1.setCell (by simp only [ne_eq]; omega) v, h.2.1.set i v, h.2.2.1.setCell (by simp only [ne_eq]; omega) v, h.2.2.2.1.setCell (by simp only [ne_eq]; omega) v, below_box h.2.2.2.2 (by omega) i v⟩
theorem RB.c5 (h : RB W ps z4 z5 es w) {i : Nat} (v : Value) (hi : i < 4) : RB W ps z4 (z5.set i v) es (w.setCell ⟨W.heap.size + 2, i, none⟩ v) :=
  ⟨h.1.setCell (by simp only [ne_eq]; omega) v, h.2.1.setCell (by simp only [ne_eq]; omega) v, h.2.2.1.set i v, h.2.2.2.1.setCell (by simp only [ne_eq]; omega) v, below_box h.2.2.2.2 (by omega) i v⟩
theorem RB.ce (h : RB W ps z4 z5 es w) {i : Nat} (v : Value) (hi : i < 4) : RB W ps z4 z5 (es.set i v) (w.setCell ⟨W.heap.size + 3, i, none⟩ v) :=
  ⟨h.1.setCell (by simp only [ne_eq]; omega) v, h.2.1.setCell (by simp only [ne_eq]; omega) v, h.2.2.1.setCell (by simp only [ne_eq]; omega) v, h.2.2.2.1.set i v, below_box h.2.2.2.2 (by omega) i v⟩
theorem RB.far (h : RB W ps z4 z5 es w) {g i : Nat} (v : Value) (hg : W.heap.size + 4 ≤ g) : RB W ps z4 z5 es (w.setCell ⟨g, i, none⟩ v) :=
  ⟨h.1.setCell (by simp only [ne_eq]; omega) v, h.2.1.setCell (by simp only [ne_eq]; omega) v, h.2.2.1.setCell (by simp only [ne_eq]; omega) v, h.2.2.2.1.setCell (by simp only [ne_eq]; omega) v, below_box h.2.2.2.2 (by omega) i v⟩
theorem RB.grown (h : RB W ps z4 z5 es w) {row : Option Nat} (hg : w.grownBy w' row) (hr : ∀ k, row = some k → W.heap.size + 4 ≤ k) : RB W ps z4 z5 es w' :=
  ⟨(hg.block _ h.1.lt (fun e => absurd (hr _ e.symm) (by omega))).trans h.1, (hg.block _ h.2.1.lt (fun e => absurd (hr _ e.symm) (by omega))).trans h.2.1, (hg.block _ h.2.2.1.lt (fun e => absurd (hr _ e.symm) (by omega))).trans h.2.2.1, (hg.block _ h.2.2.2.1.lt (fun e => absurd (hr _ e.symm) (by omega))).trans h.2.2.2.1, below_grown' h.2.2.2.2 hg (fun k hk => Nat.le_trans (by omega) (hr k hk)) (Nat.le_refl _)⟩
theorem RB.pl {y0 y1 y2 y3 y4 : Value} (h : RB W [y0, y1, y2, y3, y4] z4 z5 es w) (x0 x1 x2 x3 x4 : Value) : RB W [x0, x1, x2, x3, x4] z4 z5 es (((((w.setCell ⟨W.heap.size, 0, none⟩ x0).setCell ⟨W.heap.size, 1, none⟩ x1).setCell ⟨W.heap.size, 2, none⟩ x2).setCell ⟨W.heap.size, 3, none⟩ x3).setCell ⟨W.heap.size, 4, none⟩ x4) := ((((h.cp x0 (by decide)).cp x1 (by decide)).cp x2 (by decide)).cp x3 (by decide)).cp x4 (by decide)
theorem RB.p4 {y0 y1 y2 y3 y4 : Value} (h : RB W ps [y0, y1, y2, y3, y4] z5 es w) (x0 x1 x2 x3 x4 : Value) : RB W ps [x0, x1, x2, x3, x4] z5 es (((((w.setCell ⟨W.heap.size + 1, 0, none⟩ x0).setCell ⟨W.heap.size + 1, 1, none⟩ x1).setCell ⟨W.heap.size + 1, 2, none⟩ x2).setCell ⟨W.heap.size + 1, 3, none⟩ x3).setCell ⟨W.heap.size + 1, 4, none⟩ x4) := ((((h.c4 x0 (by decide)).c4 x1 (by decide)).c4 x2 (by decide)).c4 x3 (by decide)).c4 x4 (by decide)
theorem RB.p5 {y0 y1 y2 y3 : Value} (h : RB W ps z4 [y0, y1, y2, y3] es w) (x0 x1 x2 x3 : Value) : RB W ps z4 [x0, x1, x2, x3] es ((((w.setCell ⟨W.heap.size + 2, 0, none⟩ x0).setCell ⟨W.heap.size + 2, 1, none⟩ x1).setCell ⟨W.heap.size + 2, 2, none⟩ x2).setCell ⟨W.heap.size + 2, 3, none⟩ x3) := (((h.c5 x0 (by decide)).c5 x1 (by decide)).c5 x2 (by decide)).c5 x3 (by decide)
theorem RB.far4 (h : RB W ps z4 z5 es w) {g : Nat} (hg : W.heap.size + 4 ≤ g) (x0 x1 x2 x3 : Value) : RB W ps z4 z5 es ((((w.setCell ⟨g, 0, none⟩ x0).setCell ⟨g, 1, none⟩ x1).setCell ⟨g, 2, none⟩ x2).setCell ⟨g, 3, none⟩ x3) := (((h.far x0 hg).far x1 hg).far x2 hg).far x3 hg
end
/-- The numbers in a place of the state s. -/
def PI (b : List UInt8) (s : St) (ox cx ax : Int) : Prop := ∃ o2 : Nat, PlO b s o2 ∧ ox = o2 ∧ cx = (cO s : Nat) ∧ ax = (aO s : Nat)
theorem PI.go {b : List UInt8} {o : Nat} {ox cx ax : Int} (h : PI b (.go o) ox cx ax) : ox = o ∧ cx = 0 ∧ ax = 0 ∧ o ≤ b.length := by
  obtain ⟨o2, h1, rfl, rfl, rfl⟩ := h
  obtain rfl := h1.2.1 o rfl
  exact ⟨rfl, rfl, rfl, h1.1⟩
theorem PI.er {b : List UInt8} {c a : Nat} {ox cx ax : Int} (h : PI b (.er c a) ox cx ax) : ¬ cx = 0 := by
  obtain ⟨o2, h1, rfl, rfl, rfl⟩ := h
  have := h1.2.2 c a rfl
  show ¬ ((c : Nat) : Int) = 0
  omega
theorem PI.of_go {b : List UInt8} {o : Nat} (h : o ≤ b.length) : PI b (.go o) o 0 0 := ⟨o, ⟨h, (fun _ e => by cases e; rfl), (fun _ _ e => by cases e)⟩, rfl, rfl, rfl⟩
theorem PI.of_er {b : List UInt8} {o c a : Nat} (h : o ≤ b.length) (hc : c ≠ 0) : PI b (.er c a) o c a := ⟨o, ⟨h, (fun _ e => by cases e), (fun _ _ e => by cases e; exact hc)⟩, rfl, rfl, rfl⟩
section
variable {b : List UInt8} {s : St} {W : World} {q : Option Addr} {cp lv : Nat} {ox cx ax : Int}
theorem pNum (lo hi high : Nat) (hr : Rd W.heap.size W (.slice q b.length cp) b) (hp : PI b s ox cx ax) (hbl : b.length ≤ 1000000) (hhi : hi ≤ 1000000) (hlo : lo ≤ 1000000) (hg : high ≠ 0) : Calls Tryz.prog 25 #[.agg #[.slice q b.length cp, .int .i64 ox, .int .i64 cx, .int .i64 ax, .int .i64 (lv : Nat)], .int .i64 (lo : Nat), .int .i64 (hi : Nat), .int .i64 (high : Nat)] W fun e w' => ∃ ox2 cx2 ax2, e = .returned (.tuple #[.agg #[.slice q b.length cp, .int .i64 ox2, .int .i64 cx2, .int .i64 ax2, .int .i64 (lv : Nat)], .int .i64 ((numC b (chkR lo hi high) s).1 : Nat)]) ∧ PI b (numC b (chkR lo hi high) s).2 ox2 cx2 ax2 ∧ Below W.heap.size W w' := by
  obtain ⟨o2, h1, rfl, rfl, rfl⟩ := hp
  exact (rNumber_any lo hi high hr h1 hbl hhi hlo hg).mono fun e w' ⟨o3, h2, h3, h4⟩ => ⟨_, _, _, h2, ⟨o3, h3, rfl, rfl, rfl⟩, h4⟩
theorem pName (hr : Rd W.heap.size W (.slice q b.length cp) b) (hp : PI b s ox cx ax) (hbl : b.length ≤ 1000000) : Calls Tryz.prog 26 #[.agg #[.slice q b.length cp, .int .i64 ox, .int .i64 cx, .int .i64 ax, .int .i64 (lv : Nat)], .bool false] W fun e w' => ∃ ox2 cx2 ax2, e = .returned (.tuple #[.agg #[.slice q b.length cp, .int .i64 ox2, .int .i64 cx2, .int .i64 ax2, .int .i64 (lv : Nat)], .string (bstr (nameC b false s).1)]) ∧ PI b (nameC b false s).2 ox2 cx2 ax2 ∧ Below W.heap.size W w' := by
  obtain ⟨o2, h1, rfl, rfl, rfl⟩ := hp
  exact (rName_any false hr h1 hbl).mono fun e w' ⟨o3, h2, h3, h4⟩ => ⟨_, _, _, h2, ⟨o3, h3, rfl, rfl, rfl⟩, h4⟩
/-- What read hands back. -/
def QPost (W : World) (b : List UInt8) (q : Option Addr) (cp : Nat) (r : Ex × St × Nat) (e : Ending) (w' : World) : Prop := ∃ ox2 cx2 ax2 v, e = .returned (.tuple #[.agg #[.slice q b.length cp, .int .i64 ox2, .int .i64 cx2, .int .i64 ax2, .int .i64 (r.2.2 : Nat)], v]) ∧ PI b r.2.1 ox2 cx2 ax2 ∧ VE W.heap.size r.1 w' v ∧ Below W.heap.size W w'
end
end Go.Proofs.YtdnmgemjhpkekaaGreatDoor
/-
  The reference's read.
-/
namespace Go.Proofs.YtdnmgemjhpkekaaGreatDoor
open Go.ChangeShapes Go.WideShapes Go.ChangeAt Go.RowKit
set_option linter.unusedVariables false

theorem chkR_5 {x : Nat} (h : chkR 1 5 6 x = 0) : x ≤ 5 := by
  unfold chkR at h
  split at h
  · cases h
  omega
theorem chkR_1 {x : Nat} (h : chkR 1 5 6 x = 0) : 1 ≤ x := by
  unfold chkR at h
  split at h
  · cases h
  split at h
  · cases h
  omega
theorem numC_ge {b : List UInt8} {chk : Nat → Nat} {s : St} {lo o' : Nat} (h : ∀ x, chk x = 0 → lo ≤ x) (hs : (numC b chk s).2 = .go o') : lo ≤ (numC b chk s).1 := by
  cases s with
  | er c a => cases hs
  | go o =>
    by_cases h1 : (num (b.drop o)).2.2 ≠ 0
    · rw [numC_1 h1] at hs; cases hs
    · by_cases h2 : chk (num (b.drop o)).1 ≠ 0
      · rw [numC_2 h1 h2] at hs; cases hs
      · rw [numC_3 h1 h2]
        exact h _ (Classical.not_not.1 h2)
section
variable {b : List UInt8} {s : St} {W : World} {q : Option Addr} {cp lv : Nat} {ox cx ax : Int}
theorem pNum1 (hr : Rd W.heap.size W (.slice q b.length cp) b) (hp : PI b s ox cx ax) (hbl : b.length ≤ 1000000) : Calls Tryz.prog 25 #[.agg #[.slice q b.length cp, .int .i64 ox, .int .i64 cx, .int .i64 ax, .int .i64 (lv : Nat)], .int .i64 1, .int .i64 5, .int .i64 6] W fun e w' => ∃ ox2 cx2 ax2, e = .returned (.tuple #[.agg #[.slice q b.length cp, .int .i64 ox2, .int .i64 cx2, .int .i64 ax2, .int .i64 (lv : Nat)], .int .i64 ((numC b (chkR 1 5 6) s).1 : Nat)]) ∧ PI b (numC b (chkR 1 5 6) s).2 ox2 cx2 ax2 ∧ Below W.heap.size W w' := pNum 1 5 6 hr hp hbl (by decide) (by decide) (by decide)
theorem pNum2 (hr : Rd W.heap.size W (.slice q b.length cp) b) (hp : PI b s ox cx ax) (hbl : b.length ≤ 1000000) : Calls Tryz.prog 25 #[.agg #[.slice q b.length cp, .int .i64 ox, .int .i64 cx, .int .i64 ax, .int .i64 (lv : Nat)], .int .i64 2, .int .i64 32, .int .i64 15] W fun e w' => ∃ ox2 cx2 ax2, e = .returned (.tuple #[.agg #[.slice q b.length cp, .int .i64 ox2, .int .i64 cx2, .int .i64 ax2, .int .i64 (lv : Nat)], .int .i64 ((numC b (chkR 2 32 15) s).1 : Nat)]) ∧ PI b (numC b (chkR 2 32 15) s).2 ox2 cx2 ax2 ∧ Below W.heap.size W w' := pNum 2 32 15 hr hp hbl (by decide) (by decide) (by decide)
theorem pFail7 {o a : Nat} : Calls Tryz.prog 53 #[.agg #[.slice q b.length cp, .int .i64 (o : Nat), .int .i64 0, .int .i64 0, .int .i64 (lv : Nat)], .int .i64 7, .int .i64 (a : Nat)] W fun e w' => e = .returned (.agg #[.slice q b.length cp, .int .i64 (o : Nat), .int .i64 7, .int .i64 (a : Nat), .int .i64 (lv : Nat)]) ∧ Below W.heap.size W w' := rFail_any (b := b) 7 a
theorem pFail15 {o a : Nat} : Calls Tryz.prog 53 #[.agg #[.slice q b.length cp, .int .i64 (o : Nat), .int .i64 0, .int .i64 0, .int .i64 (lv : Nat)], .int .i64 15, .int .i64 (a : Nat)] W fun e w' => e = .returned (.agg #[.slice q b.length cp, .int .i64 (o : Nat), .int .i64 15, .int .i64 (a : Nat), .int .i64 (lv : Nat)]) ∧ Below W.heap.size W w' := rFail_any (b := b) 15 a
end
section
variable {b : List UInt8} {W : World} {q : Option Addr} {cp o lv : Nat}
set_option maxRecDepth 100000 in
set_option maxHeartbeats 8000000 in
theorem rRead_zero {D : Nat} (hd : D = 17) (hr : Rd W.heap.size W (.slice q b.length cp) b) (hbl : b.length ≤ 1000000) (ho : o ≤ b.length) (hl : lv ≤ 32) : Calls Tryz.prog 27 #[.agg #[.slice q b.length cp, .int .i64 (o : Nat), .int .i64 0, .int .i64 0, .int .i64 (lv : Nat)], .int .i64 (D : Nat)] W (QPost W b q cp (refC b 0 o lv)) := by
  have hdp : (16 : Int) < (D : Nat) := by omega
  have HE0 : Hid (refC b 0 o lv = topE 0 o lv (fun _ _ => (ex0, .er 7 o, lv)) (numC b (chkR 1 5 6) (.go o))) := rfl
  clear hd
  have hb4 : Below W.heap.size W ((((W.alloc (.cells #[.slice q b.length cp, .int .i64 (o : Nat), .int .i64 0, .int .i64 0, .int .i64 (lv : Nat)] 59)).alloc (.cells #[.slice none 0 0, .int .i64 0, .int .i64 0, .int .i64 0, .int .i64 0] 59)).alloc (.cells #[.int .i64 0, .string ⟨#[]⟩, .string ⟨#[]⟩, .slice none 0 0] 42)).alloc (.cells #[.int .i64 0, .string ⟨#[]⟩, .string ⟨#[]⟩, .slice none 0 0] 42)) := ((((Below.refl _ _).alloc (Nat.le_refl _) _).alloc (by simp) _).alloc (by simp; omega) _).alloc (by simp; omega) _
  have hE4 : Arr ((((W.alloc (.cells #[.slice q b.length cp, .int .i64 (o : Nat), .int .i64 0, .int .i64 0, .int .i64 (lv : Nat)] 59)).alloc (.cells #[.slice none 0 0, .int .i64 0, .int .i64 0, .int .i64 0, .int .i64 0] 59)).alloc (.cells #[.int .i64 0, .string ⟨#[]⟩, .string ⟨#[]⟩, .slice none 0 0] 42)).alloc (.cells #[.int .i64 0, .string ⟨#[]⟩, .string ⟨#[]⟩, .slice none 0 0] 42)) 42 (W.heap.size + 3) [.int .i64 0, .string ⟨#[]⟩, .string ⟨#[]⟩, .slice none 0 0] := by
    have h := Arr.new' (((W.alloc (.cells #[.slice q b.length cp, .int .i64 (o : Nat), .int .i64 0, .int .i64 0, .int .i64 (lv : Nat)] 59)).alloc (.cells #[.slice none 0 0, .int .i64 0, .int .i64 0, .int .i64 0, .int .i64 0] 59)).alloc (.cells #[.int .i64 0, .string ⟨#[]⟩, .string ⟨#[]⟩, .slice none 0 0] 42)) 42 #[.int .i64 0, .string ⟨#[]⟩, .string ⟨#[]⟩, .slice none 0 0] _ rfl
    rw [World.size_alloc, World.size_alloc, World.size_alloc] at h
    exact h
  have HR0 : Hid (RB W [.slice q b.length cp, .int .i64 (o : Nat), .int .i64 0, .int .i64 0, .int .i64 (lv : Nat)] [.slice none 0 0, .int .i64 0, .int .i64 0, .int .i64 0, .int .i64 0] [.int .i64 0, .string ⟨#[]⟩, .string ⟨#[]⟩, .slice none 0 0] [.int .i64 0, .string ⟨#[]⟩, .string ⟨#[]⟩, .slice none 0 0] ((((W.alloc (.cells #[.slice q b.length cp, .int .i64 (o : Nat), .int .i64 0, .int .i64 0, .int .i64 (lv : Nat)] 59)).alloc (.cells #[.slice none 0 0, .int .i64 0, .int .i64 0, .int .i64 0, .int .i64 0] 59)).alloc (.cells #[.int .i64 0, .string ⟨#[]⟩, .string ⟨#[]⟩, .slice none 0 0] 42)).alloc (.cells #[.int .i64 0, .string ⟨#[]⟩, .string ⟨#[]⟩, .slice none 0 0] 42))) := ⟨(((Arr.new' _ _ _ _ rfl).alloc _).alloc _).alloc _, ((Arr.new2 _ _ _ _ _ rfl).alloc _).alloc _, (Arr.new3 _ _ _ _ _ _ rfl).alloc _, hE4, hb4⟩
  have HRD := Lib.hid hr
  have HBL := Lib.hid hbl
  have HLV := Lib.hid hl
  have HN1 := Lib.hid (pNum1 (lv := lv) ((hr.below hb4 (Nat.le_refl _)).mono hb4.size) (PI.of_go ho) hbl)
  obtain ⟨k, hk⟩ : ∃ x, x = (numC b (chkR 1 5 6) (.go o)).1 := ⟨_, rfl⟩
  obtain ⟨s1, hs1⟩ : ∃ x, x = (numC b (chkR 1 5 6) (.go o)).2 := ⟨_, rfl⟩
  have HPR : Hid (numC b (chkR 1 5 6) (.go o) = (k, s1)) := Prod.ext hk.symm hs1.symm
  rw [← hk, ← hs1] at HN1
  have HK5 : Hid (s1 ≠ .er 0 0 → k ≤ 5) := fun _ => by rw [hk]; exact numC_le (fun x h => chkR_5 h) _
  have HKG : Hid (∀ o', s1 = .go o' → 1 ≤ k) := fun o' h => by
    rw [hs1] at h; rw [hk]; exact numC_ge (fun x h => chkR_1 h) h
  have HOL := Lib.hid ho
  clear hr hbl hl hk hs1 ho hb4 hE4
  go_enter Tryz.func27, Tryz.ntmps27
  go_upto_region 2 with (fail)
  generalize ((((W.alloc (.cells #[.slice q b.length cp, .int .i64 (o : Nat), .int .i64 0, .int .i64 0, .int .i64 (lv : Nat)] 59)).alloc (.cells #[.slice none 0 0, .int .i64 0, .int .i64 0, .int .i64 0, .int .i64 0] 59)).alloc (.cells #[.int .i64 0, .string ⟨#[]⟩, .string ⟨#[]⟩, .slice none 0 0] 42)).alloc (.cells #[.int .i64 0, .string ⟨#[]⟩, .string ⟨#[]⟩, .slice none 0 0] 42)) = w0 at HR0 HN1 ⊢
  have x0 := HR0.out.1.cell 0
  have y0 := HR0.out.1.free 0
  have x1 := HR0.out.1.cell 1
  have y1 := HR0.out.1.free 1
  have x2 := HR0.out.1.cell 2
  have y2 := HR0.out.1.free 2
  have x3 := HR0.out.1.cell 3
  have y3 := HR0.out.1.free 3
  have x4 := HR0.out.1.cell 4
  have y4 := HR0.out.1.free 4
  simp only [List.getElem?_cons_zero, List.getElem?_cons_succ] at x0 x1 x2 x3 x4
  have e0 := HR0.out.2.2.2.1.cell 0
  have f0 := HR0.out.2.2.2.1.free 0
  have e1 := HR0.out.2.2.2.1.cell 1
  have f1 := HR0.out.2.2.2.1.free 1
  have e2 := HR0.out.2.2.2.1.cell 2
  have f2 := HR0.out.2.2.2.1.free 2
  have e3 := HR0.out.2.2.2.1.cell 3
  have f3 := HR0.out.2.2.2.1.free 3
  simp only [List.getElem?_cons_zero, List.getElem?_cons_succ] at e0 e1 e2 e3
  go_wp2_with fail
  refine HN1.out.mono ?_
  rintro e w1 ⟨ox, cx, ax, rfl, hp1, b1⟩
  have HR1 := Lib.hid (HR0.out.later b1)
  have HP1 := Lib.hid hp1
  clear hp1 b1 HN1 HR0
  clear x0 y0 x1 y1 x2 y2 x3 y3 x4 y4
  clear e0 f0 e1 f1 e2 f2 e3 f3
  have x0 := HR1.out.1.cell 0
  have y0 := HR1.out.1.free 0
  have x1 := HR1.out.1.cell 1
  have y1 := HR1.out.1.free 1
  have x2 := HR1.out.1.cell 2
  have y2 := HR1.out.1.free 2
  have x3 := HR1.out.1.cell 3
  have y3 := HR1.out.1.free 3
  have x4 := HR1.out.1.cell 4
  have y4 := HR1.out.1.free 4
  simp only [List.getElem?_cons_zero, List.getElem?_cons_succ] at x0 x1 x2 x3 x4
  have e0 := HR1.out.2.2.2.1.cell 0
  have f0 := HR1.out.2.2.2.1.free 0
  have e1 := HR1.out.2.2.2.1.cell 1
  have f1 := HR1.out.2.2.2.1.free 1
  have e2 := HR1.out.2.2.2.1.cell 2
  have f2 := HR1.out.2.2.2.1.free 2
  have e3 := HR1.out.2.2.2.1.cell 3
  have f3 := HR1.out.2.2.2.1.free 3
  simp only [List.getElem?_cons_zero, List.getElem?_cons_succ] at e0 e1 e2 e3
  go_upto_region 4 with (fail)
  have HR2 := Lib.hid ((HR1.out.pl (.slice q b.length cp) (.int .i64 ox) (.int .i64 cx) (.int .i64 ax) (.int .i64 (lv : Nat))).ce (i := 0) (.int .i64 (k : Nat)) (by decide))
  clear x0 y0 x1 y1 x2 y2 x3 y3 x4 y4
  clear e0 f0 e1 f1 e2 f2 e3 f3
  have HR3 : Hid (RB W [.slice q b.length cp, .int .i64 ox, .int .i64 cx, .int .i64 ax, .int .i64 (lv : Nat)] [.slice none 0 0, .int .i64 0, .int .i64 0, .int .i64 0, .int .i64 0] [.int .i64 0, .string ⟨#[]⟩, .string ⟨#[]⟩, .slice none 0 0] [.int .i64 (k : Nat), .string ⟨#[]⟩, .string ⟨#[]⟩, .slice none 0 0] ((((((w1.setCell ⟨W.heap.size, 0, none⟩ (.slice q b.length cp)).setCell ⟨W.heap.size, 1, none⟩ (.int .i64 ox)).setCell ⟨W.heap.size, 2, none⟩ (.int .i64 cx)).setCell ⟨W.heap.size, 3, none⟩ (.int .i64 ax)).setCell ⟨W.heap.size, 4, none⟩ (.int .i64 (lv : Nat))).setCell ⟨W.heap.size + 3, 0, none⟩ (.int .i64 (k : Nat)))) := HR2.out
  clear HR1 HR2
  generalize ((((((w1.setCell ⟨W.heap.size, 0, none⟩ (.slice q b.length cp)).setCell ⟨W.heap.size, 1, none⟩ (.int .i64 ox)).setCell ⟨W.heap.size, 2, none⟩ (.int .i64 cx)).setCell ⟨W.heap.size, 3, none⟩ (.int .i64 ax)).setCell ⟨W.heap.size, 4, none⟩ (.int .i64 (lv : Nat))).setCell ⟨W.heap.size + 3, 0, none⟩ (.int .i64 (k : Nat))) = w3 at HR3 ⊢
  rw [HPR.out] at HE0
  cases s1 with
  | er c a =>
    have hcx := HP1.out.er
    have hc2 : (cx == 0) = false := by simpa using hcx
    have hc3 : (cx != 0) = true := by simpa using hcx
    have HE : Hid (refC b 0 o lv = (ex0, .er c a, lv)) := HE0.out
    clear HE0 HK5 HKG
    have x0 := HR3.out.1.cell 0
    have y0 := HR3.out.1.free 0
    have x1 := HR3.out.1.cell 1
    have y1 := HR3.out.1.free 1
    have x2 := HR3.out.1.cell 2
    have y2 := HR3.out.1.free 2
    have x3 := HR3.out.1.cell 3
    have y3 := HR3.out.1.free 3
    have x4 := HR3.out.1.cell 4
    have y4 := HR3.out.1.free 4
    simp only [List.getElem?_cons_zero, List.getElem?_cons_succ] at x0 x1 x2 x3 x4
    have p0 := HR3.out.2.1.cell 0
    have z0 := HR3.out.2.1.free 0
    have p1 := HR3.out.2.1.cell 1
    have z1 := HR3.out.2.1.free 1
    have p2 := HR3.out.2.1.cell 2
    have z2 := HR3.out.2.1.free 2
    have p3 := HR3.out.2.1.cell 3
    have z3 := HR3.out.2.1.free 3
    have p4 := HR3.out.2.1.cell 4
    have z4 := HR3.out.2.1.free 4
    simp only [List.getElem?_cons_zero, List.getElem?_cons_succ] at p0 p1 p2 p3 p4
    have g0 := HR3.out.2.2.1.cell 0
    have h0 := HR3.out.2.2.1.free 0
    have g1 := HR3.out.2.2.1.cell 1
    have h1 := HR3.out.2.2.1.free 1
    have g2 := HR3.out.2.2.1.cell 2
    have h2 := HR3.out.2.2.1.free 2
    have g3 := HR3.out.2.2.1.cell 3
    have h3 := HR3.out.2.2.1.free 3
    simp only [List.getElem?_cons_zero, List.getElem?_cons_succ] at g0 g1 g2 g3
    go_wp2_with fail
    have hF := (HR3.out.p4 (.slice q b.length cp) (.int .i64 ox) (.int .i64 cx) (.int .i64 ax) (.int .i64 (lv : Nat))).p5 (.int .i64 0) (.string ⟨#[]⟩) (.string ⟨#[]⟩) (.slice none 0 0)
    refine bodyPost_ret (resPX rfl hF.2.1 hF.2.2.1 rfl rfl) rfl ?_
    rw [HE.out]
    exact ⟨_, _, _, _, rfl, HP1.out, VE.leaf _ _ _ _ _, hF.2.2.2.2⟩
  | go o1 =>
    obtain ⟨rfl, rfl, rfl, hol⟩ := HP1.out.go
    have HOL1 := Lib.hid hol
    have HE : Hid (refC b 0 o lv = (ex0, .er 7 o, lv)) := HE0.out
    clear HE0 HK5 HKG hol
    have x0 := HR3.out.1.cell 0
    have y0 := HR3.out.1.free 0
    have x1 := HR3.out.1.cell 1
    have y1 := HR3.out.1.free 1
    have x2 := HR3.out.1.cell 2
    have y2 := HR3.out.1.free 2
    have x3 := HR3.out.1.cell 3
    have y3 := HR3.out.1.free 3
    have x4 := HR3.out.1.cell 4
    have y4 := HR3.out.1.free 4
    simp only [List.getElem?_cons_zero, List.getElem?_cons_succ] at x0 x1 x2 x3 x4
    have e0 := HR3.out.2.2.2.1.cell 0
    have f0 := HR3.out.2.2.2.1.free 0
    have e1 := HR3.out.2.2.2.1.cell 1
    have f1 := HR3.out.2.2.2.1.free 1
    have e2 := HR3.out.2.2.2.1.cell 2
    have f2 := HR3.out.2.2.2.1.free 2
    have e3 := HR3.out.2.2.2.1.cell 3
    have f3 := HR3.out.2.2.2.1.free 3
    simp only [List.getElem?_cons_zero, List.getElem?_cons_succ] at e0 e1 e2 e3
    go_wp2_with fail
    refine (pFail7 (b := b)).mono ?_
    rintro e w4 ⟨rfl, b4⟩
    have HR4 := Lib.hid (HR3.out.later b4)
    clear b4 HR3
    clear x0 y0 x1 y1 x2 y2 x3 y3 x4 y4
    clear e0 f0 e1 f1 e2 f2 e3 f3
    have x0 := HR4.out.1.cell 0
    have y0 := HR4.out.1.free 0
    have x1 := HR4.out.1.cell 1
    have y1 := HR4.out.1.free 1
    have x2 := HR4.out.1.cell 2
    have y2 := HR4.out.1.free 2
    have x3 := HR4.out.1.cell 3
    have y3 := HR4.out.1.free 3
    have x4 := HR4.out.1.cell 4
    have y4 := HR4.out.1.free 4
    simp only [List.getElem?_cons_zero, List.getElem?_cons_succ] at x0 x1 x2 x3 x4
    go_upto_region 6 with (fail)
    have HR5 := Lib.hid (HR4.out.pl (.slice q b.length cp) (.int .i64 (o1 : Nat)) (.int .i64 7) (.int .i64 (o : Nat)) (.int .i64 (lv : Nat)))
    clear x0 y0 x1 y1 x2 y2 x3 y3 x4 y4
    clear HR4
    generalize (((((w4.setCell ⟨W.heap.size, 0, none⟩ (.slice q b.length cp)).setCell ⟨W.heap.size, 1, none⟩ (.int .i64 (o1 : Nat))).setCell ⟨W.heap.size, 2, none⟩ (.int .i64 7)).setCell ⟨W.heap.size, 3, none⟩ (.int .i64 (o : Nat))).setCell ⟨W.heap.size, 4, none⟩ (.int .i64 (lv : Nat))) = w5 at HR5 ⊢
    have x0 := HR5.out.1.cell 0
    have y0 := HR5.out.1.free 0
    have x1 := HR5.out.1.cell 1
    have y1 := HR5.out.1.free 1
    have x2 := HR5.out.1.cell 2
    have y2 := HR5.out.1.free 2
    have x3 := HR5.out.1.cell 3
    have y3 := HR5.out.1.free 3
    have x4 := HR5.out.1.cell 4
    have y4 := HR5.out.1.free 4
    simp only [List.getElem?_cons_zero, List.getElem?_cons_succ] at x0 x1 x2 x3 x4
    have p0 := HR5.out.2.1.cell 0
    have z0 := HR5.out.2.1.free 0
    have p1 := HR5.out.2.1.cell 1
    have z1 := HR5.out.2.1.free 1
    have p2 := HR5.out.2.1.cell 2
    have z2 := HR5.out.2.1.free 2
    have p3 := HR5.out.2.1.cell 3
    have z3 := HR5.out.2.1.free 3
    have p4 := HR5.out.2.1.cell 4
    have z4 := HR5.out.2.1.free 4
    simp only [List.getElem?_cons_zero, List.getElem?_cons_succ] at p0 p1 p2 p3 p4
    have g0 := HR5.out.2.2.1.cell 0
    have h0 := HR5.out.2.2.1.free 0
    have g1 := HR5.out.2.2.1.cell 1
    have h1 := HR5.out.2.2.1.free 1
    have g2 := HR5.out.2.2.1.cell 2
    have h2 := HR5.out.2.2.1.free 2
    have g3 := HR5.out.2.2.1.cell 3
    have h3 := HR5.out.2.2.1.free 3
    simp only [List.getElem?_cons_zero, List.getElem?_cons_succ] at g0 g1 g2 g3
    go_wp2_with fail
    have hF := (HR5.out.p4 (.slice q b.length cp) (.int .i64 (o1 : Nat)) (.int .i64 7) (.int .i64 (o : Nat)) (.int .i64 (lv : Nat))).p5 (.int .i64 0) (.string ⟨#[]⟩) (.string ⟨#[]⟩) (.slice none 0 0)
    refine bodyPost_ret (resPX rfl hF.2.1 hF.2.2.1 rfl rfl) rfl ?_
    rw [HE.out]
    exact ⟨_, _, _, _, rfl, PI.of_er (by first | exact HOL1.out | exact HOL.out) (by decide), VE.leaf _ _ _ _ _, hF.2.2.2.2⟩
end
end Go.Proofs.YtdnmgemjhpkekaaGreatDoor
