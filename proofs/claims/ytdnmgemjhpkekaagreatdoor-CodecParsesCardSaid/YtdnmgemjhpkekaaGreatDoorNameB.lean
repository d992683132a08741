/-
  name.Reserved, Is, IsID.
-/
import Derived.Test.YtdnmgemjhpkekaaGreatDoorNameA
namespace Go.Proofs.YtdnmgemjhpkekaaGreatDoor
open Go.ChangeShapes Go.WideShapes Go.ChangeAt Go.RowKit
set_option linter.unusedVariables false

def wDef : ByteArray := ⟨#[100, 101, 102, 105, 110, 105, 116, 105, 111, 110]⟩
def wRel : ByteArray := ⟨#[114, 101, 108, 97, 116, 105, 111, 110]⟩
def wPerm : ByteArray := ⟨#[112, 101, 114, 109, 105, 115, 115, 105, 111, 110]⟩
def resB (s : ByteArray) : Bool := decide (s = wDef ∨ s = wRel ∨ s = wPerm)
/-- The table of the reserved words holds what start-up code lays. -/
def ResT (w : World) : Prop := w.cell? ⟨1, 0, none⟩ = some (.string wDef) ∧ w.cell? ⟨1, 1, none⟩ = some (.string wRel) ∧ w.cell? ⟨1, 2, none⟩ = some (.string wPerm)

theorem seq_t {a b : ByteArray} (h : a = b) : (a.toList == b.toList) = true := by subst h; simp
theorem seq_f {a b : ByteArray} (h : ¬ a = b) : (a.toList == b.toList) = false := by
  rw [beq_eq_false_iff_ne]
  intro e
  rw [toList_data, toList_data] at e
  exact h (bytes_inj e)
theorem ix0 (w : World) : (Instr.index 155 (.agg #[.string wDef, .string wRel, .string wPerm]) (.int .i64 0)).run Tryz.prog w = .ok (.string wDef) w := by kernel_rfl
theorem ix1 (w : World) : (Instr.index 155 (.agg #[.string wDef, .string wRel, .string wPerm]) (.int .i64 1)).run Tryz.prog w = .ok (.string wRel) w := by kernel_rfl
theorem ix2 (w : World) : (Instr.index 155 (.agg #[.string wDef, .string wRel, .string wPerm]) (.int .i64 2)).run Tryz.prog w = .ok (.string wPerm) w := by kernel_rfl

set_option maxRecDepth 100000 in
theorem res_any (s : ByteArray) (w : World) (hr : ResT w) : Calls Tryz.prog 93 #[.string s] w fun e w' => e = .returned (.bool (resB s)) ∧ w = w' := by
  obtain ⟨r0, r1, r2⟩ := hr
  have i0 := ix0
  have i1 := ix1
  have i2 := ix2
  by_cases h0 : s = wDef
  · have H : Hid (resB s = true) := decide_eq_true (.inl h0)
    have t0 := seq_t h0
    clear h0
    go_enter Tryz.func93, Tryz.ntmps93
    go_wp2_with fail
    refine wp_loop_rounds 4 ?_
    rw [rounds_succ]
    go_wp2_with fail
    go_ret
    exact ⟨by rw [H.out]; rfl, rfl⟩
  have t0 := seq_f h0
  by_cases h1 : s = wRel
  · have H : Hid (resB s = true) := decide_eq_true (.inr (.inl h1))
    have t1 := seq_t h1
    clear h0 h1
    go_enter Tryz.func93, Tryz.ntmps93
    go_wp2_with fail
    refine wp_loop_rounds 4 ?_
    rw [rounds_succ]
    go_wp2_with fail
    rw [rounds_succ]
    go_wp2_with fail
    go_ret
    exact ⟨by rw [H.out]; rfl, rfl⟩
  have t1 := seq_f h1
  by_cases h2 : s = wPerm
  · have H : Hid (resB s = true) := decide_eq_true (.inr (.inr h2))
    have t2 := seq_t h2
    clear h0 h1 h2
    go_enter Tryz.func93, Tryz.ntmps93
    go_wp2_with fail
    refine wp_loop_rounds 4 ?_
    rw [rounds_succ]
    go_wp2_with fail
    rw [rounds_succ]
    go_wp2_with fail
    rw [rounds_succ]
    go_wp2_with fail
    go_ret
    exact ⟨by rw [H.out]; rfl, rfl⟩
  have t2 := seq_f h2
  have H : Hid (resB s = false) := decide_eq_false (by simp [h0, h1, h2])
  clear h0 h1 h2
  go_enter Tryz.func93, Tryz.ntmps93
  go_wp2_with fail
  refine wp_loop_rounds 4 ?_
  rw [rounds_succ]
  go_wp2_with fail
  rw [rounds_succ]
  go_wp2_with fail
  rw [rounds_succ]
  go_wp2_with fail
  rw [rounds_succ]
  go_wp2_with fail
  go_ret
  exact ⟨by rw [H.out]; rfl, rfl⟩

def isId (s : ByteArray) : Bool := consB true ⟨#[95, 45, 46, 47, 61]⟩ 128 s.data.toList
def isName (s : ByteArray) : Bool := consB false ⟨#[95]⟩ 64 s.data.toList && smallB (s.data.toList.getD 0 0) && !resB s
theorem ResT.below {w w' : World} {B : Nat} (h : ResT w) (hb : Below B w w') (hB : 1 < B) : ResT w' :=
  ⟨(hb.cell (by exact hB)).trans h.1, (hb.cell (by exact hB)).trans h.2.1, (hb.cell (by exact hB)).trans h.2.2⟩
theorem ResT.lt {w : World} (h : ResT w) : 1 < w.heap.size := by
  rcases Nat.lt_or_ge 1 w.heap.size with h' | h'
  · exact h'
  · have := h.1; simp [World.cell?, Array.getElem?_eq_none h'] at this

set_option maxRecDepth 100000 in
theorem isName_any (s : ByteArray) (w : World) (hr : ResT w) : Calls Tryz.prog 73 #[.string s] w fun e w' => e = .returned (.bool (isName s)) ∧ Below w.heap.size w w' := by
  have HC := Lib.hid (fun w => cons_any false ⟨#[95]⟩ s 64 (by omega) w)
  have HR := Lib.hid hr
  have HL := Lib.hid hr.lt
  have hsl : s.data.toList.length = s.size := by rw [Array.length_toList]; rfl
  by_cases h1 : consB false ⟨#[95]⟩ 64 s.data.toList = true
  · have hlen := (of_decide_eq_true h1).1
    have h0 : 0 < s.size := by omega
    have h0' : (0 : Int) < s.size := by omega
    have H1 := Lib.hid h1
    have hx : s[0] = s.data.toList.getD 0 0 := by
      rw [List.getD_eq_getElem?_getD, List.getElem?_eq_getElem (by omega)]; rfl
    have HX := Lib.hid hx
    have HN : Hid (isName s = (smallB s[0] && !resB s)) := by show isName s = _; unfold isName; rw [h1, hx]; rfl
    clear h1 hlen hr hx hsl
    go_enter Tryz.func73, Tryz.ntmps73
    go_wp2_with fail
    refine (HC.out _).mono ?_
    rintro e w1 ⟨rfl, B1⟩
    rw [H1.out]
    have HR1 := Lib.hid (HR.out.below B1 HL.out)
    go_wp2_with fail
    refine (small_any s[0] _).mono ?_
    rintro e w2 ⟨rfl, rfl⟩
    by_cases hs : smallB s[0] = true
    · rw [hs]
      have HN2 : Hid (isName s = !resB s) := by show isName s = _; rw [HN.out, hs]; rfl
      clear hs HN
      go_wp2_with fail
      refine (res_any s _ HR1.out).mono ?_
      rintro e w3 ⟨rfl, rfl⟩
      go_wp2_with fail
      go_ret
      exact ⟨by rw [HN2.out]; rfl, B1⟩
    · have hs' : smallB s[0] = false := by simpa using hs
      rw [hs']
      have HN2 : Hid (isName s = false) := by show isName s = _; rw [HN.out, hs']; rfl
      clear hs hs' HN
      go_wp2_with fail
      go_ret
      exact ⟨by rw [HN2.out]; rfl, B1⟩
  · have h1' : consB false ⟨#[95]⟩ 64 s.data.toList = false := by simpa using h1
    have H1 := Lib.hid h1'
    have HN : Hid (isName s = false) := by show isName s = _; unfold isName; rw [h1']; rfl
    clear h1 h1' hr hsl
    go_enter Tryz.func73, Tryz.ntmps73
    go_wp2_with fail
    refine (HC.out _).mono ?_
    rintro e w1 ⟨rfl, B1⟩
    rw [H1.out]
    go_wp2_with fail
    go_ret
    exact ⟨by rw [HN.out]; rfl, B1⟩
end Go.Proofs.YtdnmgemjhpkekaaGreatDoor
