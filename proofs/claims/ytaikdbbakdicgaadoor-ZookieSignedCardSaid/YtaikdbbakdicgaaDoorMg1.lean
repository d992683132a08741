/-
  The closures of base.regroup: one takes a group and emits whole groups, the other tells what is left.
-/
import Derived.Test.YtaikdbbakdicgaaDoorMg0
import Derived.StillTailTactics
import Derived.LoopN
import Derived.Shelf.Small.Strs
import Derived.Shelf.Strings.Search1
import Derived.Test.YtaikdbbakdicgaaDoorProg
import Derived.Deep.MidRow
import Derived.Laws.Tables
import Derived.Lib.SmallJoins
namespace Go.Proofs.YtaikdbbakdicgaaDoor
open Go.ChangeShapes Go.WideShapes Go.ChangeAt Go.RowKit
set_option linter.unusedVariables false

/-- The five variables that the closures share, from block R on: in, out, emit, bits, size. -/
structure Mach (W : World) (R : Nat) (inn out : Int) (fv : Value) (bits size : Nat) : Prop where
  i : W.heap[R]? = some (.cells #[.int .i64 inn] 3 (0, 0))
  o : W.heap[R + 1]? = some (.cells #[.int .i64 out] 3 (0, 0))
  f : W.heap[R + 2]? = some (.cells #[fv] 84 (0, 0))
  b : W.heap[R + 3]? = some (.cells #[.int .i64 bits] 3 (0, 0))
  s : W.heap[R + 4]? = some (.cells #[.int .i64 size] 3 (0, 0))

theorem heap_cell {W : World} {k : Nat} {v : Value} {t : TypeId} (h : W.heap[k]? = some (.cells #[v] t (0, 0))) : W.cell? ⟨k, 0, none⟩ = some v := by
  rw [cell_of_row _ _ _ _ _ _ h]; rfl
theorem heap_free {W : World} {k : Nat} {v : Value} {t : TypeId} (h : W.heap[k]? = some (.cells #[v] t (0, 0))) : W.frozen? ⟨k, 0, none⟩ = false := by
  simp [World.frozen?, h]
theorem heap_set {W : World} {k : Nat} {v u : Value} {t : TypeId} (h : W.heap[k]? = some (.cells #[v] t (0, 0))) : (W.setCell ⟨k, 0, none⟩ u).heap[k]? = some (.cells #[u] t (0, 0)) := by
  simp only [World.setCell, Array.getElem?_modify, h]; simp
theorem heap_other {W : World} {k j : Nat} {u : Value} (h : j ≠ k) : (W.setCell ⟨k, 0, none⟩ u).heap[j]? = W.heap[j]? := Below.heap_setCell W ⟨k, 0, none⟩ u j h

theorem Mach.kept {W W' : World} {R base tb : Nat} {inn out : Int} {fv : Value} {bits size : Nat} (h : Mach W R inn out fv bits size) (hk : Kept base tb W W') (ht : tb < R) : Mach W' R inn out fv bits size := by
  have go : ∀ (k : Nat) (v : Value) (t : TypeId), R ≤ k → t ≠ 5 → W.heap[k]? = some (.cells #[v] t (0, 0)) → W'.heap[k]? = some (.cells #[v] t (0, 0)) := by
    intro k v t hR ht' hv
    refine (hk.block k (Array.getElem?_eq_some_iff.1 hv).1 (by omega) (.inr ?_)).trans hv
    rintro ⟨cur, fr, e⟩
    rw [hv] at e
    simp only [Option.some.injEq, Obj.cells.injEq] at e
    exact ht' e.2.1
  exact ⟨go _ _ _ (Nat.le_refl _) (by decide) h.i, go _ _ _ (by omega) (by decide) h.o, go _ _ _ (by omega) (by decide) h.f, go _ _ _ (by omega) (by decide) h.b, go _ _ _ (by omega) (by decide) h.s⟩
theorem Mach.setB {W : World} {R : Nat} {inn out : Int} {fv : Value} {bits size : Nat} (h : Mach W R inn out fv bits size) (n : Nat) : Mach (W.setCell ⟨R + 3, 0, none⟩ (.int .i64 n)) R inn out fv n size :=
  ⟨(heap_other (by omega)).trans h.i, (heap_other (by omega)).trans h.o, (heap_other (by omega)).trans h.f, heap_set h.b, (heap_other (by omega)).trans h.s⟩
theorem Mach.setS {W : World} {R : Nat} {inn out : Int} {fv : Value} {bits size : Nat} (h : Mach W R inn out fv bits size) (n : Nat) : Mach (W.setCell ⟨R + 4, 0, none⟩ (.int .i64 n)) R inn out fv bits n :=
  ⟨(heap_other (by omega)).trans h.i, (heap_other (by omega)).trans h.o, (heap_other (by omega)).trans h.f, (heap_other (by omega)).trans h.b, heap_set h.s⟩
theorem Mach.drewN {W : World} {R : Nat} {inn out : Int} {fv : Value} {bits size : Nat} (h : Mach W R inn out fv bits size) (n : Nat) : Mach (W.drewN n) R inn out fv bits size := ⟨h.i, h.o, h.f, h.b, h.s⟩
theorem TV.other {W : World} {tb base k : Nat} {acc : List UInt8} {v u : Value} (h : TV W tb base acc) (ht : tb < k) (hk : W.heap[k]? = some (.cells #[v] 3 (0, 0))) : TV (W.setCell ⟨k, 0, none⟩ u) tb base acc := by
  obtain ⟨h1, w, h2, h3⟩ := h
  refine ⟨h1, w, (heap_other (by omega)).trans h2, h3.1, ?_⟩
  rcases h3.2 with h | ⟨g, cap, cur, rfl, a1, a2, r⟩
  · exact .inl h
  · refine .inr ⟨g, cap, cur, rfl, a1, (heap_other ?_).trans a2, r⟩
    rintro rfl
    rw [hk] at a2
    simp at a2

/-- Nothing has changed but block tb, blocks R + 3 and R + 4, rows of bytes from base on, and new blocks. -/
structure Kept2 (base tb R : Nat) (W W' : World) : Prop where
  os : W'.os = W.os
  tape : W'.tape = W.tape
  output : W'.output = W.output
  size : W.heap.size ≤ W'.heap.size
  block : ∀ k, k < W.heap.size → k ≠ tb → k ≠ R + 3 → k ≠ R + 4 → (k < base ∨ ¬ ∃ cur fr, W.heap[k]? = some (.cells cur 5 fr)) → W'.heap[k]? = W.heap[k]?
theorem Kept2.refl (base tb R : Nat) (W : World) : Kept2 base tb R W W := ⟨rfl, rfl, rfl, Nat.le_refl _, fun _ _ _ _ _ _ => rfl⟩
theorem Kept2.trans {base tb R : Nat} {a b c : World} (h : Kept2 base tb R a b) (k : Kept2 base tb R b c) : Kept2 base tb R a c :=
  ⟨k.os.trans h.os, k.tape.trans h.tape, k.output.trans h.output, Nat.le_trans h.size k.size, fun i hi ht h3 h4 hc => by
    have h1 := h.block i hi ht h3 h4 hc
    have h2 := k.block i (Nat.lt_of_lt_of_le hi h.size) ht h3 h4 (by
      rcases hc with hc | hc
      · exact .inl hc
      · right; rw [h1]; exact hc)
    exact h2.trans h1⟩
theorem Kept2.of {base tb R : Nat} {W W' : World} (h : Kept base tb W W') : Kept2 base tb R W W' := ⟨h.os, h.tape, h.output, h.size, fun k h1 h2 _ _ h5 => h.block k h1 h2 h5⟩
theorem Kept2.drewN (base tb R : Nat) (W : World) (n : Nat) : Kept2 base tb R W (W.drewN n) := ⟨rfl, rfl, rfl, Nat.le_refl _, fun _ _ _ _ _ _ => rfl⟩
theorem Kept2.set3 (base tb R : Nat) (W : World) (u : Value) : Kept2 base tb R W (W.setCell ⟨R + 3, 0, none⟩ u) := ⟨rfl, rfl, rfl, by simp [World.setCell], fun _ _ _ h3 _ _ => heap_other h3⟩
theorem Kept2.set4 (base tb R : Nat) (W : World) (u : Value) : Kept2 base tb R W (W.setCell ⟨R + 4, 0, none⟩ u) := ⟨rfl, rfl, rfl, by simp [World.setCell], fun _ _ _ _ h4 _ => heap_other h4⟩

def TakePost (W : World) (R tb base : Nat) (inn out : Int) (fv : Value) (acc : List UInt8) (bits size : Nat) (e : Ending) (W' : World) : Prop :=
  e = .returned (.tuple #[]) ∧ TV W' tb base acc ∧ Mach W' R inn out fv bits size ∧ Kept2 base tb R W W'

theorem or_i64 {x g : Nat} (hx : x < 4294967296) (hg : g < 4294967296) : bits .or .i64 (x : Int) (g : Int) = ((x ||| g : Nat) : Int) := by
  have hlt : x ||| g < 2 ^ 32 := Nat.or_lt_two_pow (by omega) (by omega)
  have h1 : (BitVec.ofInt 64 (x : Int)).toNat = x := by
    rw [BitVec.ofInt_natCast, BitVec.toNat_ofNat]; exact Nat.mod_eq_of_lt (by omega)
  have h2 : (BitVec.ofInt 64 (g : Int)).toNat = g := by
    rw [BitVec.ofInt_natCast, BitVec.toNat_ofNat]; exact Nat.mod_eq_of_lt (by omega)
  show IntKind.i64.wrap ((BitVec.ofInt 64 (x : Int) ||| BitVec.ofInt 64 (g : Int)).toNat : Int) = _
  rw [BitVec.toNat_or, h1, h2, IntKind.wrap_i64]
  omega
theorem and_i64 {x g : Nat} (hx : x < 4294967296) (hg : g < 4294967296) : bits .and .i64 (x : Int) (g : Int) = ((x &&& g : Nat) : Int) := by
  have hlt : x &&& g < 2 ^ 32 := Nat.and_lt_two_pow _ (by omega)
  have h1 : (BitVec.ofInt 64 (x : Int)).toNat = x := by
    rw [BitVec.ofInt_natCast, BitVec.toNat_ofNat]; exact Nat.mod_eq_of_lt (by omega)
  have h2 : (BitVec.ofInt 64 (g : Int)).toNat = g := by
    rw [BitVec.ofInt_natCast, BitVec.toNat_ofNat]; exact Nat.mod_eq_of_lt (by omega)
  show IntKind.i64.wrap ((BitVec.ofInt 64 (x : Int) &&& BitVec.ofInt 64 (g : Int)).toNat : Int) = _
  rw [BitVec.toNat_and, h1, h2, IntKind.wrap_i64]
  omega
theorem or256 {b g : Nat} (hb : b < 64) (hg : g < 256) : bits .or .i64 ((b : Int) * 256) (g : Int) = ((b * 256 + g : Nat) : Int) := by
  have e : ((b : Int) * 256) = ((b * 256 : Nat) : Int) := by omega
  rw [e, or_i64 (by omega) (by omega)]
  congr 1
  have := Nat.two_pow_add_eq_or_of_lt (i := 8) (b := g) (by omega) b
  rw [show b * 256 = 2 ^ 8 * b from by omega]; exact this.symm
theorem or64 {b g : Nat} (hb : b < 64) (hg : g < 64) : bits .or .i64 ((b : Int) * 64) (g : Int) = ((b * 64 + g : Nat) : Int) := by
  have e : ((b : Int) * 64) = ((b * 64 : Nat) : Int) := by omega
  rw [e, or_i64 (by omega) (by omega)]
  congr 1
  have := Nat.two_pow_add_eq_or_of_lt (i := 6) (b := g) (by omega) b
  rw [show b * 64 = 2 ^ 6 * b from by omega]; exact this.symm
theorem mask {v : Nat} (hv : v < 65536) (k : Nat) (m : Nat) (hm : m = 2 ^ k - 1) (hk : k ≤ 12) : bits .and .i64 (v : Int) ((m : Nat) : Int) = ((v % 2 ^ k : Nat) : Int) := by
  have h2 : 2 ^ k ≤ 2 ^ 12 := Nat.pow_le_pow_right (by decide) hk
  rw [and_i64 (by omega) (by omega), hm, Nat.and_two_pow_sub_one_eq_mod]

-- THE WALKS OF THE TAKING CLOSURE, BY PROGRAM (wip/tools/gen_base.py)
set_option maxRecDepth 100000 in
set_option maxHeartbeats 1600000 in
theorem takeS0 {W : World} {R tb base g b : Nat} {acc : List UInt8} (h : TV W tb base acc) (hm : Mach W R 8 6 (.func (.func 48) #[] #[.pointer (some ⟨tb, 0, none⟩)]) b 0) (ht : tb < R) (hb : b < 1) (hg : g < 256) (hl : acc.length ≤ 140737488354000) :
    Calls Tryd.prog 63 #[.int .i64 g, .pointer (some ⟨R + 3, 0, none⟩), .pointer (some ⟨R, 0, none⟩), .pointer (some ⟨R + 4, 0, none⟩), .pointer (some ⟨R + 1, 0, none⟩), .pointer (some ⟨R + 2, 0, none⟩)] W
      (TakePost W R tb base 8 6 (.func (.func 48) #[] #[.pointer (some ⟨tb, 0, none⟩)]) (acc ++ [sgn ((b * 256 + g) / 4)]) ((b * 256 + g) % 4) 2) := by
  have c0 := heap_cell hm.i
  have c3 := heap_cell hm.b
  have c4 := heap_cell hm.s
  have f3 := heap_free hm.b
  have f4 := heap_free hm.s
  have hg0 : (0 : Int) ≤ g := by omega
  have hg1 : (g : Int) < 256 := by omega
  have hb0 : (0 : Int) ≤ b := by omega
  have hb1 : (b : Int) < 1 := by omega
  obtain ⟨v, hv⟩ : ∃ v, v = b * 256 + g := ⟨_, rfl⟩
  have hor := or256 (b := b) (g := g) (by omega) hg
  rw [← hv] at hor
  have hvl : v < 256 := by omega
  have HV := Lib.hid hv
  clear hv
  go_enter Tryd.func63, Tryd.ntmps63
  go_wp2_with fail
  go_region
  go_wp2_with fail
  obtain ⟨W1, hW1⟩ : ∃ W1, W1 = ((W.setCell ⟨R + 3, 0, none⟩ (.int .i64 v)).setCell ⟨R + 4, 0, none⟩ (.int .i64 8)).drew := ⟨_, rfl⟩
  rw [← hW1]
  have m1 : Mach W1 R 8 6 (.func (.func 48) #[] #[.pointer (some ⟨tb, 0, none⟩)]) v 8 := by rw [hW1]; exact ((hm.setB v).setS 8).drewN 1
  have t1 : TV W1 tb base acc := by rw [hW1]; exact (h.other (k := R + 3) (by omega) hm.b).other (k := R + 4) (by omega) (hm.setB v).s
  have k1 : Kept2 base tb R W W1 := by rw [hW1]; exact ((Kept2.set3 base tb R W _).trans (Kept2.set4 base tb R _ _)).trans (Kept2.drewN base tb R _ 1)
  clear hW1 c0 c3 c4 f3 f4 hor hm h
  refine wp_loop_rounds 2 ?_
  rw [rounds_succ]
  have c1 := heap_cell m1.o
  have c4 := heap_cell m1.s
  have f4 := heap_free m1.s
  go_wp2_with fail
  obtain ⟨X0, hX0⟩ : ∃ X, X = W1.setCell ⟨R + 4, 0, none⟩ (.int .i64 2) := ⟨_, rfl⟩
  rw [← hX0]
  have mx0 : Mach X0 R 8 6 (.func (.func 48) #[] #[.pointer (some ⟨tb, 0, none⟩)]) v 2 := by rw [hX0]; exact m1.setS 2
  have tx0 : TV X0 tb base acc := by rw [hX0]; exact t1.other (k := R + 4) (by omega) m1.s
  have kx0 : Kept2 base tb R W X0 := by rw [hX0]; exact k1.trans (Kept2.set4 base tb R _ _)
  clear hX0 c1 c4 f4 m1 t1 k1
  have c2 := heap_cell mx0.f
  have c3 := heap_cell mx0.b
  have c4 := heap_cell mx0.s
  go_still_tail 4, (by kernel_rfl)
  change wpList _ _ _ _ _ X0.drew
  go_wp2_with fail
  refine (emitS (g := (v / 4)) (by exact tx0) (by omega) (by first | omega | (simp; omega))).mono ?_
  rintro e w0 ⟨rfl, ty0, ky0⟩
  have my0 : Mach w0 R 8 6 (.func (.func 48) #[] #[.pointer (some ⟨tb, 0, none⟩)]) v 2 := (mx0.drewN 1).kept ky0 ht
  have kz0 : Kept2 base tb R W w0 := (kx0.trans (Kept2.drewN base tb R X0 1)).trans (Kept2.of ky0)
  clear ky0 mx0 tx0 kx0 c2 c3 c4
  have c3 := heap_cell my0.b
  have c4 := heap_cell my0.s
  have f3 := heap_free my0.b
  obtain ⟨r0, HR0, hmask0⟩ : ∃ r : Nat, Hid (r = v % 4) ∧ bits .and .i64 (v : Int) 3 = (r : Int) := ⟨_, rfl, (mask (v := v) (by omega) 2 3 (by decide) (by decide))⟩
  have hr0 : r0 < 4 := by have := HR0.out; omega
  go_wp2_with fail
  go_region
  go_wp2_with fail
  obtain ⟨Y0, hY0⟩ : ∃ Y, Y = (w0.setCell ⟨R + 3, 0, none⟩ (.int .i64 r0)).drew := ⟨_, rfl⟩
  rw [← hY0]
  have mm0 : Mach Y0 R 8 6 (.func (.func 48) #[] #[.pointer (some ⟨tb, 0, none⟩)]) r0 2 := by rw [hY0]; exact (my0.setB r0).drewN 1
  have tt0 : TV Y0 tb base (acc ++ [sgn (v / 4)]) := by rw [hY0]; exact ty0.other (k := R + 3) (by omega) my0.b
  have kk0 : Kept2 base tb R W Y0 := by rw [hY0]; exact (kz0.trans (Kept2.set3 base tb R _ _)).trans (Kept2.drewN base tb R _ 1)
  clear hY0 c3 c4 f3 hmask0 my0 ty0 kz0
  rw [rounds_succ]
  have c1 := heap_cell mm0.o
  have c4 := heap_cell mm0.s
  go_wp2_with fail
  go_end0
  refine ⟨rfl, ?_, ?_, kk0⟩
  · rw [HV.out] at tt0; exact tt0
  · rw [HR0.out, HV.out] at mm0; exact mm0

set_option maxRecDepth 100000 in
set_option maxHeartbeats 1600000 in
theorem takeS2 {W : World} {R tb base g b : Nat} {acc : List UInt8} (h : TV W tb base acc) (hm : Mach W R 8 6 (.func (.func 48) #[] #[.pointer (some ⟨tb, 0, none⟩)]) b 2) (ht : tb < R) (hb : b < 4) (hg : g < 256) (hl : acc.length ≤ 140737488354000) :
    Calls Tryd.prog 63 #[.int .i64 g, .pointer (some ⟨R + 3, 0, none⟩), .pointer (some ⟨R, 0, none⟩), .pointer (some ⟨R + 4, 0, none⟩), .pointer (some ⟨R + 1, 0, none⟩), .pointer (some ⟨R + 2, 0, none⟩)] W
      (TakePost W R tb base 8 6 (.func (.func 48) #[] #[.pointer (some ⟨tb, 0, none⟩)]) (acc ++ [sgn ((b * 256 + g) / 16)]) ((b * 256 + g) % 16) 4) := by
  have c0 := heap_cell hm.i
  have c3 := heap_cell hm.b
  have c4 := heap_cell hm.s
  have f3 := heap_free hm.b
  have f4 := heap_free hm.s
  have hg0 : (0 : Int) ≤ g := by omega
  have hg1 : (g : Int) < 256 := by omega
  have hb0 : (0 : Int) ≤ b := by omega
  have hb1 : (b : Int) < 4 := by omega
  obtain ⟨v, hv⟩ : ∃ v, v = b * 256 + g := ⟨_, rfl⟩
  have hor := or256 (b := b) (g := g) (by omega) hg
  rw [← hv] at hor
  have hvl : v < 1024 := by omega
  have HV := Lib.hid hv
  clear hv
  go_enter Tryd.func63, Tryd.ntmps63
  go_wp2_with fail
  go_region
  go_wp2_with fail
  obtain ⟨W1, hW1⟩ : ∃ W1, W1 = ((W.setCell ⟨R + 3, 0, none⟩ (.int .i64 v)).setCell ⟨R + 4, 0, none⟩ (.int .i64 10)).drew := ⟨_, rfl⟩
  rw [← hW1]
  have m1 : Mach W1 R 8 6 (.func (.func 48) #[] #[.pointer (some ⟨tb, 0, none⟩)]) v 10 := by rw [hW1]; exact ((hm.setB v).setS 10).drewN 1
  have t1 : TV W1 tb base acc := by rw [hW1]; exact (h.other (k := R + 3) (by omega) hm.b).other (k := R + 4) (by omega) (hm.setB v).s
  have k1 : Kept2 base tb R W W1 := by rw [hW1]; exact ((Kept2.set3 base tb R W _).trans (Kept2.set4 base tb R _ _)).trans (Kept2.drewN base tb R _ 1)
  clear hW1 c0 c3 c4 f3 f4 hor hm h
  refine wp_loop_rounds 2 ?_
  rw [rounds_succ]
  have c1 := heap_cell m1.o
  have c4 := heap_cell m1.s
  have f4 := heap_free m1.s
  go_wp2_with fail
  obtain ⟨X0, hX0⟩ : ∃ X, X = W1.setCell ⟨R + 4, 0, none⟩ (.int .i64 4) := ⟨_, rfl⟩
  rw [← hX0]
  have mx0 : Mach X0 R 8 6 (.func (.func 48) #[] #[.pointer (some ⟨tb, 0, none⟩)]) v 4 := by rw [hX0]; exact m1.setS 4
  have tx0 : TV X0 tb base acc := by rw [hX0]; exact t1.other (k := R + 4) (by omega) m1.s
  have kx0 : Kept2 base tb R W X0 := by rw [hX0]; exact k1.trans (Kept2.set4 base tb R _ _)
  clear hX0 c1 c4 f4 m1 t1 k1
  have c2 := heap_cell mx0.f
  have c3 := heap_cell mx0.b
  have c4 := heap_cell mx0.s
  go_still_tail 4, (by kernel_rfl)
  change wpList _ _ _ _ _ X0.drew
  go_wp2_with fail
  refine (emitS (g := (v / 16)) (by exact tx0) (by omega) (by first | omega | (simp; omega))).mono ?_
  rintro e w0 ⟨rfl, ty0, ky0⟩
  have my0 : Mach w0 R 8 6 (.func (.func 48) #[] #[.pointer (some ⟨tb, 0, none⟩)]) v 4 := (mx0.drewN 1).kept ky0 ht
  have kz0 : Kept2 base tb R W w0 := (kx0.trans (Kept2.drewN base tb R X0 1)).trans (Kept2.of ky0)
  clear ky0 mx0 tx0 kx0 c2 c3 c4
  have c3 := heap_cell my0.b
  have c4 := heap_cell my0.s
  have f3 := heap_free my0.b
  obtain ⟨r0, HR0, hmask0⟩ : ∃ r : Nat, Hid (r = v % 16) ∧ bits .and .i64 (v : Int) 15 = (r : Int) := ⟨_, rfl, (mask (v := v) (by omega) 4 15 (by decide) (by decide))⟩
  have hr0 : r0 < 16 := by have := HR0.out; omega
  go_wp2_with fail
  go_region
  go_wp2_with fail
  obtain ⟨Y0, hY0⟩ : ∃ Y, Y = (w0.setCell ⟨R + 3, 0, none⟩ (.int .i64 r0)).drew := ⟨_, rfl⟩
  rw [← hY0]
  have mm0 : Mach Y0 R 8 6 (.func (.func 48) #[] #[.pointer (some ⟨tb, 0, none⟩)]) r0 4 := by rw [hY0]; exact (my0.setB r0).drewN 1
  have tt0 : TV Y0 tb base (acc ++ [sgn (v / 16)]) := by rw [hY0]; exact ty0.other (k := R + 3) (by omega) my0.b
  have kk0 : Kept2 base tb R W Y0 := by rw [hY0]; exact (kz0.trans (Kept2.set3 base tb R _ _)).trans (Kept2.drewN base tb R _ 1)
  clear hY0 c3 c4 f3 hmask0 my0 ty0 kz0
  rw [rounds_succ]
  have c1 := heap_cell mm0.o
  have c4 := heap_cell mm0.s
  go_wp2_with fail
  go_end0
  refine ⟨rfl, ?_, ?_, kk0⟩
  · rw [HV.out] at tt0; exact tt0
  · rw [HR0.out, HV.out] at mm0; exact mm0

set_option maxRecDepth 100000 in
set_option maxHeartbeats 1600000 in
theorem takeS4 {W : World} {R tb base g b : Nat} {acc : List UInt8} (h : TV W tb base acc) (hm : Mach W R 8 6 (.func (.func 48) #[] #[.pointer (some ⟨tb, 0, none⟩)]) b 4) (ht : tb < R) (hb : b < 16) (hg : g < 256) (hl : acc.length ≤ 140737488354000) :
    Calls Tryd.prog 63 #[.int .i64 g, .pointer (some ⟨R + 3, 0, none⟩), .pointer (some ⟨R, 0, none⟩), .pointer (some ⟨R + 4, 0, none⟩), .pointer (some ⟨R + 1, 0, none⟩), .pointer (some ⟨R + 2, 0, none⟩)] W
      (TakePost W R tb base 8 6 (.func (.func 48) #[] #[.pointer (some ⟨tb, 0, none⟩)]) ((acc ++ [sgn ((b * 256 + g) / 64)]) ++ [sgn ((b * 256 + g) % 64)]) 0 0) := by
  have c0 := heap_cell hm.i
  have c3 := heap_cell hm.b
  have c4 := heap_cell hm.s
  have f3 := heap_free hm.b
  have f4 := heap_free hm.s
  have hg0 : (0 : Int) ≤ g := by omega
  have hg1 : (g : Int) < 256 := by omega
  have hb0 : (0 : Int) ≤ b := by omega
  have hb1 : (b : Int) < 16 := by omega
  obtain ⟨v, hv⟩ : ∃ v, v = b * 256 + g := ⟨_, rfl⟩
  have hor := or256 (b := b) (g := g) (by omega) hg
  rw [← hv] at hor
  have hvl : v < 4096 := by omega
  have HV := Lib.hid hv
  clear hv
  go_enter Tryd.func63, Tryd.ntmps63
  go_wp2_with fail
  go_region
  go_wp2_with fail
  obtain ⟨W1, hW1⟩ : ∃ W1, W1 = ((W.setCell ⟨R + 3, 0, none⟩ (.int .i64 v)).setCell ⟨R + 4, 0, none⟩ (.int .i64 12)).drew := ⟨_, rfl⟩
  rw [← hW1]
  have m1 : Mach W1 R 8 6 (.func (.func 48) #[] #[.pointer (some ⟨tb, 0, none⟩)]) v 12 := by rw [hW1]; exact ((hm.setB v).setS 12).drewN 1
  have t1 : TV W1 tb base acc := by rw [hW1]; exact (h.other (k := R + 3) (by omega) hm.b).other (k := R + 4) (by omega) (hm.setB v).s
  have k1 : Kept2 base tb R W W1 := by rw [hW1]; exact ((Kept2.set3 base tb R W _).trans (Kept2.set4 base tb R _ _)).trans (Kept2.drewN base tb R _ 1)
  clear hW1 c0 c3 c4 f3 f4 hor hm h
  refine wp_loop_rounds 3 ?_
  rw [rounds_succ]
  have c1 := heap_cell m1.o
  have c4 := heap_cell m1.s
  have f4 := heap_free m1.s
  go_wp2_with fail
  obtain ⟨X0, hX0⟩ : ∃ X, X = W1.setCell ⟨R + 4, 0, none⟩ (.int .i64 6) := ⟨_, rfl⟩
  rw [← hX0]
  have mx0 : Mach X0 R 8 6 (.func (.func 48) #[] #[.pointer (some ⟨tb, 0, none⟩)]) v 6 := by rw [hX0]; exact m1.setS 6
  have tx0 : TV X0 tb base acc := by rw [hX0]; exact t1.other (k := R + 4) (by omega) m1.s
  have kx0 : Kept2 base tb R W X0 := by rw [hX0]; exact k1.trans (Kept2.set4 base tb R _ _)
  clear hX0 c1 c4 f4 m1 t1 k1
  have c2 := heap_cell mx0.f
  have c3 := heap_cell mx0.b
  have c4 := heap_cell mx0.s
  go_still_tail 4, (by kernel_rfl)
  change wpList _ _ _ _ _ X0.drew
  go_wp2_with fail
  refine (emitS (g := (v / 64)) (by exact tx0) (by omega) (by first | omega | (simp; omega))).mono ?_
  rintro e w0 ⟨rfl, ty0, ky0⟩
  have my0 : Mach w0 R 8 6 (.func (.func 48) #[] #[.pointer (some ⟨tb, 0, none⟩)]) v 6 := (mx0.drewN 1).kept ky0 ht
  have kz0 : Kept2 base tb R W w0 := (kx0.trans (Kept2.drewN base tb R X0 1)).trans (Kept2.of ky0)
  clear ky0 mx0 tx0 kx0 c2 c3 c4
  have c3 := heap_cell my0.b
  have c4 := heap_cell my0.s
  have f3 := heap_free my0.b
  obtain ⟨r0, HR0, hmask0⟩ : ∃ r : Nat, Hid (r = v % 64) ∧ bits .and .i64 (v : Int) 63 = (r : Int) := ⟨_, rfl, (mask (v := v) (by omega) 6 63 (by decide) (by decide))⟩
  have hr0 : r0 < 64 := by have := HR0.out; omega
  go_wp2_with fail
  go_region
  go_wp2_with fail
  obtain ⟨Y0, hY0⟩ : ∃ Y, Y = (w0.setCell ⟨R + 3, 0, none⟩ (.int .i64 r0)).drew := ⟨_, rfl⟩
  rw [← hY0]
  have mm0 : Mach Y0 R 8 6 (.func (.func 48) #[] #[.pointer (some ⟨tb, 0, none⟩)]) r0 6 := by rw [hY0]; exact (my0.setB r0).drewN 1
  have tt0 : TV Y0 tb base (acc ++ [sgn (v / 64)]) := by rw [hY0]; exact ty0.other (k := R + 3) (by omega) my0.b
  have kk0 : Kept2 base tb R W Y0 := by rw [hY0]; exact (kz0.trans (Kept2.set3 base tb R _ _)).trans (Kept2.drewN base tb R _ 1)
  clear hY0 c3 c4 f3 hmask0 my0 ty0 kz0
  rw [rounds_succ]
  have c1 := heap_cell mm0.o
  have c4 := heap_cell mm0.s
  have f4 := heap_free mm0.s
  go_wp2_with fail
  obtain ⟨X1, hX1⟩ : ∃ X, X = Y0.setCell ⟨R + 4, 0, none⟩ (.int .i64 0) := ⟨_, rfl⟩
  rw [← hX1]
  have mx1 : Mach X1 R 8 6 (.func (.func 48) #[] #[.pointer (some ⟨tb, 0, none⟩)]) r0 0 := by rw [hX1]; exact mm0.setS 0
  have tx1 : TV X1 tb base (acc ++ [sgn (v / 64)]) := by rw [hX1]; exact tt0.other (k := R + 4) (by omega) mm0.s
  have kx1 : Kept2 base tb R W X1 := by rw [hX1]; exact kk0.trans (Kept2.set4 base tb R _ _)
  clear hX1 c1 c4 f4 mm0 tt0 kk0
  have c2 := heap_cell mx1.f
  have c3 := heap_cell mx1.b
  have c4 := heap_cell mx1.s
  go_still_tail 4, (by kernel_rfl)
  change wpList _ _ _ _ _ X1.drew
  go_wp2_with fail
  refine (emitS (g := r0) (by exact tx1) (by omega) (by first | omega | (simp; omega))).mono ?_
  rintro e w1 ⟨rfl, ty1, ky1⟩
  have my1 : Mach w1 R 8 6 (.func (.func 48) #[] #[.pointer (some ⟨tb, 0, none⟩)]) r0 0 := (mx1.drewN 1).kept ky1 ht
  have kz1 : Kept2 base tb R W w1 := (kx1.trans (Kept2.drewN base tb R X1 1)).trans (Kept2.of ky1)
  clear ky1 mx1 tx1 kx1 c2 c3 c4
  have c3 := heap_cell my1.b
  have c4 := heap_cell my1.s
  have f3 := heap_free my1.b
  obtain ⟨r1, HR1, hmask1⟩ : ∃ r : Nat, Hid (r = 0) ∧ bits .and .i64 (r0 : Int) 0 = (r : Int) := ⟨_, rfl, (mask (v := r0) (by omega) 0 0 (by decide) (by decide)).trans (by rw [Nat.pow_zero, Nat.mod_one])⟩
  have hr1 : r1 < 1 := by have := HR1.out; omega
  go_wp2_with fail
  go_region
  go_wp2_with fail
  obtain ⟨Y1, hY1⟩ : ∃ Y, Y = (w1.setCell ⟨R + 3, 0, none⟩ (.int .i64 r1)).drew := ⟨_, rfl⟩
  rw [← hY1]
  have mm1 : Mach Y1 R 8 6 (.func (.func 48) #[] #[.pointer (some ⟨tb, 0, none⟩)]) r1 0 := by rw [hY1]; exact (my1.setB r1).drewN 1
  have tt1 : TV Y1 tb base ((acc ++ [sgn (v / 64)]) ++ [sgn r0]) := by rw [hY1]; exact ty1.other (k := R + 3) (by omega) my1.b
  have kk1 : Kept2 base tb R W Y1 := by rw [hY1]; exact (kz1.trans (Kept2.set3 base tb R _ _)).trans (Kept2.drewN base tb R _ 1)
  clear hY1 c3 c4 f3 hmask1 my1 ty1 kz1
  rw [rounds_succ]
  have c1 := heap_cell mm1.o
  have c4 := heap_cell mm1.s
  go_wp2_with fail
  go_end0
  refine ⟨rfl, ?_, ?_, kk1⟩
  · rw [HR0.out, HV.out] at tt1; exact tt1
  · rw [HR1.out] at mm1; exact mm1

set_option maxRecDepth 100000 in
set_option maxHeartbeats 1600000 in
theorem takeB0 {W : World} {R tb base g b : Nat} {acc : List UInt8} (h : TV W tb base acc) (hm : Mach W R 6 8 (.func (.func 52) #[] #[.pointer (some ⟨tb, 0, none⟩)]) b 0) (ht : tb < R) (hb : b < 1) (hg : g < 64) (hl : acc.length ≤ 140737488354000) :
    Calls Tryd.prog 63 #[.int .i64 g, .pointer (some ⟨R + 3, 0, none⟩), .pointer (some ⟨R, 0, none⟩), .pointer (some ⟨R + 4, 0, none⟩), .pointer (some ⟨R + 1, 0, none⟩), .pointer (some ⟨R + 2, 0, none⟩)] W
      (TakePost W R tb base 6 8 (.func (.func 52) #[] #[.pointer (some ⟨tb, 0, none⟩)]) acc (b * 64 + g) 6) := by
  have c0 := heap_cell hm.i
  have c3 := heap_cell hm.b
  have c4 := heap_cell hm.s
  have f3 := heap_free hm.b
  have f4 := heap_free hm.s
  have hg0 : (0 : Int) ≤ g := by omega
  have hg1 : (g : Int) < 64 := by omega
  have hb0 : (0 : Int) ≤ b := by omega
  have hb1 : (b : Int) < 1 := by omega
  obtain ⟨v, hv⟩ : ∃ v, v = b * 64 + g := ⟨_, rfl⟩
  have hor := or64 (b := b) (g := g) (by omega) hg
  rw [← hv] at hor
  have hvl : v < 64 := by omega
  have HV := Lib.hid hv
  clear hv
  go_enter Tryd.func63, Tryd.ntmps63
  go_wp2_with fail
  go_region
  go_wp2_with fail
  obtain ⟨W1, hW1⟩ : ∃ W1, W1 = ((W.setCell ⟨R + 3, 0, none⟩ (.int .i64 v)).setCell ⟨R + 4, 0, none⟩ (.int .i64 6)).drew := ⟨_, rfl⟩
  rw [← hW1]
  have m1 : Mach W1 R 6 8 (.func (.func 52) #[] #[.pointer (some ⟨tb, 0, none⟩)]) v 6 := by rw [hW1]; exact ((hm.setB v).setS 6).drewN 1
  have t1 : TV W1 tb base acc := by rw [hW1]; exact (h.other (k := R + 3) (by omega) hm.b).other (k := R + 4) (by omega) (hm.setB v).s
  have k1 : Kept2 base tb R W W1 := by rw [hW1]; exact ((Kept2.set3 base tb R W _).trans (Kept2.set4 base tb R _ _)).trans (Kept2.drewN base tb R _ 1)
  clear hW1 c0 c3 c4 f3 f4 hor hm h
  refine wp_loop_rounds 1 ?_
  rw [rounds_succ]
  have c1 := heap_cell m1.o
  have c4 := heap_cell m1.s
  go_wp2_with fail
  go_end0
  refine ⟨rfl, ?_, ?_, k1⟩
  · exact t1
  · rw [HV.out] at m1; exact m1

set_option maxRecDepth 100000 in
set_option maxHeartbeats 1600000 in
theorem takeB2 {W : World} {R tb base g b : Nat} {acc : List UInt8} (h : TV W tb base acc) (hm : Mach W R 6 8 (.func (.func 52) #[] #[.pointer (some ⟨tb, 0, none⟩)]) b 2) (ht : tb < R) (hb : b < 4) (hg : g < 64) (hl : acc.length ≤ 140737488354000) :
    Calls Tryd.prog 63 #[.int .i64 g, .pointer (some ⟨R + 3, 0, none⟩), .pointer (some ⟨R, 0, none⟩), .pointer (some ⟨R + 4, 0, none⟩), .pointer (some ⟨R + 1, 0, none⟩), .pointer (some ⟨R + 2, 0, none⟩)] W
      (TakePost W R tb base 6 8 (.func (.func 52) #[] #[.pointer (some ⟨tb, 0, none⟩)]) (acc ++ [byt (b * 64 + g)]) 0 0) := by
  have c0 := heap_cell hm.i
  have c3 := heap_cell hm.b
  have c4 := heap_cell hm.s
  have f3 := heap_free hm.b
  have f4 := heap_free hm.s
  have hg0 : (0 : Int) ≤ g := by omega
  have hg1 : (g : Int) < 64 := by omega
  have hb0 : (0 : Int) ≤ b := by omega
  have hb1 : (b : Int) < 4 := by omega
  obtain ⟨v, hv⟩ : ∃ v, v = b * 64 + g := ⟨_, rfl⟩
  have hor := or64 (b := b) (g := g) (by omega) hg
  rw [← hv] at hor
  have hvl : v < 256 := by omega
  have HV := Lib.hid hv
  clear hv
  go_enter Tryd.func63, Tryd.ntmps63
  go_wp2_with fail
  go_region
  go_wp2_with fail
  obtain ⟨W1, hW1⟩ : ∃ W1, W1 = ((W.setCell ⟨R + 3, 0, none⟩ (.int .i64 v)).setCell ⟨R + 4, 0, none⟩ (.int .i64 8)).drew := ⟨_, rfl⟩
  rw [← hW1]
  have m1 : Mach W1 R 6 8 (.func (.func 52) #[] #[.pointer (some ⟨tb, 0, none⟩)]) v 8 := by rw [hW1]; exact ((hm.setB v).setS 8).drewN 1
  have t1 : TV W1 tb base acc := by rw [hW1]; exact (h.other (k := R + 3) (by omega) hm.b).other (k := R + 4) (by omega) (hm.setB v).s
  have k1 : Kept2 base tb R W W1 := by rw [hW1]; exact ((Kept2.set3 base tb R W _).trans (Kept2.set4 base tb R _ _)).trans (Kept2.drewN base tb R _ 1)
  clear hW1 c0 c3 c4 f3 f4 hor hm h
  refine wp_loop_rounds 2 ?_
  rw [rounds_succ]
  have c1 := heap_cell m1.o
  have c4 := heap_cell m1.s
  have f4 := heap_free m1.s
  go_wp2_with fail
  obtain ⟨X0, hX0⟩ : ∃ X, X = W1.setCell ⟨R + 4, 0, none⟩ (.int .i64 0) := ⟨_, rfl⟩
  rw [← hX0]
  have mx0 : Mach X0 R 6 8 (.func (.func 52) #[] #[.pointer (some ⟨tb, 0, none⟩)]) v 0 := by rw [hX0]; exact m1.setS 0
  have tx0 : TV X0 tb base acc := by rw [hX0]; exact t1.other (k := R + 4) (by omega) m1.s
  have kx0 : Kept2 base tb R W X0 := by rw [hX0]; exact k1.trans (Kept2.set4 base tb R _ _)
  clear hX0 c1 c4 f4 m1 t1 k1
  have c2 := heap_cell mx0.f
  have c3 := heap_cell mx0.b
  have c4 := heap_cell mx0.s
  go_still_tail 4, (by kernel_rfl)
  change wpList _ _ _ _ _ X0.drew
  go_wp2_with fail
  refine (emitB (g := v) (by exact tx0) (by omega) (by first | omega | (simp; omega))).mono ?_
  rintro e w0 ⟨rfl, ty0, ky0⟩
  have my0 : Mach w0 R 6 8 (.func (.func 52) #[] #[.pointer (some ⟨tb, 0, none⟩)]) v 0 := (mx0.drewN 1).kept ky0 ht
  have kz0 : Kept2 base tb R W w0 := (kx0.trans (Kept2.drewN base tb R X0 1)).trans (Kept2.of ky0)
  clear ky0 mx0 tx0 kx0 c2 c3 c4
  have c3 := heap_cell my0.b
  have c4 := heap_cell my0.s
  have f3 := heap_free my0.b
  obtain ⟨r0, HR0, hmask0⟩ : ∃ r : Nat, Hid (r = 0) ∧ bits .and .i64 (v : Int) 0 = (r : Int) := ⟨_, rfl, (mask (v := v) (by omega) 0 0 (by decide) (by decide)).trans (by rw [Nat.pow_zero, Nat.mod_one])⟩
  have hr0 : r0 < 1 := by have := HR0.out; omega
  go_wp2_with fail
  go_region
  go_wp2_with fail
  obtain ⟨Y0, hY0⟩ : ∃ Y, Y = (w0.setCell ⟨R + 3, 0, none⟩ (.int .i64 r0)).drew := ⟨_, rfl⟩
  rw [← hY0]
  have mm0 : Mach Y0 R 6 8 (.func (.func 52) #[] #[.pointer (some ⟨tb, 0, none⟩)]) r0 0 := by rw [hY0]; exact (my0.setB r0).drewN 1
  have tt0 : TV Y0 tb base (acc ++ [byt v]) := by rw [hY0]; exact ty0.other (k := R + 3) (by omega) my0.b
  have kk0 : Kept2 base tb R W Y0 := by rw [hY0]; exact (kz0.trans (Kept2.set3 base tb R _ _)).trans (Kept2.drewN base tb R _ 1)
  clear hY0 c3 c4 f3 hmask0 my0 ty0 kz0
  rw [rounds_succ]
  have c1 := heap_cell mm0.o
  have c4 := heap_cell mm0.s
  go_wp2_with fail
  go_end0
  refine ⟨rfl, ?_, ?_, kk0⟩
  · rw [HV.out] at tt0; exact tt0
  · rw [HR0.out] at mm0; exact mm0

set_option maxRecDepth 100000 in
set_option maxHeartbeats 1600000 in
theorem takeB4 {W : World} {R tb base g b : Nat} {acc : List UInt8} (h : TV W tb base acc) (hm : Mach W R 6 8 (.func (.func 52) #[] #[.pointer (some ⟨tb, 0, none⟩)]) b 4) (ht : tb < R) (hb : b < 16) (hg : g < 64) (hl : acc.length ≤ 140737488354000) :
    Calls Tryd.prog 63 #[.int .i64 g, .pointer (some ⟨R + 3, 0, none⟩), .pointer (some ⟨R, 0, none⟩), .pointer (some ⟨R + 4, 0, none⟩), .pointer (some ⟨R + 1, 0, none⟩), .pointer (some ⟨R + 2, 0, none⟩)] W
      (TakePost W R tb base 6 8 (.func (.func 52) #[] #[.pointer (some ⟨tb, 0, none⟩)]) (acc ++ [byt ((b * 64 + g) / 4)]) ((b * 64 + g) % 4) 2) := by
  have c0 := heap_cell hm.i
  have c3 := heap_cell hm.b
  have c4 := heap_cell hm.s
  have f3 := heap_free hm.b
  have f4 := heap_free hm.s
  have hg0 : (0 : Int) ≤ g := by omega
  have hg1 : (g : Int) < 64 := by omega
  have hb0 : (0 : Int) ≤ b := by omega
  have hb1 : (b : Int) < 16 := by omega
  obtain ⟨v, hv⟩ : ∃ v, v = b * 64 + g := ⟨_, rfl⟩
  have hor := or64 (b := b) (g := g) (by omega) hg
  rw [← hv] at hor
  have hvl : v < 1024 := by omega
  have HV := Lib.hid hv
  clear hv
  go_enter Tryd.func63, Tryd.ntmps63
  go_wp2_with fail
  go_region
  go_wp2_with fail
  obtain ⟨W1, hW1⟩ : ∃ W1, W1 = ((W.setCell ⟨R + 3, 0, none⟩ (.int .i64 v)).setCell ⟨R + 4, 0, none⟩ (.int .i64 10)).drew := ⟨_, rfl⟩
  rw [← hW1]
  have m1 : Mach W1 R 6 8 (.func (.func 52) #[] #[.pointer (some ⟨tb, 0, none⟩)]) v 10 := by rw [hW1]; exact ((hm.setB v).setS 10).drewN 1
  have t1 : TV W1 tb base acc := by rw [hW1]; exact (h.other (k := R + 3) (by omega) hm.b).other (k := R + 4) (by omega) (hm.setB v).s
  have k1 : Kept2 base tb R W W1 := by rw [hW1]; exact ((Kept2.set3 base tb R W _).trans (Kept2.set4 base tb R _ _)).trans (Kept2.drewN base tb R _ 1)
  clear hW1 c0 c3 c4 f3 f4 hor hm h
  refine wp_loop_rounds 2 ?_
  rw [rounds_succ]
  have c1 := heap_cell m1.o
  have c4 := heap_cell m1.s
  have f4 := heap_free m1.s
  go_wp2_with fail
  obtain ⟨X0, hX0⟩ : ∃ X, X = W1.setCell ⟨R + 4, 0, none⟩ (.int .i64 2) := ⟨_, rfl⟩
  rw [← hX0]
  have mx0 : Mach X0 R 6 8 (.func (.func 52) #[] #[.pointer (some ⟨tb, 0, none⟩)]) v 2 := by rw [hX0]; exact m1.setS 2
  have tx0 : TV X0 tb base acc := by rw [hX0]; exact t1.other (k := R + 4) (by omega) m1.s
  have kx0 : Kept2 base tb R W X0 := by rw [hX0]; exact k1.trans (Kept2.set4 base tb R _ _)
  clear hX0 c1 c4 f4 m1 t1 k1
  have c2 := heap_cell mx0.f
  have c3 := heap_cell mx0.b
  have c4 := heap_cell mx0.s
  go_still_tail 4, (by kernel_rfl)
  change wpList _ _ _ _ _ X0.drew
  go_wp2_with fail
  refine (emitB (g := (v / 4)) (by exact tx0) (by omega) (by first | omega | (simp; omega))).mono ?_
  rintro e w0 ⟨rfl, ty0, ky0⟩
  have my0 : Mach w0 R 6 8 (.func (.func 52) #[] #[.pointer (some ⟨tb, 0, none⟩)]) v 2 := (mx0.drewN 1).kept ky0 ht
  have kz0 : Kept2 base tb R W w0 := (kx0.trans (Kept2.drewN base tb R X0 1)).trans (Kept2.of ky0)
  clear ky0 mx0 tx0 kx0 c2 c3 c4
  have c3 := heap_cell my0.b
  have c4 := heap_cell my0.s
  have f3 := heap_free my0.b
  obtain ⟨r0, HR0, hmask0⟩ : ∃ r : Nat, Hid (r = v % 4) ∧ bits .and .i64 (v : Int) 3 = (r : Int) := ⟨_, rfl, (mask (v := v) (by omega) 2 3 (by decide) (by decide))⟩
  have hr0 : r0 < 4 := by have := HR0.out; omega
  go_wp2_with fail
  go_region
  go_wp2_with fail
  obtain ⟨Y0, hY0⟩ : ∃ Y, Y = (w0.setCell ⟨R + 3, 0, none⟩ (.int .i64 r0)).drew := ⟨_, rfl⟩
  rw [← hY0]
  have mm0 : Mach Y0 R 6 8 (.func (.func 52) #[] #[.pointer (some ⟨tb, 0, none⟩)]) r0 2 := by rw [hY0]; exact (my0.setB r0).drewN 1
  have tt0 : TV Y0 tb base (acc ++ [byt (v / 4)]) := by rw [hY0]; exact ty0.other (k := R + 3) (by omega) my0.b
  have kk0 : Kept2 base tb R W Y0 := by rw [hY0]; exact (kz0.trans (Kept2.set3 base tb R _ _)).trans (Kept2.drewN base tb R _ 1)
  clear hY0 c3 c4 f3 hmask0 my0 ty0 kz0
  rw [rounds_succ]
  have c1 := heap_cell mm0.o
  have c4 := heap_cell mm0.s
  go_wp2_with fail
  go_end0
  refine ⟨rfl, ?_, ?_, kk0⟩
  · rw [HV.out] at tt0; exact tt0
  · rw [HR0.out, HV.out] at mm0; exact mm0

set_option maxRecDepth 100000 in
set_option maxHeartbeats 1600000 in
theorem takeB6 {W : World} {R tb base g b : Nat} {acc : List UInt8} (h : TV W tb base acc) (hm : Mach W R 6 8 (.func (.func 52) #[] #[.pointer (some ⟨tb, 0, none⟩)]) b 6) (ht : tb < R) (hb : b < 64) (hg : g < 64) (hl : acc.length ≤ 140737488354000) :
    Calls Tryd.prog 63 #[.int .i64 g, .pointer (some ⟨R + 3, 0, none⟩), .pointer (some ⟨R, 0, none⟩), .pointer (some ⟨R + 4, 0, none⟩), .pointer (some ⟨R + 1, 0, none⟩), .pointer (some ⟨R + 2, 0, none⟩)] W
      (TakePost W R tb base 6 8 (.func (.func 52) #[] #[.pointer (some ⟨tb, 0, none⟩)]) (acc ++ [byt ((b * 64 + g) / 16)]) ((b * 64 + g) % 16) 4) := by
  have c0 := heap_cell hm.i
  have c3 := heap_cell hm.b
  have c4 := heap_cell hm.s
  have f3 := heap_free hm.b
  have f4 := heap_free hm.s
  have hg0 : (0 : Int) ≤ g := by omega
  have hg1 : (g : Int) < 64 := by omega
  have hb0 : (0 : Int) ≤ b := by omega
  have hb1 : (b : Int) < 64 := by omega
  obtain ⟨v, hv⟩ : ∃ v, v = b * 64 + g := ⟨_, rfl⟩
  have hor := or64 (b := b) (g := g) (by omega) hg
  rw [← hv] at hor
  have hvl : v < 4096 := by omega
  have HV := Lib.hid hv
  clear hv
  go_enter Tryd.func63, Tryd.ntmps63
  go_wp2_with fail
  go_region
  go_wp2_with fail
  obtain ⟨W1, hW1⟩ : ∃ W1, W1 = ((W.setCell ⟨R + 3, 0, none⟩ (.int .i64 v)).setCell ⟨R + 4, 0, none⟩ (.int .i64 12)).drew := ⟨_, rfl⟩
  rw [← hW1]
  have m1 : Mach W1 R 6 8 (.func (.func 52) #[] #[.pointer (some ⟨tb, 0, none⟩)]) v 12 := by rw [hW1]; exact ((hm.setB v).setS 12).drewN 1
  have t1 : TV W1 tb base acc := by rw [hW1]; exact (h.other (k := R + 3) (by omega) hm.b).other (k := R + 4) (by omega) (hm.setB v).s
  have k1 : Kept2 base tb R W W1 := by rw [hW1]; exact ((Kept2.set3 base tb R W _).trans (Kept2.set4 base tb R _ _)).trans (Kept2.drewN base tb R _ 1)
  clear hW1 c0 c3 c4 f3 f4 hor hm h
  refine wp_loop_rounds 2 ?_
  rw [rounds_succ]
  have c1 := heap_cell m1.o
  have c4 := heap_cell m1.s
  have f4 := heap_free m1.s
  go_wp2_with fail
  obtain ⟨X0, hX0⟩ : ∃ X, X = W1.setCell ⟨R + 4, 0, none⟩ (.int .i64 4) := ⟨_, rfl⟩
  rw [← hX0]
  have mx0 : Mach X0 R 6 8 (.func (.func 52) #[] #[.pointer (some ⟨tb, 0, none⟩)]) v 4 := by rw [hX0]; exact m1.setS 4
  have tx0 : TV X0 tb base acc := by rw [hX0]; exact t1.other (k := R + 4) (by omega) m1.s
  have kx0 : Kept2 base tb R W X0 := by rw [hX0]; exact k1.trans (Kept2.set4 base tb R _ _)
  clear hX0 c1 c4 f4 m1 t1 k1
  have c2 := heap_cell mx0.f
  have c3 := heap_cell mx0.b
  have c4 := heap_cell mx0.s
  go_still_tail 4, (by kernel_rfl)
  change wpList _ _ _ _ _ X0.drew
  go_wp2_with fail
  refine (emitB (g := (v / 16)) (by exact tx0) (by omega) (by first | omega | (simp; omega))).mono ?_
  rintro e w0 ⟨rfl, ty0, ky0⟩
  have my0 : Mach w0 R 6 8 (.func (.func 52) #[] #[.pointer (some ⟨tb, 0, none⟩)]) v 4 := (mx0.drewN 1).kept ky0 ht
  have kz0 : Kept2 base tb R W w0 := (kx0.trans (Kept2.drewN base tb R X0 1)).trans (Kept2.of ky0)
  clear ky0 mx0 tx0 kx0 c2 c3 c4
  have c3 := heap_cell my0.b
  have c4 := heap_cell my0.s
  have f3 := heap_free my0.b
  obtain ⟨r0, HR0, hmask0⟩ : ∃ r : Nat, Hid (r = v % 16) ∧ bits .and .i64 (v : Int) 15 = (r : Int) := ⟨_, rfl, (mask (v := v) (by omega) 4 15 (by decide) (by decide))⟩
  have hr0 : r0 < 16 := by have := HR0.out; omega
  go_wp2_with fail
  go_region
  go_wp2_with fail
  obtain ⟨Y0, hY0⟩ : ∃ Y, Y = (w0.setCell ⟨R + 3, 0, none⟩ (.int .i64 r0)).drew := ⟨_, rfl⟩
  rw [← hY0]
  have mm0 : Mach Y0 R 6 8 (.func (.func 52) #[] #[.pointer (some ⟨tb, 0, none⟩)]) r0 4 := by rw [hY0]; exact (my0.setB r0).drewN 1
  have tt0 : TV Y0 tb base (acc ++ [byt (v / 16)]) := by rw [hY0]; exact ty0.other (k := R + 3) (by omega) my0.b
  have kk0 : Kept2 base tb R W Y0 := by rw [hY0]; exact (kz0.trans (Kept2.set3 base tb R _ _)).trans (Kept2.drewN base tb R _ 1)
  clear hY0 c3 c4 f3 hmask0 my0 ty0 kz0
  rw [rounds_succ]
  have c1 := heap_cell mm0.o
  have c4 := heap_cell mm0.s
  go_wp2_with fail
  go_end0
  refine ⟨rfl, ?_, ?_, kk0⟩
  · rw [HV.out] at tt0; exact tt0
  · rw [HR0.out, HV.out] at mm0; exact mm0

end Go.Proofs.YtaikdbbakdicgaaDoor
/-
  base.Encode returns the text that 'enc' says; base.Size, base.Sign.
-/
namespace Go.Proofs.YtaikdbbakdicgaaDoor
open Go.ChangeShapes Go.WideShapes Go.ChangeAt Go.RowKit
set_option linter.unusedVariables false

def stS (b s g : Nat) : List UInt8 × Nat × Nat :=
  if s = 0 then ([sgn ((b * 256 + g) / 4)], (b * 256 + g) % 4, 2) else if s = 2 then ([sgn ((b * 256 + g) / 16)], (b * 256 + g) % 16, 4) else ([sgn ((b * 256 + g) / 64), sgn ((b * 256 + g) % 64)], 0, 0)
def okS (b s : Nat) : Prop := (s = 0 ∧ b < 1) ∨ (s = 2 ∧ b < 4) ∨ (s = 4 ∧ b < 16)
theorem okS_step {b s g : Nat} (h : okS b s) : okS (stS b s g).2.1 (stS b s g).2.2 := by
  unfold okS stS
  rcases h with ⟨rfl, h⟩ | ⟨rfl, h⟩ | ⟨rfl, h⟩ <;> simp <;> omega
theorem stS_len (b s g : Nat) : (stS b s g).1.length ≤ 2 := by unfold stS; split <;> (try split) <;> simp
def stepS (r : List UInt8 × Nat × Nat) (x : UInt8) : List UInt8 × Nat × Nat := (r.1 ++ (stS r.2.1 r.2.2 x.toNat).1, (stS r.2.1 r.2.2 x.toNat).2)
def runS (l : List UInt8) : List UInt8 × Nat × Nat := l.foldl stepS ([], 0, 0)
def enc (l : List UInt8) : List UInt8 := if (runS l).2.2 = 0 then (runS l).1 else (runS l).1 ++ [sgn ((runS l).2.1 * 2 ^ (6 - (runS l).2.2))]
theorem runS_snoc (l : List UInt8) (x : UInt8) : runS (l ++ [x]) = stepS (runS l) x := by unfold runS; rw [List.foldl_append]; rfl
theorem runS_len (l : List UInt8) : (runS l).1.length ≤ 2 * l.length := by
  have h : ∀ (n : Nat) (l : List UInt8), l.length = n → (runS l).1.length ≤ 2 * n := by
    intro n
    induction n with
    | zero => intro l h; obtain rfl := List.eq_nil_of_length_eq_zero h; simp [runS]
    | succ n ih =>
      intro l h
      obtain ⟨l', x, rfl⟩ : ∃ l' x, l = l' ++ [x] := by
        have hne : l ≠ [] := by intro e; rw [e] at h; simp at h
        exact ⟨l.dropLast, l.getLast hne, (List.dropLast_concat_getLast hne).symm⟩
      rw [runS_snoc]
      have h1 := ih l' (by simpa using h)
      have h2 := stS_len (runS l').2.1 (runS l').2.2 x.toNat
      simp only [stepS, List.length_append]; omega
  exact h l.length l rfl

abbrev fvS (tb : Nat) : Value := .func (.func 48) #[] #[.pointer (some ⟨tb, 0, none⟩)]
abbrev fvB (tb : Nat) : Value := .func (.func 52) #[] #[.pointer (some ⟨tb, 0, none⟩)]

theorem takeS {W : World} {R tb base g b s : Nat} {acc : List UInt8} (h : TV W tb base acc) (hm : Mach W R 8 6 (fvS tb) b s) (ht : tb < R) (hb : okS b s) (hg : g < 256) (hl : acc.length ≤ 140737488354000) :
    Calls Tryd.prog 63 #[.int .i64 g, .pointer (some ⟨R + 3, 0, none⟩), .pointer (some ⟨R, 0, none⟩), .pointer (some ⟨R + 4, 0, none⟩), .pointer (some ⟨R + 1, 0, none⟩), .pointer (some ⟨R + 2, 0, none⟩)] W
      (TakePost W R tb base 8 6 (fvS tb) (acc ++ (stS b s g).1) (stS b s g).2.1 (stS b s g).2.2) := by
  rcases hb with ⟨rfl, hb⟩ | ⟨rfl, hb⟩ | ⟨rfl, hb⟩
  · exact takeS0 h hm ht hb hg hl
  · exact takeS2 h hm ht hb hg hl
  · have := takeS4 h hm ht hb hg hl
    rw [List.append_assoc] at this
    exact this

set_option maxRecDepth 100000 in
theorem size_any (n : Nat) (hn : n ≤ 1000000000000000000) (w : World) : Calls Tryd.prog 46 #[.int .i64 n] w fun e w' => e = .returned (.int .i64 ((8 * n + 5) / 6 : Nat)) ∧ w = w' := by
  have h0 : (0 : Int) ≤ n := by omega
  have h1 : (n : Int) ≤ 1000000000000000000 := by omega
  go_enter Tryd.func46, Tryd.ntmps46
  go_wp2
  go_ret
  exact ⟨rfl, rfl⟩

set_option maxRecDepth 100000 in
theorem rest_pair {W : World} {R : Nat} {inn out : Int} {fv : Value} {b s : Nat} (hm : Mach W R inn out fv b s) :
    Calls Tryd.prog 64 #[.pointer (some ⟨R + 3, 0, none⟩), .pointer (some ⟨R + 4, 0, none⟩)] W fun e W' => e = .returned (.tuple #[.int .i64 b, .int .i64 s]) ∧ ∃ n, W' = W.drewN n := by
  have c3 := heap_cell hm.b
  have c4 := heap_cell hm.s
  go_enter Tryd.func64, Tryd.ntmps64
  go_wp2_with fail
  go_quiet (fail)
  go_wp2_with fail
  go_ret2
  exact ⟨rfl, _, rfl⟩

theorem heap_at {w : World} {o : Obj} {k : Nat} (h : k = w.heap.size) : (w.alloc o).heap[k]? = some o := by subst h; exact heap_alloc_new w o

def GroupPost (W : World) (inn out : Int) (fv : Value) (e : Ending) (W' : World) : Prop :=
  e = .returned (.tuple #[.func (.func 63) #[] #[.pointer (some ⟨W.heap.size + 3, 0, none⟩), .pointer (some ⟨W.heap.size, 0, none⟩), .pointer (some ⟨W.heap.size + 4, 0, none⟩), .pointer (some ⟨W.heap.size + 1, 0, none⟩), .pointer (some ⟨W.heap.size + 2, 0, none⟩)],
    .func (.func 64) #[] #[.pointer (some ⟨W.heap.size + 3, 0, none⟩), .pointer (some ⟨W.heap.size + 4, 0, none⟩)]]) ∧ Mach W' W.heap.size inn out fv 0 0 ∧ Below W.heap.size W W'

set_option maxRecDepth 100000 in
set_option maxHeartbeats 400000 in
theorem regroup_any (W : World) (inn out : Int) (f : Nat) (cap : Array Value) :
    Calls Tryd.prog 47 #[.int .i64 inn, .int .i64 out, .func (.func f) #[] cap] W (GroupPost W inn out (.func (.func f) #[] cap)) := by
  go_enter Tryd.func47, Tryd.ntmps47
  go_wp2
  go_ret2
  refine ⟨rfl, ⟨?_, ?_, ?_, ?_, ?_⟩, ?_⟩
  · exact (Below.heap_alloc _ _ _ (by simp <;> omega)).trans ((Below.heap_alloc _ _ _ (by simp <;> omega)).trans ((Below.heap_alloc _ _ _ (by simp <;> omega)).trans ((Below.heap_alloc _ _ _ (by simp)).trans (heap_at (by simp)))))
  · exact (Below.heap_alloc _ _ _ (by simp <;> omega)).trans ((Below.heap_alloc _ _ _ (by simp <;> omega)).trans ((Below.heap_alloc _ _ _ (by simp)).trans (heap_at (by simp))))
  · exact (Below.heap_alloc _ _ _ (by simp <;> omega)).trans ((Below.heap_alloc _ _ _ (by simp)).trans (heap_at (by simp)))
  · exact (Below.heap_alloc _ _ _ (by simp)).trans (heap_at (by simp))
  · exact heap_at (by simp)
  · exact (((((Below.refl _ _).alloc (Nat.le_refl _) _).alloc (by simp) _).alloc (by simp <;> omega) _).alloc (by simp <;> omega) _).alloc (by simp <;> omega) _

/-- What Encode carries from round to round: the text under way, the machine, and old memory. -/
def EncInv (base tb R : Nat) (w : World) (r : List UInt8 × Nat × Nat) (W : World) : Prop :=
  TV W tb base r.1 ∧ Mach W R 8 6 (fvS tb) r.2.1 r.2.2 ∧ okS r.2.1 r.2.2 ∧ Below base w W ∧ base ≤ W.heap.size

theorem Kept2.below {base tb R : Nat} {W W' : World} (h : Kept2 base tb R W W') (hb : base ≤ tb) (ht : tb < R) (hs : base ≤ W.heap.size) : Below base W W' :=
  ⟨h.os, h.tape, h.output, h.size, fun k hk => h.block k (by omega) (by omega) (by omega) (by omega) (.inl hk)⟩

theorem TV.alloc {W W' : World} {tb base : Nat} {acc : List UInt8} (h : TV W tb base acc) (hb : Below W.heap.size W W') : TV W' tb base acc := by
  obtain ⟨h1, v, h2, h3⟩ := h
  refine ⟨h1, v, (hb.block tb (Array.getElem?_eq_some_iff.1 h2).1).trans h2, h3.1, ?_⟩
  rcases h3.2 with h | ⟨g, cap, cur, rfl, a1, a2, r⟩
  · exact .inl h
  · exact .inr ⟨g, cap, cur, rfl, a1, (hb.block g (Array.getElem?_eq_some_iff.1 a2).1).trans a2, r⟩

theorem TV.new {W1 : World} {base : Nat} {v : Value} (h : W1.ownsRow base 5 1 v ([] : List UInt8).length (bvs [])) (hs : base ≤ W1.heap.size) : TV (W1.alloc (.cells #[v] 22)) W1.heap.size base [] :=
  ⟨hs, v, heap_alloc_new W1 _, (h.alloc _)⟩

/-- What the text variable holds, and the string that is made of it. -/
theorem tv_conv {W : World} {tb base : Nat} {acc : List UInt8} {v : Value} (h : TV W tb base acc) (hc : W.cell? ⟨tb, 0, none⟩ = some v) : ∃ oa cap, v = .slice oa acc.length cap ∧ W.ownsRow base 5 1 v acc.length (bvs acc) ∧ (convert 22 9 v).run Tryd.prog W = .ok (.string (str acc)) W := by
  obtain ⟨_, u, h2, h3⟩ := h
  rw [heap_cell h2] at hc
  simp only [Option.some.injEq] at hc
  subst hc
  obtain ⟨oa, cap, rfl, _, _⟩ := (Rd.of_own h3).form
  exact ⟨oa, cap, rfl, h3, conv_bytes (Rd.of_own h3)⟩
theorem TV.drewN {W : World} {tb base : Nat} {acc : List UInt8} (h : TV W tb base acc) (n : Nat) : TV (W.drewN n) tb base acc := h
theorem cell_set {W : World} {tb : Nat} {v u : Value} (h : W.cell? ⟨tb, 0, none⟩ = some v) : (W.setCell ⟨tb, 0, none⟩ u).cell? ⟨tb, 0, none⟩ = some u := World.cell?_setCell_same _ _ _ h

set_option maxRecDepth 100000 in
set_option maxHeartbeats 1000000 in
theorem encode_any {B : Nat} {w : World} {vb : Value} {l : List UInt8} (hr : Rd B w vb l) (hB : B ≤ w.heap.size) (hl : l.length ≤ 30000000000000) :
    Calls Tryd.prog 26 #[vb] w fun e w' => e = .returned (.string (str (enc l))) ∧ Below w.heap.size w w' := by
  obtain ⟨ov, cv, rfl, _, hcell⟩ := hr.form
  go_enter Tryd.func26, Tryd.ntmps26
  go_wp2_with fail
  refine (size_any l.length (by omega) _).mono ?_
  rintro e wx ⟨rfl, rfl⟩
  go_wp2_with (at_make; refine make_bytes rfl _ _ rfl (base := w.heap.size) ((8 * l.length + 5) / 6) rfl rfl rfl (by omega) (Nat.le_refl _) ?_)
  intro v0 W1 hown1 hg1
  have hb1 : Below w.heap.size w W1 := (Below.refl _ _).grown hg1 (Nat.le_refl _) (by simp)
  obtain ⟨o0, c0, rfl, _, _⟩ := (Rd.of_own hown1).form
  clear hg1
  go_wp2_with fail
  refine (regroup_any _ 8 6 48 _).mono ?_
  rintro e W2 ⟨rfl, hm2, hb2⟩
  have ht1 : TV (W1.alloc (.cells #[.slice o0 0 c0] 22)) W1.heap.size w.heap.size [] := TV.new (by simpa using hown1) hb1.size
  have ht2 := ht1.alloc hb2
  have hR : (W1.alloc (.cells #[.slice o0 0 c0] 22)).heap.size = W1.heap.size + 1 := by simp
  rw [hR] at hm2 hb2 ⊢
  have hB2 : Below w.heap.size w W2 := (hb1.alloc hb1.size _).trans (hb2.mono (by have := hb1.size; omega))
  obtain ⟨tb, htb⟩ : ∃ tb, tb = W1.heap.size := ⟨_, rfl⟩
  have htbs : w.heap.size ≤ tb := by rw [htb]; exact hb1.size
  rw [← htb] at ht2 hm2 ⊢
  obtain ⟨R, hRR⟩ : ∃ R, R = tb + 1 := ⟨_, rfl⟩
  have htR : tb < R := by omega
  rw [← hRR] at hm2 ⊢
  have hI : EncInv w.heap.size tb R w ([], 0, 0) W2 := ⟨ht2, hm2, .inl ⟨rfl, by decide⟩, hB2, hB2.size⟩
  have HI := Lib.hid hI
  clear hI ht1 ht2 hm2 hB2 hb2 hb1 hown1 hR htb hRR
  go_wp2_with fail
  go_loopw [21] (fun iv wr => ∃ k : Nat, k ≤ l.length ∧ iv = .int .i64 k ∧ Hid (EncInv w.heap.size tb R w (runS (l.take k)) wr)) (fun iv _ => l.length - (intOf iv).toNat)
  case atStart => exact ⟨0, Nat.zero_le _, rfl, HI.out⟩
  case round =>
    obtain ⟨k, hk, rfl, HK⟩ := hrel
    clear HI
    by_cases hlt : k < l.length
    · obtain ⟨t1, m1, o1, b1, z1⟩ := HK.out
      obtain ⟨b, off, rfl, _, _, hbB, hc⟩ := hcell (by omega)
      obtain ⟨x, HX, hx⟩ : ∃ x : UInt8, Hid (l.take (k + 1) = l.take k ++ [x]) ∧ wr.cell? ⟨b, off + k, none⟩ = some (.int .u8 x.toNat) := by
        refine ⟨l.getD k 0, ?_, (b1.cell (by show b < w.heap.size; omega)).trans (hc k hlt)⟩
        show l.take (k + 1) = l.take k ++ [l.getD k 0]
        rw [List.take_succ_eq_append_getElem hlt]
        simp [List.getD_eq_getElem?_getD, List.getElem?_eq_getElem hlt]
      have hi1 : (k : Int) < l.length := by omega
      have hi0 : (0 : Int) ≤ k := by omega
      have hxn := x.toNat_lt
      have hx0 : (0 : Int) ≤ x.toNat := by omega
      have hx1 : (x.toNat : Int) < 256 := by omega
      obtain ⟨acc, bb, ss, HRS⟩ : ∃ acc bb ss, Hid (runS (l.take k) = (acc, bb, ss)) := ⟨_, _, _, rfl⟩
      rw [HRS.out] at t1 m1 o1
      have hal : acc.length ≤ 140737488354000 := by
        have h1 := runS_len (l.take k)
        rw [HRS.out, List.length_take] at h1
        simp only at h1; omega
      have HT := Lib.hid (takeS t1 m1 htR o1 hxn hal)
      have HO := Lib.hid (okS_step (g := x.toNat) o1)
      have HB := Lib.hid b1
      clear t1 m1 o1 b1 hc hcell HK
      go_wp2_with (go_at_call 63; refine HT.out.mono ?_; rintro e w3 ⟨rfl, t3, m3, k3⟩)
      have hE : EncInv w.heap.size tb R w (runS (l.take (k + 1))) w3 := by
        rw [HX.out, runS_snoc, HRS.out]
        exact ⟨t3, m3, HO.out, HB.out.trans (k3.below htbs htR z1), Nat.le_trans z1 k3.size⟩
      have HE := Lib.hid hE
      clear hE t3 m3 k3
      go_roundw
      case rel => exact ⟨k + 1, by omega, by go_num, HE.out⟩
      case measure => simp [intOf]; omega
    · obtain rfl : k = l.length := by omega
      rw [List.take_length] at HK
      obtain ⟨t1, m1, o1, b1, z1⟩ := HK.out
      obtain ⟨acc, bb, ss, HRS⟩ : ∃ acc bb ss, Hid (runS l = (acc, bb, ss)) := ⟨_, _, _, rfl⟩
      rw [HRS.out] at t1 m1 o1
      have hal : acc.length ≤ 140737488354000 := by
        have h1 := runS_len l
        rw [HRS.out] at h1
        simp only at h1; omega
      clear hcell HK
      go_wp2_with fail
      refine (rest_pair m1).mono ?_
      rintro e w3 ⟨rfl, n3, rfl⟩
      rcases o1 with ⟨rfl, hbb⟩ | ⟨rfl, hbb⟩ | ⟨rfl, hbb⟩
      · have t3 := t1.drewN n3
        have B3 := below_drewN b1 n3
        obtain ⟨W3, hW3⟩ : ∃ W3, W3 = wr.drewN n3 := ⟨_, rfl⟩
        rw [← hW3] at t3 B3 ⊢
        have HE : Hid (enc l = acc) := by show enc l = _; unfold enc; rw [HRS.out]; rfl
        obtain ⟨hb3, v3, hv3, hown3⟩ := t3
        have hc3 := heap_cell hv3
        obtain ⟨o3, c3, rfl, _, e6⟩ := tv_conv ⟨hb3, v3, hv3, hown3⟩ hc3
        have e7 : (convert 22 9 (.slice o3 acc.length c3)).run Tryd.prog W3 = .ok (.string (str (enc l))) W3 := by rw [HE.out]; exact e6
        clear e6
        clear t1 m1 b1 z1 hW3 hv3 hown3
        go_wp2_with fail
        go_ret
        exact ⟨rfl, B3⟩
      · have hbb0 : (0 : Int) ≤ bb := by omega
        have hbb1 : (bb : Int) < 4 := by omega
        have t3 := t1.drewN n3
        have B3 := below_drewN b1 n3
        obtain ⟨W3, hW3⟩ : ∃ W3, W3 = wr.drewN n3 := ⟨_, rfl⟩
        rw [← hW3] at t3 B3 ⊢
        have hz3 : w.heap.size ≤ W3.heap.size := B3.size
        obtain ⟨hb3, v3, hv3, hown3⟩ := t3
        obtain ⟨o3, c3, rfl, _, _⟩ := (Rd.of_own hown3).form
        have hc3 := heap_cell hv3
        have q1 : IntKind.i64.wrap 4 = 4 := by decide
        have q2 : IntKind.i64.wrap ((bb : Int) * 16) = (bb : Int) * 16 := by rw [IntKind.wrap_i64]; omega
        have q3 : (0 : Int) ≤ (bb : Int) * 16 := by omega
        have q4 : ((bb : Int) * 16).toNat = bb * 16 := by omega
        have q5 : (bb : Int) * 16 < 64 := by omega
        have hgs : bb * 16 < alpha.size := by show bb * 16 < 64; omega
        have hcell3 : ∀ (x : Value) (n : Nat), x = bv (sgn (bb * 16)) → ((W3.alloc (.cells #[x] 5)).drewN n).cell? ⟨W3.heap.size, 0, none⟩ = some (bv (sgn (bb * 16))) := by
          intro x n hx
          rw [hx]
          exact cell_of_row _ _ _ #[bv (sgn (bb * 16))] 5 (0, 0) (heap_alloc_new W3 _)
        have htb3 : tb < W3.heap.size := (Array.getElem?_eq_some_iff.1 hv3).1
        have HC := Lib.hid hcell3
        have HV := Lib.hid hv3
        have HE : Hid (enc l = acc ++ [sgn (bb * 16)]) := by show enc l = _; unfold enc; rw [HRS.out]; rfl
        clear hcell3 hv3 t1 m1 b1 z1 hW3
        go_wp2_with fail
        go_region_law ((refine step_app_one (b := sgn (bb * 16)) (base := w.heap.size) rfl (.tmp 37) (.tmp 43) rfl rfl (hown3.alloc _).drew rfl (HC.out _ 1 (congrArg (fun n : Nat => Value.int .u8 (n : Int)) (sgn_at hgs))) (by omega) (by simp <;> omega) ?_); intro v' W4 hown4 hg4; have hgg : (W3.alloc _).grownBy W4 _ := ⟨hg4.os, hg4.tape, hg4.output, hg4.size, hg4.block⟩; obtain ⟨⟨e1, e2⟩, e3, e4⟩ := emit_step hb3 HV.out hown3 _ hown4 hgg; have e5 := cell_set (u := v') e1; obtain ⟨o4, c4, rfl, _, e6⟩ := tv_conv e3 e5; have hl1 : (acc ++ [sgn (bb * 16)]).length = acc.length + 1 := (by simp); rw [hl1] at e3 e4 e5 e6; have HE6 := Lib.hid (e4.below hb3 hz3); rw [← HE.out] at e6; clear hown4 hg4 hgg e3 e4)
        all_goals go_wp2_with fail
        all_goals go_ret
        all_goals exact ⟨rfl, B3.trans HE6.out⟩
      · have hbb0 : (0 : Int) ≤ bb := by omega
        have hbb1 : (bb : Int) < 16 := by omega
        have t3 := t1.drewN n3
        have B3 := below_drewN b1 n3
        obtain ⟨W3, hW3⟩ : ∃ W3, W3 = wr.drewN n3 := ⟨_, rfl⟩
        rw [← hW3] at t3 B3 ⊢
        have hz3 : w.heap.size ≤ W3.heap.size := B3.size
        obtain ⟨hb3, v3, hv3, hown3⟩ := t3
        obtain ⟨o3, c3, rfl, _, _⟩ := (Rd.of_own hown3).form
        have hc3 := heap_cell hv3
        have q1 : IntKind.i64.wrap 2 = 2 := by decide
        have q2 : IntKind.i64.wrap ((bb : Int) * 4) = (bb : Int) * 4 := by rw [IntKind.wrap_i64]; omega
        have q3 : (0 : Int) ≤ (bb : Int) * 4 := by omega
        have q4 : ((bb : Int) * 4).toNat = bb * 4 := by omega
        have q5 : (bb : Int) * 4 < 64 := by omega
        have hgs : bb * 4 < alpha.size := by show bb * 4 < 64; omega
        have hcell3 : ∀ (x : Value) (n : Nat), x = bv (sgn (bb * 4)) → ((W3.alloc (.cells #[x] 5)).drewN n).cell? ⟨W3.heap.size, 0, none⟩ = some (bv (sgn (bb * 4))) := by
          intro x n hx
          rw [hx]
          exact cell_of_row _ _ _ #[bv (sgn (bb * 4))] 5 (0, 0) (heap_alloc_new W3 _)
        have htb3 : tb < W3.heap.size := (Array.getElem?_eq_some_iff.1 hv3).1
        have HC := Lib.hid hcell3
        have HV := Lib.hid hv3
        have HE : Hid (enc l = acc ++ [sgn (bb * 4)]) := by show enc l = _; unfold enc; rw [HRS.out]; rfl
        clear hcell3 hv3 t1 m1 b1 z1 hW3
        go_wp2_with fail
        go_region_law ((refine step_app_one (b := sgn (bb * 4)) (base := w.heap.size) rfl (.tmp 37) (.tmp 43) rfl rfl (hown3.alloc _).drew rfl (HC.out _ 1 (congrArg (fun n : Nat => Value.int .u8 (n : Int)) (sgn_at hgs))) (by omega) (by simp <;> omega) ?_); intro v' W4 hown4 hg4; have hgg : (W3.alloc _).grownBy W4 _ := ⟨hg4.os, hg4.tape, hg4.output, hg4.size, hg4.block⟩; obtain ⟨⟨e1, e2⟩, e3, e4⟩ := emit_step hb3 HV.out hown3 _ hown4 hgg; have e5 := cell_set (u := v') e1; obtain ⟨o4, c4, rfl, _, e6⟩ := tv_conv e3 e5; have hl1 : (acc ++ [sgn (bb * 4)]).length = acc.length + 1 := (by simp); rw [hl1] at e3 e4 e5 e6; have HE6 := Lib.hid (e4.below hb3 hz3); rw [← HE.out] at e6; clear hown4 hg4 hgg e3 e4)
        all_goals go_wp2_with fail
        all_goals go_ret
        all_goals exact ⟨rfl, B3.trans HE6.out⟩
end Go.Proofs.YtaikdbbakdicgaaDoor
/-
  DERIVED: THE SHELF's CONTRACTS AT THIS DUMP, IN PLAIN WORDS (tools/lay-plain.mjs out of 'TrydShelf.lean', which tools/lay-shelf.mjs wrote): THE SAME DECLARATIONS UNDER THE SAME NAMES: 'import', 'namespace', 'open', 'def', 'theorem' AND NOTHING ELSE: no command of the shelf's: FOR A HAND-IN. Each laying: the table of numbers ('.._ren') and one theorem, a field a fact of the dump's own or the kernel's comparison; each contract: ONE APPLICATION.
-/
namespace Go.Proofs
open Go.Shelf
def Tryd.lays137_ren : Go.Shelf.Ren := ⟨fun | 137 => 65 | 217 => 74 | 266 => 82 | n => n, fun | 9 => 9 | 5 => 5 | 3 => 3 | n => n, fun | n => n⟩
theorem Tryd.lays137 : Go.Proofs.Lays.n137 Tryd.prog Tryd.lays137_ren := {
  mixed := by kernel_rfl
  f137 := Tryd.func65.trans (congrArg some (by kernel_rfl))
  f217 := Tryd.func74.trans (congrArg some (by kernel_rfl))
  f266 := Tryd.func82.trans (congrArg some (by kernel_rfl))
  t3 := Tryd.underlying3
  a3 := Tryd.isAgg3
  z3 := Tryd.sizeOf3
  v3 := Tryd.zeroValue3
  t5 := Tryd.underlying5
  a5 := Tryd.isAgg5
  z5 := Tryd.sizeOf5
  v5 := Tryd.zeroValue5
  t9 := Tryd.underlying9
  a9 := Tryd.isAgg9
  z9 := Tryd.sizeOf9
  v9 := Tryd.zeroValue9 }
open Go.RowKit in
/-- strings.IndexByte: "IndexByte returns the index of the first instance of c in s, or -1 if c is not present in s.": IT RETURNS 'Lib.indexByte s c'; the world is as it was. (LAID: no walk: one application.) -/
theorem Tryd.strings_IndexByte (s : ByteArray) (c : Int) (w : World) :
    Calls Tryd.prog 65 #[.string s, .int .u8 c] w fun e w' => e = .returned (.int .i64 (Lib.indexByte s.data.toList c.toNat.toUInt8)) ∧ w' = w := Any.strings_IndexByte Tryd.lays137 s c w
def Tryd.lays217_ren : Go.Shelf.Ren := ⟨fun | 217 => 74 | 266 => 82 | n => n, fun | 9 => 9 | 5 => 5 | 3 => 3 | n => n, fun | n => n⟩
theorem Tryd.lays217 : Go.Proofs.Lays.n217 Tryd.prog Tryd.lays217_ren := {
  mixed := by kernel_rfl
  f217 := Tryd.func74.trans (congrArg some (by kernel_rfl))
  f266 := Tryd.func82.trans (congrArg some (by kernel_rfl))
  t3 := Tryd.underlying3
  a3 := Tryd.isAgg3
  z3 := Tryd.sizeOf3
  v3 := Tryd.zeroValue3
  t5 := Tryd.underlying5
  a5 := Tryd.isAgg5
  z5 := Tryd.sizeOf5
  v5 := Tryd.zeroValue5
  t9 := Tryd.underlying9
  a9 := Tryd.isAgg9
  z9 := Tryd.sizeOf9
  v9 := Tryd.zeroValue9 }
open Go.RowKit Go.Lib in
/-- internal/stringslite.IndexByte (what strings.IndexByte calls): IT RETURNS 'Lib.indexByte s c'; the world is as it was. (LAID: no walk: one application.) -/
theorem Tryd.stringslite_IndexByte (s : ByteArray) (c : Int) (w : World) :
    Calls Tryd.prog 74 #[.string s, .int .u8 c] w fun e w' => e = .returned (.int .i64 (Lib.indexByte s.data.toList c.toNat.toUInt8)) ∧ w' = w := Any.stringslite_IndexByte Tryd.lays217 s c w
end Go.Proofs
/-
  base.Value and base.Decode return what 'dec' says; base.Sign.
-/
namespace Go.Proofs.YtaikdbbakdicgaaDoor
open Go.ChangeShapes Go.WideShapes Go.ChangeAt Go.RowKit
set_option linter.unusedVariables false

def valI (c : UInt8) : Int := Lib.indexByte alpha.data.toList c
theorem valI_bd (c : UInt8) : -1 ≤ valI c ∧ valI c < 64 := by
  have h : ∀ n : Fin 256, (decide (-1 ≤ valI (UInt8.ofNat n.val)) && decide (valI (UInt8.ofNat n.val) < 64)) = true := by decide +kernel
  have hc : UInt8.ofNat c.toNat = c := UInt8.ofNat_toNat
  have := h ⟨c.toNat, c.toNat_lt⟩
  simp only [hc, Bool.and_eq_true, decide_eq_true_eq] at this
  exact this

set_option maxRecDepth 100000 in
theorem value_yes (c : UInt8) (v : Nat) (h : valI c = v) (w : World) : Calls Tryd.prog 53 #[.int .u8 c.toNat] w fun e w' => e = .returned (.tuple #[.int .i64 v, .bool true]) ∧ w = w' := by
  have hv0 : (0 : Int) ≤ v := by omega
  have HC := Lib.hid (Tryd.strings_IndexByte alpha (c.toNat : Int) w)
  have HE : Hid (Lib.indexByte alpha.data.toList ((c.toNat : Int)).toNat.toUInt8 = (v : Int)) := by
    show Lib.indexByte alpha.data.toList (UInt8.ofNat c.toNat) = _
    rw [UInt8.ofNat_toNat]; exact h
  clear h
  go_enter Tryd.func53, Tryd.ntmps53
  go_wp2_with fail
  refine HC.out.mono ?_
  rintro e w1 ⟨rfl, hw⟩
  subst hw
  rw [HE.out]
  go_wp2_with fail
  go_ret2
  exact ⟨rfl, rfl⟩

set_option maxRecDepth 100000 in
theorem value_no (c : UInt8) (h : valI c = -1) (w : World) : Calls Tryd.prog 53 #[.int .u8 c.toNat] w fun e w' => e = .returned (.tuple #[.int .i64 0, .bool false]) ∧ w = w' := by
  have HC := Lib.hid (Tryd.strings_IndexByte alpha (c.toNat : Int) w)
  have HE : Hid (Lib.indexByte alpha.data.toList ((c.toNat : Int)).toNat.toUInt8 = -1) := by
    show Lib.indexByte alpha.data.toList (UInt8.ofNat c.toNat) = _
    rw [UInt8.ofNat_toNat]; exact h
  clear h
  go_enter Tryd.func53, Tryd.ntmps53
  go_wp2_with fail
  refine HC.out.mono ?_
  rintro e w1 ⟨rfl, hw⟩
  subst hw
  rw [HE.out]
  go_wp2_with fail
  go_ret2
  exact ⟨rfl, rfl⟩

def stB (b s g : Nat) : List UInt8 × Nat × Nat :=
  if s = 0 then ([], b * 64 + g, 6) else if s = 2 then ([byt (b * 64 + g)], 0, 0) else if s = 4 then ([byt ((b * 64 + g) / 4)], (b * 64 + g) % 4, 2) else ([byt ((b * 64 + g) / 16)], (b * 64 + g) % 16, 4)
def okB (b s : Nat) : Prop := (s = 0 ∧ b < 1) ∨ (s = 2 ∧ b < 4) ∨ (s = 4 ∧ b < 16) ∨ (s = 6 ∧ b < 64)
theorem okB_step {b s g : Nat} (h : okB b s) (hg : g < 64) : okB (stB b s g).2.1 (stB b s g).2.2 := by
  unfold okB stB
  rcases h with ⟨rfl, h⟩ | ⟨rfl, h⟩ | ⟨rfl, h⟩ | ⟨rfl, h⟩ <;> simp <;> omega
theorem stB_len (b s g : Nat) : (stB b s g).1.length ≤ 1 := by unfold stB; split <;> (try split) <;> (try split) <;> simp

def decGo : List UInt8 → Nat → List UInt8 → Nat → Nat → List UInt8 × Int
  | [], i, acc, b, s => if 6 ≤ s ∨ b ≠ 0 then ([], (i : Int) - 1) else (acc, -1)
  | c :: r, i, acc, b, s => if valI c < 0 then ([], (i : Int)) else decGo r (i + 1) (acc ++ (stB b s (valI c).toNat).1) (stB b s (valI c).toNat).2.1 (stB b s (valI c).toNat).2.2
def dec (l : List UInt8) : List UInt8 × Int := decGo l 0 [] 0 0

theorem takeB {W : World} {R tb base g b s : Nat} {acc : List UInt8} (h : TV W tb base acc) (hm : Mach W R 6 8 (fvB tb) b s) (ht : tb < R) (hb : okB b s) (hg : g < 64) (hl : acc.length ≤ 140737488354000) :
    Calls Tryd.prog 63 #[.int .i64 g, .pointer (some ⟨R + 3, 0, none⟩), .pointer (some ⟨R, 0, none⟩), .pointer (some ⟨R + 4, 0, none⟩), .pointer (some ⟨R + 1, 0, none⟩), .pointer (some ⟨R + 2, 0, none⟩)] W
      (TakePost W R tb base 6 8 (fvB tb) (acc ++ (stB b s g).1) (stB b s g).2.1 (stB b s g).2.2) := by
  rcases hb with ⟨rfl, hb⟩ | ⟨rfl, hb⟩ | ⟨rfl, hb⟩ | ⟨rfl, hb⟩
  · have := takeB0 h hm ht hb hg hl
    rw [← List.append_nil acc] at this
    exact this
  · exact takeB2 h hm ht hb hg hl
  · exact takeB4 h hm ht hb hg hl
  · exact takeB6 h hm ht hb hg hl

/-- What Decode carries from round to round. -/
def DecInv (base tb R : Nat) (w : World) (acc : List UInt8) (b s : Nat) (W : World) : Prop :=
  TV W tb base acc ∧ Mach W R 6 8 (fvB tb) b s ∧ okB b s ∧ Below base w W ∧ base ≤ W.heap.size
def DecPost (w : World) (r : List UInt8 × Int) (e : Ending) (w' : World) : Prop :=
  ∃ v, e = .returned (.tuple #[v, .int .i64 r.2]) ∧ Rd w'.heap.size w' v r.1 ∧ Below w.heap.size w w'

set_option maxRecDepth 100000 in
set_option maxHeartbeats 1000000 in
theorem decode_any (s : ByteArray) (hs : s.size ≤ 30000000000000) (w : World) :
    Calls Tryd.prog 34 #[.string s] w (DecPost w (dec s.data.toList)) := by
  have hsl : s.data.toList.length = s.size := by rw [Array.length_toList]; rfl
  have HSL := Lib.hid hsl
  clear hsl
  go_enter Tryd.func34, Tryd.ntmps34
  go_wp2_with (at_make; refine make_bytes rfl _ _ rfl (base := w.heap.size) (s.size * 6 / 8) rfl rfl rfl (by omega) (Nat.le_refl _) ?_)
  intro v0 W1 hown1 hg1
  have hb1 : Below w.heap.size w W1 := (Below.refl _ _).grown hg1 (Nat.le_refl _) (by simp)
  obtain ⟨o0, c0, rfl, _, _⟩ := (Rd.of_own hown1).form
  clear hg1
  go_wp2_with fail
  refine (regroup_any _ 6 8 52 _).mono ?_
  rintro e W2 ⟨rfl, hm2, hb2⟩
  have ht1 : TV (W1.alloc (.cells #[.slice o0 0 c0] 22)) W1.heap.size w.heap.size [] := TV.new (by simpa using hown1) hb1.size
  have ht2 := ht1.alloc hb2
  have hR : (W1.alloc (.cells #[.slice o0 0 c0] 22)).heap.size = W1.heap.size + 1 := by simp
  rw [hR] at hm2 hb2 ⊢
  have hB2 : Below w.heap.size w W2 := (hb1.alloc hb1.size _).trans (hb2.mono (by have := hb1.size; omega))
  obtain ⟨tb, htb⟩ : ∃ tb, tb = W1.heap.size := ⟨_, rfl⟩
  have htbs : w.heap.size ≤ tb := by rw [htb]; exact hb1.size
  rw [← htb] at ht2 hm2 ⊢
  obtain ⟨R, hRR⟩ : ∃ R, R = tb + 1 := ⟨_, rfl⟩
  have htR : tb < R := by omega
  rw [← hRR] at hm2 ⊢
  have hI : DecInv w.heap.size tb R w [] 0 0 W2 := ⟨ht2, hm2, .inl ⟨rfl, by decide⟩, hB2, hB2.size⟩
  have HI := Lib.hid hI
  clear hI ht1 ht2 hm2 hB2 hb2 hb1 hown1 hR htb hRR
  go_wp2_with fail
  go_loopw [24] (fun iv wr => ∃ (k : Nat) (acc : List UInt8) (bb ss : Nat), k ≤ s.size ∧ iv = .int .i64 k ∧ Hid (DecInv w.heap.size tb R w acc bb ss wr ∧ acc.length ≤ k ∧ dec s.data.toList = decGo (s.data.toList.drop k) k acc bb ss)) (fun iv _ => s.size - (intOf iv).toNat)
  case atStart => exact ⟨0, [], 0, 0, Nat.zero_le _, rfl, HI.out, by simp, rfl⟩
  case round =>
    obtain ⟨k, acc, bb, ss, hk, rfl, HK⟩ := hrel
    clear HI
    by_cases hlt : k < s.size
    · obtain ⟨⟨t1, m1, o1, b1, z1⟩, hal, hd⟩ := HK.out
      have hdk : s.data.toList.drop k = s[k] :: s.data.toList.drop (k + 1) := by
        rw [List.drop_eq_getElem_cons (by rw [HSL.out]; exact hlt)]; rfl
      rw [hdk] at hd
      have hbd := valI_bd s[k]
      have hi1 : (k : Int) < s.size := by omega
      have hi0 : (0 : Int) ≤ k := by omega
      by_cases hneg : valI s[k] < 0
      · have hv : valI s[k] = -1 := by omega
        rw [decGo, if_pos hneg] at hd
        have HD := Lib.hid hd
        have HV := Lib.hid hv
        have HB := Lib.hid b1
        clear hd hv hbd hneg hdk t1 m1 o1 b1 z1 HK
        go_wp2_with fail
        refine (value_no _ HV.out _).mono ?_
        rintro e w3 ⟨rfl, rfl⟩
        go_wp2_with fail
        go_ret2
        exact ⟨_, by rw [HD.out]; rfl, by rw [HD.out]; exact .inl ⟨none, rfl, rfl⟩, HB.out⟩
      · obtain ⟨v, hv⟩ : ∃ v : Nat, valI s[k] = v := Int.eq_ofNat_of_zero_le (show 0 ≤ valI s[k] by omega)
        have hv64 : v < 64 := by omega
        rw [decGo, if_neg hneg, hv, Int.toNat_natCast] at hd
        have HD := Lib.hid hd
        have HV := Lib.hid hv
        have HT := Lib.hid (takeB t1 m1 htR o1 hv64 (by omega))
        have HO := Lib.hid (okB_step (g := v) o1 hv64)
        have HB := Lib.hid b1
        have HL := Lib.hid (stB_len bb ss v)
        have hv0 : (0 : Int) ≤ v := by omega
        clear hd hv hbd hneg hdk t1 m1 o1 b1 HK
        go_wp2_with fail
        refine (value_yes _ v HV.out _).mono ?_
        rintro e w3 ⟨rfl, rfl⟩
        go_wp2_with (go_at_call 63; refine HT.out.mono ?_; rintro e w4 ⟨rfl, t4, m4, k4⟩)
        have hE : DecInv w.heap.size tb R w (acc ++ (stB bb ss v).1) (stB bb ss v).2.1 (stB bb ss v).2.2 w4 := ⟨t4, m4, HO.out, HB.out.trans (k4.below htbs htR z1), Nat.le_trans z1 k4.size⟩
        have HE := Lib.hid hE
        clear hE t4 m4 k4
        go_roundw
        case rel => exact ⟨k + 1, _, _, _, by omega, by go_num, HE.out, by rw [List.length_append]; have := HL.out; omega, HD.out⟩
        case measure => simp [intOf]; omega
    · obtain rfl : k = s.size := by omega
      obtain ⟨⟨t1, m1, o1, b1, z1⟩, hal, hd⟩ := HK.out
      have hdk : s.data.toList.drop s.size = [] := List.eq_nil_of_length_eq_zero (by rw [List.length_drop, HSL.out]; omega)
      rw [hdk, decGo] at hd
      have hsz : (s.size : Int) ≤ 30000000000000 := by omega
      have hss : ss ≤ 6 := by rcases o1 with h | h | h | h <;> omega
      have hss' : (ss : Int) ≤ 6 := by omega
      by_cases hbad : 6 ≤ ss ∨ bb ≠ 0
      · rw [if_pos hbad] at hd
        have HD := Lib.hid hd
        have HB := Lib.hid b1
        clear hd hdk HK t1 o1
        by_cases h6 : 6 ≤ ss
        · have h6' : (6 : Int) ≤ ss := by omega
          go_wp2_with fail
          refine (rest_pair m1).mono ?_
          rintro e w3 ⟨rfl, n3, rfl⟩
          go_wp2_with fail
          go_ret2
          exact ⟨_, by rw [HD.out]; rfl, by rw [HD.out]; exact .inl ⟨none, rfl, rfl⟩, below_drewN HB.out n3⟩
        · have h6' : ¬ (6 : Int) ≤ ss := by omega
          have h7 : ((bb : Int) != 0) = true := by rw [bne_iff_ne]; omega
          go_wp2_with fail
          refine (rest_pair m1).mono ?_
          rintro e w3 ⟨rfl, n3, rfl⟩
          go_wp2_with fail
          go_ret2
          exact ⟨_, by rw [HD.out]; rfl, by rw [HD.out]; exact .inl ⟨none, rfl, rfl⟩, below_drewN HB.out n3⟩
      · rw [if_neg hbad] at hd
        have HD := Lib.hid hd
        have HB := Lib.hid b1
        have h6' : ¬ (6 : Int) ≤ ss := by omega
        have h7 : ((bb : Int) != 0) = false := by rw [bne_eq_false_iff_eq]; omega
        obtain ⟨hb3, v3, hv3, hown3⟩ := t1
        have hc3 := heap_cell hv3
        have hr3 := Rd.of_own hown3
        obtain ⟨o3, c3, rfl, _, _⟩ := hr3.form
        clear hd hdk HK o1 hv3 hown3 hbad
        go_wp2_with fail
        refine (rest_pair m1).mono ?_
        rintro e w3 ⟨rfl, n3, rfl⟩
        go_wp2_with fail
        go_ret2
        exact ⟨_, by rw [HD.out]; rfl, by rw [HD.out]; exact hr3, below_drewN HB.out n3⟩
end Go.Proofs.YtaikdbbakdicgaaDoor
/-
  Plain facts on the texts of bytes: a text that is decoded is the text of its bytes.
-/
namespace Go.Proofs.YtaikdbbakdicgaaDoor
open Go.RowKit

theorem sgn_valI (c : UInt8) (h : 0 ≤ valI c) : sgn (valI c).toNat = c := by
  have hh : ∀ n : Fin 256, (decide (valI (UInt8.ofNat n.val) < 0) || (sgn (valI (UInt8.ofNat n.val)).toNat == UInt8.ofNat n.val)) = true := by decide +kernel
  have hc : UInt8.ofNat c.toNat = c := UInt8.ofNat_toNat
  have := hh ⟨c.toNat, c.toNat_lt⟩
  simp only [hc, Bool.or_eq_true, decide_eq_true_eq, beq_iff_eq] at this
  rcases this with h1 | h1
  · omega
  · exact h1

theorem runS_ok (l : List UInt8) : okS (runS l).2.1 (runS l).2.2 := by
  have h : ∀ (n : Nat) (l : List UInt8), l.length = n → okS (runS l).2.1 (runS l).2.2 := by
    intro n
    induction n with
    | zero => intro l h; obtain rfl := List.eq_nil_of_length_eq_zero h; exact .inl ⟨rfl, by decide⟩
    | succ n ih =>
      intro l h
      obtain ⟨l', x, rfl⟩ : ∃ l' x, l = l' ++ [x] := by
        have hne : l ≠ [] := by intro e; rw [e] at h; simp at h
        exact ⟨l.dropLast, l.getLast hne, (List.dropLast_concat_getLast hne).symm⟩
      rw [runS_snoc]
      exact okS_step (ih l' (by simpa using h))
  exact h l.length l rfl

theorem byt_nat {n : Nat} (h : n < 256) : (byt n).toNat = n := by unfold byt; rw [UInt8.toNat_ofNat']; omega

/-- What the text p so far, the bytes acc so far and the bits that are held have to do with each other. -/
def Inv (p acc : List UInt8) (b s : Nat) : Prop :=
  (s = 0 ∧ b = 0 ∧ (runS acc).2.2 = 0 ∧ (runS acc).2.1 = 0 ∧ p = (runS acc).1) ∨
  (s = 6 ∧ b < 64 ∧ (runS acc).2.2 = 0 ∧ (runS acc).2.1 = 0 ∧ p = (runS acc).1 ++ [sgn b]) ∨
  (s = 4 ∧ b < 16 ∧ (runS acc).2.2 = 2 ∧ (runS acc).2.1 < 4 ∧ p = (runS acc).1 ++ [sgn ((runS acc).2.1 * 16 + b)]) ∨
  (s = 2 ∧ b < 4 ∧ (runS acc).2.2 = 4 ∧ (runS acc).2.1 < 16 ∧ p = (runS acc).1 ++ [sgn ((runS acc).2.1 * 4 + b)])

theorem Inv.step {p acc : List UInt8} {b s v : Nat} (h : Inv p acc b s) (hv : v < 64) : Inv (p ++ [sgn v]) (acc ++ (stB b s v).1) (stB b s v).2.1 (stB b s v).2.2 := by
  rcases h with ⟨rfl, rfl, h1, h2, rfl⟩ | ⟨rfl, hb, h1, h2, rfl⟩ | ⟨rfl, hb, h1, h2, rfl⟩ | ⟨rfl, hb, h1, h2, rfl⟩
  · right; left
    simp only [stB, if_true, List.append_nil]
    exact ⟨by trivial, by omega, h1, h2, by simp⟩
  · right; right; left
    have e : stB b 6 v = ([byt ((b * 64 + v) / 16)], (b * 64 + v) % 16, 4) := rfl
    have hx : (byt ((b * 64 + v) / 16)).toNat = (b * 64 + v) / 16 := byt_nat (by omega)
    rw [e]
    simp only [runS_snoc, stepS]
    rw [h1, h2, hx]
    have e2 : stS 0 0 ((b * 64 + v) / 16) = ([sgn ((0 * 256 + (b * 64 + v) / 16) / 4)], (0 * 256 + (b * 64 + v) / 16) % 4, 2) := rfl
    rw [e2]
    refine ⟨by trivial, by omega, by trivial, Nat.mod_lt _ (by decide), ?_⟩
    rw [show (0 * 256 + (b * 64 + v) / 16) / 4 = b from by omega, show (0 * 256 + (b * 64 + v) / 16) % 4 * 16 + (b * 64 + v) % 16 = v from by omega]
  · right; right; right
    have e : stB b 4 v = ([byt ((b * 64 + v) / 4)], (b * 64 + v) % 4, 2) := rfl
    have hx : (byt ((b * 64 + v) / 4)).toNat = (b * 64 + v) / 4 := byt_nat (by omega)
    rw [e]
    simp only [runS_snoc, stepS]
    rw [h1, hx]
    generalize (runS acc).2.1 = b' at *
    have e2 : stS b' 2 ((b * 64 + v) / 4) = ([sgn ((b' * 256 + (b * 64 + v) / 4) / 16)], (b' * 256 + (b * 64 + v) / 4) % 16, 4) := rfl
    rw [e2]
    refine ⟨by trivial, by omega, by trivial, Nat.mod_lt _ (by decide), ?_⟩
    rw [show (b' * 256 + (b * 64 + v) / 4) / 16 = b' * 16 + b from by omega, show (b' * 256 + (b * 64 + v) / 4) % 16 * 4 + (b * 64 + v) % 4 = v from by omega]
  · left
    have e : stB b 2 v = ([byt (b * 64 + v)], 0, 0) := rfl
    have hx : (byt (b * 64 + v)).toNat = b * 64 + v := byt_nat (by omega)
    rw [e]
    simp only [runS_snoc, stepS]
    rw [h1, hx]
    generalize (runS acc).2.1 = b' at *
    have e2 : stS b' 4 (b * 64 + v) = ([sgn ((b' * 256 + (b * 64 + v)) / 64), sgn ((b' * 256 + (b * 64 + v)) % 64)], 0, 0) := rfl
    rw [e2]
    refine ⟨by trivial, by trivial, by trivial, by trivial, ?_⟩
    rw [show (b' * 256 + (b * 64 + v)) / 64 = b' * 4 + b from by omega, show (b' * 256 + (b * 64 + v)) % 64 = v from by omega]
    simp

theorem Inv.fin {p acc : List UInt8} {b s : Nat} (h : Inv p acc b s) (hg : ¬ (6 ≤ s ∨ b ≠ 0)) : enc acc = p := by
  unfold enc
  rcases h with ⟨rfl, rfl, h1, h2, rfl⟩ | ⟨rfl, hb, h1, h2, rfl⟩ | ⟨rfl, hb, h1, h2, rfl⟩ | ⟨rfl, hb, h1, h2, rfl⟩
  · rw [if_pos h1]
  · omega
  · obtain rfl : b = 0 := by omega
    rw [h1, if_neg (by omega)]
    simp
  · obtain rfl : b = 0 := by omega
    rw [h1, if_neg (by omega)]
    simp

theorem decGo_enc : ∀ (r p acc : List UInt8) (i b s : Nat), Inv p acc b s → (decGo r i acc b s).2 < 0 → 0 ≤ i → (r = [] → p ≠ [] → 1 ≤ i) → enc (decGo r i acc b s).1 = p ++ r := by
  intro r
  induction r with
  | nil =>
    intro p acc i b s hI hd _ hi
    unfold decGo at hd ⊢
    by_cases hg : 6 ≤ s ∨ b ≠ 0
    · rw [if_pos hg] at hd
      exfalso
      have hp : p ≠ [] := by
        rcases hI with ⟨rfl, rfl, _⟩ | ⟨_, _, _, _, rfl⟩ | ⟨_, _, _, _, rfl⟩ | ⟨_, _, _, _, rfl⟩
        · omega
        · simp
        · simp
        · simp
      have := hi rfl hp
      simp only at hd; omega
    · rw [if_neg hg]
      simpa using hI.fin hg
  | cons c r ih =>
    intro p acc i b s hI hd _ _
    unfold decGo at hd ⊢
    by_cases hv : valI c < 0
    · rw [if_pos hv] at hd
      simp only at hd; omega
    · rw [if_neg hv] at hd ⊢
      have hbd := valI_bd c
      have hst := hI.step (v := (valI c).toNat) (by omega)
      rw [sgn_valI c (by omega)] at hst
      have := ih (p ++ [c]) _ (i + 1) _ _ hst hd (by omega) (fun _ _ => by omega)
      rw [this]; simp

/-- A text that is decoded is the text of its bytes. -/
theorem dec_enc (l : List UInt8) (h : (dec l).2 < 0) : enc (dec l).1 = l := by
  have := decGo_enc l [] [] 0 0 0 (.inl ⟨rfl, rfl, rfl, rfl, rfl⟩) h (by omega) (fun _ h => absurd rfl h)
  rw [List.nil_append] at this
  exact this
end Go.Proofs.YtaikdbbakdicgaaDoor
/-
  Slices of ints that a call makes for itself; lists of bits.
-/
namespace Go.Proofs.YtaikdbbakdicgaaDoor
open Go.ChangeShapes Go.WideShapes Go.ChangeAt Go.RowKit

theorem Tryd.infoI : (Tryd.prog.info? 3).map (fun i => (i.zero, i.size, i.bytes)) = some (some (.int .i64 0), 1, 8) := by kernel_rfl
def iv (n : Nat) : Value := .int .i64 n
def ivs (l : List Nat) : List Value := l.map iv
theorem ivs_length (l : List Nat) : (ivs l).length = l.length := by simp [ivs]
theorem ivs_append (l m : List Nat) : ivs (l ++ m) = ivs l ++ ivs m := by simp [ivs]

theorem app_int {ops : Array Oper} {rest : List Oper} {o : Oper} {a : Act} {Q : Exit → Act → World → Prop} {w : World} (hgd : o.guard = none) (s x : Operand)
    (ho : o.op = .call { callee := .builtin .append, args := #[s, x], argTypes := #[99, 99] })
    {base n nl : Nat} {v : Value} {l : List Nat} {b : Nat} (hs : a.eval s = v) (hown' : w.ownsRow base 3 1 v nl (ivs l)) (hx : a.eval x = .slice (some ⟨n, 0, none⟩) 1 1) (hc : w.cell? ⟨n, 0, none⟩ = some (iv b))
    (hlen : l.length + 1 ≤ 17592186044416) (hbase : base ≤ w.heap.size)
    (h : ∀ v' w', w'.ownsRow base 3 1 v' (l ++ [b]).length (ivs (l ++ [b])) → w.grownBy w' v.ownBlock → wpList Tryd.prog ops Q rest (a.put o.dst v') w') : wpList Tryd.prog ops Q (o :: rest) a w := by
  have hown : w.ownsRow base 3 1 v l.length (ivs l) := by
    obtain rfl : nl = l.length := by have := hown'.1; rw [ivs_length] at this; omega
    exact hown'
  obtain ⟨i0, hi, hz0, hz1, hz2⟩ := info_parts Tryd.infoI
  refine wpList_append_own w hgd s x 99 ho base 3 i0 (.int .i64 0) 1 8 Tryd.underlying99 hi hz0 hz1 hz2 rfl (by decide) v l.length (ivs l) hs hown ⟨n, 0, none⟩ 1 1 [iv b] hx rfl ?_ ?_ (by unfold maxLen; omega) (by omega) hbase ?_
  · intro j u hu
    match j, hu with
    | 0, hu => simp at hu; subst hu; simpa [Addr.add] using hc
  · intro u hu; simp at hu; subst hu; rfl
  · intro v' w' r1 r2 _
    exact h v' w' (by simpa [ivs] using r1) r2

theorem cell_lit (w : World) (v : Value) (t : TypeId) : (w.alloc (.cells #[v] t)).cell? ⟨w.heap.size, 0, none⟩ = some v := by
  rw [cell_of_row _ _ _ #[v] t (0, 0) (heap_alloc_new w _)]; rfl

/-- A slice of ints that the call owns, in any order of reading. -/
theorem own_int {w : World} {base n : Nat} {v : Value} {l : List Nat} (h : w.ownsRow base 3 1 v n (ivs l)) : n = l.length ∧ ∃ oa cap, v = .slice oa l.length cap ∧ l.length ≤ maxLen ∧
    (0 < l.length → ∃ g, oa = some ⟨g, 0, none⟩ ∧ l.length ≤ cap ∧ base ≤ g ∧ ∀ i, i < l.length → w.cell? ⟨g, i, none⟩ = some (iv (l.getD i 0))) := by
  have hn : n = l.length := by have := h.1; rw [ivs_length] at this; omega
  refine ⟨hn, ?_⟩
  subst hn
  rcases h.2 with ⟨hv, h0⟩ | ⟨g, cap, cur, hv, hb, hg, h1, h2, h3, h4⟩
  · exact ⟨none, 0, by rw [hv, h0], by rw [h0]; exact Nat.zero_le _, fun hp => by omega⟩
  · refine ⟨_, cap, hv, by omega, fun _ => ⟨g, rfl, h1, hb, fun i hi => ?_⟩⟩
    rw [cell_of_row w g i cur 3 (0, 0) hg]
    have hi2 : (ivs l)[i]? = some (iv (l.getD i 0)) := by simp [ivs, List.getD_eq_getElem?_getD, List.getElem?_eq_getElem hi]
    rw [← h4, List.getElem?_take] at hi2
    split at hi2
    · simpa using hi2
    · cases hi2

/-- The n lowest bits of v, the highest first. -/
def bitsN : Nat → Nat → List Nat
  | 0, _ => []
  | n + 1, v => bitsN n (v / 2) ++ [v % 2]
theorem bitsN_len : ∀ (n v : Nat), (bitsN n v).length = n
  | 0, _ => rfl
  | n + 1, v => by rw [bitsN, List.length_append, bitsN_len n]; rfl
theorem bitsN_add : ∀ (n m v : Nat), bitsN (m + n) v = bitsN m (v / 2 ^ n) ++ bitsN n (v % 2 ^ n)
  | 0, m, v => by simp [bitsN]
  | n + 1, m, v => by
    have e1 : v / 2 / 2 ^ n = v / 2 ^ (n + 1) := by rw [Nat.div_div_eq_div_mul, Nat.pow_succ, Nat.mul_comm]
    have e2 : v / 2 % 2 ^ n = v % 2 ^ (n + 1) / 2 := by
      have := Nat.mod_mul_right_div_self v 2 (2 ^ n)
      rw [Nat.pow_succ, Nat.mul_comm, this]
    have e3 : v % 2 ^ (n + 1) % 2 = v % 2 := by
      rw [Nat.pow_succ]; exact Nat.mod_mul_left_mod v (2 ^ n) 2
    show bitsN (m + n) (v / 2) ++ [v % 2] = bitsN m (v / 2 ^ (n + 1)) ++ (bitsN n (v % 2 ^ (n + 1) / 2) ++ [v % 2 ^ (n + 1) % 2])
    rw [bitsN_add n m (v / 2), e1, e2, e3, List.append_assoc]
theorem bitsN_cat (m n a b : Nat) (hb : b < 2 ^ n) : bitsN m a ++ bitsN n b = bitsN (m + n) (a * 2 ^ n + b) := by
  have hp : 0 < 2 ^ n := Nat.two_pow_pos n
  rw [bitsN_add, Nat.add_comm (a * 2 ^ n) b, Nat.add_mul_div_right _ _ hp, Nat.div_eq_of_lt hb, Nat.add_mul_mod_self_right, Nat.mod_eq_of_lt hb, Nat.zero_add]
end Go.Proofs.YtaikdbbakdicgaaDoor
/-
  Plain facts: the signs of bytes are groups of six of their bits, and what is decoded from them is the bytes.
-/
namespace Go.Proofs.YtaikdbbakdicgaaDoor
open Go.RowKit

def bitsOf (l : List UInt8) : List Nat := l.flatMap fun x => bitsN 8 x.toNat
def six (gs : List Nat) : List Nat := gs.flatMap (bitsN 6)
theorem bitsOf_snoc (l : List UInt8) (x : UInt8) : bitsOf (l ++ [x]) = bitsOf l ++ bitsN 8 x.toNat := by simp [bitsOf, List.flatMap_append]
theorem bitsOf_len (l : List UInt8) : (bitsOf l).length = 8 * l.length := by
  induction l with
  | nil => rfl
  | cons x r ih => simp only [bitsOf, List.flatMap_cons, List.length_append, bitsN_len, List.length_cons] at ih ⊢; omega
theorem six_snoc (gs : List Nat) (g : Nat) : six (gs ++ [g]) = six gs ++ bitsN 6 g := by simp [six, List.flatMap_append]
theorem six_len (gs : List Nat) : (six gs).length = 6 * gs.length := by
  induction gs with
  | nil => rfl
  | cons x r ih => simp only [six, List.flatMap_cons, List.length_append, bitsN_len, List.length_cons] at ih ⊢; omega

theorem snoc_ind {α : Type} {P : List α → Prop} (h0 : P []) (h1 : ∀ l x, P l → P (l ++ [x])) : ∀ l, P l := by
  intro l
  have h : ∀ (n : Nat) (l : List α), l.length = n → P l := by
    intro n
    induction n with
    | zero => intro l h; obtain rfl := List.eq_nil_of_length_eq_zero h; exact h0
    | succ n ih =>
      intro l h
      obtain ⟨l', x, rfl⟩ : ∃ l' x, l = l' ++ [x] := by
        have hne : l ≠ [] := by intro e; rw [e] at h; simp at h
        exact ⟨l.dropLast, l.getLast hne, (List.dropLast_concat_getLast hne).symm⟩
      exact h1 l' x (ih l' (by simpa using h))
  exact h l.length l rfl

theorem runS_groups : ∀ l : List UInt8, ∃ gs : List Nat, (∀ g ∈ gs, g < 64) ∧ (runS l).1 = gs.map sgn ∧ bitsOf l = six gs ++ bitsN (runS l).2.2 (runS l).2.1 := by
  refine snoc_ind ⟨[], by simp, rfl, rfl⟩ ?_
  intro l x ⟨gs, h1, h2, h3⟩
  have hok := runS_ok l
  have hx := x.toNat_lt
  rw [bitsOf_snoc, h3, runS_snoc]
  generalize hr : runS l = r at *
  obtain ⟨out, b, s⟩ := r
  simp only at h2 hok ⊢
  subst h2
  rw [List.append_assoc]
  rcases hok with ⟨rfl, hb⟩ | ⟨rfl, hb⟩ | ⟨rfl, hb⟩
  · obtain rfl : b = 0 := by omega
    refine ⟨gs ++ [(0 * 256 + x.toNat) / 4], ?_, ?_, ?_⟩
    · intro g hg; rcases List.mem_append.1 hg with h | h
      · exact h1 g h
      · simp at h; omega
    · simp [stepS, stS]
    · rw [six_snoc, List.append_assoc]
      congr 1
      show bitsN 0 0 ++ bitsN 8 x.toNat = bitsN 6 ((0 * 256 + x.toNat) / 4) ++ bitsN 2 ((0 * 256 + x.toNat) % 4)
      rw [bitsN_cat 0 8 0 x.toNat (by omega)]
      exact bitsN_add 2 6 _
  · refine ⟨gs ++ [(b * 256 + x.toNat) / 16], ?_, ?_, ?_⟩
    · intro g hg; rcases List.mem_append.1 hg with h | h
      · exact h1 g h
      · simp at h; omega
    · simp [stepS, stS]
    · rw [six_snoc, List.append_assoc]
      congr 1
      show bitsN 2 b ++ bitsN 8 x.toNat = bitsN 6 ((b * 256 + x.toNat) / 16) ++ bitsN 4 ((b * 256 + x.toNat) % 16)
      rw [bitsN_cat 2 8 b x.toNat (by omega)]
      exact bitsN_add 4 6 _
  · refine ⟨gs ++ [(b * 256 + x.toNat) / 64] ++ [(b * 256 + x.toNat) % 64], ?_, ?_, ?_⟩
    · intro g hg; rcases List.mem_append.1 hg with h | h
      · rcases List.mem_append.1 h with h | h
        · exact h1 g h
        · simp at h; omega
      · simp at h; omega
    · simp [stepS, stS]
    · rw [six_snoc, six_snoc, List.append_assoc, List.append_assoc]
      congr 1
      show bitsN 4 b ++ bitsN 8 x.toNat = bitsN 6 ((b * 256 + x.toNat) / 64) ++ (bitsN 6 ((b * 256 + x.toNat) % 64) ++ bitsN 0 0)
      rw [bitsN_cat 4 8 b x.toNat (by omega), show bitsN 0 0 = [] from rfl, List.append_nil]
      exact bitsN_add 6 6 _

def padN (n : Nat) : Nat := (6 - n % 6) % 6
theorem bitsN_zero : ∀ n, bitsN n 0 = List.replicate n 0
  | 0 => rfl
  | n + 1 => by rw [bitsN, Nat.zero_div, bitsN_zero n, List.replicate_succ']

theorem enc_groups (l : List UInt8) : ∃ gs : List Nat, (∀ g ∈ gs, g < 64) ∧ enc l = gs.map sgn ∧ bitsOf l ++ List.replicate (padN (8 * l.length)) 0 = six gs := by
  obtain ⟨gs, h1, h2, h3⟩ := runS_groups l
  have hok := runS_ok l
  have hl := bitsOf_len l
  rw [h3, List.length_append, six_len, bitsN_len] at hl
  unfold enc
  rw [h3]
  generalize hr : runS l = r at *
  obtain ⟨out, b, s⟩ := r
  simp only at h2 hok hl ⊢
  subst h2
  rcases hok with ⟨rfl, hb⟩ | ⟨rfl, hb⟩ | ⟨rfl, hb⟩
  · refine ⟨gs, h1, rfl, ?_⟩
    rw [show padN (8 * l.length) = 0 from by unfold padN; omega]
    simp [bitsN]
  · refine ⟨gs ++ [b * 16], ?_, ?_, ?_⟩
    · intro g hg; rcases List.mem_append.1 hg with h | h
      · exact h1 g h
      · simp at h; omega
    · simp
    · rw [show padN (8 * l.length) = 4 from by unfold padN; omega, six_snoc, List.append_assoc, ← bitsN_zero]
      congr 1
      rw [bitsN_cat 2 4 b 0 (by omega)]; rfl
  · refine ⟨gs ++ [b * 4], ?_, ?_, ?_⟩
    · intro g hg; rcases List.mem_append.1 hg with h | h
      · exact h1 g h
      · simp at h; omega
    · simp
    · rw [show padN (8 * l.length) = 2 from by unfold padN; omega, six_snoc, List.append_assoc, ← bitsN_zero]
      congr 1
      rw [bitsN_cat 4 2 b 0 (by omega)]; rfl

theorem enc_len (l : List UInt8) : (enc l).length = (8 * l.length + 5) / 6 := by
  obtain ⟨gs, _, h2, h3⟩ := enc_groups l
  have := congrArg List.length h3
  rw [List.length_append, bitsOf_len, six_len, List.length_replicate] at this
  rw [h2, List.length_map]
  unfold padN at this
  omega
end Go.Proofs.YtaikdbbakdicgaaDoor
/-
  Plain facts: what is decoded from the signs of bytes is the bytes.
-/
namespace Go.Proofs.YtaikdbbakdicgaaDoor
open Go.RowKit

theorem valI_sgn (g : Nat) (h : g < 64) : valI (sgn g) = g := by
  have hh : ∀ n : Fin 64, decide (valI (sgn n.val) = n.val) = true := by decide +kernel
  exact of_decide_eq_true (hh ⟨g, h⟩)

theorem bitsN_inj : ∀ (n a b : Nat), a < 2 ^ n → b < 2 ^ n → bitsN n a = bitsN n b → a = b
  | 0, a, b, ha, hb, _ => by omega
  | n + 1, a, b, ha, hb, h => by
    rw [bitsN, bitsN] at h
    have h1 := List.append_inj' h rfl
    have h2 := bitsN_inj n (a / 2) (b / 2) (by omega) (by omega) h1.1
    have h3 : a % 2 = b % 2 := by simpa using h1.2
    omega

theorem bitsOf_inj : ∀ (a b : List UInt8), bitsOf a = bitsOf b → a = b
  | [], [], _ => rfl
  | [], y :: b, h => by have := congrArg List.length h; rw [bitsOf_len, bitsOf_len] at this; simp at this
  | x :: a, [], h => by have := congrArg List.length h; rw [bitsOf_len, bitsOf_len] at this; simp at this
  | x :: a, y :: b, h => by
    simp only [bitsOf, List.flatMap_cons] at h
    have h1 := List.append_inj h (by rw [bitsN_len, bitsN_len])
    have h2 := bitsOf_inj a b h1.2
    have h3 := bitsN_inj 8 _ _ x.toNat_lt y.toNat_lt h1.1
    rw [h2, UInt8.toNat_inj.1 h3]

theorem stB_bits {b s g : Nat} (h : okB b s) (hg : g < 64) : bitsN s b ++ bitsN 6 g = bitsOf (stB b s g).1 ++ bitsN (stB b s g).2.2 (stB b s g).2.1 := by
  have ht : ∀ n : Nat, n < 256 → bitsOf [byt n] = bitsN 8 n := by
    intro n hn
    simp [bitsOf, byt_nat hn]
  rw [bitsN_cat s 6 b g hg]
  rcases h with ⟨rfl, h⟩ | ⟨rfl, h⟩ | ⟨rfl, h⟩ | ⟨rfl, h⟩
  · rfl
  · show _ = bitsOf [byt (b * 64 + g)] ++ bitsN 0 0
    rw [ht _ (by omega), show bitsN 0 0 = [] from rfl, List.append_nil]
  · show _ = bitsOf [byt ((b * 64 + g) / 4)] ++ bitsN 2 ((b * 64 + g) % 4)
    rw [ht _ (by omega)]
    exact bitsN_add 2 8 _
  · show _ = bitsOf [byt ((b * 64 + g) / 16)] ++ bitsN 4 ((b * 64 + g) % 16)
    rw [ht _ (by omega)]
    exact bitsN_add 4 8 _

theorem decGo_back (l : List UInt8) (all : List Nat) (hall : bitsOf l ++ List.replicate (padN (8 * l.length)) 0 = six all) :
    ∀ (r p : List Nat) (acc : List UInt8) (i b s : Nat), p ++ r = all → (∀ g ∈ r, g < 64) → okB b s → six p = bitsOf acc ++ bitsN s b → decGo (r.map sgn) i acc b s = (l, -1)
  | [], p, acc, i, b, s, hp, _, hok, hb => by
    rw [List.append_nil] at hp
    subst hp
    rw [hb] at hall
    have hlen := congrArg List.length hall
    rw [List.length_append, List.length_append, bitsOf_len, bitsOf_len, bitsN_len, List.length_replicate] at hlen
    have hs : s = padN (8 * l.length) := by unfold padN at hlen ⊢; rcases hok with ⟨rfl, _⟩ | ⟨rfl, _⟩ | ⟨rfl, _⟩ | ⟨rfl, _⟩ <;> omega
    have hap := List.append_inj hall (by rw [bitsOf_len, bitsOf_len]; omega)
    have h1 := bitsOf_inj _ _ hap.1
    have hbs : b < 2 ^ s := by rcases hok with ⟨rfl, _⟩ | ⟨rfl, _⟩ | ⟨rfl, _⟩ | ⟨rfl, _⟩ <;> omega
    have h2 : b = 0 := by
      refine bitsN_inj s b 0 hbs (Nat.two_pow_pos s) ?_
      rw [← hap.2, bitsN_zero, hs]
    have h3 : s < 6 := by rw [hs]; unfold padN; omega
    subst h1
    show (if 6 ≤ s ∨ b ≠ 0 then _ else _) = _
    rw [if_neg (by omega)]
  | g :: r, p, acc, i, b, s, hp, hr, hok, hb => by
    have hg := hr g List.mem_cons_self
    show (if valI (sgn g) < 0 then _ else _) = _
    rw [valI_sgn g hg, if_neg (by omega), Int.toNat_natCast]
    refine decGo_back l all hall r (p ++ [g]) _ (i + 1) _ _ (by rw [List.append_assoc]; exact hp) (fun x hx => hr x (List.mem_cons_of_mem _ hx)) (okB_step hok hg) ?_
    rw [six_snoc, hb, List.append_assoc, stB_bits hok hg, ← List.append_assoc]
    congr 1
    simp [bitsOf, List.flatMap_append]

theorem dec_enc_back (l : List UInt8) : dec (enc l) = (l, -1) := by
  obtain ⟨gs, h1, h2, h3⟩ := enc_groups l
  rw [h2]
  exact decGo_back l gs h3 gs [] [] 0 0 0 rfl h1 (Or.inl ⟨rfl, by omega⟩) rfl
end Go.Proofs.YtaikdbbakdicgaaDoor
/-
  SHA-256 as plain functions on 32-bit words; no program is spoken of.
-/
namespace Go.Proofs.YtaikdbbakdicgaaDoor

def wv (x : UInt32) : Value := .int .u32 x.toNat
def wvs (l : List UInt32) : List Value := l.map wv
def rotr (x : UInt32) (n : Nat) : UInt32 := (x >>> UInt32.ofNat n) ||| (x <<< UInt32.ofNat (32 - n))
def sg0 (x : UInt32) : UInt32 := rotr x 7 ^^^ rotr x 18 ^^^ (x >>> 3)
def sg1 (x : UInt32) : UInt32 := rotr x 17 ^^^ rotr x 19 ^^^ (x >>> 10)
def ext (l : List UInt32) : List UInt32 := l ++ [l.getD (l.length - 16) 0 + sg0 (l.getD (l.length - 15) 0) + l.getD (l.length - 7) 0 + sg1 (l.getD (l.length - 2) 0)]
def extN : Nat → List UInt32 → List UInt32
  | 0, l => l
  | n + 1, l => ext (extN n l)
def wpart (b : List UInt8) (j : Nat) : Nat → UInt32
  | 0 => 0
  | k + 1 => wpart b j k * 256 + (b.getD (4 * j + k) 0).toUInt32
def words16 (b : List UInt8) : List UInt32 := (List.range 16).map fun j => wpart b j 4
def sched (b : List UInt8) : List UInt32 := extN 48 (words16 b)
structure S8 where
  a : UInt32
  b : UInt32
  c : UInt32
  d : UInt32
  e : UInt32
  f : UInt32
  g : UInt32
  h : UInt32
def S8.list (s : S8) : List UInt32 := [s.a, s.b, s.c, s.d, s.e, s.f, s.g, s.h]
def rt (s : S8) (k w : UInt32) : UInt32 := s.h + (rotr s.e 6 ^^^ rotr s.e 11 ^^^ rotr s.e 25) + ((s.e &&& s.f) ^^^ (~~~s.e &&& s.g)) + k + w
def ru (s : S8) : UInt32 := (rotr s.a 2 ^^^ rotr s.a 13 ^^^ rotr s.a 22) + ((s.a &&& s.b) ^^^ (s.a &&& s.c) ^^^ (s.b &&& s.c))
def rnd (s : S8) (k w : UInt32) : S8 := ⟨rt s k w + ru s, s.a, s.b, s.c, s.d + rt s k w, s.e, s.f, s.g⟩
def rounds (ks ws : List UInt32) : Nat → S8 → S8
  | 0, s => s
  | i + 1, s => rnd (rounds ks ws i s) (ks.getD i 0) (ws.getD i 0)
def S8.add (s t : S8) : S8 := ⟨s.a + t.a, s.b + t.b, s.c + t.c, s.d + t.d, s.e + t.e, s.f + t.f, s.g + t.g, s.h + t.h⟩
def kk : List UInt32 := [
  0x428a2f98, 0x71374491, 0xb5c0fbcf, 0xe9b5dba5, 0x3956c25b, 0x59f111f1, 0x923f82a4, 0xab1c5ed5,
  0xd807aa98, 0x12835b01, 0x243185be, 0x550c7dc3, 0x72be5d74, 0x80deb1fe, 0x9bdc06a7, 0xc19bf174,
  0xe49b69c1, 0xefbe4786, 0x0fc19dc6, 0x240ca1cc, 0x2de92c6f, 0x4a7484aa, 0x5cb0a9dc, 0x76f988da,
  0x983e5152, 0xa831c66d, 0xb00327c8, 0xbf597fc7, 0xc6e00bf3, 0xd5a79147, 0x06ca6351, 0x14292967,
  0x27b70a85, 0x2e1b2138, 0x4d2c6dfc, 0x53380d13, 0x650a7354, 0x766a0abb, 0x81c2c92e, 0x92722c85,
  0xa2bfe8a1, 0xa81a664b, 0xc24b8b70, 0xc76c51a3, 0xd192e819, 0xd6990624, 0xf40e3585, 0x106aa070,
  0x19a4c116, 0x1e376c08, 0x2748774c, 0x34b0bcb5, 0x391c0cb3, 0x4ed8aa4a, 0x5b9cca4f, 0x682e6ff3,
  0x748f82ee, 0x78a5636f, 0x84c87814, 0x8cc70208, 0x90befffa, 0xa4506ceb, 0xbef9a3f7, 0xc67178f2]
def st0 : S8 := ⟨0x6a09e667, 0xbb67ae85, 0x3c6ef372, 0xa54ff53a, 0x510e527f, 0x9b05688c, 0x1f83d9ab, 0x5be0cd19⟩
def blk (s : S8) (b : List UInt8) : S8 := s.add (rounds kk (sched b) 64 s)
def compN : Nat → S8 → List UInt8 → S8
  | 0, s, _ => s
  | n + 1, s, l => compN n (blk s (l.take 64)) (l.drop 64)
def joinS (s : S8) : List UInt8 := (List.range 32).map fun i => (s.list.getD (i / 4) 0 >>> UInt32.ofNat (24 - 8 * (i % 4))).toUInt8
def zeros (n : Nat) : Nat := (64 - (n + 9) % 64) % 64
def be64 (x : Nat) : Nat → List UInt8
  | 0 => []
  | k + 1 => UInt8.ofNat (x / 2 ^ (8 * k)) :: be64 x k
def padding (n : Nat) : List UInt8 := 128 :: (List.replicate (zeros n) 0 ++ be64 (8 * n) 8)
def digest (l : List UInt8) : List UInt8 := joinS (compN ((l ++ padding l.length).length / 64) st0 (l ++ padding l.length))

theorem wvs_length (l : List UInt32) : (wvs l).length = l.length := by simp [wvs]
theorem ext_length (l : List UInt32) : (ext l).length = l.length + 1 := by simp [ext]
theorem extN_length (n : Nat) (l : List UInt32) : (extN n l).length = l.length + n := by
  induction n with
  | zero => rfl
  | succ n ih => rw [extN, ext_length, ih]; omega
theorem words16_length (b : List UInt8) : (words16 b).length = 16 := by simp [words16]
theorem sched_length (b : List UInt8) : (sched b).length = 64 := by rw [sched, extN_length, words16_length]
theorem be64_length (x k : Nat) : (be64 x k).length = k := by
  induction k with
  | zero => rfl
  | succ k ih => simp [be64, ih]
theorem padding_length (n : Nat) : (padding n).length = zeros n + 9 := by
  simp only [padding, List.length_cons, List.length_append, List.length_replicate, be64_length]
theorem padding_whole (n : Nat) : (n + (padding n).length) % 64 = 0 := by
  rw [padding_length]; unfold zeros; omega
theorem joinS_length (s : S8) : (joinS s).length = 32 := by simp [joinS]

/- Words and their numbers. -/
theorem w_lt (x : UInt32) : x.toNat < 4294967296 := x.toNat_lt
theorem w_add (x y : UInt32) : IntKind.u32.wrap ((x.toNat : Int) + (y.toNat : Int)) = ((x + y).toNat : Int) := by
  rw [IntKind.wrap_u32', UInt32.toNat_add]; omega
theorem w_and (x y : UInt32) : bits .and .u32 (x.toNat : Int) (y.toNat : Int) = ((x &&& y).toNat : Int) := by
  rw [u32_and_nat _ _ (w_lt x) (w_lt y), UInt32.toNat_and]
theorem w_or (x y : UInt32) : bits .or .u32 (x.toNat : Int) (y.toNat : Int) = ((x ||| y).toNat : Int) := by
  rw [u32_or_nat _ _ (w_lt x) (w_lt y), UInt32.toNat_or]
theorem w_xor (x y : UInt32) : bits .xor .u32 (x.toNat : Int) (y.toNat : Int) = ((x ^^^ y).toNat : Int) := by
  rw [u32_xor_nat _ _ (w_lt x) (w_lt y), UInt32.toNat_xor]
theorem w_not (x : UInt32) : 4294967295 - (x.toNat : Int) = ((~~~x).toNat : Int) := by
  have h1 : (~~~x).toNat = 4294967295 - x.toNat := by
    rw [UInt32.toNat_not]; rfl
  have := w_lt x
  rw [h1]; omega
theorem w_shr (x : UInt32) (n : Nat) (h : n < 32) : (x.toNat : Int) / 2 ^ n = ((x >>> UInt32.ofNat n).toNat : Int) := by
  rw [UInt32.toNat_shiftRight, UInt32.toNat_ofNat', Nat.mod_eq_of_lt (b := 2 ^ 32) (by omega), Nat.mod_eq_of_lt h, Nat.shiftRight_eq_div_pow]
  simp
theorem w_shl (x : UInt32) (n : Nat) (h : n < 32) : IntKind.u32.wrap ((x.toNat : Int) * 2 ^ n) = ((x <<< UInt32.ofNat n).toNat : Int) := by
  rw [UInt32.toNat_shiftLeft, UInt32.toNat_ofNat', Nat.mod_eq_of_lt (a := n) (b := 2 ^ 32) (by omega), Nat.mod_eq_of_lt h, Nat.shiftLeft_eq, IntKind.wrap_u32']
  have e : (x.toNat : Int) * 2 ^ n = ((x.toNat * 2 ^ n : Nat) : Int) := by simp
  rw [e]; omega

theorem comp_take (m : Nat) : ∀ (s : S8) (l r : List UInt8), 64 * m ≤ l.length → compN m s (l ++ r) = compN m s l := by
  induction m with
  | zero => intro s l r _; rfl
  | succ m ih =>
    intro s l r h
    have h1 : 64 ≤ l.length := by omega
    rw [compN, compN, List.take_append_of_le_length h1, List.drop_append_of_le_length h1]
    exact ih _ _ _ (by rw [List.length_drop]; omega)
theorem comp_add (m : Nat) : ∀ (n : Nat) (s : S8) (l : List UInt8), compN (m + n) s l = compN n (compN m s l) (l.drop (64 * m)) := by
  induction m with
  | zero => intro n s l; simp [compN]
  | succ m ih =>
    intro n s l
    rw [show m + 1 + n = (m + n) + 1 by omega, compN, ih, compN, List.drop_drop]
    congr 2
    omega
/-- What Sum keeps: the state after whole blocks, and the bytes behind them. -/
theorem comp_next (s : S8) (t p : List UInt8) :
    compN ((t.drop (64 * (t.length / 64)) ++ p).length / 64) (compN (t.length / 64) s t) (t.drop (64 * (t.length / 64)) ++ p) = compN ((t ++ p).length / 64) s (t ++ p) ∧
    (t.drop (64 * (t.length / 64)) ++ p).drop (64 * ((t.drop (64 * (t.length / 64)) ++ p).length / 64)) = (t ++ p).drop (64 * ((t ++ p).length / 64)) := by
  obtain ⟨q, hq⟩ : ∃ q, q = t.length / 64 := ⟨_, rfl⟩
  rw [← hq]
  have hle : 64 * q ≤ t.length := by omega
  have hd : t.drop (64 * q) ++ p = (t ++ p).drop (64 * q) := (List.drop_append_of_le_length hle).symm
  have hn : (t ++ p).length / 64 = q + (t.drop (64 * q) ++ p).length / 64 := by
    rw [List.length_append, List.length_append, List.length_drop]; omega
  refine ⟨?_, ?_⟩
  · rw [hn, comp_add, comp_take q s t p hle, hd]
  · rw [hn, hd, List.drop_drop]
    congr 1
    omega
end Go.Proofs.YtaikdbbakdicgaaDoor
/-
  A block of memory that is known whole: arrays by value, loaded, stored and written into.
-/
namespace Go.Proofs.YtaikdbbakdicgaaDoor
open Go.ChangeShapes Go.WideShapes Go.ChangeAt Go.RowKit
set_option linter.unusedVariables false

/-- Block g is, whole, the cells cs of type t. -/
def Arr (w : World) (t : TypeId) (g : Nat) (cs : List Value) : Prop := w.heap[g]? = some (.cells cs.toArray t (0, 0))
theorem Arr.lt {w : World} {t : TypeId} {g : Nat} {cs : List Value} (h : Arr w t g cs) : g < w.heap.size := (Array.getElem?_eq_some_iff.1 h).1
theorem Arr.cell {w : World} {t : TypeId} {g : Nat} {cs : List Value} (h : Arr w t g cs) (i : Nat) : w.cell? ⟨g, i, none⟩ = cs[i]? := by
  rw [cell_of_row w g i _ t (0, 0) h]; simp
theorem Arr.free {w : World} {t : TypeId} {g : Nat} {cs : List Value} (h : Arr w t g cs) (i : Nat) : w.frozen? ⟨g, i, none⟩ = false := by
  have h' : w.heap[g]? = some (.cells cs.toArray t (0, 0)) := h
  simp [World.frozen?, h']
theorem Arr.below {B : Nat} {w w' : World} {t : TypeId} {g : Nat} {cs : List Value} (h : Arr w t g cs) (hb : Below B w w') (hg : g < B) : Arr w' t g cs := (hb.block g hg).trans h
theorem Arr.later {w w' : World} {t : TypeId} {g : Nat} {cs : List Value} (h : Arr w t g cs) (hb : Below w.heap.size w w') : Arr w' t g cs := h.below hb h.lt
theorem Arr.alloc {w : World} {t : TypeId} {g : Nat} {cs : List Value} (h : Arr w t g cs) (o : Obj) : Arr (w.alloc o) t g cs := (Below.heap_alloc w o g h.lt).trans h
theorem Arr.new (w : World) (t : TypeId) (cs : Array Value) : Arr (w.alloc (.cells cs t)) t w.heap.size cs.toList := by
  show (w.heap.push _)[w.heap.size]? = _
  simp
theorem Arr.new' (w : World) (t : TypeId) (cs : Array Value) (l : List Value) (h : cs.toList = l) : Arr (w.alloc (.cells cs t)) t w.heap.size l := h ▸ Arr.new w t cs
theorem Arr.setCell {w : World} {t : TypeId} {g : Nat} {cs : List Value} (h : Arr w t g cs) {a : Addr} (ha : g ≠ a.block) (v : Value) : Arr (w.setCell a v) t g cs := (Below.heap_setCell w a v g ha).trans h
theorem Arr.set {w : World} {t : TypeId} {g : Nat} {cs : List Value} (h : Arr w t g cs) (i : Nat) (v : Value) : Arr (w.setCell ⟨g, i, none⟩ v) t g (cs.set i v) := by
  have h' : w.heap[g]? = some (.cells cs.toArray t (0, 0)) := h
  show (w.setCell ⟨g, i, none⟩ v).heap[g]? = _
  rw [setCell_eq_setRow w g i cs.toArray t (0, 0) v h', setRow_heap w g cs.toArray _ t _ h']
  congr 2
  apply Array.ext'
  simp
theorem Arr.row {w : World} {t : TypeId} {g : Nat} {cs : List Value} (h : Arr w t g cs) (cs' : List Value) : Arr (w.setRow g cs'.toArray) t g cs' := setRow_heap w g cs.toArray _ t _ h
theorem Arr.row_other {w : World} {t : TypeId} {g k : Nat} {cs : List Value} (h : Arr w t g cs) (hk : g ≠ k) (c : Array Value) : Arr (w.setRow k c) t g cs := by
  show (w.setRow k c).heap[g]? = _
  simp only [World.setRow, Array.getElem?_modify]
  rw [if_neg (fun e => hk e.symm)]
  exact h
theorem Arr.drew {w : World} {t : TypeId} {g : Nat} {cs : List Value} (h : Arr w t g cs) : Arr w.drew t g cs := h
theorem Arr.drewN {w : World} {t : TypeId} {g : Nat} {cs : List Value} (h : Arr w t g cs) (n : Nat) : Arr (w.drewN n) t g cs := h.below ((Joins.below_draws w.heap.size w n)) h.lt
theorem Arr.range {w : World} {t : TypeId} {g : Nat} {cs : List Value} (h : Arr w t g cs) : w.rangeAt g 0 cs := fun j v hv => by
  rw [Nat.zero_add, h.cell j, hv]
theorem below_row {B : Nat} {a w : World} (h : Below B a w) {g : Nat} (hg : B ≤ g) (c : Array Value) : Below B a (w.setRow g c) :=
  h.trans ⟨rfl, rfl, rfl, by simp [World.setRow], fun k hk => by
    simp only [World.setRow, Array.getElem?_modify]
    rw [if_neg (by omega)]⟩

theorem Arr.new2 (w : World) (o : Obj) (t : TypeId) (cs : Array Value) (l : List Value) (h : cs.toList = l) : Arr ((w.alloc o).alloc (.cells cs t)) t (w.heap.size + 1) l := by
  have := Arr.new' (w.alloc o) t cs l h
  rw [show (w.alloc o).heap.size = w.heap.size + 1 from by simp] at this
  exact this
theorem Arr.new3 (w : World) (o o2 : Obj) (t : TypeId) (cs : Array Value) (l : List Value) (h : cs.toList = l) : Arr (((w.alloc o).alloc o2).alloc (.cells cs t)) t (w.heap.size + 2) l := by
  have := Arr.new' ((w.alloc o).alloc o2) t cs l h
  rw [show ((w.alloc o).alloc o2).heap.size = w.heap.size + 2 from by simp] at this
  exact this
/-- An array value at an index, its elements one cell each. -/
theorem index_arr {P : Program} {t e : TypeId} {n : Nat} (hu : P.underlying t = some (.array n e)) {d : TypeDesc} (he : P.underlying e = some d) (hd : d.isRow = false) {ie : TypeInfo} (hi : P.info? e = some ie) (hs : ie.size = 1)
    (cs : List Value) (k : IntKind) (i : Nat) (hn : i < n) {v : Value} (hv : cs[i]? = some v) (w : World) : (Instr.index t (.agg cs.toArray) (.int k i)).run P w = .ok v w := by
  have ha : (isAgg e).run P w = .ok false w := by
    unfold isAgg
    rw [Sem.run_bind, run_underlying he w]
    cases d <;> simp_all [TypeDesc.isRow]
  have hz : (sizeOf e).run P w = .ok 1 w := by simp [sizeOf, typeInfo, hi, hs]
  have h0 : (0 : Int) ≤ i ∧ (i : Int) < n := by omega
  simp [Instr.index, asIntOf, Sem.run_bind, run_underlying hu w, hz, hn, part, ha, hv]

theorem quiet_left {P : Program} {f : FuncId} {args : Array Value} {w : World} {n : Nat} {v : Value}
    (h : Calls P f args (w.drewN n) fun e w' => e = .returned v ∧ w.drewN n = w') : Calls P f args (w.drewN n) fun e w'' => e = .returned v ∧ ∃ m, w'' = w.drewN m :=
  h.mono fun _ _ ⟨he, hm⟩ => ⟨he, n, hm.symm⟩

section
variable {P : Program} {ops : Array Oper} {rest : List Oper} {o : Oper} {a : Act} {Q : Exit → Act → World → Prop} {w : World}
/-- A region that draws its order, its reads and quiet calls ahead of its tail; the world behind the draw folded. -/
theorem region_tail {id : Nat} {l : List Oper} (n : Nat) (hm : P.follows .mixedOrders = true) (hB : Region.lexTailB .any l.toArray n = true)
    (h : wpStill P l.toArray w.drew (fun a' => wpList P l.toArray Q (l.drop n) a' w.drew) (l.take n) a) : (Code.region id l.toArray true).wp P Q a w := wp_region_still_tail n hm hB h
/-- In such a region a whole array is loaded, out of the middle of a block too. -/
theorem still_load {Q' : Act → Prop} (hgd : o.guard = none) (ty : TypeId) (x : Operand) (ho : o.op = .load ty x) (b off : Nat) (hx : a.eval x = .pointer (some ⟨b, off, none⟩)) (cs : List Value) (d : TypeDesc) (hc : w.rangeAt b off cs)
    (hu : P.underlying ty = some d) (hd : d.isRow = true) (hi : (P.info? ty).map (·.size) = some cs.length) (h : wpStill P ops w Q' rest (a.put o.dst (.agg cs.toArray))) : wpStill P ops w Q' (o :: rest) a := by
  refine wpStill_step (fun K hK => ?_)
  have hw : Region.wanted o (yielded ops a.tmps) = true := by simp [Region.wanted, hgd]
  rw [if_pos hw]
  unfold Oper.still execOp
  simp only [ho, hx, Instr.loadAt, Instr.sureAddr, Sem.run_bind, Sem.run_pure, Result.andThen_ok, run_loadVar_mid w b off ty cs d hc hu hd hi]
  exact ⟨rfl, hK _ h⟩
/-- The whole array is loaded. -/
theorem load_arr (hgd : o.guard = none) (ty : TypeId) (x : Operand) (ho : o.op = .load ty x) {g : Nat} {t : TypeId} {cs : List Value} (h : Arr w t g cs) (hx : a.eval x = .pointer (some ⟨g, 0, none⟩)) {d : TypeDesc}
    (hu : P.underlying ty = some d) (hd : d.isRow = true) (hi : (P.info? ty).map (·.size) = some cs.length)
    (hk : wpList P ops Q rest (a.put o.dst (.agg cs.toArray)) w) : wpList P ops Q (o :: rest) a w :=
  wpList_load_mid hgd ty x ho g 0 hx cs d h.range hu hd hi hk
/-- A whole array is stored. -/
theorem store_arr (hgd : o.guard = none) (ty : TypeId) (x y : Operand) (ho : o.op = .store ty x y) {g : Nat} {t : TypeId} {old cs : List Value} (h : Arr w t g old) (hx : a.eval x = .pointer (some ⟨g, 0, none⟩)) (hy : a.eval y = .agg cs.toArray)
    (hi : (P.info? ty).map (·.size) = some cs.length) (hold : old.length = cs.length) (h1 : ∀ v ∈ cs, v.oneCell' = true)
    (hk : wpList P ops Q rest (a.put o.dst undef) (w.setRow g cs.toArray)) : wpList P ops Q (o :: rest) a w :=
  wpList_store_row hgd ty x y ho g cs.toArray hx hy t old.toArray h (by simpa using hi) (by simpa using hold) (Array.all_eq_true_iff_forall_mem.2 (fun v hv => h1 v (by simpa using hv))) hk
end
/-- Two results, the first an array in a cell. -/
theorem results_cell_tmp {P : Program} {fn : Func} {p q : Tmp} {ty : TypeId} (h : fn.results = #[.cell p ty, .tmp q]) (tmps : Array Value) (w : World) (g : Nat) (t : TypeId) (cs : Array Value) (fr : Nat × Nat) (d : TypeDesc)
    (hp : tmps.getD p undef = .pointer (some ⟨g, 0, none⟩)) (hg : w.heap[g]? = some (.cells cs t fr))
    (hu : P.underlying ty = some d) (hd : (match d with | .struct _ | .array _ _ => true | _ => false) = true) (hi : (P.info? ty).map (·.size) = some cs.size) :
    (results fn tmps).run P w = .ok (.tuple #[.agg cs, tmps.getD q undef]) w := by
  have hp' : tmps[p]?.getD undef = .pointer (some ⟨g, 0, none⟩) := by simpa using hp
  simp [results, h, hp', asAddr, run_loadVar_row w g t ty cs fr d hg hu hd hi]
end Go.Proofs.YtaikdbbakdicgaaDoor
/-
  Words turned: sha.right and the reference's rot.
-/
namespace Go.Proofs.YtaikdbbakdicgaaDoor
open Go.ChangeShapes Go.WideShapes Go.ChangeAt Go.RowKit
set_option linter.unusedVariables false

theorem rot_val (x : UInt32) (n : Nat) (h1 : 1 ≤ n) (h2 : n ≤ 31) : bits .or .u32 (IntKind.u32.wrap ((x.toNat : Int) * 2 ^ (32 - n))) ((x.toNat : Int) / 2 ^ n) = ((rotr x n).toNat : Int) := by
  rw [w_shl x (32 - n) (by omega), w_shr x n (by omega), w_or, UInt32.or_comm]; rfl
theorem rot_val' (x : UInt32) (n : Nat) (h1 : 1 ≤ n) (h2 : n ≤ 31) : bits .or .u32 ((x.toNat : Int) / 2 ^ n) (IntKind.u32.wrap ((x.toNat : Int) * 2 ^ (32 - n))) = ((rotr x n).toNat : Int) := by
  rw [w_shl x (32 - n) (by omega), w_shr x n (by omega), w_or]; rfl
def turns : List Int := [2, 6, 7, 11, 13, 17, 18, 19, 22, 25]
theorem turns_le {k : Int} (h : k ∈ turns) : 1 ≤ k.toNat ∧ k.toNat ≤ 31 := by
  simp only [turns, List.mem_cons, List.not_mem_nil, or_false] at h; omega
set_option maxRecDepth 100000 in
theorem rotl_any (x : UInt32) (k : Int) (hk : k ∈ turns) (w : World) :
    Calls Tryd.prog 86 #[.int .u32 x.toNat, .int .i64 (-k)] w fun e w' => e = .returned (.int .u32 (rotr x k.toNat).toNat) ∧ w = w' := by
  have HV := Lib.hid (rot_val x k.toNat (turns_le hk).1 (turns_le hk).2)
  have e2 : bits .and .u64 (IntKind.u64.wrap (-2)) 31 = 30 := by kernel_rfl
  have e6 : bits .and .u64 (IntKind.u64.wrap (-6)) 31 = 26 := by kernel_rfl
  have e7 : bits .and .u64 (IntKind.u64.wrap (-7)) 31 = 25 := by kernel_rfl
  have e11 : bits .and .u64 (IntKind.u64.wrap (-11)) 31 = 21 := by kernel_rfl
  have e13 : bits .and .u64 (IntKind.u64.wrap (-13)) 31 = 19 := by kernel_rfl
  have e17 : bits .and .u64 (IntKind.u64.wrap (-17)) 31 = 15 := by kernel_rfl
  have e18 : bits .and .u64 (IntKind.u64.wrap (-18)) 31 = 14 := by kernel_rfl
  have e19 : bits .and .u64 (IntKind.u64.wrap (-19)) 31 = 13 := by kernel_rfl
  have e22 : bits .and .u64 (IntKind.u64.wrap (-22)) 31 = 10 := by kernel_rfl
  have e25 : bits .and .u64 (IntKind.u64.wrap (-25)) 31 = 7 := by kernel_rfl
  simp only [turns, List.mem_cons, List.not_mem_nil, or_false] at hk
  rcases hk with rfl | rfl | rfl | rfl | rfl | rfl | rfl | rfl | rfl | rfl
  all_goals go_enter Tryd.func86, Tryd.ntmps86
  all_goals go_wp2_with fail
  all_goals go_ret
  all_goals exact ⟨by rw [← HV.out]; rfl, rfl⟩
set_option maxRecDepth 100000 in
theorem right_any (x : UInt32) (k : Int) (hk : k ∈ turns) (w : World) :
    Calls Tryd.prog 81 #[.int .u32 x.toNat, .int .i64 k] w fun e w' => e = .returned (.int .u32 (rotr x k.toNat).toNat) ∧ w = w' := by
  simp only [turns, List.mem_cons, List.not_mem_nil, or_false] at hk
  rcases hk with rfl | rfl | rfl | rfl | rfl | rfl | rfl | rfl | rfl | rfl
  all_goals go_enter Tryd.func81, Tryd.ntmps81
  all_goals go_wp2_with fail
  all_goals refine (rotl_any x _ (by decide) _).mono ?_
  all_goals rintro e w1 ⟨rfl, rfl⟩
  all_goals go_wp2_with fail
  all_goals go_ret
  all_goals exact ⟨rfl, rfl⟩
set_option maxRecDepth 100000 in
theorem rot_any (x : UInt32) (k : Int) (hk : k ∈ turns) (w : World) :
    Calls Tryd.prog 79 #[.int .u32 x.toNat, .int .u64 k] w fun e w' => e = .returned (.int .u32 (rotr x k.toNat).toNat) ∧ w = w' := by
  have HV := Lib.hid (rot_val' x k.toNat (turns_le hk).1 (turns_le hk).2)
  simp only [turns, List.mem_cons, List.not_mem_nil, or_false] at hk
  rcases hk with rfl | rfl | rfl | rfl | rfl | rfl | rfl | rfl | rfl | rfl
  all_goals go_enter Tryd.func79, Tryd.ntmps79
  all_goals go_wp2_with fail
  all_goals go_ret
  all_goals exact ⟨by rw [← HV.out]; rfl, rfl⟩
end Go.Proofs.YtaikdbbakdicgaaDoor
