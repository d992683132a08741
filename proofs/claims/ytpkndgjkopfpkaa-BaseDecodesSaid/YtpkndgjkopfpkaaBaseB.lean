/-
  The closures of base.regroup: one takes a group and emits whole groups, the other tells what is left.
-/
import Derived.Test.YtpkndgjkopfpkaaBaseA
import Derived.StillTailTactics
import Derived.LoopN
namespace Go.Proofs.Ytpkndgjkopfpkaa
open Go.ChangeShapes Go.WideShapes Go.ChangeAt Go.RowKit
set_option linter.unusedVariables false

/-- The five variables that the closures share, from block R on: in, out, emit, bits, size. -/
structure Mach (W : World) (R : Nat) (inn out : Int) (fv : Value) (bits size : Nat) : Prop where
  i : W.heap[R]? = some (.cells #[.int .i64 inn] 3 (0, 0))
  o : W.heap[R + 1]? = some (.cells #[.int .i64 out] 3 (0, 0))
  f : W.heap[R + 2]? = some (.cells #[fv] 71 (0, 0))
  b : W.heap[R + 3]? = some (.cells #[.int .i64 bits] 3 (0, 0))
  s : W.heap[R + 4]? = some (.cells #[.int .i64 size] 3 (0, 0))

theorem heap_cell {W : World} {k : Nat} {v : Value} {t : TypeId} (h : W.heap[k]? = some (.cells #[v] t (0, 0))) : W.cell? ⟨k, 0, none⟩ = some v := by
  rw [cell_of_row _ _ _ _ _ _ h]; rfl
theorem heap_free {W : World} {k : Nat} {v : Value} {t : TypeId} (h : W.heap[k]? = some (.cells #[v] t (0, 0))) : W.frozen? ⟨k, 0, none⟩ = false := by
  simp [World.frozen?, h]
theorem heap_set {W : World} {k : Nat} {v u : Value} {t : TypeId} (h : W.heap[k]? = some (.cells #[v] t (0, 0))) : (W.setCell ⟨k, 0, none⟩ u).heap[k]? = some (.cells #[u] t (0, 0)) := by
  simp only [World.setCell, Array.getElem?_modify, h]; simp
theorem heap_other {W : World} {k j : Nat} {u : Value} (h : j ≠ k) : (W.setCell ⟨k, 0, none⟩ u).heap[j]? = W.heap[j]? := Below.heap_setCell W ⟨k, 0, none⟩ u j h

theorem Mach.kept {W W' : World} {R base tb : Nat} {inn out : Int} {fv : Value} {bits size : Nat} (h : Mach W R inn out fv bits size) (hk : Kept base tb W W') (ht : tb < R) : Mach W' R inn out fv bits size := by
  have go : ∀ (k : Nat) (v : Value) (t : TypeId), R ≤ k → t ≠ 5 → W.heap[k]? = some (.cells #[v] t (0, 0)) → W'.heap[k]? = some (.cells #[v] t (0, 0)) := by
    intro k v t hR ht' hv
    refine (hk.block k (Array.getElem?_eq_some_iff.1 hv).1 (by omega) (.inr ?_)).trans hv
    rintro ⟨cur, fr, e⟩
    rw [hv] at e
    simp only [Option.some.injEq, Obj.cells.injEq] at e
    exact ht' e.2.1
  exact ⟨go _ _ _ (Nat.le_refl _) (by decide) h.i, go _ _ _ (by omega) (by decide) h.o, go _ _ _ (by omega) (by decide) h.f, go _ _ _ (by omega) (by decide) h.b, go _ _ _ (by omega) (by decide) h.s⟩
theorem Mach.setB {W : World} {R : Nat} {inn out : Int} {fv : Value} {bits size : Nat} (h : Mach W R inn out fv bits size) (n : Nat) : Mach (W.setCell ⟨R + 3, 0, none⟩ (.int .i64 n)) R inn out fv n size :=
  ⟨(heap_other (by omega)).trans h.i, (heap_other (by omega)).trans h.o, (heap_other (by omega)).trans h.f, heap_set h.b, (heap_other (by omega)).trans h.s⟩
theorem Mach.setS {W : World} {R : Nat} {inn out : Int} {fv : Value} {bits size : Nat} (h : Mach W R inn out fv bits size) (n : Nat) : Mach (W.setCell ⟨R + 4, 0, none⟩ (.int .i64 n)) R inn out fv bits n :=
  ⟨(heap_other (by omega)).trans h.i, (heap_other (by omega)).trans h.o, (heap_other (by omega)).trans h.f, (heap_other (by omega)).trans h.b, heap_set h.s⟩
theorem Mach.drewN {W : World} {R : Nat} {inn out : Int} {fv : Value} {bits size : Nat} (h : Mach W R inn out fv bits size) (n : Nat) : Mach (W.drewN n) R inn out fv bits size := ⟨h.i, h.o, h.f, h.b, h.s⟩
theorem TV.other {W : World} {tb base k : Nat} {acc : List UInt8} {v u : Value} (h : TV W tb base acc) (ht : tb < k) (hk : W.heap[k]? = some (.cells #[v] 3 (0, 0))) : TV (W.setCell ⟨k, 0, none⟩ u) tb base acc := by
  obtain ⟨h1, w, h2, h3⟩ := h
  refine ⟨h1, w, (heap_other (by omega)).trans h2, h3.1, ?_⟩
  rcases h3.2 with h | ⟨g, cap, cur, rfl, a1, a2, r⟩
  · exact .inl h
  · refine .inr ⟨g, cap, cur, rfl, a1, (heap_other ?_).trans a2, r⟩
    rintro rfl
    rw [hk] at a2
    simp at a2

/-- Nothing has changed but block tb, blocks R + 3 and R + 4, rows of bytes from base on, and new blocks. -/
structure Kept2 (base tb R : Nat) (W W' : World) : Prop where
  os : W'.os = W.os
  tape : W'.tape = W.tape
  output : W'.output = W.output
  size : W.heap.size ≤ W'.heap.size
  block : ∀ k, k < W.heap.size → k ≠ tb → k ≠ R + 3 → k ≠ R + 4 → (k < base ∨ ¬ ∃ cur fr, W.heap[k]? = some (.cells cur 5 fr)) → W'.heap[k]? = W.heap[k]?
theorem Kept2.refl (base tb R : Nat) (W : World) : Kept2 base tb R W W := ⟨rfl, rfl, rfl, Nat.le_refl _, fun _ _ _ _ _ _ => rfl⟩
theorem Kept2.trans {base tb R : Nat} {a b c : World} (h : Kept2 base tb R a b) (k : Kept2 base tb R b c) : Kept2 base tb R a c :=
  ⟨k.os.trans h.os, k.tape.trans h.tape, k.output.trans h.output, Nat.le_trans h.size k.size, fun i hi ht h3 h4 hc => by
    have h1 := h.block i hi ht h3 h4 hc
    have h2 := k.block i (Nat.lt_of_lt_of_le hi h.size) ht h3 h4 (by
      rcases hc with hc | hc
      · exact .inl hc
      · right; rw [h1]; exact hc)
    exact h2.trans h1⟩
theorem Kept2.of {base tb R : Nat} {W W' : World} (h : Kept base tb W W') : Kept2 base tb R W W' := ⟨h.os, h.tape, h.output, h.size, fun k h1 h2 _ _ h5 => h.block k h1 h2 h5⟩
theorem Kept2.drewN (base tb R : Nat) (W : World) (n : Nat) : Kept2 base tb R W (W.drewN n) := ⟨rfl, rfl, rfl, Nat.le_refl _, fun _ _ _ _ _ _ => rfl⟩
theorem Kept2.set3 (base tb R : Nat) (W : World) (u : Value) : Kept2 base tb R W (W.setCell ⟨R + 3, 0, none⟩ u) := ⟨rfl, rfl, rfl, by simp [World.setCell], fun _ _ _ h3 _ _ => heap_other h3⟩
theorem Kept2.set4 (base tb R : Nat) (W : World) (u : Value) : Kept2 base tb R W (W.setCell ⟨R + 4, 0, none⟩ u) := ⟨rfl, rfl, rfl, by simp [World.setCell], fun _ _ _ _ h4 _ => heap_other h4⟩

def TakePost (W : World) (R tb base : Nat) (inn out : Int) (fv : Value) (acc : List UInt8) (bits size : Nat) (e : Ending) (W' : World) : Prop :=
  e = .returned (.tuple #[]) ∧ TV W' tb base acc ∧ Mach W' R inn out fv bits size ∧ Kept2 base tb R W W'

theorem or_i64 {x g : Nat} (hx : x < 4294967296) (hg : g < 4294967296) : bits .or .i64 (x : Int) (g : Int) = ((x ||| g : Nat) : Int) := by
  have hlt : x ||| g < 2 ^ 32 := Nat.or_lt_two_pow (by omega) (by omega)
  have h1 : (BitVec.ofInt 64 (x : Int)).toNat = x := by
    rw [BitVec.ofInt_natCast, BitVec.toNat_ofNat]; exact Nat.mod_eq_of_lt (by omega)
  have h2 : (BitVec.ofInt 64 (g : Int)).toNat = g := by
    rw [BitVec.ofInt_natCast, BitVec.toNat_ofNat]; exact Nat.mod_eq_of_lt (by omega)
  show IntKind.i64.wrap ((BitVec.ofInt 64 (x : Int) ||| BitVec.ofInt 64 (g : Int)).toNat : Int) = _
  rw [BitVec.toNat_or, h1, h2, IntKind.wrap_i64]
  omega
theorem and_i64 {x g : Nat} (hx : x < 4294967296) (hg : g < 4294967296) : bits .and .i64 (x : Int) (g : Int) = ((x &&& g : Nat) : Int) := by
  have hlt : x &&& g < 2 ^ 32 := Nat.and_lt_two_pow _ (by omega)
  have h1 : (BitVec.ofInt 64 (x : Int)).toNat = x := by
    rw [BitVec.ofInt_natCast, BitVec.toNat_ofNat]; exact Nat.mod_eq_of_lt (by omega)
  have h2 : (BitVec.ofInt 64 (g : Int)).toNat = g := by
    rw [BitVec.ofInt_natCast, BitVec.toNat_ofNat]; exact Nat.mod_eq_of_lt (by omega)
  show IntKind.i64.wrap ((BitVec.ofInt 64 (x : Int) &&& BitVec.ofInt 64 (g : Int)).toNat : Int) = _
  rw [BitVec.toNat_and, h1, h2, IntKind.wrap_i64]
  omega
theorem or256 {b g : Nat} (hb : b < 64) (hg : g < 256) : bits .or .i64 ((b : Int) * 256) (g : Int) = ((b * 256 + g : Nat) : Int) := by
  have e : ((b : Int) * 256) = ((b * 256 : Nat) : Int) := by omega
  rw [e, or_i64 (by omega) (by omega)]
  congr 1
  have := Nat.two_pow_add_eq_or_of_lt (i := 8) (b := g) (by omega) b
  rw [show b * 256 = 2 ^ 8 * b from by omega]; exact this.symm
theorem or64 {b g : Nat} (hb : b < 64) (hg : g < 64) : bits .or .i64 ((b : Int) * 64) (g : Int) = ((b * 64 + g : Nat) : Int) := by
  have e : ((b : Int) * 64) = ((b * 64 : Nat) : Int) := by omega
  rw [e, or_i64 (by omega) (by omega)]
  congr 1
  have := Nat.two_pow_add_eq_or_of_lt (i := 6) (b := g) (by omega) b
  rw [show b * 64 = 2 ^ 6 * b from by omega]; exact this.symm
theorem mask {v : Nat} (hv : v < 65536) (k : Nat) (m : Nat) (hm : m = 2 ^ k - 1) (hk : k ≤ 12) : bits .and .i64 (v : Int) ((m : Nat) : Int) = ((v % 2 ^ k : Nat) : Int) := by
  have h2 : 2 ^ k ≤ 2 ^ 12 := Nat.pow_le_pow_right (by decide) hk
  rw [and_i64 (by omega) (by omega), hm, Nat.and_two_pow_sub_one_eq_mod]

-- THE WALKS OF THE TAKING CLOSURE, BY PROGRAM (wip/tools/gen_base.py)
set_option maxRecDepth 100000 in
set_option maxHeartbeats 1600000 in
theorem takeS0 {W : World} {R tb base g b : Nat} {acc : List UInt8} (h : TV W tb base acc) (hm : Mach W R 8 6 (.func (.func 40) #[] #[.pointer (some ⟨tb, 0, none⟩)]) b 0) (ht : tb < R) (hb : b < 1) (hg : g < 256) (hl : acc.length ≤ 140737488354000) :
    Calls Try.prog 44 #[.int .i64 g, .pointer (some ⟨R + 3, 0, none⟩), .pointer (some ⟨R, 0, none⟩), .pointer (some ⟨R + 4, 0, none⟩), .pointer (some ⟨R + 1, 0, none⟩), .pointer (some ⟨R + 2, 0, none⟩)] W
      (TakePost W R tb base 8 6 (.func (.func 40) #[] #[.pointer (some ⟨tb, 0, none⟩)]) (acc ++ [sgn ((b * 256 + g) / 4)]) ((b * 256 + g) % 4) 2) := by
  have c0 := heap_cell hm.i
  have c3 := heap_cell hm.b
  have c4 := heap_cell hm.s
  have f3 := heap_free hm.b
  have f4 := heap_free hm.s
  have hg0 : (0 : Int) ≤ g := by omega
  have hg1 : (g : Int) < 256 := by omega
  have hb0 : (0 : Int) ≤ b := by omega
  have hb1 : (b : Int) < 1 := by omega
  obtain ⟨v, hv⟩ : ∃ v, v = b * 256 + g := ⟨_, rfl⟩
  have hor := or256 (b := b) (g := g) (by omega) hg
  rw [← hv] at hor
  have hvl : v < 256 := by omega
  have HV := Lib.hid hv
  clear hv
  go_enter Try.func44, Try.ntmps44
  go_wp2_with fail
  go_region
  go_wp2_with fail
  obtain ⟨W1, hW1⟩ : ∃ W1, W1 = ((W.setCell ⟨R + 3, 0, none⟩ (.int .i64 v)).setCell ⟨R + 4, 0, none⟩ (.int .i64 8)).drew := ⟨_, rfl⟩
  rw [← hW1]
  have m1 : Mach W1 R 8 6 (.func (.func 40) #[] #[.pointer (some ⟨tb, 0, none⟩)]) v 8 := by rw [hW1]; exact ((hm.setB v).setS 8).drewN 1
  have t1 : TV W1 tb base acc := by rw [hW1]; exact (h.other (k := R + 3) (by omega) hm.b).other (k := R + 4) (by omega) (hm.setB v).s
  have k1 : Kept2 base tb R W W1 := by rw [hW1]; exact ((Kept2.set3 base tb R W _).trans (Kept2.set4 base tb R _ _)).trans (Kept2.drewN base tb R _ 1)
  clear hW1 c0 c3 c4 f3 f4 hor hm h
  refine wp_loop_rounds 2 ?_
  rw [rounds_succ]
  have c1 := heap_cell m1.o
  have c4 := heap_cell m1.s
  have f4 := heap_free m1.s
  go_wp2_with fail
  obtain ⟨X0, hX0⟩ : ∃ X, X = W1.setCell ⟨R + 4, 0, none⟩ (.int .i64 2) := ⟨_, rfl⟩
  rw [← hX0]
  have mx0 : Mach X0 R 8 6 (.func (.func 40) #[] #[.pointer (some ⟨tb, 0, none⟩)]) v 2 := by rw [hX0]; exact m1.setS 2
  have tx0 : TV X0 tb base acc := by rw [hX0]; exact t1.other (k := R + 4) (by omega) m1.s
  have kx0 : Kept2 base tb R W X0 := by rw [hX0]; exact k1.trans (Kept2.set4 base tb R _ _)
  clear hX0 c1 c4 f4 m1 t1 k1
  have c2 := heap_cell mx0.f
  have c3 := heap_cell mx0.b
  have c4 := heap_cell mx0.s
  go_still_tail 4, (by kernel_rfl)
  change wpList _ _ _ _ _ X0.drew
  go_wp2_with fail
  refine (emitS (g := (v / 4)) (by exact tx0) (by omega) (by first | omega | (simp; omega))).mono ?_
  rintro e w0 ⟨rfl, ty0, ky0⟩
  have my0 : Mach w0 R 8 6 (.func (.func 40) #[] #[.pointer (some ⟨tb, 0, none⟩)]) v 2 := (mx0.drewN 1).kept ky0 ht
  have kz0 : Kept2 base tb R W w0 := (kx0.trans (Kept2.drewN base tb R X0 1)).trans (Kept2.of ky0)
  clear ky0 mx0 tx0 kx0 c2 c3 c4
  have c3 := heap_cell my0.b
  have c4 := heap_cell my0.s
  have f3 := heap_free my0.b
  obtain ⟨r0, HR0, hmask0⟩ : ∃ r : Nat, Hid (r = v % 4) ∧ bits .and .i64 (v : Int) 3 = (r : Int) := ⟨_, rfl, (mask (v := v) (by omega) 2 3 (by decide) (by decide))⟩
  have hr0 : r0 < 4 := by have := HR0.out; omega
  go_wp2_with fail
  go_region
  go_wp2_with fail
  obtain ⟨Y0, hY0⟩ : ∃ Y, Y = (w0.setCell ⟨R + 3, 0, none⟩ (.int .i64 r0)).drew := ⟨_, rfl⟩
  rw [← hY0]
  have mm0 : Mach Y0 R 8 6 (.func (.func 40) #[] #[.pointer (some ⟨tb, 0, none⟩)]) r0 2 := by rw [hY0]; exact (my0.setB r0).drewN 1
  have tt0 : TV Y0 tb base (acc ++ [sgn (v / 4)]) := by rw [hY0]; exact ty0.other (k := R + 3) (by omega) my0.b
  have kk0 : Kept2 base tb R W Y0 := by rw [hY0]; exact (kz0.trans (Kept2.set3 base tb R _ _)).trans (Kept2.drewN base tb R _ 1)
  clear hY0 c3 c4 f3 hmask0 my0 ty0 kz0
  rw [rounds_succ]
  have c1 := heap_cell mm0.o
  have c4 := heap_cell mm0.s
  go_wp2_with fail
  go_end0
  refine ⟨rfl, ?_, ?_, kk0⟩
  · rw [HV.out] at tt0; exact tt0
  · rw [HR0.out, HV.out] at mm0; exact mm0

set_option maxRecDepth 100000 in
set_option maxHeartbeats 1600000 in
theorem takeS2 {W : World} {R tb base g b : Nat} {acc : List UInt8} (h : TV W tb base acc) (hm : Mach W R 8 6 (.func (.func 40) #[] #[.pointer (some ⟨tb, 0, none⟩)]) b 2) (ht : tb < R) (hb : b < 4) (hg : g < 256) (hl : acc.length ≤ 140737488354000) :
    Calls Try.prog 44 #[.int .i64 g, .pointer (some ⟨R + 3, 0, none⟩), .pointer (some ⟨R, 0, none⟩), .pointer (some ⟨R + 4, 0, none⟩), .pointer (some ⟨R + 1, 0, none⟩), .pointer (some ⟨R + 2, 0, none⟩)] W
      (TakePost W R tb base 8 6 (.func (.func 40) #[] #[.pointer (some ⟨tb, 0, none⟩)]) (acc ++ [sgn ((b * 256 + g) / 16)]) ((b * 256 + g) % 16) 4) := by
  have c0 := heap_cell hm.i
  have c3 := heap_cell hm.b
  have c4 := heap_cell hm.s
  have f3 := heap_free hm.b
  have f4 := heap_free hm.s
  have hg0 : (0 : Int) ≤ g := by omega
  have hg1 : (g : Int) < 256 := by omega
  have hb0 : (0 : Int) ≤ b := by omega
  have hb1 : (b : Int) < 4 := by omega
  obtain ⟨v, hv⟩ : ∃ v, v = b * 256 + g := ⟨_, rfl⟩
  have hor := or256 (b := b) (g := g) (by omega) hg
  rw [← hv] at hor
  have hvl : v < 1024 := by omega
  have HV := Lib.hid hv
  clear hv
  go_enter Try.func44, Try.ntmps44
  go_wp2_with fail
  go_region
  go_wp2_with fail
  obtain ⟨W1, hW1⟩ : ∃ W1, W1 = ((W.setCell ⟨R + 3, 0, none⟩ (.int .i64 v)).setCell ⟨R + 4, 0, none⟩ (.int .i64 10)).drew := ⟨_, rfl⟩
  rw [← hW1]
  have m1 : Mach W1 R 8 6 (.func (.func 40) #[] #[.pointer (some ⟨tb, 0, none⟩)]) v 10 := by rw [hW1]; exact ((hm.setB v).setS 10).drewN 1
  have t1 : TV W1 tb base acc := by rw [hW1]; exact (h.other (k := R + 3) (by omega) hm.b).other (k := R + 4) (by omega) (hm.setB v).s
  have k1 : Kept2 base tb R W W1 := by rw [hW1]; exact ((Kept2.set3 base tb R W _).trans (Kept2.set4 base tb R _ _)).trans (Kept2.drewN base tb R _ 1)
  clear hW1 c0 c3 c4 f3 f4 hor hm h
  refine wp_loop_rounds 2 ?_
  rw [rounds_succ]
  have c1 := heap_cell m1.o
  have c4 := heap_cell m1.s
  have f4 := heap_free m1.s
  go_wp2_with fail
  obtain ⟨X0, hX0⟩ : ∃ X, X = W1.setCell ⟨R + 4, 0, none⟩ (.int .i64 4) := ⟨_, rfl⟩
  rw [← hX0]
  have mx0 : Mach X0 R 8 6 (.func (.func 40) #[] #[.pointer (some ⟨tb, 0, none⟩)]) v 4 := by rw [hX0]; exact m1.setS 4
  have tx0 : TV X0 tb base acc := by rw [hX0]; exact t1.other (k := R + 4) (by omega) m1.s
  have kx0 : Kept2 base tb R W X0 := by rw [hX0]; exact k1.trans (Kept2.set4 base tb R _ _)
  clear hX0 c1 c4 f4 m1 t1 k1
  have c2 := heap_cell mx0.f
  have c3 := heap_cell mx0.b
  have c4 := heap_cell mx0.s
  go_still_tail 4, (by kernel_rfl)
  change wpList _ _ _ _ _ X0.drew
  go_wp2_with fail
  refine (emitS (g := (v / 16)) (by exact tx0) (by omega) (by first | omega | (simp; omega))).mono ?_
  rintro e w0 ⟨rfl, ty0, ky0⟩
  have my0 : Mach w0 R 8 6 (.func (.func 40) #[] #[.pointer (some ⟨tb, 0, none⟩)]) v 4 := (mx0.drewN 1).kept ky0 ht
  have kz0 : Kept2 base tb R W w0 := (kx0.trans (Kept2.drewN base tb R X0 1)).trans (Kept2.of ky0)
  clear ky0 mx0 tx0 kx0 c2 c3 c4
  have c3 := heap_cell my0.b
  have c4 := heap_cell my0.s
  have f3 := heap_free my0.b
  obtain ⟨r0, HR0, hmask0⟩ : ∃ r : Nat, Hid (r = v % 16) ∧ bits .and .i64 (v : Int) 15 = (r : Int) := ⟨_, rfl, (mask (v := v) (by omega) 4 15 (by decide) (by decide))⟩
  have hr0 : r0 < 16 := by have := HR0.out; omega
  go_wp2_with fail
  go_region
  go_wp2_with fail
  obtain ⟨Y0, hY0⟩ : ∃ Y, Y = (w0.setCell ⟨R + 3, 0, none⟩ (.int .i64 r0)).drew := ⟨_, rfl⟩
  rw [← hY0]
  have mm0 : Mach Y0 R 8 6 (.func (.func 40) #[] #[.pointer (some ⟨tb, 0, none⟩)]) r0 4 := by rw [hY0]; exact (my0.setB r0).drewN 1
  have tt0 : TV Y0 tb base (acc ++ [sgn (v / 16)]) := by rw [hY0]; exact ty0.other (k := R + 3) (by omega) my0.b
  have kk0 : Kept2 base tb R W Y0 := by rw [hY0]; exact (kz0.trans (Kept2.set3 base tb R _ _)).trans (Kept2.drewN base tb R _ 1)
  clear hY0 c3 c4 f3 hmask0 my0 ty0 kz0
  rw [rounds_succ]
  have c1 := heap_cell mm0.o
  have c4 := heap_cell mm0.s
  go_wp2_with fail
  go_end0
  refine ⟨rfl, ?_, ?_, kk0⟩
  · rw [HV.out] at tt0; exact tt0
  · rw [HR0.out, HV.out] at mm0; exact mm0

set_option maxRecDepth 100000 in
set_option maxHeartbeats 1600000 in
theorem takeS4 {W : World} {R tb base g b : Nat} {acc : List UInt8} (h : TV W tb base acc) (hm : Mach W R 8 6 (.func (.func 40) #[] #[.pointer (some ⟨tb, 0, none⟩)]) b 4) (ht : tb < R) (hb : b < 16) (hg : g < 256) (hl : acc.length ≤ 140737488354000) :
    Calls Try.prog 44 #[.int .i64 g, .pointer (some ⟨R + 3, 0, none⟩), .pointer (some ⟨R, 0, none⟩), .pointer (some ⟨R + 4, 0, none⟩), .pointer (some ⟨R + 1, 0, none⟩), .pointer (some ⟨R + 2, 0, none⟩)] W
      (TakePost W R tb base 8 6 (.func (.func 40) #[] #[.pointer (some ⟨tb, 0, none⟩)]) ((acc ++ [sgn ((b * 256 + g) / 64)]) ++ [sgn ((b * 256 + g) % 64)]) 0 0) := by
  have c0 := heap_cell hm.i
  have c3 := heap_cell hm.b
  have c4 := heap_cell hm.s
  have f3 := heap_free hm.b
  have f4 := heap_free hm.s
  have hg0 : (0 : Int) ≤ g := by omega
  have hg1 : (g : Int) < 256 := by omega
  have hb0 : (0 : Int) ≤ b := by omega
  have hb1 : (b : Int) < 16 := by omega
  obtain ⟨v, hv⟩ : ∃ v, v = b * 256 + g := ⟨_, rfl⟩
  have hor := or256 (b := b) (g := g) (by omega) hg
  rw [← hv] at hor
  have hvl : v < 4096 := by omega
  have HV := Lib.hid hv
  clear hv
  go_enter Try.func44, Try.ntmps44
  go_wp2_with fail
  go_region
  go_wp2_with fail
  obtain ⟨W1, hW1⟩ : ∃ W1, W1 = ((W.setCell ⟨R + 3, 0, none⟩ (.int .i64 v)).setCell ⟨R + 4, 0, none⟩ (.int .i64 12)).drew := ⟨_, rfl⟩
  rw [← hW1]
  have m1 : Mach W1 R 8 6 (.func (.func 40) #[] #[.pointer (some ⟨tb, 0, none⟩)]) v 12 := by rw [hW1]; exact ((hm.setB v).setS 12).drewN 1
  have t1 : TV W1 tb base acc := by rw [hW1]; exact (h.other (k := R + 3) (by omega) hm.b).other (k := R + 4) (by omega) (hm.setB v).s
  have k1 : Kept2 base tb R W W1 := by rw [hW1]; exact ((Kept2.set3 base tb R W _).trans (Kept2.set4 base tb R _ _)).trans (Kept2.drewN base tb R _ 1)
  clear hW1 c0 c3 c4 f3 f4 hor hm h
  refine wp_loop_rounds 3 ?_
  rw [rounds_succ]
  have c1 := heap_cell m1.o
  have c4 := heap_cell m1.s
  have f4 := heap_free m1.s
  go_wp2_with fail
  obtain ⟨X0, hX0⟩ : ∃ X, X = W1.setCell ⟨R + 4, 0, none⟩ (.int .i64 6) := ⟨_, rfl⟩
  rw [← hX0]
  have mx0 : Mach X0 R 8 6 (.func (.func 40) #[] #[.pointer (some ⟨tb, 0, none⟩)]) v 6 := by rw [hX0]; exact m1.setS 6
  have tx0 : TV X0 tb base acc := by rw [hX0]; exact t1.other (k := R + 4) (by omega) m1.s
  have kx0 : Kept2 base tb R W X0 := by rw [hX0]; exact k1.trans (Kept2.set4 base tb R _ _)
  clear hX0 c1 c4 f4 m1 t1 k1
  have c2 := heap_cell mx0.f
  have c3 := heap_cell mx0.b
  have c4 := heap_cell mx0.s
  go_still_tail 4, (by kernel_rfl)
  change wpList _ _ _ _ _ X0.drew
  go_wp2_with fail
  refine (emitS (g := (v / 64)) (by exact tx0) (by omega) (by first | omega | (simp; omega))).mono ?_
  rintro e w0 ⟨rfl, ty0, ky0⟩
  have my0 : Mach w0 R 8 6 (.func (.func 40) #[] #[.pointer (some ⟨tb, 0, none⟩)]) v 6 := (mx0.drewN 1).kept ky0 ht
  have kz0 : Kept2 base tb R W w0 := (kx0.trans (Kept2.drewN base tb R X0 1)).trans (Kept2.of ky0)
  clear ky0 mx0 tx0 kx0 c2 c3 c4
  have c3 := heap_cell my0.b
  have c4 := heap_cell my0.s
  have f3 := heap_free my0.b
  obtain ⟨r0, HR0, hmask0⟩ : ∃ r : Nat, Hid (r = v % 64) ∧ bits .and .i64 (v : Int) 63 = (r : Int) := ⟨_, rfl, (mask (v := v) (by omega) 6 63 (by decide) (by decide))⟩
  have hr0 : r0 < 64 := by have := HR0.out; omega
  go_wp2_with fail
  go_region
  go_wp2_with fail
  obtain ⟨Y0, hY0⟩ : ∃ Y, Y = (w0.setCell ⟨R + 3, 0, none⟩ (.int .i64 r0)).drew := ⟨_, rfl⟩
  rw [← hY0]
  have mm0 : Mach Y0 R 8 6 (.func (.func 40) #[] #[.pointer (some ⟨tb, 0, none⟩)]) r0 6 := by rw [hY0]; exact (my0.setB r0).drewN 1
  have tt0 : TV Y0 tb base (acc ++ [sgn (v / 64)]) := by rw [hY0]; exact ty0.other (k := R + 3) (by omega) my0.b
  have kk0 : Kept2 base tb R W Y0 := by rw [hY0]; exact (kz0.trans (Kept2.set3 base tb R _ _)).trans (Kept2.drewN base tb R _ 1)
  clear hY0 c3 c4 f3 hmask0 my0 ty0 kz0
  rw [rounds_succ]
  have c1 := heap_cell mm0.o
  have c4 := heap_cell mm0.s
  have f4 := heap_free mm0.s
  go_wp2_with fail
  obtain ⟨X1, hX1⟩ : ∃ X, X = Y0.setCell ⟨R + 4, 0, none⟩ (.int .i64 0) := ⟨_, rfl⟩
  rw [← hX1]
  have mx1 : Mach X1 R 8 6 (.func (.func 40) #[] #[.pointer (some ⟨tb, 0, none⟩)]) r0 0 := by rw [hX1]; exact mm0.setS 0
  have tx1 : TV X1 tb base (acc ++ [sgn (v / 64)]) := by rw [hX1]; exact tt0.other (k := R + 4) (by omega) mm0.s
  have kx1 : Kept2 base tb R W X1 := by rw [hX1]; exact kk0.trans (Kept2.set4 base tb R _ _)
  clear hX1 c1 c4 f4 mm0 tt0 kk0
  have c2 := heap_cell mx1.f
  have c3 := heap_cell mx1.b
  have c4 := heap_cell mx1.s
  go_still_tail 4, (by kernel_rfl)
  change wpList _ _ _ _ _ X1.drew
  go_wp2_with fail
  refine (emitS (g := r0) (by exact tx1) (by omega) (by first | omega | (simp; omega))).mono ?_
  rintro e w1 ⟨rfl, ty1, ky1⟩
  have my1 : Mach w1 R 8 6 (.func (.func 40) #[] #[.pointer (some ⟨tb, 0, none⟩)]) r0 0 := (mx1.drewN 1).kept ky1 ht
  have kz1 : Kept2 base tb R W w1 := (kx1.trans (Kept2.drewN base tb R X1 1)).trans (Kept2.of ky1)
  clear ky1 mx1 tx1 kx1 c2 c3 c4
  have c3 := heap_cell my1.b
  have c4 := heap_cell my1.s
  have f3 := heap_free my1.b
  obtain ⟨r1, HR1, hmask1⟩ : ∃ r : Nat, Hid (r = 0) ∧ bits .and .i64 (r0 : Int) 0 = (r : Int) := ⟨_, rfl, (mask (v := r0) (by omega) 0 0 (by decide) (by decide)).trans (by rw [Nat.pow_zero, Nat.mod_one])⟩
  have hr1 : r1 < 1 := by have := HR1.out; omega
  go_wp2_with fail
  go_region
  go_wp2_with fail
  obtain ⟨Y1, hY1⟩ : ∃ Y, Y = (w1.setCell ⟨R + 3, 0, none⟩ (.int .i64 r1)).drew := ⟨_, rfl⟩
  rw [← hY1]
  have mm1 : Mach Y1 R 8 6 (.func (.func 40) #[] #[.pointer (some ⟨tb, 0, none⟩)]) r1 0 := by rw [hY1]; exact (my1.setB r1).drewN 1
  have tt1 : TV Y1 tb base ((acc ++ [sgn (v / 64)]) ++ [sgn r0]) := by rw [hY1]; exact ty1.other (k := R + 3) (by omega) my1.b
  have kk1 : Kept2 base tb R W Y1 := by rw [hY1]; exact (kz1.trans (Kept2.set3 base tb R _ _)).trans (Kept2.drewN base tb R _ 1)
  clear hY1 c3 c4 f3 hmask1 my1 ty1 kz1
  rw [rounds_succ]
  have c1 := heap_cell mm1.o
  have c4 := heap_cell mm1.s
  go_wp2_with fail
  go_end0
  refine ⟨rfl, ?_, ?_, kk1⟩
  · rw [HR0.out, HV.out] at tt1; exact tt1
  · rw [HR1.out] at mm1; exact mm1

set_option maxRecDepth 100000 in
set_option maxHeartbeats 1600000 in
theorem takeB0 {W : World} {R tb base g b : Nat} {acc : List UInt8} (h : TV W tb base acc) (hm : Mach W R 6 8 (.func (.func 41) #[] #[.pointer (some ⟨tb, 0, none⟩)]) b 0) (ht : tb < R) (hb : b < 1) (hg : g < 64) (hl : acc.length ≤ 140737488354000) :
    Calls Try.prog 44 #[.int .i64 g, .pointer (some ⟨R + 3, 0, none⟩), .pointer (some ⟨R, 0, none⟩), .pointer (some ⟨R + 4, 0, none⟩), .pointer (some ⟨R + 1, 0, none⟩), .pointer (some ⟨R + 2, 0, none⟩)] W
      (TakePost W R tb base 6 8 (.func (.func 41) #[] #[.pointer (some ⟨tb, 0, none⟩)]) acc (b * 64 + g) 6) := by
  have c0 := heap_cell hm.i
  have c3 := heap_cell hm.b
  have c4 := heap_cell hm.s
  have f3 := heap_free hm.b
  have f4 := heap_free hm.s
  have hg0 : (0 : Int) ≤ g := by omega
  have hg1 : (g : Int) < 64 := by omega
  have hb0 : (0 : Int) ≤ b := by omega
  have hb1 : (b : Int) < 1 := by omega
  obtain ⟨v, hv⟩ : ∃ v, v = b * 64 + g := ⟨_, rfl⟩
  have hor := or64 (b := b) (g := g) (by omega) hg
  rw [← hv] at hor
  have hvl : v < 64 := by omega
  have HV := Lib.hid hv
  clear hv
  go_enter Try.func44, Try.ntmps44
  go_wp2_with fail
  go_region
  go_wp2_with fail
  obtain ⟨W1, hW1⟩ : ∃ W1, W1 = ((W.setCell ⟨R + 3, 0, none⟩ (.int .i64 v)).setCell ⟨R + 4, 0, none⟩ (.int .i64 6)).drew := ⟨_, rfl⟩
  rw [← hW1]
  have m1 : Mach W1 R 6 8 (.func (.func 41) #[] #[.pointer (some ⟨tb, 0, none⟩)]) v 6 := by rw [hW1]; exact ((hm.setB v).setS 6).drewN 1
  have t1 : TV W1 tb base acc := by rw [hW1]; exact (h.other (k := R + 3) (by omega) hm.b).other (k := R + 4) (by omega) (hm.setB v).s
  have k1 : Kept2 base tb R W W1 := by rw [hW1]; exact ((Kept2.set3 base tb R W _).trans (Kept2.set4 base tb R _ _)).trans (Kept2.drewN base tb R _ 1)
  clear hW1 c0 c3 c4 f3 f4 hor hm h
  refine wp_loop_rounds 1 ?_
  rw [rounds_succ]
  have c1 := heap_cell m1.o
  have c4 := heap_cell m1.s
  go_wp2_with fail
  go_end0
  refine ⟨rfl, ?_, ?_, k1⟩
  · exact t1
  · rw [HV.out] at m1; exact m1

set_option maxRecDepth 100000 in
set_option maxHeartbeats 1600000 in
theorem takeB2 {W : World} {R tb base g b : Nat} {acc : List UInt8} (h : TV W tb base acc) (hm : Mach W R 6 8 (.func (.func 41) #[] #[.pointer (some ⟨tb, 0, none⟩)]) b 2) (ht : tb < R) (hb : b < 4) (hg : g < 64) (hl : acc.length ≤ 140737488354000) :
    Calls Try.prog 44 #[.int .i64 g, .pointer (some ⟨R + 3, 0, none⟩), .pointer (some ⟨R, 0, none⟩), .pointer (some ⟨R + 4, 0, none⟩), .pointer (some ⟨R + 1, 0, none⟩), .pointer (some ⟨R + 2, 0, none⟩)] W
      (TakePost W R tb base 6 8 (.func (.func 41) #[] #[.pointer (some ⟨tb, 0, none⟩)]) (acc ++ [byt (b * 64 + g)]) 0 0) := by
  have c0 := heap_cell hm.i
  have c3 := heap_cell hm.b
  have c4 := heap_cell hm.s
  have f3 := heap_free hm.b
  have f4 := heap_free hm.s
  have hg0 : (0 : Int) ≤ g := by omega
  have hg1 : (g : Int) < 64 := by omega
  have hb0 : (0 : Int) ≤ b := by omega
  have hb1 : (b : Int) < 4 := by omega
  obtain ⟨v, hv⟩ : ∃ v, v = b * 64 + g := ⟨_, rfl⟩
  have hor := or64 (b := b) (g := g) (by omega) hg
  rw [← hv] at hor
  have hvl : v < 256 := by omega
  have HV := Lib.hid hv
  clear hv
  go_enter Try.func44, Try.ntmps44
  go_wp2_with fail
  go_region
  go_wp2_with fail
  obtain ⟨W1, hW1⟩ : ∃ W1, W1 = ((W.setCell ⟨R + 3, 0, none⟩ (.int .i64 v)).setCell ⟨R + 4, 0, none⟩ (.int .i64 8)).drew := ⟨_, rfl⟩
  rw [← hW1]
  have m1 : Mach W1 R 6 8 (.func (.func 41) #[] #[.pointer (some ⟨tb, 0, none⟩)]) v 8 := by rw [hW1]; exact ((hm.setB v).setS 8).drewN 1
  have t1 : TV W1 tb base acc := by rw [hW1]; exact (h.other (k := R + 3) (by omega) hm.b).other (k := R + 4) (by omega) (hm.setB v).s
  have k1 : Kept2 base tb R W W1 := by rw [hW1]; exact ((Kept2.set3 base tb R W _).trans (Kept2.set4 base tb R _ _)).trans (Kept2.drewN base tb R _ 1)
  clear hW1 c0 c3 c4 f3 f4 hor hm h
  refine wp_loop_rounds 2 ?_
  rw [rounds_succ]
  have c1 := heap_cell m1.o
  have c4 := heap_cell m1.s
  have f4 := heap_free m1.s
  go_wp2_with fail
  obtain ⟨X0, hX0⟩ : ∃ X, X = W1.setCell ⟨R + 4, 0, none⟩ (.int .i64 0) := ⟨_, rfl⟩
  rw [← hX0]
  have mx0 : Mach X0 R 6 8 (.func (.func 41) #[] #[.pointer (some ⟨tb, 0, none⟩)]) v 0 := by rw [hX0]; exact m1.setS 0
  have tx0 : TV X0 tb base acc := by rw [hX0]; exact t1.other (k := R + 4) (by omega) m1.s
  have kx0 : Kept2 base tb R W X0 := by rw [hX0]; exact k1.trans (Kept2.set4 base tb R _ _)
  clear hX0 c1 c4 f4 m1 t1 k1
  have c2 := heap_cell mx0.f
  have c3 := heap_cell mx0.b
  have c4 := heap_cell mx0.s
  go_still_tail 4, (by kernel_rfl)
  change wpList _ _ _ _ _ X0.drew
  go_wp2_with fail
  refine (emitB (g := v) (by exact tx0) (by omega) (by first | omega | (simp; omega))).mono ?_
  rintro e w0 ⟨rfl, ty0, ky0⟩
  have my0 : Mach w0 R 6 8 (.func (.func 41) #[] #[.pointer (some ⟨tb, 0, none⟩)]) v 0 := (mx0.drewN 1).kept ky0 ht
  have kz0 : Kept2 base tb R W w0 := (kx0.trans (Kept2.drewN base tb R X0 1)).trans (Kept2.of ky0)
  clear ky0 mx0 tx0 kx0 c2 c3 c4
  have c3 := heap_cell my0.b
  have c4 := heap_cell my0.s
  have f3 := heap_free my0.b
  obtain ⟨r0, HR0, hmask0⟩ : ∃ r : Nat, Hid (r = 0) ∧ bits .and .i64 (v : Int) 0 = (r : Int) := ⟨_, rfl, (mask (v := v) (by omega) 0 0 (by decide) (by decide)).trans (by rw [Nat.pow_zero, Nat.mod_one])⟩
  have hr0 : r0 < 1 := by have := HR0.out; omega
  go_wp2_with fail
  go_region
  go_wp2_with fail
  obtain ⟨Y0, hY0⟩ : ∃ Y, Y = (w0.setCell ⟨R + 3, 0, none⟩ (.int .i64 r0)).drew := ⟨_, rfl⟩
  rw [← hY0]
  have mm0 : Mach Y0 R 6 8 (.func (.func 41) #[] #[.pointer (some ⟨tb, 0, none⟩)]) r0 0 := by rw [hY0]; exact (my0.setB r0).drewN 1
  have tt0 : TV Y0 tb base (acc ++ [byt v]) := by rw [hY0]; exact ty0.other (k := R + 3) (by omega) my0.b
  have kk0 : Kept2 base tb R W Y0 := by rw [hY0]; exact (kz0.trans (Kept2.set3 base tb R _ _)).trans (Kept2.drewN base tb R _ 1)
  clear hY0 c3 c4 f3 hmask0 my0 ty0 kz0
  rw [rounds_succ]
  have c1 := heap_cell mm0.o
  have c4 := heap_cell mm0.s
  go_wp2_with fail
  go_end0
  refine ⟨rfl, ?_, ?_, kk0⟩
  · rw [HV.out] at tt0; exact tt0
  · rw [HR0.out] at mm0; exact mm0

set_option maxRecDepth 100000 in
set_option maxHeartbeats 1600000 in
theorem takeB4 {W : World} {R tb base g b : Nat} {acc : List UInt8} (h : TV W tb base acc) (hm : Mach W R 6 8 (.func (.func 41) #[] #[.pointer (some ⟨tb, 0, none⟩)]) b 4) (ht : tb < R) (hb : b < 16) (hg : g < 64) (hl : acc.length ≤ 140737488354000) :
    Calls Try.prog 44 #[.int .i64 g, .pointer (some ⟨R + 3, 0, none⟩), .pointer (some ⟨R, 0, none⟩), .pointer (some ⟨R + 4, 0, none⟩), .pointer (some ⟨R + 1, 0, none⟩), .pointer (some ⟨R + 2, 0, none⟩)] W
      (TakePost W R tb base 6 8 (.func (.func 41) #[] #[.pointer (some ⟨tb, 0, none⟩)]) (acc ++ [byt ((b * 64 + g) / 4)]) ((b * 64 + g) % 4) 2) := by
  have c0 := heap_cell hm.i
  have c3 := heap_cell hm.b
  have c4 := heap_cell hm.s
  have f3 := heap_free hm.b
  have f4 := heap_free hm.s
  have hg0 : (0 : Int) ≤ g := by omega
  have hg1 : (g : Int) < 64 := by omega
  have hb0 : (0 : Int) ≤ b := by omega
  have hb1 : (b : Int) < 16 := by omega
  obtain ⟨v, hv⟩ : ∃ v, v = b * 64 + g := ⟨_, rfl⟩
  have hor := or64 (b := b) (g := g) (by omega) hg
  rw [← hv] at hor
  have hvl : v < 1024 := by omega
  have HV := Lib.hid hv
  clear hv
  go_enter Try.func44, Try.ntmps44
  go_wp2_with fail
  go_region
  go_wp2_with fail
  obtain ⟨W1, hW1⟩ : ∃ W1, W1 = ((W.setCell ⟨R + 3, 0, none⟩ (.int .i64 v)).setCell ⟨R + 4, 0, none⟩ (.int .i64 10)).drew := ⟨_, rfl⟩
  rw [← hW1]
  have m1 : Mach W1 R 6 8 (.func (.func 41) #[] #[.pointer (some ⟨tb, 0, none⟩)]) v 10 := by rw [hW1]; exact ((hm.setB v).setS 10).drewN 1
  have t1 : TV W1 tb base acc := by rw [hW1]; exact (h.other (k := R + 3) (by omega) hm.b).other (k := R + 4) (by omega) (hm.setB v).s
  have k1 : Kept2 base tb R W W1 := by rw [hW1]; exact ((Kept2.set3 base tb R W _).trans (Kept2.set4 base tb R _ _)).trans (Kept2.drewN base tb R _ 1)
  clear hW1 c0 c3 c4 f3 f4 hor hm h
  refine wp_loop_rounds 2 ?_
  rw [rounds_succ]
  have c1 := heap_cell m1.o
  have c4 := heap_cell m1.s
  have f4 := heap_free m1.s
  go_wp2_with fail
  obtain ⟨X0, hX0⟩ : ∃ X, X = W1.setCell ⟨R + 4, 0, none⟩ (.int .i64 2) := ⟨_, rfl⟩
  rw [← hX0]
  have mx0 : Mach X0 R 6 8 (.func (.func 41) #[] #[.pointer (some ⟨tb, 0, none⟩)]) v 2 := by rw [hX0]; exact m1.setS 2
  have tx0 : TV X0 tb base acc := by rw [hX0]; exact t1.other (k := R + 4) (by omega) m1.s
  have kx0 : Kept2 base tb R W X0 := by rw [hX0]; exact k1.trans (Kept2.set4 base tb R _ _)
  clear hX0 c1 c4 f4 m1 t1 k1
  have c2 := heap_cell mx0.f
  have c3 := heap_cell mx0.b
  have c4 := heap_cell mx0.s
  go_still_tail 4, (by kernel_rfl)
  change wpList _ _ _ _ _ X0.drew
  go_wp2_with fail
  refine (emitB (g := (v / 4)) (by exact tx0) (by omega) (by first | omega | (simp; omega))).mono ?_
  rintro e w0 ⟨rfl, ty0, ky0⟩
  have my0 : Mach w0 R 6 8 (.func (.func 41) #[] #[.pointer (some ⟨tb, 0, none⟩)]) v 2 := (mx0.drewN 1).kept ky0 ht
  have kz0 : Kept2 base tb R W w0 := (kx0.trans (Kept2.drewN base tb R X0 1)).trans (Kept2.of ky0)
  clear ky0 mx0 tx0 kx0 c2 c3 c4
  have c3 := heap_cell my0.b
  have c4 := heap_cell my0.s
  have f3 := heap_free my0.b
  obtain ⟨r0, HR0, hmask0⟩ : ∃ r : Nat, Hid (r = v % 4) ∧ bits .and .i64 (v : Int) 3 = (r : Int) := ⟨_, rfl, (mask (v := v) (by omega) 2 3 (by decide) (by decide))⟩
  have hr0 : r0 < 4 := by have := HR0.out; omega
  go_wp2_with fail
  go_region
  go_wp2_with fail
  obtain ⟨Y0, hY0⟩ : ∃ Y, Y = (w0.setCell ⟨R + 3, 0, none⟩ (.int .i64 r0)).drew := ⟨_, rfl⟩
  rw [← hY0]
  have mm0 : Mach Y0 R 6 8 (.func (.func 41) #[] #[.pointer (some ⟨tb, 0, none⟩)]) r0 2 := by rw [hY0]; exact (my0.setB r0).drewN 1
  have tt0 : TV Y0 tb base (acc ++ [byt (v / 4)]) := by rw [hY0]; exact ty0.other (k := R + 3) (by omega) my0.b
  have kk0 : Kept2 base tb R W Y0 := by rw [hY0]; exact (kz0.trans (Kept2.set3 base tb R _ _)).trans (Kept2.drewN base tb R _ 1)
  clear hY0 c3 c4 f3 hmask0 my0 ty0 kz0
  rw [rounds_succ]
  have c1 := heap_cell mm0.o
  have c4 := heap_cell mm0.s
  go_wp2_with fail
  go_end0
  refine ⟨rfl, ?_, ?_, kk0⟩
  · rw [HV.out] at tt0; exact tt0
  · rw [HR0.out, HV.out] at mm0; exact mm0

set_option maxRecDepth 100000 in
set_option maxHeartbeats 1600000 in
theorem takeB6 {W : World} {R tb base g b : Nat} {acc : List UInt8} (h : TV W tb base acc) (hm : Mach W R 6 8 (.func (.func 41) #[] #[.pointer (some ⟨tb, 0, none⟩)]) b 6) (ht : tb < R) (hb : b < 64) (hg : g < 64) (hl : acc.length ≤ 140737488354000) :
    Calls Try.prog 44 #[.int .i64 g, .pointer (some ⟨R + 3, 0, none⟩), .pointer (some ⟨R, 0, none⟩), .pointer (some ⟨R + 4, 0, none⟩), .pointer (some ⟨R + 1, 0, none⟩), .pointer (some ⟨R + 2, 0, none⟩)] W
      (TakePost W R tb base 6 8 (.func (.func 41) #[] #[.pointer (some ⟨tb, 0, none⟩)]) (acc ++ [byt ((b * 64 + g) / 16)]) ((b * 64 + g) % 16) 4) := by
  have c0 := heap_cell hm.i
  have c3 := heap_cell hm.b
  have c4 := heap_cell hm.s
  have f3 := heap_free hm.b
  have f4 := heap_free hm.s
  have hg0 : (0 : Int) ≤ g := by omega
  have hg1 : (g : Int) < 64 := by omega
  have hb0 : (0 : Int) ≤ b := by omega
  have hb1 : (b : Int) < 64 := by omega
  obtain ⟨v, hv⟩ : ∃ v, v = b * 64 + g := ⟨_, rfl⟩
  have hor := or64 (b := b) (g := g) (by omega) hg
  rw [← hv] at hor
  have hvl : v < 4096 := by omega
  have HV := Lib.hid hv
  clear hv
  go_enter Try.func44, Try.ntmps44
  go_wp2_with fail
  go_region
  go_wp2_with fail
  obtain ⟨W1, hW1⟩ : ∃ W1, W1 = ((W.setCell ⟨R + 3, 0, none⟩ (.int .i64 v)).setCell ⟨R + 4, 0, none⟩ (.int .i64 12)).drew := ⟨_, rfl⟩
  rw [← hW1]
  have m1 : Mach W1 R 6 8 (.func (.func 41) #[] #[.pointer (some ⟨tb, 0, none⟩)]) v 12 := by rw [hW1]; exact ((hm.setB v).setS 12).drewN 1
  have t1 : TV W1 tb base acc := by rw [hW1]; exact (h.other (k := R + 3) (by omega) hm.b).other (k := R + 4) (by omega) (hm.setB v).s
  have k1 : Kept2 base tb R W W1 := by rw [hW1]; exact ((Kept2.set3 base tb R W _).trans (Kept2.set4 base tb R _ _)).trans (Kept2.drewN base tb R _ 1)
  clear hW1 c0 c3 c4 f3 f4 hor hm h
  refine wp_loop_rounds 2 ?_
  rw [rounds_succ]
  have c1 := heap_cell m1.o
  have c4 := heap_cell m1.s
  have f4 := heap_free m1.s
  go_wp2_with fail
  obtain ⟨X0, hX0⟩ : ∃ X, X = W1.setCell ⟨R + 4, 0, none⟩ (.int .i64 4) := ⟨_, rfl⟩
  rw [← hX0]
  have mx0 : Mach X0 R 6 8 (.func (.func 41) #[] #[.pointer (some ⟨tb, 0, none⟩)]) v 4 := by rw [hX0]; exact m1.setS 4
  have tx0 : TV X0 tb base acc := by rw [hX0]; exact t1.other (k := R + 4) (by omega) m1.s
  have kx0 : Kept2 base tb R W X0 := by rw [hX0]; exact k1.trans (Kept2.set4 base tb R _ _)
  clear hX0 c1 c4 f4 m1 t1 k1
  have c2 := heap_cell mx0.f
  have c3 := heap_cell mx0.b
  have c4 := heap_cell mx0.s
  go_still_tail 4, (by kernel_rfl)
  change wpList _ _ _ _ _ X0.drew
  go_wp2_with fail
  refine (emitB (g := (v / 16)) (by exact tx0) (by omega) (by first | omega | (simp; omega))).mono ?_
  rintro e w0 ⟨rfl, ty0, ky0⟩
  have my0 : Mach w0 R 6 8 (.func (.func 41) #[] #[.pointer (some ⟨tb, 0, none⟩)]) v 4 := (mx0.drewN 1).kept ky0 ht
  have kz0 : Kept2 base tb R W w0 := (kx0.trans (Kept2.drewN base tb R X0 1)).trans (Kept2.of ky0)
  clear ky0 mx0 tx0 kx0 c2 c3 c4
  have c3 := heap_cell my0.b
  have c4 := heap_cell my0.s
  have f3 := heap_free my0.b
  obtain ⟨r0, HR0, hmask0⟩ : ∃ r : Nat, Hid (r = v % 16) ∧ bits .and .i64 (v : Int) 15 = (r : Int) := ⟨_, rfl, (mask (v := v) (by omega) 4 15 (by decide) (by decide))⟩
  have hr0 : r0 < 16 := by have := HR0.out; omega
  go_wp2_with fail
  go_region
  go_wp2_with fail
  obtain ⟨Y0, hY0⟩ : ∃ Y, Y = (w0.setCell ⟨R + 3, 0, none⟩ (.int .i64 r0)).drew := ⟨_, rfl⟩
  rw [← hY0]
  have mm0 : Mach Y0 R 6 8 (.func (.func 41) #[] #[.pointer (some ⟨tb, 0, none⟩)]) r0 4 := by rw [hY0]; exact (my0.setB r0).drewN 1
  have tt0 : TV Y0 tb base (acc ++ [byt (v / 16)]) := by rw [hY0]; exact ty0.other (k := R + 3) (by omega) my0.b
  have kk0 : Kept2 base tb R W Y0 := by rw [hY0]; exact (kz0.trans (Kept2.set3 base tb R _ _)).trans (Kept2.drewN base tb R _ 1)
  clear hY0 c3 c4 f3 hmask0 my0 ty0 kz0
  rw [rounds_succ]
  have c1 := heap_cell mm0.o
  have c4 := heap_cell mm0.s
  go_wp2_with fail
  go_end0
  refine ⟨rfl, ?_, ?_, kk0⟩
  · rw [HV.out] at tt0; exact tt0
  · rw [HR0.out, HV.out] at mm0; exact mm0

end Go.Proofs.Ytpkndgjkopfpkaa
