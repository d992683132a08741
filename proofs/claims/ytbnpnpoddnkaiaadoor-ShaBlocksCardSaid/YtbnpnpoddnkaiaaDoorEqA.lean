/-
  Equality of two arrays of words.
-/
import Derived.Test.YtbnpnpoddnkaiaaDoorShaL
import Derived.Laws.StructEq
namespace Go.Proofs.YtbnpnpoddnkaiaaDoor
open Go.ChangeShapes Go.WideShapes Go.ChangeAt Go.RowKit
set_option linter.unusedVariables false

theorem all_words_eq : ∀ (xs ys : List UInt32), xs.length = ys.length → ((List.range xs.length).all fun i => xs.getD i 0 == ys.getD i 0) = (xs == ys)
  | [], [], _ => rfl
  | x :: xs, y :: ys, h => by
    have ih := all_words_eq xs ys (by simpa using h)
    rw [List.length_cons, List.range_succ_eq_map, List.all_cons, List.all_map]
    simp only [List.getD_cons_zero, Function.comp_def, List.getD_cons_succ, ih]
    simp [List.cons_beq_cons]
  | [], _ :: _, h => by simp at h
  | _ :: _, [], h => by simp at h
theorem eq_words {P : Program} (w : World) (d : Nat) (t e : TypeId) (n : Nat) (ht : P.underlying t = some (.array n e)) (he : P.underlying e = some (.int .u32)) (hsz : ∀ w, (sizeOf e).run P w = .ok 1 w)
    (xs ys : List UInt32) (hx : xs.length = n) (hy : ys.length = n) :
    (Op.equalIn (d + 2) t (.agg (wvs xs).toArray) (.agg (wvs ys).toArray)).run P w = .ok (xs == ys) w := by
  rw [← all_words_eq xs ys (hx.trans hy.symm), hx, List.range_eq_range', Op.equalIn]
  simp only [Sem.run_bind, run_underlying ht, Result.andThen_ok, hsz, Std.Legacy.Range.forIn_eq_forIn_range', Std.Legacy.Range.size, Nat.sub_zero, Nat.add_sub_cancel, Nat.div_one]
  have hl : ∀ i ∈ List.range' 0 n 1, i < n := fun i hi => by simpa using (List.mem_range'_1.1 hi).2
  generalize List.range' 0 n 1 = l at hl ⊢
  induction l with
  | nil => simp
  | cons i l ih =>
    have hi : i < n := hl i (by simp)
    have px : (part e (wvs xs).toArray (i * 1)).run P w = .ok (.int .u32 (xs.getD i 0).toNat) w := by
      simp [part, isAgg, run_underlying he, wvs, wv, List.getD, List.getElem?_eq_getElem (show i < xs.length by omega)]
    have py : (part e (wvs ys).toArray (i * 1)).run P w = .ok (.int .u32 (ys.getD i 0).toNat) w := by
      simp [part, isAgg, run_underlying he, wvs, wv, List.getD, List.getElem?_eq_getElem (show i < ys.length by omega)]
    have pe : (Op.equalIn (d + 1) e (.int .u32 (xs.getD i 0).toNat) (.int .u32 (ys.getD i 0).toNat)).run P w = .ok (xs.getD i 0 == ys.getD i 0) w := by
      rw [run_equalIn_int w d e .u32 .u32 _ _ he]
      congr 1
      rw [Bool.eq_iff_iff]
      simp only [beq_iff_eq, ← UInt32.toNat_inj]
      exact Int.ofNat_inj
    simp only [List.forIn_cons, Sem.run_bind, px, py, pe, Result.andThen_ok, List.all_cons]
    cases hb : (xs.getD i 0 == ys.getD i 0)
    · simp
    · simp only [Bool.not_true, Bool.false_eq_true, if_false, Sem.run_pure, Result.andThen_ok, Bool.true_and]
      exact ih fun j hj => hl j (by simp [hj])
theorem eql_words {P : Program} (w : World) (t e : TypeId) (n : Nat) (ht : P.underlying t = some (.array n e)) (he : P.underlying e = some (.int .u32)) (hsz : ∀ w, (sizeOf e).run P w = .ok 1 w)
    (xs ys : List UInt32) (hx : xs.length = n) (hy : ys.length = n) :
    (binOp .eql t (.agg (wvs xs).toArray) (.agg (wvs ys).toArray)).run P w = .ok (.bool (xs == ys)) w := by
  rw [run_eql_struct, eq_words w 9998 t e n ht he hsz xs ys hx hy]
  rfl
theorem eql_8words (w : World) (xs ys : List UInt32) (hx : xs.length = 8) (hy : ys.length = 8) :
    (binOp .eql 32 (.agg (wvs xs).toArray) (.agg (wvs ys).toArray)).run Tryd.prog w = .ok (.bool (xs == ys)) w :=
  eql_words w _ 31 8 rfl rfl (fun _ => rfl) xs ys hx hy
end Go.Proofs.YtbnpnpoddnkaiaaDoor
