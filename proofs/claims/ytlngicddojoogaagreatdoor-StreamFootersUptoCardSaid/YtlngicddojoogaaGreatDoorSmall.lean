/-
  Small laws: one byte appended, a slice made of zero bytes with room behind it, Spread.
-/
import Derived.Test.YtlngicddojoogaaGreatDoorApp
import Derived.OwnWalk
namespace Go.Proofs.YtlngicddojoogaaGreatDoor
open Go.ChangeShapes Go.WideShapes Go.ChangeAt Go.RowKit
set_option linter.unusedVariables false

theorem bvo (n : Nat) : bv (UInt8.ofNat n) = .int .u8 ((n : Int) % 256) := by
  unfold bv; congr 1

theorem own_nl {base n : Nat} {w : World} {v : Value} {l : List UInt8} (h : w.ownsRow base 5 1 v n (bvs l)) : w.ownsRow base 5 1 v l.length (bvs l) := by
  have h1 := h.1
  rw [bvs_length] at h1
  obtain rfl : n = l.length := by omega
  exact h
theorem app_one {ops : Array Oper} {rest : List Oper} {o : Oper} {a : Act} {Q : Exit → Act → World → Prop} {w : World} (hgd : o.guard = none) (s x : Operand)
    (ho : o.op = .call { callee := .builtin .append, args := #[s, x], argTypes := #[27, 27] })
    {base n nl : Nat} {v u : Value} {l : List UInt8} {b : UInt8} (hs : a.eval s = v) (hown' : w.ownsRow base 5 1 v nl (bvs l)) (hx : a.eval x = .slice (some ⟨n, 0, none⟩) 1 1) (hc : w.cell? ⟨n, 0, none⟩ = some u) (hu : u = bv b)
    (hlen : l.length + 1 ≤ 140737488355328) (hbase : base ≤ w.heap.size)
    (h : ∀ v' w', Hid (w'.ownsRow base 5 1 v' (l ++ [b]).length (bvs (l ++ [b]))) → w.grownBy w' v.ownBlock → wpList Tryz.prog ops Q rest (a.put o.dst v') w') : wpList Tryz.prog ops Q (o :: rest) a w := by
  have hown : w.ownsRow base 5 1 v l.length (bvs l) := by
    obtain rfl : nl = l.length := by have := hown'.1; rw [bvs_length] at this; omega
    exact hown'
  refine app_bytes (C := n + 1) (m := [b]) hgd s x ho hs hown hx ?_ (by simpa using hlen) hbase h
  refine .inr ⟨n, 0, 1, rfl, by simp, by decide, by omega, fun i hi => ?_⟩
  obtain rfl : i = 0 := by simpa using hi
  rw [Nat.zero_add, hc, hu]; rfl
theorem scell_lit (w : World) (v : Value) (t : TypeId) : (w.alloc (.cells #[v] t)).cell? ⟨w.heap.size, 0, none⟩ = some v := by
  rw [cell_of_row _ _ _ #[v] t (0, 0) (heap_alloc_new w _)]; rfl
theorem wrap64_nat (z : Int) : ∃ n : Nat, n < lim64 ∧ IntKind.u64.wrap z = n := by
  unfold lim64
  refine ⟨(IntKind.u64.wrap z).toNat, ?_, ?_⟩ <;> rw [IntKind.wrap_u64] <;> omega
theorem low8 (z : Int) : ∃ b : UInt8, Value.int .u8 (z % 256) = bv b := by
  refine ⟨UInt8.ofNat (z % 256).toNat, ?_⟩
  rw [bvo]; congr 1; omega


theorem make_rep {ops : Array Oper} {rest : List Oper} {o : Oper} {a : Act} {Q : Exit → Act → World → Prop} {w : World} (hg : o.guard = none) (l c : Operand) (hop : o.op = Op.makeSlice 27 l c)
    {base : Nat} {kl kc : IntKind} {L C : Int} (n m : Nat) (hl : a.eval l = .int kl L) (hc : a.eval c = .int kc C) (hL : L = (n : Int)) (hC : C = (m : Int)) (hnm : n ≤ m) (hm : m ≤ 1000000) (hb : base ≤ w.heap.size)
    (h : ∀ w', w'.ownsRow base 5 1 (.slice (some ⟨w.heap.size, 0, none⟩) n m) n (bvs (List.replicate n 0)) → w.grownBy w' none → wpList Tryz.prog ops Q rest (a.put o.dst (.slice (some ⟨w.heap.size, 0, none⟩) n m)) w') : wpList Tryz.prog ops Q (o :: rest) a w := by
  obtain ⟨i0, hi, hz0, hz1, hz2⟩ := info_parts Tryz.info5
  refine wpList_plain hg fun K hK' => ?_
  have hr := run_make (P := Tryz.prog) w 27 5 i0 (.int .u8 0) Tryz.underlying27 hi hz0 kl kc (n : Int) (m : Int) (by omega) (by omega) (by rw [hz2]; omega) (by omega)
  simp only [Int.toNat_natCast] at hr
  have hw : (w.alloc (.cells (madeCells (Value.int .u8 0).cells (m * i0.size)) 5)).ownsRow base 5 1 (.slice (some ⟨w.heap.size, 0, none⟩) n m) n (bvs (List.replicate n 0)) := by
    refine ⟨by simp [bvs], .inr ⟨w.heap.size, m, _, rfl, hb, heap_alloc_new w _, hnm, by unfold maxLen; omega, by rw [size_madeCells, hz1], ?_⟩⟩
    have e : (madeCells (Value.int .u8 0).cells (m * i0.size)).toList = bvs (List.replicate m 0) := by
      rw [hz1, Nat.mul_one]
      show (madeCells #[Value.int .u8 0] m).toList = _
      rw [toList_madeCells_one]; simp [bvs, bv]
    rw [e, Nat.mul_one]
    simp [bvs, hnm]
  subst hL
  subst hC
  unfold Oper.wp
  simp [execOp, hop, hl, hc, hr, Result.andThen]
  exact hK' _ _ (h _ hw (World.grownBy_alloc w _ none))

end Go.Proofs.YtlngicddojoogaaGreatDoor
