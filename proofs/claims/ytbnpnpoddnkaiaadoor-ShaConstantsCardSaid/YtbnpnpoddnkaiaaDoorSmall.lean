/-
  Small laws: one byte appended, a slice made of zero bytes with room behind it, Spread.
-/
import Derived.Test.YtbnpnpoddnkaiaaDoorApp
import Derived.OwnWalk
namespace Go.Proofs.YtbnpnpoddnkaiaaDoor
open Go.ChangeShapes Go.WideShapes Go.ChangeAt Go.RowKit
set_option linter.unusedVariables false

theorem bvo (n : Nat) : bv (UInt8.ofNat n) = .int .u8 ((n : Int) % 256) := by
  unfold bv; congr 1

theorem own_nl {base n : Nat} {w : World} {v : Value} {l : List UInt8} (h : w.ownsRow base 5 1 v n (bvs l)) : w.ownsRow base 5 1 v l.length (bvs l) := by
  have h1 := h.1
  rw [bvs_length] at h1
  obtain rfl : n = l.length := by omega
  exact h
theorem app_one {ops : Array Oper} {rest : List Oper} {o : Oper} {a : Act} {Q : Exit → Act → World → Prop} {w : World} (hgd : o.guard = none) (s x : Operand)
    (ho : o.op = .call { callee := .builtin .append, args := #[s, x], argTypes := #[24, 24] })
    {base n nl : Nat} {v u : Value} {l : List UInt8} {b : UInt8} (hs : a.eval s = v) (hown' : w.ownsRow base 5 1 v nl (bvs l)) (hx : a.eval x = .slice (some ⟨n, 0, none⟩) 1 1) (hc : w.cell? ⟨n, 0, none⟩ = some u) (hu : u = bv b)
    (hlen : l.length + 1 ≤ 140737488355328) (hbase : base ≤ w.heap.size)
    (h : ∀ v' w', Hid (w'.ownsRow base 5 1 v' (l ++ [b]).length (bvs (l ++ [b]))) → w.grownBy w' v.ownBlock → wpList Tryd.prog ops Q rest (a.put o.dst v') w') : wpList Tryd.prog ops Q (o :: rest) a w := by
  have hown : w.ownsRow base 5 1 v l.length (bvs l) := by
    obtain rfl : nl = l.length := by have := hown'.1; rw [bvs_length] at this; omega
    exact hown'
  refine app_bytes (C := n + 1) (m := [b]) hgd s x ho hs hown hx ?_ (by simpa using hlen) hbase h
  refine .inr ⟨n, 0, 1, rfl, by simp, by decide, by omega, fun i hi => ?_⟩
  obtain rfl : i = 0 := by simpa using hi
  rw [Nat.zero_add, hc, hu]; rfl
theorem cell_lit (w : World) (v : Value) (t : TypeId) : (w.alloc (.cells #[v] t)).cell? ⟨w.heap.size, 0, none⟩ = some v := by
  rw [cell_of_row _ _ _ #[v] t (0, 0) (heap_alloc_new w _)]; rfl
theorem wrap64_nat (z : Int) : ∃ n : Nat, n < lim64 ∧ IntKind.u64.wrap z = n := by
  unfold lim64
  refine ⟨(IntKind.u64.wrap z).toNat, ?_, ?_⟩ <;> rw [IntKind.wrap_u64] <;> omega
theorem low8 (z : Int) : ∃ b : UInt8, Value.int .u8 (z % 256) = bv b := by
  refine ⟨UInt8.ofNat (z % 256).toNat, ?_⟩
  rw [bvo]; congr 1; omega


theorem make_rep {ops : Array Oper} {rest : List Oper} {o : Oper} {a : Act} {Q : Exit → Act → World → Prop} {w : World} (hg : o.guard = none) (l c : Operand) (hop : o.op = Op.makeSlice 24 l c)
    {base : Nat} {kl kc : IntKind} {L C : Int} (n m : Nat) (hl : a.eval l = .int kl L) (hc : a.eval c = .int kc C) (hL : L = (n : Int)) (hC : C = (m : Int)) (hnm : n ≤ m) (hm : m ≤ 1000000) (hb : base ≤ w.heap.size)
    (h : ∀ w', w'.ownsRow base 5 1 (.slice (some ⟨w.heap.size, 0, none⟩) n m) n (bvs (List.replicate n 0)) → w.grownBy w' none → wpList Tryd.prog ops Q rest (a.put o.dst (.slice (some ⟨w.heap.size, 0, none⟩) n m)) w') : wpList Tryd.prog ops Q (o :: rest) a w := by
  obtain ⟨i0, hi, hz0, hz1, hz2⟩ := info_parts Tryd.info5
  refine wpList_plain hg fun K hK' => ?_
  have hr := run_make (P := Tryd.prog) w 24 5 i0 (.int .u8 0) Tryd.underlying24 hi hz0 kl kc (n : Int) (m : Int) (by omega) (by omega) (by rw [hz2]; omega) (by omega)
  simp only [Int.toNat_natCast] at hr
  have hw : (w.alloc (.cells (madeCells (Value.int .u8 0).cells (m * i0.size)) 5)).ownsRow base 5 1 (.slice (some ⟨w.heap.size, 0, none⟩) n m) n (bvs (List.replicate n 0)) := by
    refine ⟨by simp [bvs], .inr ⟨w.heap.size, m, _, rfl, hb, heap_alloc_new w _, hnm, by unfold maxLen; omega, by rw [size_madeCells, hz1], ?_⟩⟩
    have e : (madeCells (Value.int .u8 0).cells (m * i0.size)).toList = bvs (List.replicate m 0) := by
      rw [hz1, Nat.mul_one]
      show (madeCells #[Value.int .u8 0] m).toList = _
      rw [toList_madeCells_one]; simp [bvs, bv]
    rw [e, Nat.mul_one]
    simp [bvs, hnm]
  subst hL
  subst hC
  unfold Oper.wp
  simp [execOp, hop, hl, hc, hr, Result.andThen]
  exact hK' _ _ (h _ hw (World.grownBy_alloc w _ none))

set_option maxRecDepth 100000 in
theorem spread_any (x : Nat) (hx : x < lim64) (n : Nat) (hn : n ≤ 3000) (w : World) :
    Calls Tryd.prog 12 #[.int .u64 x, .int .i64 n] w fun e w' => ∃ l, l.length = n ∧ Owned w l e w' := by
  have HX := Lib.hid hx
  clear hx
  go_enter Tryd.func12, Tryd.ntmps12
  go_wp2_with fail
  go_loopw [5, 6, 7] (fun v yv iv wr => ∃ (k y : Nat) (l : List UInt8), k ≤ n ∧ iv = .int .i64 k ∧ yv = .int .u64 y ∧ Hid (y < lim64 ∧ l.length = k ∧ wr.ownsRow w.heap.size 5 1 v l.length (bvs l)) ∧ Below w.heap.size w wr) (fun _ _ iv _ => n - (intOf iv).toNat)
  case atStart => exact ⟨0, x, [], by omega, rfl, rfl, ⟨HX.out, rfl, World.ownsRow_nil _ _ _ _⟩, Below.refl _ _⟩
  case round =>
    obtain ⟨k, y, l, hk, rfl, rfl, HL, hb⟩ := hrel
    by_cases hlt : k < n
    · have hk0 : (0 : Int) ≤ k := by omega
      obtain ⟨y', hy', HY⟩ : ∃ y' : Nat, y' < lim64 ∧ Hid (IntKind.u64.wrap (IntKind.u64.wrap (↑y * 6364136223846793005) + 1442695040888963407) = (y' : Int)) := wrap64_nat _
      obtain ⟨b, hb8⟩ := low8 (IntKind.u64.wrap (IntKind.u64.wrap (↑y * 6364136223846793005) + 1442695040888963407) / 8589934592)
      have HB8 := Lib.hid hb8
      have HO := Lib.hid HL.out.2.2
      clear hb8
      go_wp2_with (at_builtin; refine app_one rfl (.tmp 17) (.tmp 21) rfl rfl (HO.out.alloc _) rfl (cell_lit _ _ _) HB8.out ?c1 ?c2 ?_)
      case c1 => have := HL.out.2.1; omega
      case c2 => have := hb.size; simp; omega
      intro v1 w1 HO1 hg1
      have hb1 := below_append hb hb.size (Nat.le_refl _) HO.out hg1
      clear hb hg1 HO
      go_wp2_with fail
      go_roundw
      case rel => exact ⟨k + 1, y', l ++ [b], by omega, by go_num, by rw [HY.out], ⟨hy', by simp [HL.out.2.1], own_nl HO1.out⟩, hb1⟩
      case measure => simp [intOf]; omega
    · obtain rfl : k = n := by omega
      go_wp2_with fail
      go_ret
      exact ⟨l, HL.out.2.1, _, rfl, HL.out.2.2, hb⟩
end Go.Proofs.YtbnpnpoddnkaiaaDoor
