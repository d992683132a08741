/-
  crc.Seal, crc.Open and the reference's Fast, Seal, Sealed, Spread.
-/
import Derived.Test.YtnnebfcggdbgpaaGreatDoorMc1
import Derived.Test.YtnnebfcggdbgpaaGreatDoorStr
import Derived.Lib.SmallJoins
import Derived.Laws.OwnMore
import Derived.Deep.Cut
import Derived.Test.YtnnebfcggdbgpaaGreatDoorOwnF
import Derived.Test.YtnnebfcggdbgpaaGreatDoorRefNumber
import Derived.Test.YtnnebfcggdbgpaaGreatDoorPut
import Derived.Test.YtnnebfcggdbgpaaGreatDoorRefPut
import Derived.Deep.RegionWith
import Derived.Test.YtnnebfcggdbgpaaGreatDoorNumB
import Derived.Test.YtnnebfcggdbgpaaGreatDoorTold
import Derived.Test.YtnnebfcggdbgpaaGreatDoorShf
import Derived.Test.YtnnebfcggdbgpaaGreatDoorErrCode
import Derived.Test.YtnnebfcggdbgpaaGreatDoorMc0
import Derived.RegionTactic
import Derived.BigRegion
import Derived.Laws.Tables
import Derived.Test.YtnnebfcggdbgpaaGreatDoorErrFind
import Derived.OwnWalk
import Derived.Lib.Bytes2
import Derived.Test.YtnnebfcggdbgpaaGreatDoorPlain
import Derived.WalkKit
import Derived.ProofKit
import Derived.OpenShut
import Derived.Below
import Derived.Lib.Hide
import Derived.Test.YtnnebfcggdbgpaaGreatDoorSame
import Derived.Test.YtnnebfcggdbgpaaGreatDoorStepC
import Derived.Deep.RegionHeld3
import Derived.Test.YtnnebfcggdbgpaaGreatDoorNameC
import Derived.Test.YtnnebfcggdbgpaaGreatDoorNameA
import Derived.SizedLaws
import Derived.Test.YtnnebfcggdbgpaaGreatDoorRows
import Derived.LaidMore
import Derived.LaidHandle
import Derived.Stop.Joined
import Derived.HandedShaped
import Derived.ChangeMaps
import Derived.Lib.LaidTab
import Derived.Stop.LaidErr
namespace Go.Proofs.YtnnebfcggdbgpaaGreatDoor
open Go.ChangeShapes Go.WideShapes Go.ChangeAt Go.RowKit
set_option linter.unusedVariables false

def le4 (c : Nat) : List UInt8 := [UInt8.ofNat c, UInt8.ofNat (c / 256), UInt8.ofNat (c / 65536), UInt8.ofNat (c / 16777216)]
def sealed (l : List UInt8) : List UInt8 := l ++ le4 (crc l)
theorem bvo (n : Nat) : bv (UInt8.ofNat n) = .int .u8 ((n : Int) % 256) := by
  unfold bv; congr 1

theorem fast_bit (q x j : Nat) : bits .xor .u32 ((q : Int) % 2) ((x : Int) / 2 ^ j % 2) = (((q % 2) ^^^ (x / 2 ^ j % 2) : Nat) : Int) := by
  have e1 : (q : Int) % 2 = ((q % 2 : Nat) : Int) := by omega
  have e2 : (x : Int) / 2 ^ j % 2 = ((x / 2 ^ j % 2 : Nat) : Int) := by simp
  rw [e1, e2, u32_xor_nat _ _ (by omega) (by omega)]
theorem fast_yes {q x j : Nat} (hq : q < lim32) (h : (bits .xor .u32 ((q : Int) % 2) ((x : Int) / 2 ^ j % 2) == 1) = true) :
    bits .xor .u32 ((q : Int) / 2 % 4294967296) 3988292384 = ((stp q (x / 2 ^ j % 2) : Nat) : Int) := by
  rw [fast_bit, beq_iff_eq] at h
  rw [stp_bit q _ (by omega), if_pos (by omega)]
  have e : (q : Int) / 2 % 4294967296 = ((q / 2 : Nat) : Int) := by unfold lim32 at hq; omega
  rw [e]
  exact u32_xor_nat _ gen (by unfold lim32 at hq; omega) gen_lt
theorem fast_no {q x j : Nat} (hq : q < lim32) (h : (bits .xor .u32 ((q : Int) % 2) ((x : Int) / 2 ^ j % 2) == 1) = false) :
    (q : Int) / 2 % 4294967296 = ((stp q (x / 2 ^ j % 2) : Nat) : Int) := by
  rw [fast_bit, beq_eq_false_iff_ne] at h
  rw [stp_bit q _ (by omega), if_neg (by omega)]
  unfold lim32 at hq; omega
theorem stp_lt {q b : Nat} (hq : q < lim32) (hb : b < 2) : stp q b < lim32 := tt_lt (xor_lt32 hq (by unfold lim32; omega))
theorem lowb_next {q x j : Nat} (hj : j < 8) : run q (lowb (8 - j) (x / 2 ^ j)) = run (stp q (x / 2 ^ j % 2)) (lowb (8 - (j + 1)) (x / 2 ^ (j + 1))) := by
  have e : 8 - j = (8 - (j + 1)) + 1 := by omega
  rw [e, lowb, Nat.div_div_eq_div_mul, ← Nat.pow_succ]
  rfl

set_option maxRecDepth 100000 in
theorem fast_any {B : Nat} {w : World} {vb : Value} {l : List UInt8} (hr : Rd B w vb l) :
    Calls Tryz.prog 149 #[vb] w fun e w' => e = .returned (.int .u32 (crc l)) ∧ w = w' := by
  obtain ⟨ov, cv, rfl, hmx, hcell⟩ := hr.form
  unfold maxLen at hmx
  go_enter Tryz.func149, Tryz.ntmps149
  go_wp2_with fail
  go_loop [3, 4] (fun v iv => ∃ (k r : Nat), k ≤ l.length ∧ iv = .int .i64 k ∧ r < lim32 ∧ v = .int .u32 r ∧ Hid (r = reg ones (l.take k))) (fun _ iv => l.length - (intOf iv).toNat)
  case atStart => exact ⟨0, ones, by omega, rfl, ones_lt, rfl, by show ones = reg ones []; rw [reg_nil]⟩
  case round =>
    obtain ⟨k, r, hk, rfl, hrl, rfl, HT⟩ := hrel
    by_cases hlt : k < l.length
    · obtain ⟨b, off, rfl, _, _, hbB, hcc⟩ := hcell (by omega)
      obtain ⟨x, HX, hx⟩ : ∃ x : UInt8, Hid (l.take (k + 1) = l.take k ++ [x]) ∧ w.cell? ⟨b, off + k, none⟩ = some (.int .u8 x.toNat) := ⟨l.getD k 0, take_next l k hlt, hcc k hlt⟩
      have hi0 : (0 : Int) ≤ k := by omega
      have hi1 : (k : Int) < l.length := by omega
      clear hcell hcc
      go_wp2_with fail
      go_loop [3, 5] (fun v jv => ∃ (j q : Nat), j ≤ 8 ∧ jv = .int .i64 j ∧ q < lim32 ∧ v = .int .u32 q ∧ Hid (run q (lowb (8 - j) (x.toNat / 2 ^ j)) = reg ones (l.take (k + 1)))) (fun _ jv => 8 - (intOf jv).toNat)
      case atStart =>
        refine ⟨0, r, by omega, rfl, hrl, rfl, ?_⟩
        show run r (lowb 8 (x.toNat / 1)) = _
        rw [Nat.div_one, HX.out, reg_append, ← HT.out]
        show run r (lowb 8 x.toNat) = run r (lowb 8 x.toNat ++ [])
        rw [List.append_nil]
      case round =>
        obtain ⟨j, q, hj, rfl, hql, rfl, HQ⟩ := hrel
        by_cases hjl : j < 8
        · have hj0 : (0 : Int) ≤ j := by omega
          go_wp2_with fail
          · have hb := ‹(bits BinOp.xor IntKind.u32 _ _ == 1) = true›
            go_roundw
            case rel => exact ⟨j + 1, stp q (x.toNat / 2 ^ j % 2), by omega, by go_num, stp_lt hql (by omega), by rw [fast_yes hql hb], by show run _ _ = _; rw [← lowb_next hjl]; exact HQ.out⟩
            case measure => simp [intOf]; omega
          · have hb := ‹(bits BinOp.xor IntKind.u32 _ _ == 1) = false›
            go_roundw
            case rel => exact ⟨j + 1, stp q (x.toNat / 2 ^ j % 2), by omega, by go_num, stp_lt hql (by omega), by rw [fast_no hql hb], by show run _ _ = _; rw [← lowb_next hjl]; exact HQ.out⟩
            case measure => simp [intOf]; omega
        · obtain rfl : j = 8 := by omega
          go_wp2_with fail
          go_round
          case rel => exact ⟨k + 1, q, by omega, by go_num, hql, rfl, HQ.out⟩
          case measure => simp [intOf]; omega
    · obtain rfl : k = l.length := by omega
      go_wp2_with fail
      go_ret
      refine ⟨?_, rfl⟩
      have h := HT.out
      rw [List.take_length] at h
      have h2 : (4294967295 - (r : Int)) % 4294967296 = ((crc l : Nat) : Int) := by
        have e : crc l = ones - r := by unfold crc; rw [h]
        rw [e]; unfold lim32 at hrl; unfold ones; omega
      rw [h2]; rfl

theorem app_one {ops : Array Oper} {rest : List Oper} {o : Oper} {a : Act} {Q : Exit → Act → World → Prop} {w : World} (hgd : o.guard = none) (s x : Operand)
    (ho : o.op = .call { callee := .builtin .append, args := #[s, x], argTypes := #[30, 30] })
    {base n nl : Nat} {v u : Value} {l : List UInt8} {b : UInt8} (hs : a.eval s = v) (hown' : w.ownsRow base 5 1 v nl (bvs l)) (hx : a.eval x = .slice (some ⟨n, 0, none⟩) 1 1) (hc : w.cell? ⟨n, 0, none⟩ = some u) (hu : u = bv b)
    (hlen : l.length + 1 ≤ 140737488355328) (hbase : base ≤ w.heap.size)
    (h : ∀ v' w', Hid (w'.ownsRow base 5 1 v' (l ++ [b]).length (bvs (l ++ [b]))) → w.grownBy w' v.ownBlock → wpList Tryz.prog ops Q rest (a.put o.dst v') w') : wpList Tryz.prog ops Q (o :: rest) a w := by
  have hown : w.ownsRow base 5 1 v l.length (bvs l) := by
    obtain rfl : nl = l.length := by have := hown'.1; rw [bvs_length] at this; omega
    exact hown'
  refine app_bytes (C := n + 1) (m := [b]) hgd s x ho hs hown hx ?_ (by simpa using hlen) hbase h
  refine .inr ⟨n, 0, 1, rfl, by simp, by decide, by omega, fun i hi => ?_⟩
  obtain rfl : i = 0 := by simpa using hi
  rw [Nat.zero_add, hc, hu]; rfl
theorem own_nl {base n : Nat} {w : World} {v : Value} {l : List UInt8} (h : w.ownsRow base 5 1 v n (bvs l)) : w.ownsRow base 5 1 v l.length (bvs l) := by
  have h1 := h.1
  rw [bvs_length] at h1
  obtain rfl : n = l.length := by omega
  exact h
theorem cell_lit (w : World) (v : Value) (t : TypeId) : (w.alloc (.cells #[v] t)).cell? ⟨w.heap.size, 0, none⟩ = some v := by
  rw [cell_of_row _ _ _ #[v] t (0, 0) (heap_alloc_new w _)]; rfl
theorem bvo1 (n : Nat) : Value.int .u8 ((n : Int) / 256 % 256) = bv (UInt8.ofNat (n / 256)) := by
  rw [bvo]; congr 1
theorem bvo2 (n : Nat) : Value.int .u8 ((n : Int) / 65536 % 256) = bv (UInt8.ofNat (n / 65536)) := by
  rw [bvo]; congr 1
theorem bvo3 (n : Nat) : Value.int .u8 ((n : Int) / 16777216 % 256) = bv (UInt8.ofNat (n / 16777216)) := by
  rw [bvo]; congr 1

set_option maxRecDepth 100000 in
theorem cseal_any {B : Nat} {w : World} {vb : Value} {l : List UInt8} (hr : Rd B w vb l) (hB : B ≤ w.heap.size) (hl : l.length ≤ 30000000000000) :
    Calls Tryz.prog 122 #[vb] w (Owned w (sealed l)) := by
  obtain ⟨ov, cv, rfl, hmx, hcell⟩ := hr.form
  go_enter Tryz.func122, Tryz.ntmps122
  go_wp2_with fail
  refine (csum_one hr hB).mono ?_
  rintro e w1 ⟨rfl, rfl⟩
  have hr1 := hr.below ((Below.refl w.heap.size w).alloc (Nat.le_refl _) (.cells #[.slice ov l.length cv] 30)) hB
  have hb0 : Below w.heap.size w (w.alloc (.cells #[.slice ov l.length cv] 30)) := (Below.refl w.heap.size w).alloc (Nat.le_refl _) _
  obtain ⟨w0, hw0⟩ : ∃ w0, w0 = w.alloc (.cells #[.slice ov l.length cv] 30) := ⟨_, rfl⟩
  rw [← hw0] at hr1 hb0 ⊢
  clear hw0
  obtain ⟨c, hc⟩ : ∃ c, c = crc l := ⟨_, rfl⟩
  have hcl : c < lim32 := by rw [hc]; exact crc_lt l
  rw [← hc]
  have HC := Lib.hid hc
  have hc0 : (0 : Int) ≤ c := by omega
  clear hc hcell
  go_wp2_with (at_make; refine make_bytes rfl _ _ rfl (base := w.heap.size) (l.length + 4) rfl rfl (by omega) (by omega) hb0.size ?_)
  intro v0 W1 hown1 hg1
  have hb1 : Below w.heap.size w W1 := hb0.grown hg1 hb0.size (by simp)
  have hr2 := hr1.below ((Below.refl w0.heap.size w0).grown hg1 (Nat.le_refl _) (by simp)) (Nat.le_trans hB hb0.size)
  clear hg1 hr1 hb0
  go_wp2_with (at_builtin; refine app_bytes rfl _ _ rfl rfl hown1 rfl hr2 (by simp; omega) hb1.size ?_)
  intro v2 W2 hown2 hg2
  have hb2 := below_grown hb1 hb1.size (Nat.le_refl _) hown1 hg2
  clear hown1 hg2 hr2 hb1
  go_wp2_with fail
  refine wp_loop_rounds 5 ?_
  rw [rounds_succ]
  have HO2 := Lib.hid hown2
  clear hown2
  go_wp2_with (at_builtin; refine app_one rfl (.tmp 19) (.tmp 24) rfl rfl (HO2.out.alloc _) rfl (cell_lit _ _ _) (bvo c).symm ?c1 ?c2 ?_)
  case c1 => simp; omega
  case c2 => have := hb2.size; simp; omega
  intro v3 W3 HO3 hg3
  have hb3 := below_append hb2 hb2.size (Nat.le_refl _) HO2.out hg3
  clear HO2 hb2 hg3
  go_wp2_with fail
  rw [rounds_succ]
  go_wp2_with (at_builtin; refine app_one rfl (.tmp 19) (.tmp 24) rfl rfl (HO3.out.alloc _) rfl (cell_lit _ _ _) (bvo1 c) ?c1 ?c2 ?_)
  case c1 => simp; omega
  case c2 => have := hb3.size; simp; omega
  intro v4 W4 HO4 hg4
  have hb4 := below_append hb3 hb3.size (Nat.le_refl _) HO3.out hg4
  clear HO3 hb3 hg4
  go_wp2_with fail
  rw [rounds_succ]
  go_wp2_with (at_builtin; refine app_one rfl (.tmp 19) (.tmp 24) rfl rfl (HO4.out.alloc _) rfl (cell_lit _ _ _) (bvo2 c) ?c1 ?c2 ?_)
  case c1 => simp; omega
  case c2 => have := hb4.size; simp; omega
  intro v5 W5 HO5 hg5
  have hb5 := below_append hb4 hb4.size (Nat.le_refl _) HO4.out hg5
  clear HO4 hb4 hg5
  go_wp2_with fail
  rw [rounds_succ]
  go_wp2_with (at_builtin; refine app_one rfl (.tmp 19) (.tmp 24) rfl rfl (HO5.out.alloc _) rfl (cell_lit _ _ _) (bvo3 c) ?c1 ?c2 ?_)
  case c1 => simp; omega
  case c2 => have := hb5.size; simp; omega
  intro v6 W6 HO6 hg6
  have hb6 := below_append hb5 hb5.size (Nat.le_refl _) HO5.out hg6
  clear HO5 hb5 hg6
  go_wp2_with fail
  rw [rounds_succ]
  go_wp2_with fail
  go_ret
  refine ⟨v6, rfl, ?_, hb6⟩
  have h := own_nl HO6.out
  have e : l ++ [UInt8.ofNat c, UInt8.ofNat (c / 256), UInt8.ofNat (c / 65536), UInt8.ofNat (c / 16777216)] = sealed l := by
    unfold sealed; rw [← HC.out]; rfl
  rw [← e]
  exact h

theorem le4_vals (c : Nat) : (#[Value.int .u8 ((c : Int) % 256), Value.int .u8 ((c : Int) / 256 % 256), Value.int .u8 ((c : Int) / 65536 % 256), Value.int .u8 ((c : Int) / 16777216 % 256)] : Array Value).toList = bvs (le4 c) := by
  rw [bvo1, bvo2, bvo3, ← bvo]; rfl
theorem own_empty {base : Nat} (w : World) (hb : base ≤ w.heap.size) : (w.alloc (.cells #[] 5)).ownsRow base 5 1 (.slice (some ⟨w.heap.size, 0, none⟩) 0 0) ([] : List UInt8).length (bvs []) :=
  World.ownsRow_lit w #[] 0 hb (Nat.zero_le _) rfl

set_option maxRecDepth 100000 in
theorem rseal_any {B : Nat} {w : World} {vb : Value} {l : List UInt8} (hr : Rd B w vb l) (hB : B ≤ w.heap.size) (hl : l.length ≤ 30000000000000) :
    Calls Tryz.prog 124 #[vb] w (Owned w (sealed l)) := by
  obtain ⟨ov, cv, rfl, hmx, hcell⟩ := hr.form
  go_enter Tryz.func124, Tryz.ntmps124
  go_wp2_with fail
  refine (fast_any hr).mono ?_
  rintro e w1 ⟨rfl, rfl⟩
  obtain ⟨c, hc⟩ : ∃ c, c = crc l := ⟨_, rfl⟩
  have hcl : c < lim32 := by rw [hc]; exact crc_lt l
  rw [← hc]
  have HC := Lib.hid hc
  have hc0 : (0 : Int) ≤ c := by omega
  clear hc hcell
  have hr1 := hr.below ((Below.refl w.heap.size w).alloc (Nat.le_refl _) (.cells #[] 5)) hB
  have hb0 : Below w.heap.size w (w.alloc (.cells #[] 5)) := (Below.refl w.heap.size w).alloc (Nat.le_refl _) _
  go_wp2_with (at_builtin; refine app_bytes rfl (.tmp 6) (.tmp 7) rfl rfl (own_empty w (Nat.le_refl _)) rfl hr1 ?c1 ?c2 ?_)
  case c1 => simp; omega
  case c2 => simp
  intro v1 W1 hown1 hg1
  have hb1 := below_grown hb0 hb0.size (Nat.le_refl _) (own_empty w (Nat.le_refl _)) hg1
  have HO1 := Lib.hid (own_nl hown1)
  clear hown1 hg1 hb0 hr1 hr
  go_wp2_with (at_builtin; refine app_bytes rfl (.tmp 8) (.tmp 20) rfl rfl (HO1.out.alloc _) rfl (rd_lit _ (le4 c) _ (le4_vals c) 4 rfl (show (4 : Nat) ≤ maxLen by decide)) ?c1 ?c2 ?_)
  case c1 => simp [le4]; omega
  case c2 => have := hb1.size; simp; omega
  intro v2 W2 hown2 hg2
  have hb2 := below_append hb1 hb1.size (Nat.le_refl _) HO1.out hg2
  have HO2 := Lib.hid (own_nl hown2)
  clear hown2 hg2
  go_wp2_with fail
  go_ret
  refine ⟨v2, rfl, ?_, hb2⟩
  have e : sealed l = [] ++ l ++ le4 c := by rw [HC.out]; rfl
  rw [e]
  exact HO2.out

set_option maxRecDepth 100000 in
theorem open_any {B : Nat} {w : World} {vb : Value} {l : List UInt8} (hr : Rd B w vb l) (hB : B ≤ w.heap.size) (hl : l.length < 4) :
    Calls Tryz.prog 123 #[vb] w fun e w' => e = .returned (.tuple #[.slice none 0 0, .bool false]) ∧ w = w' := by
  obtain ⟨ov, cv, rfl, hmx, hcell⟩ := hr.form
  have hl' : (l.length : Int) < 4 := by omega
  go_enter Tryz.func123, Tryz.ntmps123
  go_wp2_with fail
  go_ret2
  exact ⟨rfl, rfl⟩

theorem wrap64_nat (z : Int) : ∃ n : Nat, n < lim64 ∧ IntKind.u64.wrap z = n := by
  unfold lim64
  refine ⟨(IntKind.u64.wrap z).toNat, ?_, ?_⟩ <;> rw [IntKind.wrap_u64] <;> omega
theorem low8 (z : Int) : ∃ b : UInt8, Value.int .u8 (z % 256) = bv b := by
  refine ⟨UInt8.ofNat (z % 256).toNat, ?_⟩
  rw [bvo]; congr 1; omega

end Go.Proofs.YtnnebfcggdbgpaaGreatDoor
/-
  crc.Open and the reference's Sealed.
-/
namespace Go.Proofs.YtnnebfcggdbgpaaGreatDoor
open Go.ChangeShapes Go.WideShapes Go.ChangeAt Go.RowKit
set_option linter.unusedVariables false

def le (x0 x1 x2 x3 : UInt8) : Nat := x0.toNat + 256 * x1.toNat + 65536 * x2.toNat + 16777216 * x3.toNat

theorem Rd.tail4 {B : Nat} {w : World} {v : Value} {a : List UInt8} {x0 x1 x2 x3 : UInt8} (h : Rd B w v (a ++ [x0, x1, x2, x3])) :
    ∃ b off cap, v = .slice (some ⟨b, off, none⟩) (a.length + 4) cap ∧ a.length + 4 ≤ cap ∧ cap ≤ maxLen ∧ b < B ∧ w.cell? ⟨b, off + a.length, none⟩ = some (.int .u8 x0.toNat) ∧ w.cell? ⟨b, off + a.length + 1, none⟩ = some (.int .u8 x1.toNat) ∧
      w.cell? ⟨b, off + a.length + 2, none⟩ = some (.int .u8 x2.toNat) ∧ w.cell? ⟨b, off + a.length + 3, none⟩ = some (.int .u8 x3.toNat) := by
  rcases h with ⟨oa, _, h⟩ | ⟨b, off, cap, rfl, h1, h2, h3, hc⟩
  · simp at h
  · have hl : (a ++ [x0, x1, x2, x3]).length = a.length + 4 := by simp
    rw [hl] at h1 hc ⊢
    refine ⟨b, off, cap, rfl, h1, h2, h3, ?_, ?_, ?_, ?_⟩
    · rw [hc a.length (by omega)]; simp [bv]
    · rw [Nat.add_assoc, hc (a.length + 1) (by omega)]; simp [bv]
    · rw [Nat.add_assoc, hc (a.length + 2) (by omega)]; simp [bv]
    · rw [Nat.add_assoc, hc (a.length + 3) (by omega)]; simp [bv]

theorem or_join {x y : Nat} (i : Nat) (hx : x < 2 ^ i) (hx32 : x < 4294967296) (hy : y % 2 ^ i = 0) (hy32 : y < 4294967296) : bits .or .u32 (x : Int) (y : Int) = ((x + y : Nat) : Int) := by
  rw [u32_or_nat _ _ hx32 hy32, Nat.or_comm, nat_join i y x hy hx, Nat.add_comm]
theorem or4 (x0 x1 x2 x3 : UInt8) : bits BinOp.or IntKind.u32 (bits BinOp.or IntKind.u32 (bits BinOp.or IntKind.u32 (bits BinOp.or IntKind.u32 0 ((x0.toNat : Int) % 4294967296)) ((x1.toNat : Int) % 4294967296 * 256 % 4294967296))
    ((x2.toNat : Int) % 4294967296 * 65536 % 4294967296)) ((x3.toNat : Int) % 4294967296 * 16777216 % 4294967296) = ((le x0 x1 x2 x3 : Nat) : Int) := by
  have l0 := x0.toNat_lt
  have l1 := x1.toNat_lt
  have l2 := x2.toNat_lt
  have l3 := x3.toNat_lt
  have e0 : (x0.toNat : Int) % 4294967296 = ((x0.toNat : Nat) : Int) := by omega
  have e1 : (x1.toNat : Int) % 4294967296 * 256 % 4294967296 = ((256 * x1.toNat : Nat) : Int) := by omega
  have e2 : (x2.toNat : Int) % 4294967296 * 65536 % 4294967296 = ((65536 * x2.toNat : Nat) : Int) := by omega
  have e3 : (x3.toNat : Int) % 4294967296 * 16777216 % 4294967296 = ((16777216 * x3.toNat : Nat) : Int) := by omega
  have ez : (0 : Int) = ((0 : Nat) : Int) := rfl
  rw [e0, e1, e2, e3, ez, or_join 0 (by decide) (by decide) (Nat.mod_one _) (by omega), or_join 8 (by omega) (by omega) (by omega) (by omega), or_join 16 (by omega) (by omega) (by omega) (by omega), or_join 24 (by omega) (by omega) (by omega) (by omega)]
  unfold le
  rw [Nat.zero_add]

set_option maxRecDepth 100000 in
theorem open_yes {B : Nat} {w : World} {vb : Value} {a : List UInt8} {x0 x1 x2 x3 : UInt8} (hr : Rd B w vb (a ++ [x0, x1, x2, x3])) (hB : B ≤ w.heap.size) (hl : a.length ≤ 30000000000000) (hs : le x0 x1 x2 x3 = crc a) :
    Calls Tryz.prog 123 #[vb] w fun e w' => ∃ v, e = .returned (.tuple #[v, .bool true]) ∧ w'.ownsRow w.heap.size 5 1 v a.length (bvs a) ∧ Below w.heap.size w w' := by
  obtain ⟨b, off, cap, rfl, h1, h2, h3, c0, c1, c2, c3⟩ := hr.tail4
  have hra : Rd B w (.slice (some ⟨b, off, none⟩) a.length cap) a := by
    have := hr.take (k := a.length) (by simp)
    rw [List.take_left'] at this
    · exact this
    · rfl
  have HR := Lib.hid hra
  have HO := Lib.hid (or4 x0 x1 x2 x3)
  have HS := Lib.hid hs
  have hcap : ((a.length : Int)) < cap := by omega
  have hcap2 : ((a.length : Int)) + 4 ≤ cap := by omega
  clear hr hra hs
  go_enter Tryz.func123, Tryz.ntmps123
  go_wp2_with fail
  refine wp_loop_rounds 5 ?_
  rw [rounds_succ]
  go_wp2_with fail
  rw [rounds_succ]
  go_wp2_with fail
  rw [rounds_succ]
  go_wp2_with fail
  rw [rounds_succ]
  go_wp2_with fail
  rw [rounds_succ]
  go_wp2_with fail
  rw [HO.out]
  refine (csum_one HR.out hB).mono ?_
  rintro e w1 ⟨rfl, rfl⟩
  have hne : (((le x0 x1 x2 x3 : Nat) : Int) != ((crc a : Nat) : Int)) = false := by rw [HS.out]; simp
  have hb0 : Below w.heap.size w (w.alloc (.cells #[.slice (some ⟨b, off, none⟩) a.length cap] 30)) := (Below.refl w.heap.size w).alloc (Nat.le_refl _) _
  obtain ⟨w0, hw0⟩ : ∃ w0, w0 = w.alloc (.cells #[.slice (some ⟨b, off, none⟩) a.length cap] 30) := ⟨_, rfl⟩
  rw [← hw0] at hb0 ⊢
  clear hw0 c0 c1 c2 c3
  have hbz := hb0.size
  have hb1 : Below w.heap.size w (w0.alloc (.cells #[] 5)) := hb0.alloc hb0.size _
  have hr1 := HR.out.below hb1 hB
  go_wp2_with (at_builtin; refine app_bytes rfl (.tmp 37) (.tmp 40) rfl rfl (own_empty w0 hb0.size) rfl hr1 ?c1 ?c2 ?_)
  case c1 => simp; omega
  case c2 => simp; omega
  intro v1 W1 hown1 hg1
  have hb2 := below_grown hb1 hb1.size (Nat.le_refl _) (own_empty w0 hb0.size) hg1
  have HO1 := Lib.hid (own_nl hown1)
  clear hown1 hg1
  go_wp2_with fail
  go_ret2
  exact ⟨v1, rfl, HO1.out, hb2⟩

set_option maxRecDepth 100000 in
theorem open_no {B : Nat} {w : World} {vb : Value} {a : List UInt8} {x0 x1 x2 x3 : UInt8} (hr : Rd B w vb (a ++ [x0, x1, x2, x3])) (hB : B ≤ w.heap.size) (hl : a.length ≤ 30000000000000) (hs : le x0 x1 x2 x3 ≠ crc a) :
    Calls Tryz.prog 123 #[vb] w fun e w' => e = .returned (.tuple #[.slice none 0 0, .bool false]) ∧ Below w.heap.size w w' := by
  obtain ⟨b, off, cap, rfl, h1, h2, h3, c0, c1, c2, c3⟩ := hr.tail4
  have hra : Rd B w (.slice (some ⟨b, off, none⟩) a.length cap) a := by
    have := hr.take (k := a.length) (by simp)
    rw [List.take_left'] at this
    · exact this
    · rfl
  have HR := Lib.hid hra
  have HO := Lib.hid (or4 x0 x1 x2 x3)
  have HS := Lib.hid hs
  have hcap : ((a.length : Int)) < cap := by omega
  have hcap2 : ((a.length : Int)) + 4 ≤ cap := by omega
  clear hr hra hs
  go_enter Tryz.func123, Tryz.ntmps123
  go_wp2_with fail
  refine wp_loop_rounds 5 ?_
  rw [rounds_succ]
  go_wp2_with fail
  rw [rounds_succ]
  go_wp2_with fail
  rw [rounds_succ]
  go_wp2_with fail
  rw [rounds_succ]
  go_wp2_with fail
  rw [rounds_succ]
  go_wp2_with fail
  rw [HO.out]
  refine (csum_one HR.out hB).mono ?_
  rintro e w1 ⟨rfl, rfl⟩
  have hne : (((le x0 x1 x2 x3 : Nat) : Int) != ((crc a : Nat) : Int)) = true := by rw [bne_iff_ne]; have := HS.out; omega
  go_wp2_with fail
  go_ret2
  exact ⟨rfl, (Below.refl w.heap.size w).alloc (Nat.le_refl _) _⟩


theorem ret_bool {a b : Bool} (h : a = b) : Ending.returned (.bool a) = .returned (.bool b) := by rw [h]

set_option maxRecDepth 100000 in
theorem sealed_short {B : Nat} {w : World} {vb : Value} {l : List UInt8} (hr : Rd B w vb l) (hl : l.length < 4) :
    Calls Tryz.prog 125 #[vb] w fun e w' => e = .returned (.bool false) ∧ w = w' := by
  obtain ⟨ov, cv, rfl, hmx, hcell⟩ := hr.form
  have hl' : (l.length : Int) < 4 := by omega
  go_enter Tryz.func125, Tryz.ntmps125
  go_wp2_with fail
  go_ret
  exact ⟨rfl, rfl⟩

set_option maxRecDepth 100000 in
theorem sealed_long {B : Nat} {w : World} {vb : Value} {a : List UInt8} {x0 x1 x2 x3 : UInt8} (hr : Rd B w vb (a ++ [x0, x1, x2, x3])) (hl : a.length ≤ 30000000000000) :
    Calls Tryz.prog 125 #[vb] w fun e w' => e = .returned (.bool (decide (le x0 x1 x2 x3 = crc a))) ∧ w = w' := by
  obtain ⟨b, off, cap, rfl, h1, h2, h3, c0, c1, c2, c3⟩ := hr.tail4
  have hra : Rd B w (.slice (some ⟨b, off, none⟩) a.length cap) a := by
    have := hr.take (k := a.length) (by simp)
    rw [List.take_left'] at this
    · exact this
    · rfl
  have HR := Lib.hid hra
  have hcap : ((a.length : Int)) < cap := by omega
  have hcap2 : ((a.length : Int)) + 4 ≤ cap := by omega
  rw [Nat.add_assoc] at c1 c2 c3
  clear hr hra
  go_enter Tryz.func125, Tryz.ntmps125
  go_wp2_with fail
  refine (fast_any HR.out).mono ?_
  rintro e w1 ⟨rfl, rfl⟩
  obtain ⟨c, hc⟩ : ∃ c, c = crc a := ⟨_, rfl⟩
  have hcl : c < lim32 := by rw [hc]; exact crc_lt a
  rw [← hc]
  have HC := Lib.hid hc
  have hc0 : (0 : Int) ≤ c := by omega
  clear hc
  go_wp2_with fail
  all_goals
    have l0 := x0.toNat_lt
    have l1 := x1.toNat_lt
    have l2 := x2.toNat_lt
    have l3 := x3.toNat_lt
    unfold lim32 at hcl
    go_ret
    refine ⟨ret_bool ?_, rfl⟩
    rw [← HC.out, Bool.eq_iff_iff, decide_eq_true_eq]
    unfold le
    simp only [beq_iff_eq, Bool.false_eq_true, false_iff] at *
    omega
end Go.Proofs.YtnnebfcggdbgpaaGreatDoor
/-
  The register over functions of bits: linear; a burst is never lost; the long division of the definition is the register. No program is spoken of.
-/
namespace Go.Proofs.YtnnebfcggdbgpaaGreatDoor

/-- The register after n bits, that of place a first. -/
def rf (f : Nat → Nat) : Nat → Nat → Nat → Nat
  | 0, r, _ => r
  | n + 1, r, a => rf f n (stp r (f a)) (a + 1)
theorem rf_list (f : Nat → Nat) : ∀ (bs : List Nat) (r a : Nat), (∀ p, p < bs.length → f (a + p) = bs.getD p 0) → rf f bs.length r a = run r bs
  | [], _, _, _ => rfl
  | b :: bs, r, a, h => by
    have h0 : f a = b := by have := h 0 (by simp); simpa using this
    show rf f bs.length (stp r (f a)) (a + 1) = run (stp r b) bs
    rw [h0]
    refine rf_list f bs _ _ (fun p hp => ?_)
    have := h (p + 1) (by simp; omega)
    rw [show a + 1 + p = a + (p + 1) from by omega, this]; simp
theorem rf_xor (f g h : Nat → Nat) (N : Nat) (hh : ∀ p, p < N → h p = f p ^^^ g p) : ∀ (n r q a : Nat), a + n ≤ N → rf h n (r ^^^ q) a = rf f n r a ^^^ rf g n q a
  | 0, _, _, _, _ => rfl
  | n + 1, r, q, a, hN => by
    show rf h n (stp (r ^^^ q) (h a)) (a + 1) = rf f n (stp r (f a)) (a + 1) ^^^ rf g n (stp q (g a)) (a + 1)
    rw [← rf_xor f g h N hh n _ _ _ (by omega), hh a (by omega)]
    congr 1
    unfold stp
    rw [← tt_xor]
    congr 1
    rw [Nat.xor_assoc, Nat.xor_assoc, ← Nat.xor_assoc q, Nat.xor_comm q, Nat.xor_assoc (f a)]
theorem rf_add (f : Nat → Nat) : ∀ (m n r a : Nat), rf f (m + n) r a = rf f n (rf f m r a) (a + m)
  | 0, n, r, a => by rw [Nat.zero_add]; rfl
  | m + 1, n, r, a => by
    rw [Nat.add_right_comm]
    show rf f (m + n) (stp r (f a)) (a + 1) = rf f n (rf f m (stp r (f a)) (a + 1)) (a + (m + 1))
    rw [rf_add f m n, show a + 1 + m = a + (m + 1) from by omega]
theorem rf_low (f : Nat → Nat) : ∀ (n v r a : Nat), v < 2 ^ n → (∀ p, p < n → f (a + p) = v / 2 ^ p % 2) → rf f n r a = tn n (r ^^^ v)
  | 0, v, r, a, hv, _ => by
    have : v = 0 := by simpa using hv
    subst this; simp [rf, tn]
  | n + 1, v, r, a, hv, h => by
    show rf f n (stp r (f a)) (a + 1) = tn n (tt (r ^^^ v))
    have h0 : f a = v % 2 := by have := h 0 (by omega); simpa using this
    rw [rf_low f n (v / 2) _ _ (by rw [Nat.pow_succ] at hv; omega) (fun p hp => by
      rw [show a + 1 + p = a + (p + 1) from by omega, h (p + 1) (by omega), Nat.pow_succ, Nat.mul_comm (2 ^ p), Nat.div_div_eq_div_mul])]
    congr 1
    unfold stp
    rw [h0]
    conv => rhs; rw [split2 v, ← Nat.xor_assoc, tt_xor, tt_double]
theorem rf_none (f : Nat → Nat) (n r a : Nat) (h : ∀ p, p < n → f (a + p) = 0) : rf f n r a = tn n r := by
  have := rf_low f n 0 r a (Nat.two_pow_pos n) (fun p hp => by rw [h p hp]; simp)
  rw [this, Nat.xor_zero]

theorem lowb_get : ∀ (n v p : Nat), p < n → (lowb n v).getD p 0 = v / 2 ^ p % 2
  | 0, _, _, h => absurd h (by omega)
  | n + 1, v, 0, _ => by simp [lowb]
  | n + 1, v, p + 1, h => by
    have := lowb_get n (v / 2) p (by omega)
    rw [Nat.pow_succ, Nat.mul_comm (2 ^ p), ← Nat.div_div_eq_div_mul, ← this]
    simp [lowb]
/-- Bit p of bytes. -/
def bat (l : List UInt8) (p : Nat) : Nat := (l.getD (p / 8) 0).toNat / 2 ^ (p % 8) % 2
theorem bat_lt (l : List UInt8) (p : Nat) : bat l p < 2 := by unfold bat; omega
theorem bitl_get : ∀ (l : List UInt8) (p : Nat), p < 8 * l.length → (bitl l).getD p 0 = bat l p
  | [], p, h => absurd h (by simp)
  | x :: l, p, h => by
    have e : bitl (x :: l) = lowb 8 x.toNat ++ bitl l := rfl
    rw [e]
    by_cases hp : p < 8
    · rw [List.getD_eq_getElem?_getD, List.getElem?_append_left (by rw [lowb_len]; exact hp), ← List.getD_eq_getElem?_getD, lowb_get 8 _ p hp]
      unfold bat
      rw [show p / 8 = 0 from by omega, show p % 8 = p from by omega]; rfl
    · rw [List.getD_eq_getElem?_getD, List.getElem?_append_right (by rw [lowb_len]; omega), lowb_len, ← List.getD_eq_getElem?_getD, bitl_get l (p - 8) (by simp at h; omega)]
      unfold bat
      rw [show (p - 8) % 8 = p % 8 from by omega, show p / 8 = (p - 8) / 8 + 1 from by omega]; rfl
theorem bat_end (l : List UInt8) (p : Nat) (h : 8 * l.length ≤ p) : bat l p = 0 := by
  unfold bat
  rw [List.getD_eq_getElem?_getD, List.getElem?_eq_none (by omega)]; simp
theorem reg_rf (r : Nat) (l : List UInt8) : reg r l = rf (bat l) (8 * l.length) r 0 := by
  unfold reg
  rw [← bitl_len l]
  refine (rf_list _ _ _ _ (fun p hp => ?_)).symm
  rw [Nat.zero_add, bitl_get l p (by rw [bitl_len] at hp; exact hp)]

def le4n (x0 x1 x2 x3 : UInt8) : Nat := x0.toNat + 256 * x1.toNat + 65536 * x2.toNat + 16777216 * x3.toNat
theorem reg_le (r : Nat) (x0 x1 x2 x3 : UInt8) : reg r [x0, x1, x2, x3] = tn 32 (r ^^^ le4n x0 x1 x2 x3) := by
  have l0 := x0.toNat_lt
  have l1 := x1.toNat_lt
  have l2 := x2.toNat_lt
  have l3 := x3.toNat_lt
  rw [reg_rf]
  show rf _ 32 r 0 = _
  refine rf_low _ 32 _ r 0 (by unfold le4n; omega) (fun p hp => ?_)
  rw [Nat.zero_add]
  unfold bat le4n
  obtain ⟨q, s, hq, hs, rfl⟩ : ∃ q s, q < 4 ∧ s < 8 ∧ p = 8 * q + s := ⟨p / 8, p % 8, by omega, by omega, by omega⟩
  rw [show (8 * q + s) / 8 = q from by omega, show (8 * q + s) % 8 = s from by omega, Nat.pow_add, ← Nat.div_div_eq_div_mul]
  have key : ∀ b c : Nat, b < 256 → (b + 256 * c) / 2 ^ s % 2 = b / 2 ^ s % 2 := by
    intro b c hb
    have e : 256 * c = 2 ^ s * (2 ^ (8 - s) * c) := by rw [← Nat.mul_assoc, ← Nat.pow_add, show s + (8 - s) = 8 from by omega]
    rw [e, Nat.add_mul_div_left _ _ (Nat.two_pow_pos s)]
    have e2 : 2 ^ (8 - s) = 2 * 2 ^ (7 - s) := by rw [show 8 - s = (7 - s) + 1 from by omega, Nat.pow_succ, Nat.mul_comm]
    rw [e2, Nat.mul_assoc]; omega
  match q, hq with
  | 0, _ =>
    have := key x0.toNat (x1.toNat + 256 * x2.toNat + 65536 * x3.toNat) l0
    rw [show x0.toNat + 256 * x1.toNat + 65536 * x2.toNat + 16777216 * x3.toNat = x0.toNat + 256 * (x1.toNat + 256 * x2.toNat + 65536 * x3.toNat) from by omega, show 2 ^ (8 * 0) = 1 from rfl, Nat.div_one, this]; rfl
  | 1, _ =>
    have := key x1.toNat (x2.toNat + 256 * x3.toNat) l1
    rw [show (x0.toNat + 256 * x1.toNat + 65536 * x2.toNat + 16777216 * x3.toNat) / 2 ^ (8 * 1) = x1.toNat + 256 * (x2.toNat + 256 * x3.toNat) from by omega, this]; rfl
  | 2, _ =>
    have := key x2.toNat x3.toNat l2
    rw [show (x0.toNat + 256 * x1.toNat + 65536 * x2.toNat + 16777216 * x3.toNat) / 2 ^ (8 * 2) = x2.toNat + 256 * x3.toNat from by omega, this]; rfl
  | 3, _ =>
    rw [show (x0.toNat + 256 * x1.toNat + 65536 * x2.toNat + 16777216 * x3.toNat) / 2 ^ (8 * 3) = x3.toNat from by omega]; rfl
/-- Sealed is what the register says. -/
theorem sealed_reg (a : List UInt8) (x0 x1 x2 x3 : UInt8) : le4n x0 x1 x2 x3 = crc a ↔ reg ones (a ++ [x0, x1, x2, x3]) = tn 32 ones := by
  have l0 := x0.toNat_lt
  have l1 := x1.toNat_lt
  have l2 := x2.toNat_lt
  have l3 := x3.toNat_lt
  have hr := reg_lt ones a ones_lt
  have hle : le4n x0 x1 x2 x3 < lim32 := by unfold le4n lim32; omega
  rw [reg_append, reg_le]
  unfold crc
  rw [← ones_xor _ hr]
  generalize reg ones a = R at *
  constructor
  · intro h
    rw [h, Nat.xor_comm ones, ← Nat.xor_assoc, Nat.xor_self, Nat.zero_xor]
  · intro h
    have h2 := tn_inj (xor_lt32 hr hle) ones_lt h
    rw [← h2, Nat.xor_comm R, Nat.xor_assoc, Nat.xor_self, Nat.xor_zero]

/-- A burst: bits that differ lie within 32. -/
theorem burst (s s' : List UInt8) (i m v : Nat) (hl : s'.length = s.length) (hm : m ≤ 32) (hi : i + m ≤ 8 * s.length) (hv : v < 2 ^ m)
    (hb : ∀ p, p < 8 * s.length → bat s' p = bat s p ^^^ (if i ≤ p ∧ p < i + m then v / 2 ^ (p - i) % 2 else 0)) : (reg ones s' = reg ones s) ↔ v = 0 := by
  rw [reg_rf, reg_rf, hl]
  have e := rf_xor (bat s) (fun p => if i ≤ p ∧ p < i + m then v / 2 ^ (p - i) % 2 else 0) (bat s') (8 * s.length) hb (8 * s.length) ones 0 0 (by omega)
  rw [Nat.xor_zero] at e
  rw [e]
  have e2 : rf (fun p => if i ≤ p ∧ p < i + m then v / 2 ^ (p - i) % 2 else 0) (8 * s.length) 0 0 = tn (8 * s.length - (i + m)) (tn m v) := by
    rw [show 8 * s.length = i + (m + (8 * s.length - (i + m))) from by omega, rf_add, rf_none _ i, tn_zero, rf_add, rf_low _ m v, rf_none, Nat.zero_xor]
    · rw [show i + (m + (8 * s.length - (i + m))) - (i + m) = 8 * s.length - (i + m) from by omega]
    · intro p _; rw [if_neg (by omega)]
    · exact hv
    · intro p hp; rw [if_pos (by omega)]; congr 3; omega
    · intro p hp; rw [if_neg (by omega)]
  rw [e2]
  have hv32 : v < lim32 := Nat.lt_of_lt_of_le hv (Nat.pow_le_pow_right (n := 2) (by decide) hm)
  constructor
  · intro h
    apply Classical.byContradiction
    intro h0
    have h1 := tn_ne m hv32 h0
    have h2 := tn_ne (8 * s.length - (i + m)) (tn_lt m hv32) h1
    apply h2
    have := congrArg (rf (bat s) (8 * s.length) ones 0 ^^^ ·) h
    simpa [← Nat.xor_assoc] using this
  · intro h
    rw [h, tn_zero, tn_zero, Nat.xor_zero]

theorem xor_mod2' (a b : Nat) (ha : a < 2) (hb : b < 2) : a ^^^ b = (a + b) % 2 := by
  have h1 : a = 0 ∨ a = 1 := by omega
  have h2 : b = 0 ∨ b = 1 := by omega
  rcases h1 with rfl | rfl <;> rcases h2 with rfl | rfl <;> rfl
theorem xor_bit (a b s : Nat) : (a ^^^ b) / 2 ^ s % 2 = (a / 2 ^ s % 2 + b / 2 ^ s % 2) % 2 := by
  have h : (a ^^^ b) / 2 ^ s = (a / 2 ^ s) ^^^ (b / 2 ^ s) := by
    have := Nat.shiftRight_xor_distrib (a := a) (b := b) (i := s)
    simpa [Nat.shiftRight_eq_div_pow] using this
  rw [h, xor_mod2]
theorem pow_bit (s t : Nat) : 2 ^ s / 2 ^ t % 2 = if s = t then 1 else 0 := by
  by_cases h : s = t
  · subst h; rw [if_pos rfl, Nat.div_self (Nat.two_pow_pos s)]
  · rw [if_neg h]
    by_cases hlt : s < t
    · rw [Nat.div_eq_of_lt (Nat.pow_lt_pow_right (by decide) hlt)]
    · rw [Nat.pow_div (by omega) (by decide), show s - t = (s - t - 1) + 1 from by omega, Nat.pow_succ]; omega
/-- One bit of the bytes is inverted. -/
theorem bat_set (l : List UInt8) (q p : Nat) (x : UInt8) (hq : q < 8 * l.length) (hx : x.toNat = (l.getD (q / 8) 0).toNat ^^^ 2 ^ (q % 8)) :
    bat (l.set (q / 8) x) p = bat l p ^^^ (if p = q then 1 else 0) := by
  have hb := bat_lt l p
  rw [xor_mod2' _ _ hb (by split <;> omega)]
  unfold bat
  by_cases h : p / 8 = q / 8
  · rw [h, List.getD_eq_getElem?_getD, List.getElem?_set_self (by omega), Option.getD_some, hx, xor_bit, pow_bit]
    by_cases h2 : p = q
    · rw [if_pos h2, if_pos (by omega)]
    · rw [if_neg h2, if_neg (by omega)]
  · rw [List.getD_eq_getElem?_getD, List.getElem?_set_ne (by omega), ← List.getD_eq_getElem?_getD, if_neg (by omega)]
    omega
end Go.Proofs.YtnnebfcggdbgpaaGreatDoor
/-
  A sealed string of which bits are inverted in place.
-/
namespace Go.Proofs.YtnnebfcggdbgpaaGreatDoor
open Go.ChangeShapes Go.WideShapes Go.ChangeAt Go.RowKit

theorem own_set {w : World} {base g n cap : Nat} {l : List UInt8} (h : w.ownsRow base 5 1 (.slice (some ⟨g, 0, none⟩) n cap) n (bvs l)) (q : Nat) (y : UInt8) {u : Value} (hu : u = bv y) :
    (w.setCell ⟨g, q, none⟩ u).ownsRow base 5 1 (.slice (some ⟨g, 0, none⟩) n cap) n (bvs (l.set q y)) := by
  subst hu
  have := (World.ownsRow.stored h q (bv y)).1
  unfold bvs
  rw [List.map_set]
  exact this
theorem own_at {w : World} {base g n cap : Nat} {l : List UInt8} (h : w.ownsRow base 5 1 (.slice (some ⟨g, 0, none⟩) n cap) n (bvs l)) {q : Nat} (hq : q < n) : w.cell? ⟨g, q, none⟩ = some (.int .u8 (l.getD q 0).toNat) := by
  have hl : l.length = n := by have := h.1; rw [bvs_length] at this; omega
  rw [World.ownsRow.cellAt h q (by omega), bvs_getElem _ _ (by omega)]; rfl
theorem tail4 (l : List UInt8) (h : 4 ≤ l.length) : ∃ a x0 x1 x2 x3, l = a ++ [x0, x1, x2, x3] := by
  have e := List.take_append_drop (l.length - 4) l
  have hd : (l.drop (l.length - 4)).length = 4 := by rw [List.length_drop]; omega
  generalize l.drop (l.length - 4) = d at *
  match d, hd with
  | [x0, x1, x2, x3], _ => exact ⟨_, x0, x1, x2, x3, e.symm⟩
theorem le_le4 (c : Nat) (hc : c < lim32) : le4n (UInt8.ofNat c) (UInt8.ofNat (c / 256)) (UInt8.ofNat (c / 65536)) (UInt8.ofNat (c / 16777216)) = c := by
  unfold le4n lim32 at *
  simp only [UInt8.toNat_ofNat']
  omega
theorem sealed_ok (l : List UInt8) : reg ones (sealed l) = tn 32 ones := (sealed_reg l _ _ _ _).1 (le_le4 (crc l) (crc_lt l))
theorem u8_bit (y : UInt8) (s : Nat) (hs : s < 8) : ∃ z : UInt8, Value.int .u8 (bits .xor .u8 (y.toNat : Int) (2 ^ s % 256)) = bv z ∧ z.toNat = y.toNat ^^^ 2 ^ s := by
  have hp : 2 ^ s < 2 ^ 8 := Nat.pow_lt_pow_right (by decide) hs
  have hx : y.toNat ^^^ 2 ^ s < 2 ^ 8 := Nat.xor_lt_two_pow y.toNat_lt hp
  have e : (2 : Int) ^ s % 256 = ((2 ^ s : Nat) : Int) := by
    have h1 : (((2 ^ s : Nat) : Int)) % 256 = ((2 ^ s : Nat) : Int) := by
      generalize 2 ^ s = z at *
      omega
    rw [← h1]; simp
  refine ⟨UInt8.ofNat (y.toNat ^^^ 2 ^ s), ?_, ?_⟩
  · rw [e, u8_xor_nat y.toNat (2 ^ s) y.toNat_lt hp, bvo]
    congr 1; omega
  · rw [UInt8.toNat_ofNat']; omega
theorem idx (t L : Nat) (ht : t < lim32) : (wrap64 (t : Int)).tmod (8 * (L : Int)) = ((t % (8 * L) : Nat) : Int) := by
  have e : wrap64 (t : Int) = (t : Int) := by unfold wrap64; unfold lim32 at ht; omega
  rw [e, Int.tmod_eq_emod_of_nonneg (by omega)]
  simp
end Go.Proofs.YtnnebfcggdbgpaaGreatDoor
/-
  crc.Open and the reference's Sealed for any bytes, by one Bool.
-/
namespace Go.Proofs.YtnnebfcggdbgpaaGreatDoor
open Go.ChangeShapes Go.WideShapes Go.ChangeAt Go.RowKit

def isSealed (l : List UInt8) : Bool := decide (4 ≤ l.length ∧ reg ones l = tn 32 ones)
def inside (l : List UInt8) : List UInt8 := if isSealed l = true then l.take (l.length - 4) else []
theorem isSealed_short {l : List UInt8} (h : l.length < 4) : isSealed l = false := decide_eq_false (by omega)
theorem isSealed_long (a : List UInt8) (x0 x1 x2 x3 : UInt8) : isSealed (a ++ [x0, x1, x2, x3]) = decide (le x0 x1 x2 x3 = crc a) := by
  have h : le x0 x1 x2 x3 = crc a ↔ reg ones (a ++ [x0, x1, x2, x3]) = tn 32 ones := sealed_reg a x0 x1 x2 x3
  unfold isSealed
  rw [decide_eq_decide, h]
  exact ⟨fun h => h.2, fun h => ⟨by simp, h⟩⟩
theorem isSealed_sealed (l : List UInt8) : isSealed (sealed l) = true := decide_eq_true ⟨by simp [sealed, le4], sealed_ok l⟩
theorem inside_sealed (l : List UInt8) : inside (sealed l) = l := by
  unfold inside
  rw [if_pos (isSealed_sealed l)]
  have e : (sealed l).length - 4 = l.length := by simp [sealed, le4]
  rw [e]
  exact List.take_left' rfl
def OpenPost (w : World) (l : List UInt8) (e : Ending) (w' : World) : Prop :=
  ∃ v, e = .returned (.tuple #[v, .bool (isSealed l)]) ∧ w'.ownsRow w.heap.size 5 1 v (inside l).length (bvs (inside l)) ∧ Below w.heap.size w w'

theorem open_spec {B : Nat} {w : World} {vb : Value} {l : List UInt8} (hr : Rd B w vb l) (hB : B ≤ w.heap.size) (hl : l.length ≤ 30000000000000) :
    Calls Tryz.prog 123 #[vb] w (OpenPost w l) := by
  by_cases h4 : l.length < 4
  · refine (open_any hr hB h4).mono fun e w' ⟨he, hw⟩ => ?_
    subst hw
    have h := isSealed_short h4
    refine ⟨_, by rw [h]; exact he, ?_, Below.refl _ _⟩
    have e2 : inside l = [] := by unfold inside; rw [h]; rfl
    rw [e2]
    exact World.ownsRow_nil _ _ _ _
  · obtain ⟨a, x0, x1, x2, x3, rfl⟩ := tail4 l (by omega)
    have hal : a.length ≤ 30000000000000 := by simp at hl; omega
    have hs := isSealed_long a x0 x1 x2 x3
    by_cases h : le x0 x1 x2 x3 = crc a
    · rw [decide_eq_true h] at hs
      refine (open_yes hr hB hal h).mono fun e w' ⟨v, he, ho, hb⟩ => ⟨v, by rw [hs]; exact he, ?_, hb⟩
      have e2 : inside (a ++ [x0, x1, x2, x3]) = a := by
        unfold inside
        rw [hs, if_pos rfl]
        have e : (a ++ [x0, x1, x2, x3]).length - 4 = a.length := by simp
        rw [e]
        exact List.take_left' rfl
      rw [e2]
      exact ho
    · rw [decide_eq_false h] at hs
      refine (open_no hr hB hal h).mono fun e w' ⟨he, hb⟩ => ⟨_, by rw [hs]; exact he, ?_, hb⟩
      have e2 : inside (a ++ [x0, x1, x2, x3]) = [] := by unfold inside; rw [hs]; rfl
      rw [e2]
      exact World.ownsRow_nil _ _ _ _

theorem rsealed_spec {B : Nat} {w : World} {vb : Value} {l : List UInt8} (hr : Rd B w vb l) (hl : l.length ≤ 30000000000000) :
    Calls Tryz.prog 125 #[vb] w fun e w' => e = .returned (.bool (isSealed l)) ∧ w = w' := by
  by_cases h4 : l.length < 4
  · rw [isSealed_short h4]
    exact sealed_short hr h4
  · obtain ⟨a, x0, x1, x2, x3, rfl⟩ := tail4 l (by omega)
    rw [isSealed_long]
    exact sealed_long hr (by simp at hl; omega)
theorem same_t {A B : Nat} {w : World} {va vb : Value} {l : List UInt8} (ha : Rd A w va l) (hb : Rd B w vb l) :
    Calls Tryz.prog 22 #[va, vb] w fun e w' => e = .returned (.bool true) ∧ ∃ n, w' = w.drewN n := by
  have := same_any ha hb
  rw [show eqB l l = true from by unfold eqB; simp] at this
  exact this
theorem below_drewN {B : Nat} {w w' : World} (h : Below B w w') (n : Nat) : Below B w (w'.drewN n) := ⟨h.os, h.tape, h.output, h.size, h.block⟩
theorem own_base {w : World} {base base' n : Nat} {v : Value} {l : List UInt8} (h : w.ownsRow base 5 1 v n (bvs l)) (hb : base' ≤ base) : w.ownsRow base' 5 1 v n (bvs l) := Joins.ownsRow_le h hb
end Go.Proofs.YtnnebfcggdbgpaaGreatDoor
/-
  frame.Put, frame.Size and the reference's Put.
-/
namespace Go.Proofs.YtnnebfcggdbgpaaGreatDoor
open Go.ChangeShapes Go.WideShapes Go.ChangeAt Go.RowKit
set_option linter.unusedVariables false

def framed (l : List UInt8) : List UInt8 := put l.length ++ sealed l
theorem sealed_len (l : List UInt8) : (sealed l).length = l.length + 4 := by simp [sealed, le4]
theorem put_len_le {n : Nat} (h : n ≤ 1000000000) : (put n).length ≤ 10 := put_len10 (by unfold lim64; omega)
theorem framed_len {l : List UInt8} (h : l.length ≤ 1000000000) : (framed l).length ≤ l.length + 14 := by
  have := put_len_le h
  unfold framed
  rw [List.length_append, sealed_len]; omega
/-- Two slices in a fresh array read as two parts. -/
theorem rd_two {B : Nat} {w : World} {t : TypeId} {v0 v1 : Value} {l0 l1 : List UInt8} (h0 : Rd B w v0 l0) (h1 : Rd B w v1 l1) (hB : B ≤ w.heap.size) :
    RdAll (w.heap.size + 1) (w.alloc (.cells #[v0, v1] t)) (some ⟨w.heap.size, 0, none⟩) [l0, l1] := by
  intro _
  have hb : Below w.heap.size w (w.alloc (.cells #[v0, v1] t)) := (Below.refl _ _).alloc (Nat.le_refl _) _
  refine ⟨w.heap.size, 0, rfl, by omega, fun i hi => ?_⟩
  have hi2 : i < 2 := by simpa using hi
  match i, hi2 with
  | 0, _ =>
    refine ⟨v0, ?_, (h0.below hb hB).mono (by omega)⟩
    rw [cell_of_row _ _ _ #[v0, v1] t (0, 0) (heap_alloc_new w _)]; rfl
  | 1, _ =>
    refine ⟨v1, ?_, (h1.below hb hB).mono (by omega)⟩
    rw [cell_of_row _ _ _ #[v0, v1] t (0, 0) (heap_alloc_new w _)]; rfl

set_option maxRecDepth 100000 in
theorem fput_long {B : Nat} {w : World} {vb : Value} {l : List UInt8} (hr : Rd B w vb l) (hl : 65536 < l.length) :
    Calls Tryz.prog 95 #[vb] w fun e w' => e = .returned (.tuple #[.slice none 0 0, .iface 93 (.int .i64 15)]) ∧ w = w' := by
  obtain ⟨ov, cv, rfl, hmx, _⟩ := hr.form
  have hi : (65536 : Int) < l.length := by omega
  go_enter Tryz.func95, Tryz.ntmps95
  go_wp2_with fail
  go_ret2
  exact ⟨rfl, rfl⟩

def PutPost (w : World) (l : List UInt8) (e : Ending) (w' : World) : Prop :=
  ∃ v, e = .returned (.tuple #[v, .nilIface]) ∧ w'.ownsRow w.heap.size 5 1 v (framed l).length (bvs (framed l)) ∧ Below w.heap.size w w'
set_option maxRecDepth 100000 in
set_option maxHeartbeats 1000000 in
theorem fput_any {B : Nat} {w : World} {vb : Value} {l : List UInt8} (hr : Rd B w vb l) (hB : B ≤ w.heap.size) (hl : l.length ≤ 65536) :
    Calls Tryz.prog 95 #[vb] w (PutPost w l) := by
  have HSL := Lib.hid (sealed_len l)
  have hp := put_len_le (n := l.length) (by omega)
  have HP := Lib.hid (wput l.length (by unfold lim64; omega))
  have HS := Lib.hid (fun (w' : World) (h : Below w.heap.size w w') => cseal_any (hr.below h hB) (Nat.le_trans hB h.size) (by omega))
  obtain ⟨ov, cv, rfl, hmx, _⟩ := hr.form
  have hi : ¬ (65536 : Int) < l.length := by omega
  clear hr
  go_enter Tryz.func95, Tryz.ntmps95
  go_wp2_with fail
  refine (HP.out _).mono ?_
  rintro e w1 ⟨v1, rfl, o1, b1⟩
  have HB1 := Lib.hid b1
  have hr1 := Rd.of_own o1
  obtain ⟨ov1, cv1, rfl, hm1, _⟩ := hr1.form
  have HR1 := Lib.hid hr1
  clear o1 b1 hr1
  go_wp2_with fail
  refine (HS.out _ HB1.out).mono ?_
  rintro e w2 ⟨v2, rfl, o2, b2⟩
  have hr2 := Rd.of_own o2
  obtain ⟨ov2, cv2, rfl, hm2, _⟩ := hr2.form
  have hra := rd_two (t := 30) (HR1.out.below b2 (Nat.le_refl _) |>.mono b2.size) hr2 (Nat.le_refl _)
  have HJ := Lib.hid (show Calls Tryz.prog 72 #[.slice (some ⟨w2.heap.size, 0, none⟩) 2 2] (w2.alloc (.cells #[.slice ov1 (put l.length).length cv1, .slice ov2 (sealed l).length cv2] 30)) (Owned _ [put l.length, sealed l].flatten) from join_any (cap := 2) hra (by simp) (by simp) (by have := HSL.out; simp [total]; omega))
  have HB2 := Lib.hid (HB1.out.trans (b2.mono HB1.out.size))
  clear o2 b2 hra hr2 HR1 HP HS
  go_wp2_with fail
  refine HJ.out.mono ?_
  rintro e w3 ⟨v3, rfl, o3, b3⟩
  have hfl : [put l.length, sealed l].flatten = framed l := by simp [framed]
  rw [hfl] at o3
  have hb0 : Below w.heap.size w (w2.alloc (.cells #[.slice ov1 (put l.length).length cv1, .slice ov2 (sealed l).length cv2] 30)) := HB2.out.alloc HB2.out.size _
  have HF := Lib.hid (And.intro (own_le o3 hb0.size) (hb0.trans (b3.mono hb0.size)))
  clear o3 b3 hb0 HJ
  go_wp2_with fail
  go_ret2
  exact ⟨_, rfl, HF.out.1, HF.out.2⟩

set_option maxRecDepth 100000 in
set_option maxHeartbeats 1000000 in
theorem rfput_any {B : Nat} {w : World} {vb : Value} {l : List UInt8} (hr : Rd B w vb l) (hB : B ≤ w.heap.size) (hl : l.length ≤ 1000000) :
    Calls Tryz.prog 97 #[vb] w (Owned w (framed l)) := by
  have hs := sealed_len l
  have hp := put_len_le (n := l.length) (by omega)
  have HP := Lib.hid (rput l.length (by unfold lim64; omega))
  have HS := Lib.hid (fun (w' : World) (h : Below w.heap.size w w') => rseal_any (hr.below h hB) (Nat.le_trans hB h.size) (by omega))
  obtain ⟨ov, cv, rfl, hmx, _⟩ := hr.form
  clear hr
  go_enter Tryz.func97, Tryz.ntmps97
  go_wp2_with fail
  refine (HP.out _).mono ?_
  rintro e w1 ⟨v1, rfl, o1, b1⟩
  have HB1 := Lib.hid b1
  have HO1 := Lib.hid o1
  clear o1 b1
  go_wp2_with fail
  refine (HS.out _ HB1.out).mono ?_
  rintro e w2 ⟨v2, rfl, o2, b2⟩
  have HB2 := Lib.hid (HB1.out.trans (b2.mono HB1.out.size))
  have HR2 := Lib.hid (Rd.of_own o2)
  have HO2 := Lib.hid (own_below HO1.out b2)
  clear o2 b2 HO1 HP HS
  go_wp2_with (at_builtin; refine app_bytes rfl _ _ rfl rfl HO2.out rfl HR2.out (by rw [hs]; omega) HB2.out.size ?_)
  intro v3 w3 o3 g3
  have hb3 : Below w.heap.size w w3 := HB2.out.grown g3 HB2.out.size (fun k hk => HO2.out.lt k hk |>.1)
  have HF := Lib.hid (And.intro o3 hb3)
  clear o3 g3 hb3
  have HL : Hid ((framed l).length = (put l.length).length + (l.length + 4)) := by show _ = _; unfold framed; rw [List.length_append, hs]
  go_wp2_with fail
  go_ret
  exact ⟨_, rfl, by rw [HL.out]; exact HF.out.1, HF.out.2⟩
end Go.Proofs.YtnnebfcggdbgpaaGreatDoor
/-
  What frame.Read returns; fault.New and fault.Shift of a code.
-/
namespace Go.Proofs.YtnnebfcggdbgpaaGreatDoor
open Go.ChangeShapes Go.WideShapes Go.ChangeAt Go.RowKit
open errAs (ErrT)
set_option linter.unusedVariables false

theorem numGo_take : ∀ (n i x : Nat) (l : List UInt8), i + n = 10 → 0 < n → numGo i x (l.take n) = numGo i x l
  | 0, i, x, l, _, h => absurd h (Nat.lt_irrefl 0)
  | n + 1, i, x, [], h, _ => by simp
  | n + 1, i, x, g :: r, h, _ => by
    rw [List.take_succ_cons]
    by_cases h1 : i = 9 ∧ 1 < g.toNat
    · rw [go_long h1, go_long h1]
    · by_cases h2 : 0 < i ∧ g.toNat = 0
      · rw [go_min h1 h2, go_min h1 h2]
      · by_cases h3 : g.toNat < 128
        · rw [go_last h1 h2 h3, go_last h1 h2 h3]
        · rw [go_next h1 h2 h3, go_next h1 h2 h3]
          exact numGo_take n (i + 1) _ r (by omega) (by omega)
theorem num_take10 (l : List UInt8) : num (l.take 10) = num l := numGo_take 10 0 0 l rfl (by omega)
def readF (b : List UInt8) : List UInt8 × Nat × Nat × Nat :=
  if (num b).2.2 = 1 then ([], 0, 1, b.length) else if (num b).2.2 ≠ 0 then ([], 0, (num b).2.2, 0)
  else if 65536 < (num b).1 then ([], 0, 15, 0) else if b.length < (num b).2.1 + (num b).1 + 4 then ([], 0, 1, b.length)
  else if isSealed ((b.drop (num b).2.1).take ((num b).1 + 4)) = true then (inside ((b.drop (num b).2.1).take ((num b).1 + 4)), (num b).2.1 + (num b).1 + 4, 0, 0) else ([], 0, 4, (num b).2.1)
theorem read_short {b : List UInt8} (h : (num b).2.2 = 1) : readF b = ([], 0, 1, b.length) := by unfold readF; rw [if_pos h]
theorem read_code {b : List UInt8} (h1 : (num b).2.2 ≠ 1) (h0 : (num b).2.2 ≠ 0) : readF b = ([], 0, (num b).2.2, 0) := by unfold readF; rw [if_neg h1, if_pos h0]
theorem read_limit {b : List UInt8} (h0 : (num b).2.2 = 0) (hl : 65536 < (num b).1) : readF b = ([], 0, 15, 0) := by
  unfold readF; rw [if_neg (by omega), if_neg (by omega), if_pos hl]
theorem read_cut {b : List UInt8} (h0 : (num b).2.2 = 0) (hl : ¬ 65536 < (num b).1) (hc : b.length < (num b).2.1 + (num b).1 + 4) : readF b = ([], 0, 1, b.length) := by
  unfold readF; rw [if_neg (by omega), if_neg (by omega), if_neg hl, if_pos hc]
theorem read_yes {b : List UInt8} (h0 : (num b).2.2 = 0) (hl : ¬ 65536 < (num b).1) (hc : ¬ b.length < (num b).2.1 + (num b).1 + 4) (hs : isSealed ((b.drop (num b).2.1).take ((num b).1 + 4)) = true) :
    readF b = (inside ((b.drop (num b).2.1).take ((num b).1 + 4)), (num b).2.1 + (num b).1 + 4, 0, 0) := by
  unfold readF; rw [if_neg (by omega), if_neg (by omega), if_neg hl, if_neg hc, if_pos hs]
theorem read_no {b : List UInt8} (h0 : (num b).2.2 = 0) (hl : ¬ 65536 < (num b).1) (hc : ¬ b.length < (num b).2.1 + (num b).1 + 4) (hs : isSealed ((b.drop (num b).2.1).take ((num b).1 + 4)) = false) :
    readF b = ([], 0, 4, (num b).2.1) := by
  unfold readF; rw [if_neg (by omega), if_neg (by omega), if_neg hl, if_neg hc, if_neg (by rw [hs]; exact Bool.false_ne_true)]

set_option maxRecDepth 100000 in
theorem shift_C (c : Nat) (w : World) (hg : ErrT w) :
    Calls Tryz.prog 65 #[.iface 93 (.int .i64 c), .int .i64 0] w fun e w' => e = .returned (faultN c 0) ∧ Below w.heap.size w w' := by
  have HE := Lib.hid hg
  clear hg
  go_enter Tryz.func65, Tryz.ntmps65
  go_wp2_with fail
  refine (errAs.code_C c _ HE.out).mono ?_
  rintro e w1 ⟨rfl, b1⟩
  have HE1 := Lib.hid (errT_below HE.out b1)
  have HB1 := Lib.hid b1
  clear b1
  go_wp2_with fail
  refine (errAs.at_C c _ HE1.out).mono ?_
  rintro e w2 ⟨rfl, b2⟩
  have HB2 := Lib.hid (HB1.out.trans (b2.mono HB1.out.size))
  clear b2
  go_wp2_with fail
  refine (fnew_any _ _ _).mono ?_
  rintro e w3 ⟨rfl, rfl⟩
  go_wp2_with fail
  go_ret
  exact ⟨rfl, HB2.out⟩

end Go.Proofs.YtnnebfcggdbgpaaGreatDoor
/-
  frame.Read.
-/
namespace Go.Proofs.YtnnebfcggdbgpaaGreatDoor
open Go.ChangeShapes Go.WideShapes Go.ChangeAt Go.RowKit
open errAs (ErrT)
set_option linter.unusedVariables false

theorem eqlNil (d : Int) (w : World) : (binOp BinOp.eql 34 .nilIface (.iface 93 (.int .i64 d))).run Tryz.prog w = .ok (.bool false) w := by kernel_rfl
theorem eqlC (c d : Int) (w : World) : (binOp BinOp.eql 34 (.iface 93 (.int .i64 c)) (.iface 93 (.int .i64 d))).run Tryz.prog w = .ok (.bool (decide (c = d))) w := by kernel_rfl
theorem Rd.cut {B : Nat} {w : World} {oa : Option Addr} {cap : Nat} {p : List UInt8} (h : Rd B w (.slice oa p.length cap) p) : Rd B w (.slice oa (min p.length 10) cap) (p.take (min p.length 10)) := h.take (by omega)
def ReadPost (w : World) (b : List UInt8) (e : Ending) (w' : World) : Prop :=
  ∃ v, e = .returned (.tuple #[v, .int .i64 ((readF b).2.1 : Nat), errF (readF b).2.2.1 (readF b).2.2.2]) ∧ w'.ownsRow w.heap.size 5 1 v (readF b).1.length (bvs (readF b).1) ∧ Below w.heap.size w w'
theorem post_none {w w' : World} {b : List UInt8} {c n : Nat} (hc : c ≠ 0) (h : readF b = ([], 0, c, n)) (hb : Below w.heap.size w w') : ReadPost w b (.returned (.tuple #[.slice none 0 0, .int .i64 0, faultN c n])) w' := by
  refine ⟨.slice none 0 0, ?_, ?_, hb⟩
  · rw [h]; show _ = Ending.returned (.tuple #[_, _, errF c n]); unfold errF; rw [if_neg hc]; rfl
  · rw [h]; exact World.ownsRow_nil _ _ _ _

theorem rd_sub {B : Nat} {w : World} {b off cap i n : Nat} {l : List UInt8} (h1 : l.length ≤ cap) (h2 : cap ≤ maxLen) (h3 : b < B) (hc : ∀ i, i < l.length → w.cell? ⟨b, off + i, none⟩ = some (bv (l.getD i 0))) (hi : i + n ≤ l.length) (c2 : Nat) (hc2 : c2 = cap - i) :
    Rd B w (.slice (some ⟨b, off + i, none⟩) n c2) ((l.drop i).take n) := by
  have hl : ((l.drop i).take n).length = n := by rw [List.length_take, List.length_drop]; omega
  refine .inr ⟨b, off + i, c2, by rw [hl], by omega, by omega, h3, fun j hj => ?_⟩
  rw [hl] at hj
  rw [Nat.add_assoc, hc (i + j) (by omega)]
  congr 2
  simp [List.getD_eq_getElem?_getD, hj]
theorem frame_set {w0 w w' : World} {c : Nat} (h : Below w0.heap.size w0 w) (hc : w0.heap.size ≤ c) (hg : w.grownBy w' (some c)) : Below w0.heap.size w0 w' := h.grown hg h.size (fun k hk => by injection hk with hk; omega)

set_option maxRecDepth 100000 in
set_option maxHeartbeats 4000000 in
theorem fread_nil {w : World} {oa : Option Addr} (hg : ErrT w) :
    Calls Tryz.prog 96 #[.slice oa 0 0] w (ReadPost w []) := by
  have HN : Hid (Calls Tryz.prog 27 #[.slice oa 0 0] w (NewPost w [])) := new_any (B := w.heap.size) (.inl ⟨oa, rfl, rfl⟩) (Nat.le_refl _) (by simp)
  have hq1 := eqlC
  clear hg
  go_enter Tryz.func96, Tryz.ntmps96
  go_wp2_with fail
  refine HN.out.mono ?_
  rintro e w1 ⟨c, rfl, hc, hcur, b1⟩
  have HB1 := Lib.hid b1
  have HC := Lib.hid hc
  have HNU := Lib.hid (Number_any hcur)
  clear b1 hc hcur HN
  go_wp2_with fail
  refine HNU.out.mono ?_
  rintro e w2 ⟨rfl, hcur2, hg2⟩
  have HB2 := Lib.hid (frame_set HB1.out HC.out hg2)
  clear hg2 hcur2 HB1 HNU
  have hv : errV (num (([] : List UInt8).drop 0)).2.2 = .iface 93 (.int .i64 1) := rfl
  rw [hv]
  go_wp2_with fail
  refine (fnew_any _ _ _).mono ?_
  rintro e w3 ⟨rfl, rfl⟩
  have HF := Lib.hid (post_none (w := w) (b := []) (c := 1) (n := 0) (by decide) (read_short rfl) HB2.out)
  go_wp2_with fail
  go_ret3
  exact HF.out

set_option maxRecDepth 100000 in
set_option maxHeartbeats 4000000 in
theorem fread_any {B : Nat} {w : World} {vb : Value} {l : List UInt8} (hr : Rd B w vb l) (hB : B ≤ w.heap.size) (hl : l.length ≤ 1000000000) (hg : ErrT w) :
    Calls Tryz.prog 96 #[vb] w (ReadPost w l) := by
  have hr0 := hr
  rcases hr0 with ⟨oa, rfl, rfl⟩ | ⟨b, off, cv, rfl, h1, h2, h3, hcell⟩
  · exact fread_nil hg
  have HNG := Lib.hid (fun k (hk : k ≤ l.length) (h10 : l.length ≤ 1000000000) => new_any (hr.take hk) hB (by rw [List.length_take]; omega))
  have HR := Lib.hid hr
  have HE := Lib.hid hg
  have HCELL := Lib.hid (And.intro h1 (And.intro h2 (And.intro h3 hcell)))
  clear hr hg hcell
  have i0 : (0 : Int) ≤ l.length := by omega
  have i1 : (l.length : Int) ≤ cv := by omega
  have HNX : Hid (∃ k, k = min l.length 10 ∧ Calls Tryz.prog 27 #[.slice (some ⟨b, off, none⟩) k cv] w (NewPost w (l.take 10))) := by
    refine ⟨_, rfl, ?_⟩
    have h := HNG.out (min l.length 10) (by omega) hl
    have e10 : l.take (min l.length 10) = l.take 10 := by
      by_cases h : l.length ≤ 10
      · rw [Nat.min_eq_left h, List.take_length, List.take_of_length_le h]
      · rw [Nat.min_eq_right (by omega)]
    rw [e10] at h
    exact h
  obtain ⟨r, hrr⟩ : ∃ r, r = num l := ⟨_, rfl⟩
  have hnt : num ((l.take 10).drop 0) = r := by rw [List.drop_zero, num_take10, hrr]
  have HNT := Lib.hid hnt
  have HRR := Lib.hid hrr
  have hq0 := eqlNil
  have hq1 := eqlC
  clear hnt hrr HNG
  by_cases h10 : l.length ≤ 10
  case pos =>
    have g10 : (l.length : Int) ≤ 10 := by omega
    have m10 : min (l.length : Int) 10 = l.length := Int.min_eq_left g10
    have HN : Hid (Calls Tryz.prog 27 #[.slice (some ⟨b, off, none⟩) l.length cv] w (NewPost w (l.take 10))) := by
      obtain ⟨k, hk, h⟩ := HNX.out
      rw [Nat.min_eq_left h10] at hk
      subst hk; exact h
    clear HNX
    go_enter Tryz.func96, Tryz.ntmps96
    go_wp2_with fail
    refine HN.out.mono ?_
    rintro e w1 ⟨c, rfl, hc, hcur, b1⟩
    have HB1 := Lib.hid b1
    have HC := Lib.hid hc
    have HNU := Lib.hid (Number_any hcur)
    clear b1 hc hcur HN
    go_wp2_with fail
    refine HNU.out.mono ?_
    rintro e w2 ⟨rfl, hcur2, hg2⟩
    rw [HNT.out] at hcur2 ⊢
    have hb2 := frame_set HB1.out HC.out hg2
    have HB2 := Lib.hid hb2
    have HE2 := Lib.hid (HE.out.below hb2 HE.out.lt)
    have HR2 := Lib.hid (HR.out.below hb2 hB)
    have HAT := Lib.hid (at_any hcur2)
    clear hb2 hg2 hcur2 HB1 HNU
    by_cases hr1 : r.2.2 = 1
    · have hv : errV r.2.2 = .iface 93 (.int .i64 1) := by rw [hr1]; rfl
      rw [hv]
      go_wp2_with fail
      refine (fnew_any _ _ _).mono ?_
      rintro e w3 ⟨rfl, rfl⟩
      have HF := Lib.hid (post_none (w := w) (b := l) (c := 1) (n := l.length) (by decide) (read_short (by rw [← HRR.out]; exact hr1)) HB2.out)
      go_wp2_with fail
      go_ret3
      exact HF.out
    · by_cases hr0 : r.2.2 = 0
      · have hv : errV r.2.2 = .nilIface := by rw [hr0]; rfl
        rw [hv]
        have hna := num_at (l := l) (by rw [← HRR.out]; exact hr0)
        rw [← HRR.out] at hna
        obtain ⟨x, hx⟩ : ∃ x, x = r.1 := ⟨_, rfl⟩
        obtain ⟨k, hk⟩ : ∃ k, k = r.2.1 := ⟨_, rfl⟩
        rw [← hk] at hna HAT
        rw [← hx]
        by_cases hlim : 65536 < x
        · have g1 : (65536 : Int) < x := by omega
          have HF := Lib.hid (post_none (w := w) (b := l) (c := 15) (n := 0) (by decide) (read_limit (by rw [← HRR.out]; exact hr0) (by rw [← HRR.out, ← hx]; exact hlim)) HB2.out)
          go_wp2_with fail
          refine (fnew_any _ _ _).mono ?_
          rintro e w3 ⟨rfl, rfl⟩
          go_wp2_with fail
          go_ret3
          exact HF.out
        · have g1 : ¬ (65536 : Int) < x := by omega
          have hz0 : 0 + k = k := Nat.zero_add k
          rw [hz0] at HAT
          go_wp2_with fail
          refine HAT.out.mono ?_
          rintro e w3 ⟨rfl, rfl⟩
          by_cases hend : l.length < k + x + 4
          · have g2 : (l.length : Int) < (k : Int) + x + 4 := by omega
            have HF := Lib.hid (post_none (w := w) (b := l) (c := 1) (n := l.length) (by decide) (read_cut (by rw [← HRR.out]; exact hr0) (by rw [← HRR.out, ← hx]; exact hlim) (by rw [← HRR.out, ← hx, ← hk]; exact hend)) HB2.out)
            go_wp2_with fail
            refine (fnew_any _ _ _).mono ?_
            rintro e w3 ⟨rfl, rfl⟩
            go_wp2_with fail
            go_ret3
            exact HF.out
          · have g2 : ¬ (l.length : Int) < (k : Int) + x + 4 := by omega
            have g3 : (k : Int) ≤ (k : Int) + x + 4 := by omega
            have g4 : (k : Int) + x + 4 ≤ l.length := by omega
            obtain ⟨z1, z2, z3, zc⟩ := HCELL.out
            have hsub := rd_sub (B := B) (w := w2) (i := r.2.1) (n := r.2.1 + r.1 + 4 - r.2.1) z1 z2 z3 (fun i hi => (HB2.out.cell (by show b < w.heap.size; omega)).trans (zc i hi)) (by omega) (cv - r.2.1) rfl
            have en : r.2.1 + r.1 + 4 - r.2.1 = r.1 + 4 := by omega
            have hop := open_spec hsub (Nat.le_trans hB HB2.out.size) (by rw [List.length_take, List.length_drop]; omega)
            rw [show (l.drop r.2.1).take (r.2.1 + r.1 + 4 - r.2.1) = (l.drop r.2.1).take (r.1 + 4) by rw [en]] at hop
            have HOP := Lib.hid hop
            have HY := Lib.hid (fun h => read_yes (b := l) (by rw [← HRR.out]; exact hr0) (by rw [← HRR.out]; omega) (by rw [← HRR.out]; omega) h)
            have HNO := Lib.hid (fun h => read_no (b := l) (by rw [← HRR.out]; exact hr0) (by rw [← HRR.out]; omega) (by rw [← HRR.out]; omega) h)
            rw [← HRR.out] at HY HNO
            clear zc hsub hop en
            go_wp2_with fail
            refine HOP.out.mono ?_
            rintro e w3 ⟨v, rfl, o3, b3⟩
            have HB3 := Lib.hid (HB2.out.trans (b3.mono HB2.out.size))
            have HO3 := Lib.hid (own_le o3 HB2.out.size)
            clear o3 b3 HOP
            obtain ⟨sb, hsb⟩ : ∃ sb, sb = isSealed ((l.drop r.2.1).take (r.1 + 4)) := ⟨_, rfl⟩
            rw [← hsb]
            cases sb with
            | true =>
              have h := HY.out hsb.symm
              have HF : Hid (ReadPost w l (.returned (.tuple #[v, .int .i64 ((r.2.1 + r.1 + 4 : Nat) : Int), .nilIface])) w3) := ⟨v, by rw [h]; rfl, by rw [h]; exact HO3.out, HB3.out⟩
              clear h hsb
              go_wp2_with fail
              go_ret3
              exact HF.out
            | false =>
              have HF := Lib.hid (post_none (w := w) (w' := w3) (b := l) (c := 4) (n := r.2.1) (by decide) (HNO.out hsb.symm) HB3.out)
              clear hsb
              go_wp2_with fail
              refine (fnew_any _ _ _).mono ?_
              rintro e w4 ⟨rfl, rfl⟩
              go_wp2_with fail
              go_ret3
              exact HF.out
      · have hv : errV r.2.2 = .iface 93 (.int .i64 r.2.2) := by unfold errV; rw [if_neg hr0]
        rw [hv]
        have g1 : ¬ ((r.2.2 : Int) = 1) := by omega
        have HF := Lib.hid (fun w3 hb3 => post_none (w := w) (w' := w3) (b := l) (c := r.2.2) (n := 0) hr0 (by rw [read_code (by rw [← HRR.out]; exact hr1) (by rw [← HRR.out]; exact hr0), ← HRR.out]) hb3)
        have HSH := Lib.hid (shift_C r.2.2 w2 HE2.out)
        go_wp2_with fail
        refine HSH.out.mono ?_
        rintro e w3 ⟨rfl, b3⟩
        have HB3 := Lib.hid (HB2.out.trans (b3.mono HB2.out.size))
        clear b3
        go_wp2_with fail
        go_ret3
        exact HF.out _ HB3.out
  case neg =>
    have g10 : ¬ (l.length : Int) ≤ 10 := by omega
    have m10 : min (l.length : Int) 10 = 10 := Int.min_eq_right (by omega)
    have g11 : (10 : Int) ≤ cv := by omega
    have HN : Hid (Calls Tryz.prog 27 #[.slice (some ⟨b, off, none⟩) 10 cv] w (NewPost w (l.take 10))) := by
      obtain ⟨k, hk, h⟩ := HNX.out
      rw [Nat.min_eq_right (by omega)] at hk
      subst hk; exact h
    clear HNX
    go_enter Tryz.func96, Tryz.ntmps96
    go_wp2_with fail
    refine HN.out.mono ?_
    rintro e w1 ⟨c, rfl, hc, hcur, b1⟩
    have HB1 := Lib.hid b1
    have HC := Lib.hid hc
    have HNU := Lib.hid (Number_any hcur)
    clear b1 hc hcur HN
    go_wp2_with fail
    refine HNU.out.mono ?_
    rintro e w2 ⟨rfl, hcur2, hg2⟩
    rw [HNT.out] at hcur2 ⊢
    have hb2 := frame_set HB1.out HC.out hg2
    have HB2 := Lib.hid hb2
    have HE2 := Lib.hid (HE.out.below hb2 HE.out.lt)
    have HR2 := Lib.hid (HR.out.below hb2 hB)
    have HAT := Lib.hid (at_any hcur2)
    clear hb2 hg2 hcur2 HB1 HNU
    by_cases hr1 : r.2.2 = 1
    · have hv : errV r.2.2 = .iface 93 (.int .i64 1) := by rw [hr1]; rfl
      rw [hv]
      go_wp2_with fail
      refine (fnew_any _ _ _).mono ?_
      rintro e w3 ⟨rfl, rfl⟩
      have HF := Lib.hid (post_none (w := w) (b := l) (c := 1) (n := l.length) (by decide) (read_short (by rw [← HRR.out]; exact hr1)) HB2.out)
      go_wp2_with fail
      go_ret3
      exact HF.out
    · by_cases hr0 : r.2.2 = 0
      · have hv : errV r.2.2 = .nilIface := by rw [hr0]; rfl
        rw [hv]
        have hna := num_at (l := l) (by rw [← HRR.out]; exact hr0)
        rw [← HRR.out] at hna
        obtain ⟨x, hx⟩ : ∃ x, x = r.1 := ⟨_, rfl⟩
        obtain ⟨k, hk⟩ : ∃ k, k = r.2.1 := ⟨_, rfl⟩
        rw [← hk] at hna HAT
        rw [← hx]
        by_cases hlim : 65536 < x
        · have g1 : (65536 : Int) < x := by omega
          have HF := Lib.hid (post_none (w := w) (b := l) (c := 15) (n := 0) (by decide) (read_limit (by rw [← HRR.out]; exact hr0) (by rw [← HRR.out, ← hx]; exact hlim)) HB2.out)
          go_wp2_with fail
          refine (fnew_any _ _ _).mono ?_
          rintro e w3 ⟨rfl, rfl⟩
          go_wp2_with fail
          go_ret3
          exact HF.out
        · have g1 : ¬ (65536 : Int) < x := by omega
          have hz0 : 0 + k = k := Nat.zero_add k
          rw [hz0] at HAT
          go_wp2_with fail
          refine HAT.out.mono ?_
          rintro e w3 ⟨rfl, rfl⟩
          by_cases hend : l.length < k + x + 4
          · have g2 : (l.length : Int) < (k : Int) + x + 4 := by omega
            have HF := Lib.hid (post_none (w := w) (b := l) (c := 1) (n := l.length) (by decide) (read_cut (by rw [← HRR.out]; exact hr0) (by rw [← HRR.out, ← hx]; exact hlim) (by rw [← HRR.out, ← hx, ← hk]; exact hend)) HB2.out)
            go_wp2_with fail
            refine (fnew_any _ _ _).mono ?_
            rintro e w3 ⟨rfl, rfl⟩
            go_wp2_with fail
            go_ret3
            exact HF.out
          · have g2 : ¬ (l.length : Int) < (k : Int) + x + 4 := by omega
            have g3 : (k : Int) ≤ (k : Int) + x + 4 := by omega
            have g4 : (k : Int) + x + 4 ≤ l.length := by omega
            obtain ⟨z1, z2, z3, zc⟩ := HCELL.out
            have hsub := rd_sub (B := B) (w := w2) (i := r.2.1) (n := r.2.1 + r.1 + 4 - r.2.1) z1 z2 z3 (fun i hi => (HB2.out.cell (by show b < w.heap.size; omega)).trans (zc i hi)) (by omega) (cv - r.2.1) rfl
            have en : r.2.1 + r.1 + 4 - r.2.1 = r.1 + 4 := by omega
            have hop := open_spec hsub (Nat.le_trans hB HB2.out.size) (by rw [List.length_take, List.length_drop]; omega)
            rw [show (l.drop r.2.1).take (r.2.1 + r.1 + 4 - r.2.1) = (l.drop r.2.1).take (r.1 + 4) by rw [en]] at hop
            have HOP := Lib.hid hop
            have HY := Lib.hid (fun h => read_yes (b := l) (by rw [← HRR.out]; exact hr0) (by rw [← HRR.out]; omega) (by rw [← HRR.out]; omega) h)
            have HNO := Lib.hid (fun h => read_no (b := l) (by rw [← HRR.out]; exact hr0) (by rw [← HRR.out]; omega) (by rw [← HRR.out]; omega) h)
            rw [← HRR.out] at HY HNO
            clear zc hsub hop en
            go_wp2_with fail
            refine HOP.out.mono ?_
            rintro e w3 ⟨v, rfl, o3, b3⟩
            have HB3 := Lib.hid (HB2.out.trans (b3.mono HB2.out.size))
            have HO3 := Lib.hid (own_le o3 HB2.out.size)
            clear o3 b3 HOP
            obtain ⟨sb, hsb⟩ : ∃ sb, sb = isSealed ((l.drop r.2.1).take (r.1 + 4)) := ⟨_, rfl⟩
            rw [← hsb]
            cases sb with
            | true =>
              have h := HY.out hsb.symm
              have HF : Hid (ReadPost w l (.returned (.tuple #[v, .int .i64 ((r.2.1 + r.1 + 4 : Nat) : Int), .nilIface])) w3) := ⟨v, by rw [h]; rfl, by rw [h]; exact HO3.out, HB3.out⟩
              clear h hsb
              go_wp2_with fail
              go_ret3
              exact HF.out
            | false =>
              have HF := Lib.hid (post_none (w := w) (w' := w3) (b := l) (c := 4) (n := r.2.1) (by decide) (HNO.out hsb.symm) HB3.out)
              clear hsb
              go_wp2_with fail
              refine (fnew_any _ _ _).mono ?_
              rintro e w4 ⟨rfl, rfl⟩
              go_wp2_with fail
              go_ret3
              exact HF.out
      · have hv : errV r.2.2 = .iface 93 (.int .i64 r.2.2) := by unfold errV; rw [if_neg hr0]
        rw [hv]
        have g1 : ¬ ((r.2.2 : Int) = 1) := by omega
        have HF := Lib.hid (fun w3 hb3 => post_none (w := w) (w' := w3) (b := l) (c := r.2.2) (n := 0) hr0 (by rw [read_code (by rw [← HRR.out]; exact hr1) (by rw [← HRR.out]; exact hr0), ← HRR.out]) hb3)
        have HSH := Lib.hid (shift_C r.2.2 w2 HE2.out)
        go_wp2_with fail
        refine HSH.out.mono ?_
        rintro e w3 ⟨rfl, b3⟩
        have HB3 := Lib.hid (HB2.out.trans (b3.mono HB2.out.size))
        clear b3
        go_wp2_with fail
        go_ret3
        exact HF.out _ HB3.out
end Go.Proofs.YtnnebfcggdbgpaaGreatDoor
/-
  The reference's Read.
-/
namespace Go.Proofs.YtnnebfcggdbgpaaGreatDoor
open Go.ChangeShapes Go.WideShapes Go.ChangeAt Go.RowKit
open errAs (ErrT)
set_option linter.unusedVariables false

theorem results_tmp4 {fn : Func} {t u v x : Tmp} (h : fn.results = #[.tmp t, .tmp u, .tmp v, .tmp x]) (tmps : Array Value) (P : Program) (w : World) :
    (results fn tmps).run P w = .ok (.tuple #[tmps.getD t undef, tmps.getD u undef, tmps.getD v undef, tmps.getD x undef]) w := by
  simp [results, h]
def RefPost (B : Nat) (w : World) (b : List UInt8) (e : Ending) (w' : World) : Prop :=
  ∃ v, e = .returned (.tuple #[v, .int .i64 ((readF b).2.1 : Nat), .int .i64 ((readF b).2.2.1 : Nat), .int .i64 ((readF b).2.2.2 : Nat)]) ∧ Rd B w' v (readF b).1 ∧ w = w'
theorem ref_none {B : Nat} {w : World} {b : List UInt8} {c n : Nat} (h : readF b = ([], 0, c, n)) : RefPost B w b (.returned (.tuple #[.slice none 0 0, .int .i64 0, .int .i64 c, .int .i64 n])) w := by
  refine ⟨.slice none 0 0, by rw [h]; rfl, ?_, rfl⟩
  rw [h]; exact .inl ⟨none, rfl, rfl⟩
theorem inside_sub {l : List UInt8} {k x : Nat} (h : isSealed ((l.drop k).take (x + 4)) = true) (hl : k + x + 4 ≤ l.length) : inside ((l.drop k).take (x + 4)) = (l.drop k).take x := by
  unfold inside
  rw [if_pos h]
  have : ((l.drop k).take (x + 4)).length = x + 4 := by rw [List.length_take, List.length_drop]; omega
  rw [this, List.take_take]
  congr 1
  omega

set_option maxRecDepth 100000 in
theorem frread_nil {B : Nat} {w : World} {oa : Option Addr} :
    Calls Tryz.prog 98 #[.slice oa 0 0] w (RefPost B w []) := by
  have HN := Lib.hid (rnumber_any (B := B) (w := w) (vb := .slice oa 0 0) (l := []) (.inl ⟨oa, rfl, rfl⟩) (by simp))
  have hv : num ([] : List UInt8) = (0, 0, 1) := rfl
  rw [hv] at HN
  go_enter Tryz.func98, Tryz.ntmps98
  go_wp2_with fail
  refine HN.out.mono ?_
  rintro e w2 ⟨rfl, rfl⟩
  go_wp2_with fail
  (try simp only [Exit.inBlock, Exit.then]); refine bodyPost_ret (results_tmp4 rfl _ _ _) rfl ?_
  exact ref_none (c := 1) (n := 0) (read_short rfl)

set_option maxRecDepth 100000 in
set_option maxHeartbeats 4000000 in
theorem rread_any {B : Nat} {w : World} {vb : Value} {l : List UInt8} (hr : Rd B w vb l) (hl : l.length ≤ 1000000) :
    Calls Tryz.prog 98 #[vb] w (RefPost B w l) := by
  have hr0 := hr
  rcases hr0 with ⟨oa, rfl, rfl⟩ | ⟨b, off, cv, rfl, h1, h2, h3, hcell⟩
  · exact frread_nil
  have HN := Lib.hid (rnumber_any hr hl)
  have HR := Lib.hid hr
  have HCELL := Lib.hid (And.intro h1 (And.intro h2 (And.intro h3 hcell)))
  clear hr hcell
  have i0 : (0 : Int) ≤ l.length := by omega
  have i1 : (l.length : Int) ≤ cv := by omega
  obtain ⟨r, hrr⟩ : ∃ r, r = num l := ⟨_, rfl⟩
  have HRR := Lib.hid hrr
  rw [← hrr] at HN
  clear hrr
  go_enter Tryz.func98, Tryz.ntmps98
  go_wp2_with fail
  refine HN.out.mono ?_
  rintro e w2 ⟨rfl, rfl⟩
  by_cases hr1 : r.2.2 = 1
  · have HF := Lib.hid (ref_none (B := B) (w := w) (b := l) (c := 1) (n := l.length) (read_short (by rw [← HRR.out]; exact hr1)))
    have g1 : (r.2.2 : Int) = 1 := by omega
    go_wp2_with fail
    (try simp only [Exit.inBlock, Exit.then]); refine bodyPost_ret (results_tmp4 rfl _ _ _) rfl ?_
    exact HF.out
  · have g1 : ¬ (r.2.2 : Int) = 1 := by omega
    by_cases hr0 : r.2.2 = 0
    · have g0 : (r.2.2 : Int) = 0 := by omega
      have hna := num_at (l := l) (by rw [← HRR.out]; exact hr0)
      rw [← HRR.out] at hna
      by_cases hlim : 65536 < r.1
      · have g2 : (65536 : Int) < r.1 := by omega
        have HF := Lib.hid (ref_none (B := B) (w := w) (b := l) (c := 15) (n := 0) (read_limit (by rw [← HRR.out]; exact hr0) (by rw [← HRR.out]; exact hlim)))
        go_wp2_with fail
        (try simp only [Exit.inBlock, Exit.then]); refine bodyPost_ret (results_tmp4 rfl _ _ _) rfl ?_
        exact HF.out
      · have g2 : ¬ (65536 : Int) < r.1 := by omega
        by_cases hend : l.length < r.2.1 + r.1 + 4
        · have g3 : (l.length : Int) < (r.2.1 : Int) + r.1 + 4 := by omega
          have HF := Lib.hid (ref_none (B := B) (w := w) (b := l) (c := 1) (n := l.length) (read_cut (by rw [← HRR.out]; exact hr0) (by rw [← HRR.out]; exact hlim) (by rw [← HRR.out]; exact hend)))
          go_wp2_with fail
          (try simp only [Exit.inBlock, Exit.then]); refine bodyPost_ret (results_tmp4 rfl _ _ _) rfl ?_
          exact HF.out
        · have g3 : ¬ (l.length : Int) < (r.2.1 : Int) + r.1 + 4 := by omega
          have g4 : (r.2.1 : Int) ≤ (r.2.1 : Int) + r.1 + 4 := by omega
          have g5 : (r.2.1 : Int) + r.1 + 4 ≤ cv := by omega
          have g6 : (r.2.1 : Int) ≤ (r.2.1 : Int) + r.1 + 4 - 4 := by omega
          have g7 : (r.2.1 : Int) + r.1 + 4 - 4 ≤ cv := by omega
          obtain ⟨z1, z2, z3, zc⟩ := HCELL.out
          have hsub := rd_sub (B := B) (w := w) (i := r.2.1) (n := r.2.1 + r.1 + 4 - r.2.1) z1 z2 z3 zc (by omega) (cv - r.2.1) rfl
          have HSUB2 : Hid (∀ n, n = r.1 → Rd B w (.slice (some ⟨b, off + r.2.1, none⟩) n (cv - r.2.1)) ((l.drop r.2.1).take r.1)) := fun n hn => by
            subst hn; exact rd_sub (B := B) (w := w) (i := r.2.1) (n := r.1) z1 z2 z3 zc (by omega) (cv - r.2.1) rfl
          have en : r.2.1 + r.1 + 4 - r.2.1 = r.1 + 4 := by omega
          have hop := rsealed_spec hsub (by rw [List.length_take, List.length_drop]; omega)
          rw [show (l.drop r.2.1).take (r.2.1 + r.1 + 4 - r.2.1) = (l.drop r.2.1).take (r.1 + 4) by rw [en]] at hop
          have HOP := Lib.hid hop
          have HY := Lib.hid (fun h => read_yes (b := l) (by rw [← HRR.out]; exact hr0) (by rw [← HRR.out]; omega) (by rw [← HRR.out]; omega) h)
          have HNO := Lib.hid (fun h => read_no (b := l) (by rw [← HRR.out]; exact hr0) (by rw [← HRR.out]; omega) (by rw [← HRR.out]; omega) h)
          rw [← HRR.out] at HY HNO
          have HIN := Lib.hid (fun h => inside_sub (l := l) (k := r.2.1) (x := r.1) h (by omega))
          clear zc hsub hop en
          go_wp2_with fail
          refine HOP.out.mono ?_
          rintro e w3 ⟨rfl, rfl⟩
          obtain ⟨sb, hsb⟩ : ∃ sb, sb = isSealed ((l.drop r.2.1).take (r.1 + 4)) := ⟨_, rfl⟩
          rw [← hsb]
          cases sb with
          | true =>
            have HH := Lib.hid (HY.out hsb.symm)
            have HI := Lib.hid (HIN.out hsb.symm)
            clear hsb
            go_wp2_with fail
            (try simp only [Exit.inBlock, Exit.then]); refine bodyPost_ret (results_tmp4 rfl _ _ _) rfl ?_
            refine ⟨_, by rw [HH.out]; rfl, ?_, rfl⟩
            rw [HH.out, HI.out]
            exact HSUB2.out (r.2.1 + r.1 - r.2.1) (by omega)
          | false =>
            have HF := Lib.hid (ref_none (B := B) (w := w) (b := l) (c := 4) (n := r.2.1) (HNO.out hsb.symm))
            clear hsb
            go_wp2_with fail
            (try simp only [Exit.inBlock, Exit.then]); refine bodyPost_ret (results_tmp4 rfl _ _ _) rfl ?_
            exact HF.out
    · have g0 : ¬ (r.2.2 : Int) = 0 := by omega
      have HF := Lib.hid (ref_none (B := B) (w := w) (b := l) (c := r.2.2) (n := 0) (by rw [read_code (by rw [← HRR.out]; exact hr1) (by rw [← HRR.out]; exact hr0), ← HRR.out]))
      go_wp2_with fail
      (try simp only [Exit.inBlock, Exit.then]); refine bodyPost_ret (results_tmp4 rfl _ _ _) rfl ?_
      exact HF.out
end Go.Proofs.YtnnebfcggdbgpaaGreatDoor
/-
  vestrylaw05.awake.
-/
namespace Go.Proofs.YtnnebfcggdbgpaaGreatDoor
open Go.ChangeShapes Go.WideShapes Go.ChangeAt Go.RowKit
open errAs (ErrT)
set_option linter.unusedVariables false

theorem inside_sealed' (l : List UInt8) : inside (sealed l) = l := inside_sealed l
/-- A frame is read as what was put, whatever follows. -/
theorem readF_framed {l : List UInt8} (hl : l.length ≤ 65536) (r : List UInt8) : readF (framed l ++ r) = (l, (framed l).length, 0, 0) := by
  have hn : num (framed l ++ r) = (l.length, (put l.length).length, 0) := by
    unfold framed
    rw [List.append_assoc]
    exact num_put (by unfold lim64; omega) _
  have hs := sealed_len l
  have hd : ((framed l ++ r).drop (put l.length).length).take (l.length + 4) = sealed l := by
    unfold framed
    rw [List.append_assoc, List.drop_left, ← hs, List.take_left]
  have hc : ¬ (framed l ++ r).length < (num (framed l ++ r)).2.1 + (num (framed l ++ r)).1 + 4 := by
    rw [hn]
    unfold framed
    rw [List.length_append, List.length_append, hs]
    show ¬ _ < (put l.length).length + l.length + 4
    omega
  have hd' : ((framed l ++ r).drop (num (framed l ++ r)).2.1).take ((num (framed l ++ r)).1 + 4) = sealed l := by rw [hn]; exact hd
  rw [read_yes (by rw [hn]) (by rw [hn]; show ¬ _ < l.length; omega) hc (by rw [hd']; exact isSealed_sealed l), hd', inside_sealed, hn]
  unfold framed
  rw [List.length_append, hs]
  rfl

theorem eqlSl (a : Addr) (n c : Nat) (w : World) : (binOp BinOp.eql 30 (.slice (some a) n c) (.slice none 0 0)).run Tryz.prog w = .ok (.bool false) w := by kernel_rfl
theorem make_zeros {ops : Array Oper} {rest : List Oper} {o : Oper} {a : Act} {Q : Exit → Act → World → Prop} {w : World} (hg : o.guard = none) (l c : Operand) (hop : o.op = Op.makeSlice 30 l c)
    {base : Nat} {kl kc : IntKind} {L C : Int} (n : Nat) (hl : a.eval l = .int kl L) (hc : a.eval c = .int kc C) (hL : L = (n : Int)) (hC : C = (n : Int)) (b2 : n ≤ 1000000) (b4 : base ≤ w.heap.size)
    (h : ∀ w', w'.ownsRow base 5 1 (.slice (some ⟨w.heap.size, 0, none⟩) n n) n (bvs (List.replicate n 0)) → w.grownBy w' none → wpList Tryz.prog ops Q rest (a.put o.dst (.slice (some ⟨w.heap.size, 0, none⟩) n n)) w') : wpList Tryz.prog ops Q (o :: rest) a w := by
  obtain ⟨i0, hi, hz0, hz1, hz2⟩ := info_parts Tryz.info5
  refine wpList_make_full w hg l c 30 hop base 5 i0 _ 1 Tryz.underlying30 hi hz0 hz1 kl kc L C n hl hc hL hC (by rw [hz2]; omega) (by unfold maxLen; omega) b4 (fun w' r1 r2 => h w' ?_ r2)
  have e : (madeCells (Value.int .u8 0).cells (n * 1)).toList = bvs (List.replicate n 0) := by
    rw [Nat.mul_one]
    show (madeCells #[Value.int .u8 0] n).toList = _
    rw [toList_madeCells_one]; simp [bvs, bv]
  rw [← e]
  exact r1
theorem zeros_rd {w : World} {base g n : Nat} (h : w.ownsRow base 5 1 (.slice (some ⟨g, 0, none⟩) n n) n (bvs (List.replicate n 0))) : Rd w.heap.size w (.slice (some ⟨g, 0, none⟩) n n) (List.replicate n 0) := Rd.of_own h
theorem fr0 : framed [] = [0, 0, 0, 0, 0] := by decide +kernel
theorem fr2_len : (framed [1, 2]).length = 7 := by decide +kernel
theorem rd_addr {B : Nat} {w : World} {v : Value} {l : List UInt8} (h : Rd B w v l) (hl : 0 < l.length) : ∃ b off cap, v = .slice (some ⟨b, off, none⟩) l.length cap := by
  rcases h with ⟨oa, rfl, rfl⟩ | ⟨b, off, cap, rfl, _⟩
  · simp at hl
  · exact ⟨b, off, cap, rfl⟩
end Go.Proofs.YtnnebfcggdbgpaaGreatDoor
/-
  What is read as a frame is the frame of the payload.
-/
namespace Go.Proofs.YtnnebfcggdbgpaaGreatDoor
open Go.ChangeShapes Go.WideShapes Go.ChangeAt Go.RowKit
set_option linter.unusedVariables false

theorem le4_le (x0 x1 x2 x3 : UInt8) : le4 (le x0 x1 x2 x3) = [x0, x1, x2, x3] := by
  have h0 := x0.toNat_lt
  have h1 := x1.toNat_lt
  have h2 := x2.toNat_lt
  have h3 := x3.toNat_lt
  unfold le4 le
  congr 1
  · apply UInt8.toNat_inj.1; rw [UInt8.toNat_ofNat']; omega
  congr 1
  · apply UInt8.toNat_inj.1; rw [UInt8.toNat_ofNat']; omega
  congr 1
  · apply UInt8.toNat_inj.1; rw [UInt8.toNat_ofNat']; omega
  congr 1
  · apply UInt8.toNat_inj.1; rw [UInt8.toNat_ofNat']; omega
theorem sealed_back {s : List UInt8} (h : isSealed s = true) : sealed (inside s) = s := by
  have h4 : 4 ≤ s.length := (of_decide_eq_true h).1
  obtain ⟨a, x0, x1, x2, x3, rfl⟩ := tail4 s h4
  have hl := isSealed_long a x0 x1 x2 x3
  rw [h] at hl
  have hc : le x0 x1 x2 x3 = crc a := of_decide_eq_true hl.symm
  have hin : inside (a ++ [x0, x1, x2, x3]) = a := by
    unfold inside
    rw [if_pos h]
    have e : (a ++ [x0, x1, x2, x3]).length - 4 = a.length := by simp
    rw [e]
    exact List.take_left' rfl
  rw [hin]
  unfold sealed
  rw [← hc, le4_le]
theorem read_code_ok {b : List UInt8} (h : (readF b).2.2.1 = 0) : (num b).2.2 = 0 ∧ ¬ 65536 < (num b).1 ∧ ¬ b.length < (num b).2.1 + (num b).1 + 4 ∧ isSealed ((b.drop (num b).2.1).take ((num b).1 + 4)) = true := by
  by_cases h1 : (num b).2.2 = 1
  · rw [read_short h1] at h; cases h
  · by_cases h0 : (num b).2.2 = 0
    · by_cases hl : 65536 < (num b).1
      · rw [read_limit h0 hl] at h; cases h
      · by_cases hc : b.length < (num b).2.1 + (num b).1 + 4
        · rw [read_cut h0 hl hc] at h; cases h
        · cases hs : isSealed ((b.drop (num b).2.1).take ((num b).1 + 4)) with
          | true => exact ⟨h0, hl, hc, rfl⟩
          | false => rw [read_no h0 hl hc hs] at h; cases h
    · rw [read_code h1 h0] at h; exact absurd h h0
theorem readF_back {b : List UInt8} (h : (readF b).2.2.1 = 0) : framed (readF b).1 = b.take (readF b).2.1 ∧ (readF b).1.length ≤ 65536 ∧ (readF b).2.1 ≤ b.length := by
  obtain ⟨h0, hl, hc, hs⟩ := read_code_ok h
  obtain ⟨t1, t2⟩ := num_back h0
  rw [read_yes h0 hl hc hs]
  have hsb := sealed_back hs
  have hin := inside_sub hs (by omega)
  have hlen : (inside ((b.drop (num b).2.1).take ((num b).1 + 4))).length = (num b).1 := by rw [hin, List.length_take, List.length_drop]; omega
  refine ⟨?_, by rw [hlen]; omega, by show _ + _ + _ ≤ _; omega⟩
  show framed _ = b.take ((num b).2.1 + (num b).1 + 4)
  unfold framed
  rw [hlen, hsb, ← t1, Nat.add_assoc]
  exact List.take_add.symm
theorem readF_none {b : List UInt8} (h : (readF b).2.2.1 ≠ 0) : (readF b).1 = [] := by
  by_cases h1 : (num b).2.2 = 1
  · rw [read_short h1]
  · by_cases h0 : (num b).2.2 = 0
    · by_cases hl : 65536 < (num b).1
      · rw [read_limit h0 hl]
      · by_cases hc : b.length < (num b).2.1 + (num b).1 + 4
        · rw [read_cut h0 hl hc]
        · cases hs : isSealed ((b.drop (num b).2.1).take ((num b).1 + 4)) with
          | true => rw [read_yes h0 hl hc hs] at h; exact absurd rfl h
          | false => rw [read_no h0 hl hc hs]
    · rw [read_code h1 h0]
end Go.Proofs.YtnnebfcggdbgpaaGreatDoor
/-
  Logs; no program is spoken of.
-/
namespace Go.Proofs.YtnnebfcggdbgpaaGreatDoor
open Go.ChangeShapes Go.WideShapes Go.ChangeAt Go.RowKit
set_option linter.unusedVariables false

def logC (l : List Ch) : List UInt8 := l.flatMap fun c => framed (putC c)
theorem logC_snoc (l : List Ch) (c : Ch) : logC (l ++ [c]) = logC l ++ framed (putC c) := by simp [logC]
theorem logC_cons (l : List Ch) (c : Ch) : logC (c :: l) = framed (putC c) ++ logC l := by simp [logC]
theorem framedC_len {c : Ch} (h : rightC c = true) : (framed (putC c)).length ≤ 640 := by
  have h1 := putC_len h
  have h2 := framed_len (l := putC c) (by omega)
  omega
theorem logC_len : ∀ {l : List Ch}, (∀ c ∈ l, rightC c = true) → (logC l).length ≤ l.length * 640
  | [], _ => by simp [logC]
  | c :: l, h => by
    have h1 := framedC_len (h c List.mem_cons_self)
    have h2 := logC_len (l := l) fun x hx => h x (List.mem_cons_of_mem _ hx)
    rw [logC_cons, List.length_append, List.length_cons]
    omega
/-- The entries whose log is b from a place on, the code of the error, its offset. -/
def lgo : Nat → List UInt8 → Nat → List Ch → List Ch × Nat × Nat
  | 0, _, _, acc => (acc, 0, 0)
  | n + 1, b, k, acc => if k < b.length then
      if (readF (b.drop k)).2.2.1 ≠ 0 then ([], (readF (b.drop k)).2.2.1, (readF (b.drop k)).2.2.2 + k)
      else if (parseC (readF (b.drop k)).1).2.1 ≠ 0 then ([], (parseC (readF (b.drop k)).1).2.1, k)
      else lgo n b (k + (readF (b.drop k)).2.1) (acc ++ [(parseC (readF (b.drop k)).1).1])
    else (acc, 0, 0)
def parseLg (b : List UInt8) : List Ch × Nat × Nat := lgo (b.length + 1) b 0 []
theorem lgo_end {n k : Nat} {b : List UInt8} {acc : List Ch} (h : ¬ k < b.length) : lgo (n + 1) b k acc = (acc, 0, 0) := by unfold lgo; rw [if_neg h]
theorem lgo_frame {n k : Nat} {b : List UInt8} {acc : List Ch} (h : k < b.length) (h2 : (readF (b.drop k)).2.2.1 ≠ 0) : lgo (n + 1) b k acc = ([], (readF (b.drop k)).2.2.1, (readF (b.drop k)).2.2.2 + k) := by
  conv => lhs; unfold lgo
  rw [if_pos h, if_pos h2]
theorem lgo_parse {n k : Nat} {b : List UInt8} {acc : List Ch} (h : k < b.length) (h2 : (readF (b.drop k)).2.2.1 = 0) (h3 : (parseC (readF (b.drop k)).1).2.1 ≠ 0) : lgo (n + 1) b k acc = ([], (parseC (readF (b.drop k)).1).2.1, k) := by
  conv => lhs; unfold lgo
  rw [if_pos h, if_neg (by omega), if_pos h3]
theorem lgo_next {n k : Nat} {b : List UInt8} {acc : List Ch} (h : k < b.length) (h2 : (readF (b.drop k)).2.2.1 = 0) (h3 : (parseC (readF (b.drop k)).1).2.1 = 0) : lgo (n + 1) b k acc = lgo n b (k + (readF (b.drop k)).2.1) (acc ++ [(parseC (readF (b.drop k)).1).1]) := by
  conv => lhs; unfold lgo
  rw [if_pos h, if_neg (by omega), if_neg (by omega)]
theorem used_pos {b : List UInt8} (h : (readF b).2.2.1 = 0) : 0 < (readF b).2.1 ∧ (readF b).2.1 ≤ b.length := by
  obtain ⟨h1, h2, h3⟩ := readF_back h
  refine ⟨?_, h3⟩
  have e := congrArg List.length h1
  rw [List.length_take] at e
  have : 0 < (framed (readF b).1).length := by unfold framed; rw [List.length_append, sealed_len]; omega
  omega
theorem readF_size (b : List UInt8) : (readF b).1.length ≤ 65536 := by
  by_cases h : (readF b).2.2.1 = 0
  · exact (readF_back h).2.1
  · rw [readF_none h]; simp
theorem lgo_log : ∀ (l : List Ch) (n : Nat) (b p : List UInt8) (acc : List Ch), (∀ c ∈ l, rightC c = true) → b = p ++ logC l → l.length < n → lgo n b p.length acc = (acc ++ l, 0, 0)
  | [], n + 1, b, p, acc, _, hb, _ => by
    rw [lgo_end (by rw [hb]; simp [logC]), List.append_nil]
  | c :: l, n + 1, b, p, acc, h, hb, hn => by
    have hc := h c List.mem_cons_self
    have hd : b.drop p.length = framed (putC c) ++ logC l := by rw [hb, List.drop_left' rfl, logC_cons]
    have hr := readF_framed (l := putC c) (by have := putC_len hc; omega) (logC l)
    rw [← hd] at hr
    have hp := parseC_put hc
    have hlt : p.length < b.length := by
      have : 0 < (framed (putC c)).length := by unfold framed; rw [List.length_append, sealed_len]; omega
      rw [hb, logC_cons, List.length_append, List.length_append]; omega
    rw [lgo_next hlt (by rw [hr]) (by rw [hr, hp]), hr]
    have ih := lgo_log l n b (p ++ framed (putC c)) (acc ++ [c]) (fun x hx => h x (List.mem_cons_of_mem _ hx)) (by rw [hb, logC_cons, List.append_assoc]) (by simpa using hn)
    rw [List.length_append] at ih
    show lgo n b (p.length + (framed (putC c)).length) (acc ++ [(parseC (putC c)).1]) = _
    rw [hp, ih]; simp
theorem parseLg_log {l : List Ch} (h : ∀ c ∈ l, rightC c = true) : parseLg (logC l) = (l, 0, 0) := by
  have hle : ∀ m : List Ch, m.length ≤ (logC m).length := by
    intro m
    induction m with
    | nil => simp
    | cons c m ih =>
      have : 0 < (framed (putC c)).length := by unfold framed; rw [List.length_append, sealed_len]; omega
      rw [logC_cons, List.length_append, List.length_cons]; omega
  have := lgo_log l ((logC l).length + 1) (logC l) [] [] h rfl (by have := hle l; omega)
  simpa [parseLg] using this
theorem lgo_back : ∀ (n : Nat) (b : List UInt8) (k : Nat) (acc : List Ch), b.length + 1 ≤ n + k → k ≤ b.length → (∀ c ∈ acc, rightC c = true) → logC acc = b.take k → (lgo n b k acc).2.1 = 0 → (∀ c ∈ (lgo n b k acc).1, rightC c = true) ∧ logC (lgo n b k acc).1 = b ∧ (lgo n b k acc).2.2 = 0
  | 0, b, k, acc, hn, hk, _, _, _ => by omega
  | n + 1, b, k, acc, hn, hk, ha, hl, h0 => by
    by_cases hlt : k < b.length
    · by_cases h2 : (readF (b.drop k)).2.2.1 = 0
      · by_cases h3 : (parseC (readF (b.drop k)).1).2.1 = 0
        · rw [lgo_next hlt h2 h3] at h0 ⊢
          obtain ⟨u1, u2⟩ := used_pos h2
          obtain ⟨p1, p2, _⟩ := parseC_back h3
          obtain ⟨f1, _, _⟩ := readF_back h2
          rw [List.length_drop] at u2
          refine lgo_back n b _ _ (by omega) (by omega) (fun c hc => ?_) ?_ h0
          · rcases List.mem_append.1 hc with hc | hc
            · exact ha c hc
            · rw [List.mem_singleton.1 hc]; exact p1
          · rw [logC_snoc, hl, p2, f1, List.take_add]
        · rw [lgo_parse hlt h2 h3] at h0; dsimp only at h0; exact absurd h0 h3
      · rw [lgo_frame hlt h2] at h0; dsimp only at h0; exact absurd h0 h2
    · rw [lgo_end hlt]
      refine ⟨ha, ?_, rfl⟩
      rw [hl, List.take_of_length_le (by omega)]
theorem parseLg_back {b : List UInt8} (h : (parseLg b).2.1 = 0) : (∀ c ∈ (parseLg b).1, rightC c = true) ∧ logC (parseLg b).1 = b ∧ (parseLg b).2.2 = 0 :=
  lgo_back (b.length + 1) b 0 [] (by omega) (Nat.zero_le _) (fun c hc => by cases hc) (by simp [logC]) h
theorem lgo_len : ∀ (n : Nat) (b : List UInt8) (k : Nat) (acc : List Ch), (lgo n b k acc).1.length ≤ acc.length + n
  | 0, b, k, acc => Nat.le_refl _
  | n + 1, b, k, acc => by
    by_cases hlt : k < b.length
    · by_cases h2 : (readF (b.drop k)).2.2.1 = 0
      · by_cases h3 : (parseC (readF (b.drop k)).1).2.1 = 0
        · rw [lgo_next hlt h2 h3]
          have := lgo_len n b (k + (readF (b.drop k)).2.1) (acc ++ [(parseC (readF (b.drop k)).1).1])
          rw [List.length_append] at this
          simp only [List.length_cons, List.length_nil] at this
          omega
        · rw [lgo_parse hlt h2 h3]; simp
      · rw [lgo_frame hlt h2]; simp
    · rw [lgo_end hlt]; show acc.length ≤ _; omega
theorem lgo_off : ∀ (n : Nat) (b : List UInt8) (k : Nat) (acc : List Ch), k ≤ b.length → (lgo n b k acc).2.1 ≠ 0 → (lgo n b k acc).1 = []
  | 0, b, k, acc, _, h => absurd rfl h
  | n + 1, b, k, acc, hk, h => by
    by_cases hlt : k < b.length
    · by_cases h2 : (readF (b.drop k)).2.2.1 = 0
      · by_cases h3 : (parseC (readF (b.drop k)).1).2.1 = 0
        · rw [lgo_next hlt h2 h3] at h ⊢
          have := (used_pos h2).2
          rw [List.length_drop] at this
          exact lgo_off n b _ _ (by omega) h
        · rw [lgo_parse hlt h2 h3]
      · rw [lgo_frame hlt h2]
    · rw [lgo_end hlt] at h; exact absurd rfl h
theorem readF_off (b : List UInt8) : (readF b).2.2.2 ≤ b.length := by
  unfold readF
  split
  · exact Nat.le_refl _
  · split
    · exact Nat.zero_le _
    · split
      · exact Nat.zero_le _
      · split
        · exact Nat.le_refl _
        · split
          · exact Nat.zero_le _
          · rename_i h _; show (num b).2.1 ≤ b.length; omega
end Go.Proofs.YtnnebfcggdbgpaaGreatDoor
/-
  change.Log; the reference's Log and Same.
-/
namespace Go.Proofs.YtnnebfcggdbgpaaGreatDoor
open Go.ChangeShapes Go.WideShapes Go.ChangeAt Go.RowKit
open errAs (ErrT)
set_option linter.unusedVariables false

/-- A slice of entries that is read. -/
abbrev ChRd (w : World) (v : Value) (l : List Ch) : Prop := RdS chc w v l
def LogPost (w : World) (l : List Ch) (e : Ending) (w' : World) : Prop := Below w.heap.size w w' ∧
  (((∀ c ∈ l, rightC c = true) ∧ ∃ v, e = .returned (.tuple #[v, .nilIface]) ∧ Held w.heap.size w' v (logC l)) ∨
   (∃ i, ∃ hi : i < l.length, (∀ j, (hj : j < l.length) → j < i → rightC l[j] = true) ∧ rightC l[i] = false ∧ e = .returned (.tuple #[.slice none 0 0, faultN 5 i])))
set_option maxRecDepth 100000 in
set_option maxHeartbeats 2000000 in
theorem clog_any {w : World} {sv : Value} {l : List Ch} (hs : ChRd w sv l) (hl : l.length ≤ 1000000) (hE : ResT w) : Calls Tryz.prog 49 #[sv] w (LogPost w l) := by
  have HE := Lib.hid hE
  have HZL := Lib.hid hl
  obtain ⟨p, cp, rfl, hrow⟩ := hs.form chc_length (by decide)
  have HW := Lib.hid hrow
  clear hs hE hrow
  go_enter Tryz.func49, Tryz.ntmps49
  go_wp2_with fail
  go_loopg [4, 13] l.length (fun g s4 s13 wr => ∃ k : Nat, k ≤ l.length ∧ l.length - k ≤ g ∧ s13 = .int .i64 k ∧ Below w.heap.size w wr ∧ Held w.heap.size wr s4 (logC (l.take k)) ∧ ∀ j, (hj : j < l.length) → j < k → rightC l[j] = true)
  case atStart => exact ⟨0, by omega, by omega, rfl, Below.refl _ _, .inl ⟨rfl, rfl⟩, fun j _ hj => absurd hj (by omega)⟩
  case round =>
    obtain ⟨k, hk, hg, rfl, hb, hh, hall⟩ := hrel
    have HB := Lib.hid hb
    have HH := Lib.hid hh
    have HA := Lib.hid hall
    clear hb hh hall
    by_cases hlt : k < l.length
    · obtain ⟨b, off, rfl, hbl, hr⟩ := HW.out k hlt
      have HR : Hid (wr.rangeAt b (off + k * 8) (chc l[k])) := range_below hr hbl HB.out
      obtain ⟨c, hc⟩ : ∃ c, c = l[k] := ⟨_, rfl⟩
      have HC := Lib.hid hc
      rw [← hc] at HR
      have bx : Below wr.heap.size wr (wr.alloc (.cells (chc c).toArray 61)) := (Below.refl _ _).alloc (Nat.le_refl _) _
      have HB1 := Lib.hid (HB.out.trans (bx.mono HB.out.size))
      have HH1 := Lib.hid (HH.out.later bx)
      have HX1 := Lib.hid (ch_new wr c)
      clear hc hr hbl bx
      go_upto_region 5 with (first
        | ((with_reducible refine loadCr (x := .tmp 16) (u := c) (o := ⟨some 17, _, _, _, _, _⟩) HR.out ?_ ?_); exact ⟨rfl, rfl, by go_simp⟩)
        | ((with_reducible refine atC wr.heap.size (x := .tmp 6) (y := .tmp 17) (u := c) (o := ⟨none, .store _ _ _, _, _, _, _⟩) ?_ ?_); exact ⟨rfl, rfl, rfl, rfl, rfl, rfl⟩))
      generalize wr.alloc (.cells (chc c).toArray 61) = w1 at HB1 HH1 HX1 ⊢
      generalize wr.heap.size = g1 at HX1 ⊢
      clear HR HB HH
      rcases hrc : rightC c with _ | _
      · have HP := Lib.hid (cputC_no c hrc w1 (HE.out.below HB1.out HE.out.lt))
        go_wp2_with ((with_reducible refine loadC (x := .tmp 6) (u := c) (o := ⟨some 19, _, _, _, _, _⟩) HX1.out ?_ ?_); exact ⟨rfl, rfl, rfl⟩)
        refine HP.out.mono ?_
        rintro e w2 ⟨rfl, b2⟩
        have HB2 := Lib.hid (HB1.out.trans (b2.mono HB1.out.size))
        clear b2 HP HB1 HH1 HX1
        go_wp2_with fail
        refine (fnew_any _ _ _).mono ?_
        rintro e w3 ⟨rfl, hw3⟩
        subst w3
        go_wp2_with fail
        go_ret2
        exact ⟨HB2.out, .inr ⟨k, hlt, HA.out, by rw [← HC.out]; exact hrc, rfl⟩⟩
      · have HP := Lib.hid (cputC_yes c hrc w1 (HE.out.below HB1.out HE.out.lt))
        have HRC := Lib.hid hrc
        clear hrc
        go_wp2_with ((with_reducible refine loadC (x := .tmp 6) (u := c) (o := ⟨some 19, _, _, _, _, _⟩) HX1.out ?_ ?_); exact ⟨rfl, rfl, rfl⟩)
        refine HP.out.mono ?_
        rintro e w2 ⟨v2, rfl, h2, b2⟩
        have HB2 := Lib.hid (HB1.out.trans (b2.mono HB1.out.size))
        have HH2 := Lib.hid (HH1.out.later b2)
        have HF := Lib.hid (fput_any h2.rd (Nat.le_refl _) (by have := putC_len HRC.out; omega))
        obtain ⟨q2, n2, m2, rfl⟩ := held_sl h2
        clear b2 h2 HP HB1 HH1 HX1
        go_wp2_with fail
        refine HF.out.mono ?_
        rintro e w3 ⟨v3, rfl, o3, b3⟩
        have HB3 := Lib.hid (HB2.out.trans (b3.mono HB2.out.size))
        have HH3 := Lib.hid (HH2.out.later b3)
        have HO3 : Hid (Rd w3.heap.size w3 v3 (framed (putC c))) := Rd.of_own o3
        obtain ⟨q3, n3, m3, rfl⟩ := held_sl (Held.of_own o3)
        have HLE : Hid ((logC (l.take k)).length + (framed (putC c)).length ≤ 140737488355328) := by
          show _ ≤ _
          have h1 := framedC_len HRC.out
          have h2 := logC_len (l := l.take k) (fun x hx => by
            obtain ⟨j, hj, rfl⟩ := List.getElem_of_mem hx
            rw [List.length_take] at hj
            rw [List.getElem_take]
            exact HA.out j (by omega) (by omega))
          have h3 : (l.take k).length ≤ l.length := by rw [List.length_take]; omega
          have h4 := HZL.out
          omega
        clear b3 o3 HF HB2 HH2
        obtain ⟨q4, n4, m4, hv4⟩ := held_sl HH3.out
        subst hv4
        go_wp2_with (at_builtin; refine app_held rfl _ _ rfl rfl HH3.out rfl HO3.out HLE.out HB3.out.size ?_; intro v4 w4 h4 b4)
        have HB4 := Lib.hid (HB3.out.trans b4)
        have HH4 : Hid (Held w.heap.size w4 v4 (logC (l.take (k + 1)))) := by
          show Held _ _ _ _
          rw [take_snoc1 hlt, logC_snoc, ← HC.out]; exact h4
        clear b4 h4 HB3 HH3 HO3 HLE
        go_wp2_with fail
        go_roundg (l.length - (k + 1))
        case measure => omega
        case rel =>
          refine ⟨k + 1, by omega, Nat.le_refl _, by go_num, HB4.out, HH4.out, fun j hj hjk => ?_⟩
          by_cases e : j = k
          · subst e; rw [← HC.out]; exact HRC.out
          · exact HA.out j hj (by omega)
    · have : k = l.length := by omega
      subst this
      rw [List.take_of_length_le (Nat.le_refl _)] at HH
      go_wp2_with fail
      go_ret2
      exact ⟨HB.out, .inl ⟨fun c hc => by obtain ⟨j, hj, rfl⟩ := List.getElem_of_mem hc; exact HA.out j hj hj, _, rfl, HH.out⟩⟩
set_option maxRecDepth 100000 in
set_option maxHeartbeats 2000000 in
theorem rlog_any {w : World} {sv : Value} {l : List Ch} (hs : ChRd w sv l) (hl : l.length ≤ 1000000) (hr0 : ∀ c ∈ l, rightC c = true) : Calls Tryz.prog 51 #[sv] w fun e w' => ∃ v, e = .returned v ∧ Held w.heap.size w' v (logC l) ∧ Below w.heap.size w w' := by
  have HRI := Lib.hid hr0
  have HZL := Lib.hid hl
  obtain ⟨p, cp, rfl, hrow⟩ := hs.form chc_length (by decide)
  have HW := Lib.hid hrow
  clear hs hrow hr0
  go_enter Tryz.func51, Tryz.ntmps51
  go_wp2_with fail
  go_loopg [3, 4] l.length (fun g s3 s4 wr => ∃ k : Nat, k ≤ l.length ∧ l.length - k ≤ g ∧ s4 = .int .i64 k ∧ Below w.heap.size w wr ∧ Held w.heap.size wr s3 (logC (l.take k)))
  case atStart => exact ⟨0, by omega, by omega, rfl, Below.refl _ _, .inl ⟨rfl, rfl⟩⟩
  case round =>
    obtain ⟨k, hk, hg, rfl, hb, hh⟩ := hrel
    have HB := Lib.hid hb
    have HH := Lib.hid hh
    clear hb hh
    by_cases hlt : k < l.length
    · obtain ⟨b, off, rfl, hbl, hr⟩ := HW.out k hlt
      have HR : Hid (wr.rangeAt b (off + k * 8) (chc l[k])) := range_below hr hbl HB.out
      obtain ⟨c, hc⟩ : ∃ c, c = l[k] := ⟨_, rfl⟩
      have HC := Lib.hid hc
      have HRC : Hid (rightC c = true) := by rw [hc]; exact HRI.out _ (List.getElem_mem hlt)
      rw [← hc] at HR
      clear hc hr hbl
      have HP := Lib.hid (rputC_any c (by have := (rightC_all HRC.out).2.1; unfold lim64; omega) ((sizes_right (rightC_all HRC.out).2.2).mono (by decide)) wr)
      go_wp2_with ((with_reducible refine loadCr (x := .tmp 14) (u := c) (o := ⟨some 15, _, _, _, _, _⟩) HR.out ?_ ?_); exact ⟨rfl, rfl, by go_simp⟩)
      refine HP.out.mono ?_
      rintro e w2 ⟨v2, rfl, h2, b2⟩
      have HB2 := Lib.hid (HB.out.trans (b2.mono HB.out.size))
      have HH2 := Lib.hid (HH.out.later b2)
      have HF := Lib.hid (rfput_any h2.rd (Nat.le_refl _) (by have := putC_len HRC.out; omega))
      obtain ⟨q2, n2, m2, rfl⟩ := held_sl h2
      clear b2 h2 HP HB HH HR
      go_wp2_with fail
      refine HF.out.mono ?_
      rintro e w3 ⟨v3, rfl, o3, b3⟩
      have HB3 := Lib.hid (HB2.out.trans (b3.mono HB2.out.size))
      have HH3 := Lib.hid (HH2.out.later b3)
      have HO3 : Hid (Rd w3.heap.size w3 v3 (framed (putC c))) := Rd.of_own o3
      obtain ⟨q3, n3, m3, rfl⟩ := held_sl (Held.of_own o3)
      have HLE : Hid ((logC (l.take k)).length + (framed (putC c)).length ≤ 140737488355328) := by
        show _ ≤ _
        have h1 := framedC_len HRC.out
        have h2 := logC_len (l := l.take k) (fun x hx => HRI.out x (List.mem_of_mem_take hx))
        have h3 : (l.take k).length ≤ l.length := by rw [List.length_take]; omega
        have h4 := HZL.out
        omega
      clear b3 o3 HF HB2 HH2
      obtain ⟨q4, n4, m4, hv4⟩ := held_sl HH3.out
      subst hv4
      go_wp2_with (at_builtin; refine app_held rfl _ _ rfl rfl HH3.out rfl HO3.out HLE.out HB3.out.size ?_; intro v4 w4 h4 b4)
      have HB4 := Lib.hid (HB3.out.trans b4)
      have HH4 : Hid (Held w.heap.size w4 v4 (logC (l.take (k + 1)))) := by
        show Held _ _ _ _
        rw [take_snoc1 hlt, logC_snoc, ← HC.out]; exact h4
      clear b4 h4 HB3 HH3 HO3 HLE
      go_wp2_with fail
      go_roundg (l.length - (k + 1))
      case measure => omega
      case rel => exact ⟨k + 1, by omega, Nat.le_refl _, by go_num, HB4.out, HH4.out⟩
    · have : k = l.length := by omega
      subst this
      rw [List.take_of_length_le (Nat.le_refl _)] at HH
      go_wp2_with fail
      go_ret
      exact ⟨_, rfl, HH.out, HB.out⟩
section
variable {ops : Array Oper} {rest : List Oper} {o : Oper} {a : Act} {Q : Exit → Act → World → Prop} {w : World} {b off : Nat} {x y : Operand} {u v : Ch}
theorem stillCM {Q' : Act → Prop} (hr : w.rangeAt b off (chc u)) (hs : o.guard = none ∧ o.op = .load 61 x ∧ a.eval x = .pointer (some ⟨b, off, none⟩))
    (hk : wpStill Tryz.prog ops w Q' rest (a.put o.dst (chV u))) : wpStill Tryz.prog ops w Q' (o :: rest) a :=
  still_load hs.1 _ x hs.2.1 b off hs.2.2 _ _ hr Tryz.underlying61 rfl (by kernel_rfl) hk
theorem neCM {t : TypeId} (hs : o.guard = none ∧ o.op = .binOp .neq 61 x y t ∧ a.eval x = chV u ∧ a.eval y = chV v)
    (hk : wpList Tryz.prog ops Q rest (a.put o.dst (.bool (!eqC u v))) w) : wpList Tryz.prog ops Q (o :: rest) a w :=
  wpList_plain hs.1 fun K hK => by
    have hg : Tryz.prog.eqGuardType Tryz.prog.depth 61 = false := by kernel_rfl
    unfold Oper.wp execOp
    simp only [hs.2.1, hs.2.2.1, hs.2.2.2, Sem.run_bind, run_eqGuard_agg (hm := hg), Result.andThen_ok, neqCh, Sem.run_pure]
    exact hK _ _ hk
end
instance : DecidableEq Ch := fun a b => if h : eqC a b = true then .isTrue ((eqC_iff a b).1 h) else .isFalse fun e => h ((eqC_iff a b).2 e)
def sameC (a b : List Ch) : Bool := decide (a = b)
set_option maxRecDepth 100000 in
set_option maxHeartbeats 2000000 in
theorem samelC_any {w : World} {va vb : Value} {la lb : List Ch} (ha : ChRd w va la) (hb : ChRd w vb lb) (hl : la.length ≤ 140737488355328) (hm : lb.length ≤ 140737488355328) :
    Calls Tryz.prog 52 #[va, vb] w fun e w' => e = .returned (.bool (sameC la lb)) ∧ Below w.heap.size w w' := by
  obtain ⟨pa, ca, rfl, ra⟩ := ha.form chc_length (by decide)
  obtain ⟨pb, cb, rfl, rb⟩ := hb.form chc_length (by decide)
  have RA := Lib.hid ra
  have RB := Lib.hid rb
  clear ha hb ra rb
  by_cases hn : la.length = lb.length
  · obtain ⟨n, hna⟩ : ∃ n, n = la.length := ⟨_, rfl⟩
    have hnb : n = lb.length := hna.trans hn
    rw [← hna, ← hnb]
    have HNA := Lib.hid hna
    have HNB := Lib.hid hnb
    have HN := Lib.hid hn
    rw [← hna] at hl
    clear hn hna hnb hm
    go_enter Tryz.func52, Tryz.ntmps52
    go_wp2_with fail
    go_loopg [5] n (fun g s5 wr => ∃ k q : Nat, k ≤ n ∧ n - k ≤ g ∧ s5 = .int .i64 k ∧ wr = w.drewN q ∧ ∀ j, (h1 : j < la.length) → (h2 : j < lb.length) → j < k → la[j] = lb[j])
    case atStart => exact ⟨0, 0, by omega, by omega, rfl, rfl, fun j _ _ hj => absurd hj (by omega)⟩
    case round =>
      obtain ⟨k, q, hk, hg, rfl, rfl, hall⟩ := hrel
      have HA := Lib.hid hall
      clear hall
      by_cases hlt : k < n
      · have k1 : k < la.length := by have := HNA.out; omega
        have k2 : k < lb.length := by have := HNB.out; omega
        obtain ⟨b1, o1, rfl, _, r1⟩ := RA.out k k1
        obtain ⟨b2, o2, rfl, _, r2⟩ := RB.out k k2
        have R1 : Hid ((w.drewN q).drew.rangeAt b1 (o1 + k * 8) (chc la[k])) := r1
        have R2 : Hid ((w.drewN q).drew.rangeAt b2 (o2 + k * 8) (chc lb[k])) := r2
        clear r1 r2
        obtain ⟨x, hx⟩ : ∃ x, x = la[k] := ⟨_, rfl⟩
        obtain ⟨y, hy⟩ : ∃ y, y = lb[k] := ⟨_, rfl⟩
        rw [← hx] at R1
        rw [← hy] at R2
        have HX : Hid (la[k]? = some x) := by show _ = _; rw [hx, List.getElem?_eq_getElem k1]
        have HY : Hid (lb[k]? = some y) := by show _ = _; rw [hy, List.getElem?_eq_getElem k2]
        clear hx hy k1 k2
        go_wp2_with fail
        refine region_tail 8 (by kernel_rfl) (by kernel_rfl) ?_
        simp only [List.take_succ_cons, List.take_zero, List.drop_succ_cons, List.drop_zero]
        repeat first
          | still_step
          | ((with_reducible refine stillCM (x := .tmp 19) (o := ⟨some 20, _, _, _, _, _⟩) R1.out ?_ ?_); exact ⟨rfl, rfl, by go_simp⟩)
          | ((with_reducible refine stillCM (x := .tmp 23) (o := ⟨some 24, _, _, _, _, _⟩) R2.out ?_ ?_); exact ⟨rfl, rfl, by go_simp⟩)
        refine wpStill_nil ?_
        refine neCM (u := x) (v := y) (o := ⟨some 25, _, _, _, _, _⟩) ⟨rfl, rfl, rfl, rfl⟩ ?_
        clear R1 R2
        generalize hw2 : (w.drewN q).drew = w2
        have W0 := Lib.hid hw2
        clear hw2
        rcases he : eqC x y with _ | _
        · go_wp2_with fail
          go_ret
          refine ⟨?_, by rw [← W0.out]; exact below_drewN (Below.refl _ _) (q + 1)⟩
          have : sameC la lb = false := decide_eq_false fun h => by
            subst h
            have e := HX.out.symm.trans HY.out
            rw [Option.some.inj e, eqC_refl] at he
            cases he
          rw [this]; rfl
        · go_wp2_with fail
          go_roundg (n - (k + 1))
          case measure => omega
          case rel =>
            refine ⟨k + 1, q + 1, by omega, Nat.le_refl _, by go_num, W0.out.symm, fun j h1 h2 hjk => ?_⟩
            by_cases e : j = k
            · subst e
              have e1 := HX.out
              have e2 := HY.out
              rw [List.getElem?_eq_getElem h1] at e1
              rw [List.getElem?_eq_getElem h2] at e2
              rw [Option.some.inj e1, Option.some.inj e2]; exact (eqC_iff _ _).1 he
            · exact HA.out j h1 h2 (by omega)
      · have : k = n := by omega
        subst this
        have HE : Hid (sameC la lb = true) := decide_eq_true (List.ext_getElem HN.out fun j h1 h2 => HA.out j h1 h2 (by have := HNA.out; omega))
        go_wp2_with fail
        go_ret
        exact ⟨by rw [HE.out]; rfl, below_drewN (Below.refl _ _) q⟩
  · have h0 : ((la.length : Int) != lb.length) = true := by rw [bne_iff_ne]; omega
    have HE : Hid (sameC la lb = false) := decide_eq_false fun h => hn (by rw [h])
    go_enter Tryz.func52, Tryz.ntmps52
    go_wp2_with fail
    go_ret
    exact ⟨by rw [HE.out]; rfl, Below.refl _ _⟩
end Go.Proofs.YtnnebfcggdbgpaaGreatDoor
/-
  change.number.
-/
namespace Go.Proofs.YtnnebfcggdbgpaaGreatDoor
open Go.ChangeShapes Go.WideShapes Go.ChangeAt Go.RowKit
open errAs (ErrT)
set_option linter.unusedVariables false

theorem buildC_run (r : Nat) (d : Bool) (t : Tu) (w : World) : (Instr.build 61 #[(0, .int .u64 r), (1, .bool d), (2, tuV t)]).run Tryz.prog w = .ok (chV ⟨r, d, t⟩) w := run_build w _ _ _ (by kernel_rfl)
theorem buildC {ops : Array Oper} {rest : List Oper} {o : Oper} {a : Act} {Q : Exit → Act → World → Prop} {w : World} {x y z : Operand} {r : Nat} {d : Bool} {t : Tu}
    (hs : o.guard = none ∧ o.op = .build 61 #[(0, x), (1, y), (2, z)] ∧ a.eval x = .int .u64 r ∧ a.eval y = .bool d ∧ a.eval z = tuV t)
    (hk : wpList Tryz.prog ops Q rest (a.put o.dst (chV ⟨r, d, t⟩)) w) : wpList Tryz.prog ops Q (o :: rest) a w :=
  wpList_plain hs.1 fun K hK => by
    unfold Oper.wp execOp
    simp only [hs.2.1, List.map_toArray, List.map_cons, List.map_nil, hs.2.2.1, hs.2.2.2.1, hs.2.2.2.2, Sem.run_bind, buildC_run, Result.andThen_ok, Sem.run_pure]
    exact hK _ _ hk
def NumCPost (lo hi bad : Nat) (w : World) (c : Nat) (b : List UInt8) (A : Nat) (e : Ending) (w' : World) : Prop :=
  e = .returned (.tuple #[.int .u64 ((numC (inB lo hi) bad (b.drop A)).1 : Nat), errF (numC (inB lo hi) bad (b.drop A)).2.2 A]) ∧ Cur w' c b (A + (numC (inB lo hi) bad (b.drop A)).2.1) ∧ w.grownBy w' (some c) ∧ EnvC c w'
theorem EnvC.belowC {c : Nat} {W W' : World} (h : EnvC c W) (hb : Below W.heap.size W W') : EnvC c W' := by
  obtain ⟨wE, h1, h2, h3⟩ := h
  exact ⟨wE, h1, h2, h3.trans (hb.mono h3.size)⟩
set_option maxRecDepth 100000 in
set_option maxHeartbeats 2000000 in
theorem cnum_any {w : World} {c A lo hi bad g1 g2 : Nat} {b : List UInt8} (h : Cur w c b A) (hE : EnvC c w) (hl : b.length ≤ 1000000) (hW : WitAt w g1 g2 lo hi) (n1 : g1 ≠ c) (n2 : g2 ≠ c) (hb0 : bad ≠ 0) :
    Calls Tryz.prog 87 #[.pointer (some ⟨c, 0, none⟩), witF g1 g2, .int .i64 bad] w (NumCPost lo hi bad w c b A) := by
  have hA : A ≤ b.length := by obtain ⟨_, _, _, h3, _⟩ := h; exact h3
  have HAT := Lib.hid (at_any h)
  have HNU := Lib.hid (Number_any h)
  have HC := Lib.hid h
  have HE := Lib.hid hE
  have HW := Lib.hid hW
  have HN1 := Lib.hid n1
  have HN2 := Lib.hid n2
  have HAL := Lib.hid hA
  have HL := Lib.hid hl
  have HB0 := Lib.hid hb0
  unfold NumberPost at HNU
  unfold NumCPost
  obtain ⟨r, hr⟩ : ∃ r, r = num (b.drop A) := ⟨_, rfl⟩
  have HNC : Hid (numC (inB lo hi) bad (b.drop A) = if r.2.2 ≠ 0 then (0, 0, r.2.2) else if inB lo hi r.1 = false then (0, r.2.1, bad) else (r.1, r.2.1, 0)) := by show _ = _; rw [hr]; rfl
  have HBD : Hid (r.2.2 ≠ 0 → r.1 = 0 ∧ r.2.1 = 0) := fun h0 => by rw [hr] at h0 ⊢; exact numGo_bad _ 0 0 h0
  rw [← hr] at HNU
  rw [HNC.out]
  clear h hE hW n1 n2 hA hl hb0 HNC hr
  obtain ⟨x, u, cd⟩ := r
  dsimp only at HNU HBD ⊢
  by_cases h0 : cd = 0
  · subst h0
    rw [if_neg (by simp)]
    rw [show errV 0 = .nilIface from rfl] at HNU
    rcases hi0 : inB lo hi x with _ | _
    · rw [if_pos rfl]
      have HIB := Lib.hid hi0
      clear hi0
      go_enter Tryz.func87, Tryz.ntmps87
      go_wp2_with fail
      refine HAT.out.mono ?_
      rintro e w1 ⟨rfl, hw1⟩
      subst hw1
      go_wp2_with fail
      refine HNU.out.mono ?_
      rintro e w2 ⟨rfl, hc2, hg2⟩
      have HC2 := Lib.hid hc2
      have HG2 := Lib.hid hg2
      have HI := Lib.hid (within1_any lo hi x (HW.out.grown hg2 HN1.out HN2.out))
      rw [HIB.out] at HI
      have HE2 := Lib.hid (HE.out.grown hg2)
      clear hc2 hg2 HNU HAT HE HW
      go_wp2_with fail
      refine HI.out.mono ?_
      rintro e w3 ⟨rfl, hw3⟩
      subst hw3
      clear HI HIB
      go_wp2_with fail
      refine (fnew_any _ _ _).mono ?_
      rintro e w4 ⟨rfl, hw4⟩
      subst hw4
      go_wp2_with fail
      go_ret2
      refine ⟨?_, HC2.out, HG2.out, HE2.out⟩
      rw [show errF bad A = faultN bad A by unfold errF; rw [if_neg HB0.out]]; rfl
    · rw [if_neg (by simp)]
      have HIB := Lib.hid hi0
      clear hi0
      go_enter Tryz.func87, Tryz.ntmps87
      go_wp2_with fail
      refine HAT.out.mono ?_
      rintro e w1 ⟨rfl, hw1⟩
      subst hw1
      go_wp2_with fail
      refine HNU.out.mono ?_
      rintro e w2 ⟨rfl, hc2, hg2⟩
      have HC2 := Lib.hid hc2
      have HG2 := Lib.hid hg2
      have HI := Lib.hid (within1_any lo hi x (HW.out.grown hg2 HN1.out HN2.out))
      rw [HIB.out] at HI
      have HE2 := Lib.hid (HE.out.grown hg2)
      clear hc2 hg2 HNU HAT HE HW
      go_wp2_with fail
      refine HI.out.mono ?_
      rintro e w3 ⟨rfl, hw3⟩
      subst hw3
      clear HI HIB
      go_wp2_with fail
      go_ret2
      exact ⟨rfl, HC2.out, HG2.out, HE2.out⟩
  · obtain ⟨hx, hu⟩ := HBD.out h0
    have hx' : x = 0 := hx
    have hu' : u = 0 := hu
    subst hx' hu'
    rw [if_pos h0]
    have hv : errV cd = .iface 93 (.int .i64 cd) := by unfold errV; rw [if_neg h0]
    rw [hv] at HNU
    have hq := eqNC cd
    have HZ := Lib.hid h0
    clear hx hu hv HBD h0
    go_enter Tryz.func87, Tryz.ntmps87
    go_wp2_with fail
    refine HAT.out.mono ?_
    rintro e w1 ⟨rfl, hw1⟩
    subst hw1
    go_wp2_with fail
    refine HNU.out.mono ?_
    rintro e w2 ⟨rfl, hc2, hg2⟩
    have HC2 := Lib.hid hc2
    have HG2 := Lib.hid hg2
    have HE2 := Lib.hid (HE.out.grown hg2)
    have HSH := Lib.hid (shift_Cn cd A w2 HE2.out.env.2.1 (by have := HAL.out; have := HL.out; omega))
    clear hc2 hg2 HNU HAT HE HW
    go_wp2_with fail
    refine HSH.out.mono ?_
    rintro e w3 ⟨rfl, b3⟩
    have HC3 := Lib.hid (HC2.out.below b3 HC2.out.lt)
    have HG3 := Lib.hid (grown_trans HG2.out (grown_of b3 _))
    have HE3 := Lib.hid (HE2.out.belowC b3)
    clear b3 HSH HC2 HG2 HE2
    go_wp2_with fail
    go_ret2
    refine ⟨?_, HC3.out, HG3.out, HE3.out⟩
    rw [show errF cd A = faultN cd A by unfold errF; rw [if_neg HZ.out]]; rfl
end Go.Proofs.YtnnebfcggdbgpaaGreatDoor
/-
  change.Parse.
-/
namespace Go.Proofs.YtnnebfcggdbgpaaGreatDoor
open Go.ChangeShapes Go.WideShapes Go.ChangeAt Go.RowKit
open errAs (ErrT)
set_option linter.unusedVariables false

set_option maxRecDepth 100000 in
set_option maxHeartbeats 4000000 in
theorem cparse_any {B : Nat} {w : World} {vb : Value} {l : List UInt8} (hr : Rd B w vb l) (hB : B ≤ w.heap.size) (hl : l.length ≤ 1000000) (hE : Env w) :
    Calls Tryz.prog 42 #[vb] w fun e w' => e = .returned (.tuple #[chV (parseC l).1, errF (parseC l).2.1 (parseC l).2.2]) ∧ Below w.heap.size w w' := by
  have b0 : Below w.heap.size w (w.alloc (.cells (chc c0).toArray 61)) := (Below.refl _ _).alloc (Nat.le_refl _) _
  have HB0 := Lib.hid b0
  have HX0 := Lib.hid (ch_new w c0)
  have HE0 := Lib.hid hE
  have HN := Lib.hid (new_any (hr.below b0 hB) (Nat.le_trans hB b0.size) (by omega))
  have HLN := Lib.hid hl
  obtain ⟨ov, cv, rfl⟩ := rd_form hr
  clear hr hE b0 hl
  go_enter Tryz.func42, Tryz.ntmps42
  go_wp2_with fail
  refine HN.out.mono ?_
  rintro e w1 ⟨c, rfl, hc, hcur, b1⟩
  have HB1 := Lib.hid (HB0.out.trans (b1.mono HB0.out.size))
  have HX1 := Lib.hid (HX0.out.later b1)
  have hgc : w.heap.size < c := Nat.lt_of_lt_of_le HX0.out.lt hc
  have HGL : Hid (w.heap.size ≤ c) := Nat.le_of_lt hgc
  have HNE : Hid (w.heap.size ≠ c) := Nat.ne_of_lt hgc
  have HC1 := Lib.hid hcur
  have HE1 : Hid (EnvC c w1) := ⟨w, HE0.out, HGL.out, HB1.out⟩
  clear b1 HB0 HX0 HN hc hcur hgc HE0
  go_wp2_with fail
  refine (revisions_any _).mono ?_
  rintro e w2 ⟨g1, g2, rfl, h1, h2, hw2, b2⟩
  have HB2 := Lib.hid (HB1.out.trans (b2.mono HB1.out.size))
  have HX2 := Lib.hid (HX1.out.later b2)
  have HC2 := Lib.hid (HC1.out.below b2 HC1.out.lt)
  have HE2 := Lib.hid (HE1.out.belowC b2)
  have HN1 : Hid (g1 ≠ c) := Nat.ne_of_gt (Nat.lt_of_lt_of_le HC1.out.lt h1)
  have HN2 : Hid (g2 ≠ c) := Nat.ne_of_gt (Nat.lt_of_lt_of_le HC1.out.lt h2)
  have HNC : Hid (Calls Tryz.prog 87 #[.pointer (some ⟨c, 0, none⟩), witF g1 g2, .int .i64 15] w2 (NumCPost 1 9223372036854775807 15 w2 c l 0)) := cnum_any HC2.out HE2.out HLN.out hw2 HN1.out HN2.out (by decide)
  obtain ⟨R1, hR1⟩ : ∃ R, R = numC revB 15 l := ⟨_, rfl⟩
  unfold NumCPost at HNC
  rw [show numC (inB 1 9223372036854775807) 15 (l.drop 0) = numC revB 15 l from rfl, ← hR1] at HNC
  have HP : Hid (parseC l = fin1 l R1) := by show _ = _; rw [hR1]; rfl
  have HR1 : Hid (R1.2.2 = 0 → R1.2.1 ≤ l.length) := fun h => by rw [hR1] at h ⊢; exact numC_at (by decide) h
  clear hR1 h1 h2 hw2 b2 HB1 HX1 HC1 HE1
  obtain ⟨x1, u1, k1⟩ := R1
  dsimp only at HNC HR1
  go_wp2_with fail
  refine HNC.out.mono ?_
  rintro e w3 ⟨rfl, hc3, hg3, he3⟩
  rw [Nat.zero_add] at hc3
  have HB3 := Lib.hid (HB2.out.trans (grown_below' hg3 HGL.out HB2.out.size))
  have HX3 := Lib.hid (HX2.out.grown hg3 HNE.out)
  have HC3 := Lib.hid hc3
  have HE3 := Lib.hid he3
  clear hc3 hg3 he3 HNC HB2 HX2 HC2 HE2 HN1 HN2
  by_cases hk : k1 = 0
  · subst hk
    rw [errF_zero]
    have HU1 := Lib.hid (HR1.out rfl)
    have HP2 : Hid (parseC l = fin2 l x1 u1 (numC kdB 6 (l.drop u1))) := by show _ = _; rw [HP.out]; exact fin1_yes rfl
    clear HP HR1
    have HWI : Hid (Calls Tryz.prog 88 #[.int .u64 1, .int .u64 2] w3 (WitPost w3 1 2)) := within_any 1 2 w3
    go_wp2_with fail
    refine HWI.out.mono ?_
    rintro e w4 ⟨g1', g2', rfl, h1, h2, hw4, b4⟩
    have HB4 := Lib.hid (HB3.out.trans (b4.mono HB3.out.size))
    have HX4 := Lib.hid (HX3.out.later b4)
    have HC4 := Lib.hid (HC3.out.below b4 HC3.out.lt)
    have HE4 := Lib.hid (HE3.out.belowC b4)
    have HN1 : Hid (g1' ≠ c) := Nat.ne_of_gt (Nat.lt_of_lt_of_le HC3.out.lt h1)
    have HN2 : Hid (g2' ≠ c) := Nat.ne_of_gt (Nat.lt_of_lt_of_le HC3.out.lt h2)
    have HNC : Hid (Calls Tryz.prog 87 #[.pointer (some ⟨c, 0, none⟩), witF g1' g2', .int .i64 6] w4 (NumCPost 1 2 6 w4 c l u1)) := cnum_any HC4.out HE4.out HLN.out hw4 HN1.out HN2.out (by decide)
    obtain ⟨R2, hR2⟩ : ∃ R, R = numC kdB 6 (l.drop u1) := ⟨_, rfl⟩
    unfold NumCPost at HNC
    rw [show numC (inB 1 2) 6 (l.drop u1) = numC kdB 6 (l.drop u1) from rfl, ← hR2] at HNC
    rw [← hR2] at HP2
    have HR2 : Hid (R2.2.2 = 0 → u1 + R2.2.1 ≤ l.length) := fun h => by
      have h0 := HU1.out
      rw [hR2] at h ⊢
      have := numC_at (by decide) h
      rw [List.length_drop] at this
      omega
    clear hR2 h1 h2 hw4 b4 HB3 HX3 HC3 HE3 HWI
    obtain ⟨x2, u2, k2⟩ := R2
    dsimp only at HNC HR2
    go_wp2_with fail
    refine HNC.out.mono ?_
    rintro e w5 ⟨rfl, hc5, hg5, he5⟩
    have HB5 := Lib.hid (HB4.out.trans (grown_below' hg5 HGL.out HB4.out.size))
    have HX5 := Lib.hid (HX4.out.grown hg5 HNE.out)
    have HC5 := Lib.hid hc5
    have HE5 := Lib.hid he5
    clear hc5 hg5 he5 HNC HB4 HX4 HC4 HE4 HN1 HN2
    by_cases hk : k2 = 0
    · subst hk
      rw [errF_zero]
      have HU2 := Lib.hid (HR2.out rfl)
      have HP3 : Hid (parseC l = fin3 l.length x1 x2 (readT l (u1 + u2))) := by show _ = _; rw [HP2.out]; exact fin2_yes rfl
      clear HP2 HR2
      have HT := Lib.hid (tread_any HC5.out HE5.out HLN.out)
      obtain ⟨T, hT⟩ : ∃ T, T = readT l (u1 + u2) := ⟨_, rfl⟩
      rw [← hT] at HT HP3
      have HAT : Hid (T.2.1 ≤ l.length) := by show _ ≤ _; rw [hT]; exact (readT_at HU2.out).2
      clear hT HU2 HU1
      obtain ⟨t, n, cd⟩ := T
      dsimp only at HT HAT
      go_wp2_with fail
      refine HT.out.mono ?_
      rintro e w6 ⟨rfl, u6, g6, e6⟩
      have HB6 := Lib.hid (HB5.out.trans (grown_below' g6 HGL.out HB5.out.size))
      have HX6 := Lib.hid (HX5.out.grown g6 HNE.out)
      have b7 : Below w6.heap.size w6 (w6.alloc (.cells (tc t).toArray 25)) := (Below.refl _ _).alloc (Nat.le_refl _) _
      have HB7 := Lib.hid (HB6.out.trans (b7.mono HB6.out.size))
      have HX7 := Lib.hid (HX6.out.later b7)
      have HT7 := Lib.hid (tu_new w6 t)
      have HU7 := Lib.hid (u6.below b7 u6.lt)
      clear b7 u6 g6 e6 HT HB5 HX5 HC5 HE5 HB6 HX6
      by_cases hk : cd = 0
      · subst hk
        rw [errF_zero]
        go_upto_region 9 with ((with_reducible refine atT w6.heap.size (x := .tmp 8) (y := .tmp 34) (u := t) (o := ⟨none, .store _ _ _, _, _, _, _⟩) ?_ ?_); exact ⟨rfl, rfl, rfl, rfl, rfl, rfl⟩)
        generalize w6.alloc (.cells (tc t).toArray 25) = w7 at HB7 HX7 HT7 HU7 ⊢
        generalize w6.heap.size = g7 at HT7 ⊢
        by_cases hlt : n < l.length
        · have HP2 : Hid (parseC l = (c0, 16, n)) := by show _ = _; rw [HP3.out]; exact fin3_long rfl hlt
          have HEN := Lib.hid (end_left HU7.out hlt)
          have hq := eqNC
          clear HP3 hlt HT7
          go_wp2_with fail
          refine HEN.out.mono ?_
          rintro e w8 ⟨rfl, k, rfl⟩
          have b8 := below_drewN (Below.refl w7.heap.size w7) k
          have HB8 := Lib.hid (HB7.out.trans (b8.mono HB7.out.size))
          have HX8 := Lib.hid (HX7.out.later b8)
          have HU8 := Lib.hid (HU7.out.below b8 HU7.out.lt)
          clear b8 HB7 HX7 HU7 HEN
          generalize w7.drewN k = w8 at HB8 HX8 HU8 ⊢
          go_wp2_with fail
          refine (at_any HU8.out).mono ?_
          rintro e w9 ⟨rfl, hw9⟩
          subst hw9
          go_wp2_with fail
          refine (fnew_any _ _ _).mono ?_
          rintro e w10 ⟨rfl, hw10⟩
          subst hw10
          have hA := HX8.out
          go_wp2_with ((with_reducible refine storeC (x := .tmp 2) (y := .tmp 43) (u := c0) (o := ⟨none, .store _ _ _, _, _, _, _⟩) hA ?_ ?_); exact ⟨rfl, rfl, rfl, rfl⟩)
          refine bodyPost_ret (resC rfl (hA.row _) rfl) rfl ⟨?_, below_row HB8.out (Nat.le_refl _) _⟩
          rw [HP2.out]; rfl
        · obtain ⟨d, hd⟩ : ∃ d, d = (x2 == 2) := ⟨_, rfl⟩
          have HP2 : Hid (parseC l = (⟨x1, d, t⟩, 0, 0)) := by show _ = _; rw [HP3.out, hd]; exact fin3_yes rfl hlt
          have hq2 : ((x2 : Int) == 2) = d := by rw [hd]; exact natEqC x2 2
          have HEN := Lib.hid (end_done' HU7.out (by have := HAT.out; omega))
          clear HP3 hlt hd
          go_wp2_with fail
          refine HEN.out.mono ?_
          rintro e w8 ⟨rfl, k, rfl⟩
          have b8 := below_drewN (Below.refl w7.heap.size w7) k
          have HB8 := Lib.hid (HB7.out.trans (b8.mono HB7.out.size))
          have HX8 := Lib.hid (HX7.out.later b8)
          have HT8 := Lib.hid (HT7.out.later b8)
          clear b8 HB7 HX7 HU7 HT7 HEN
          generalize w7.drewN k = w8 at HB8 HX8 HT8 ⊢
          have hA := HX8.out
          go_wp2_with (first
            | ((with_reducible refine loadT (x := .tmp 8) (o := ⟨some 50, _, _, _, _, _⟩) HT8.out ?_ ?_); exact ⟨rfl, rfl, rfl⟩)
            | ((with_reducible refine buildC (x := .tmp 47) (y := .tmp 49) (z := .tmp 50) (r := x1) (d := d) (t := t) (o := ⟨some 51, _, _, _, _, _⟩) ?_ ?_); exact ⟨rfl, rfl, rfl, rfl, rfl⟩)
            | ((with_reducible refine storeC (x := .tmp 2) (y := .tmp 51) (u := ⟨x1, d, t⟩) (o := ⟨none, .store _ _ _, _, _, _, _⟩) hA ?_ ?_); exact ⟨rfl, rfl, rfl, rfl⟩))
          refine bodyPost_ret (resC rfl (hA.row _) rfl) rfl ⟨?_, below_row HB8.out (Nat.le_refl _) _⟩
          rw [HP2.out]; rfl
      · have HP2 : Hid (parseC l = (c0, cd, n)) := by show _ = _; rw [HP3.out]; exact fin3_bad hk
        have e0 : errF cd n = faultN cd n := by unfold errF; rw [if_neg hk]
        have HF : Hid (errF cd n = .iface 141 (.agg #[.int .i64 cd, .int .i64 n])) := by show _ = _; rw [e0]; rfl
        rw [HF.out]
        have hq := eqNF cd n
        clear hk e0
        clear HP3 HAT
        go_upto_region 9 with ((with_reducible refine atT w6.heap.size (x := .tmp 8) (y := .tmp 34) (u := t) (o := ⟨none, .store _ _ _, _, _, _, _⟩) ?_ ?_); exact ⟨rfl, rfl, rfl, rfl, rfl, rfl⟩)
        generalize w6.alloc (.cells (tc t).toArray 25) = w7 at HB7 HX7 HT7 HU7 ⊢
        generalize w6.heap.size = g7 at HT7 ⊢
        have hA := HX7.out
        go_wp2_with ((with_reducible refine storeC (x := .tmp 2) (y := .tmp 38) (u := c0) (o := ⟨none, .store _ _ _, _, _, _, _⟩) hA ?_ ?_); exact ⟨rfl, rfl, rfl, rfl⟩)
        refine bodyPost_ret (resC rfl (hA.row _) rfl) rfl ⟨?_, below_row HB7.out (Nat.le_refl _) _⟩
        rw [HP2.out]
        show _ = Ending.returned (.tuple #[chV c0, errF cd n])
        rw [HF.out]; rfl
    · have HP3 : Hid (parseC l = (c0, k2, u1)) := by show _ = _; rw [HP2.out]; exact fin2_bad hk
      have e0 : errF k2 u1 = faultN k2 u1 := by unfold errF; rw [if_neg hk]
      have HF : Hid (errF k2 u1 = .iface 141 (.agg #[.int .i64 k2, .int .i64 u1])) := by show _ = _; rw [e0]; rfl
      rw [HF.out]
      have hq := eqNF k2 u1
      clear hk e0
      clear HP2 HR2
      have HP2 := HP3
      clear HP3
      have hA := HX5.out
      go_wp2_with ((with_reducible refine storeC (x := .tmp 2) (y := .tmp 29) (u := c0) (o := ⟨none, .store _ _ _, _, _, _, _⟩) hA ?_ ?_); exact ⟨rfl, rfl, rfl, rfl⟩)
      refine bodyPost_ret (resC rfl (hA.row _) rfl) rfl ⟨?_, below_row HB5.out (Nat.le_refl _) _⟩
      rw [HP2.out]
      show _ = Ending.returned (.tuple #[chV c0, errF k2 u1])
      rw [HF.out]; rfl
  · have HP2 : Hid (parseC l = (c0, k1, 0)) := by show _ = _; rw [HP.out]; exact fin1_bad hk
    have e0 : errF k1 0 = faultN k1 0 := by unfold errF; rw [if_neg hk]
    have HF : Hid (errF k1 0 = .iface 141 (.agg #[.int .i64 k1, .int .i64 0])) := by show _ = _; rw [e0]; rfl
    rw [HF.out]
    have hq := eqNF k1 0
    clear hk e0
    clear HP HR1
    have hA := HX3.out
    go_wp2_with ((with_reducible refine storeC (x := .tmp 2) (y := .tmp 19) (u := c0) (o := ⟨none, .store _ _ _, _, _, _, _⟩) hA ?_ ?_); exact ⟨rfl, rfl, rfl, rfl⟩)
    refine bodyPost_ret (resC rfl (hA.row _) rfl) rfl ⟨?_, below_row HB3.out (Nat.le_refl _) _⟩
    rw [HP2.out]
    show _ = Ending.returned (.tuple #[chV c0, errF k1 0])
    rw [HF.out]; rfl
end Go.Proofs.YtnnebfcggdbgpaaGreatDoor
/-
  The reference's Parse.
-/
namespace Go.Proofs.YtnnebfcggdbgpaaGreatDoor
open Go.ChangeShapes Go.WideShapes Go.ChangeAt Go.RowKit
open errAs (ErrT)
set_option linter.unusedVariables false

theorem resC2 {fn : Func} {p q r' : Tmp} {tmps : Array Value} {w : World} {g : Nat} {t : TypeId} {u : Ch} (h : fn.results = #[.cell p 61, .tmp q, .tmp r']) (hA : Arr w t g (chc u)) (hp : tmps.getD p undef = .pointer (some ⟨g, 0, none⟩)) :
    (results fn tmps).run Tryz.prog w = .ok (.tuple #[chV u, tmps.getD q undef, tmps.getD r' undef]) w := by
  have hp' : tmps[p]?.getD undef = .pointer (some ⟨g, 0, none⟩) := by simpa using hp
  have hl := run_loadVar_row (P := Tryz.prog) w g t 61 (chc u).toArray (0, 0) _ hA Tryz.underlying61 rfl (by kernel_rfl)
  simp [results, h, hp', asAddr, hl]
set_option maxRecDepth 100000 in
set_option maxHeartbeats 4000000 in
theorem rcparse_any {B : Nat} {w : World} {vb : Value} {l : List UInt8} (hr : Rd B w vb l) (hB : B ≤ w.heap.size) (hl : l.length ≤ 1000000) :
    Calls Tryz.prog 46 #[vb] w fun e w' => e = .returned (.tuple #[chV (parseC l).1, .int .i64 ((parseC l).2.1 : Nat), .int .i64 ((parseC l).2.2 : Nat)]) ∧ Below w.heap.size w w' := by
  have b0 : Below w.heap.size w (w.alloc (.cells (chc c0).toArray 61)) := (Below.refl _ _).alloc (Nat.le_refl _) _
  have HB0 := Lib.hid b0
  have HX0 := Lib.hid (ch_new w c0)
  have HLN := Lib.hid hl
  have hr0 := hr.below b0 hB
  have HR0 := Lib.hid (hr0.mono (Nat.le_trans hB b0.size))
  have HN := Lib.hid (rnumber_at hr0 hl 0 (Nat.zero_le _))
  rw [show l.drop 0 = l from rfl] at HN
  obtain ⟨R, hR⟩ : ∃ R, R = num l := ⟨_, rfl⟩
  rw [← hR] at HN
  have HP : Hid (parseC l = fin1 l (if R.2.2 ≠ 0 then (0, 0, R.2.2) else if revB R.1 = false then (0, R.2.1, 15) else (R.1, R.2.1, 0))) := by show _ = _; rw [hR]; rfl
  have HU : Hid (R.2.2 = 0 → R.2.1 ≤ l.length) := fun h => by rw [hR] at h ⊢; exact (num_at h).2.1
  obtain ⟨qb, cb, rfl⟩ := rd_form hr
  have hbl : (l.length : Int) ≤ 1000000 := by omega
  clear hr hr0 hB hl b0 hR
  obtain ⟨x1, u1, k1⟩ := R
  dsimp only at HN HP HU
  rw [Nat.zero_add] at HN
  by_cases hk : k1 = 0
  · subst hk
    have HU1 := Lib.hid (HU.out rfl)
    rw [if_neg (by simp)] at HP
    clear HU
    by_cases hlo : x1 < 1
    · have HP2 : Hid (parseC l = (c0, 15, 0)) := by
        show _ = _
        rw [HP.out, if_pos (by unfold revB; rw [Bool.and_eq_false_iff]; simp only [decide_eq_false_iff_not]; omega)]
        exact fin1_bad (by simp)
      have i1 : (x1 : Int) < 1 := by omega
      clear HP HU1 hlo
      go_enter Tryz.func46, Tryz.ntmps46
      go_wp2_with fail
      refine HN.out.mono ?_
      rintro e w2 ⟨rfl, hw2⟩
      subst hw2
      clear HN
      generalize w.alloc (.cells (chc c0).toArray 61) = w1 at HB0 HX0 HR0 ⊢
      have hA := HX0.out
      go_wp2_with ((with_reducible refine storeC (x := .tmp 2) (y := .tmp 30) (u := c0) (o := ⟨none, .store _ _ _, _, _, _, _⟩) hA ?_ ?_); exact ⟨rfl, rfl, rfl, rfl⟩)
      refine bodyPost_ret (resC2 rfl (hA.row _) rfl) rfl ⟨?_, below_row HB0.out (Nat.le_refl _) _⟩
      rw [HP2.out]; rfl
    · by_cases hhi : 9223372036854775808 ≤ x1
      · have HP2 : Hid (parseC l = (c0, 15, 0)) := by
          show _ = _
          rw [HP.out, if_pos (by unfold revB; rw [Bool.and_eq_false_iff]; simp only [decide_eq_false_iff_not]; omega)]
          exact fin1_bad (by simp)
        have i1 : ¬ (x1 : Int) < 1 := by omega
        have i2 : decide ((9223372036854775808 : Int) ≤ x1) = true := decide_eq_true (by omega)
        clear HP HU1 hlo hhi
        go_enter Tryz.func46, Tryz.ntmps46
        go_wp2_with fail
        refine HN.out.mono ?_
        rintro e w2 ⟨rfl, hw2⟩
        subst hw2
        clear HN
        generalize w.alloc (.cells (chc c0).toArray 61) = w1 at HB0 HX0 HR0 ⊢
        have hA := HX0.out
        go_wp2_with ((with_reducible refine storeC (x := .tmp 2) (y := .tmp 30) (u := c0) (o := ⟨none, .store _ _ _, _, _, _, _⟩) hA ?_ ?_); exact ⟨rfl, rfl, rfl, rfl⟩)
        refine bodyPost_ret (resC2 rfl (hA.row _) rfl) rfl ⟨?_, below_row HB0.out (Nat.le_refl _) _⟩
        rw [HP2.out]; rfl
      · rw [if_neg (by unfold revB; rw [decide_eq_true (by omega), decide_eq_true (by omega)]; simp), fin1_yes rfl] at HP
        dsimp only at HP
        have i1 : ¬ (x1 : Int) < 1 := by omega
        have i2 : decide ((9223372036854775808 : Int) ≤ x1) = false := decide_eq_false (by omega)
        have HN2 := Lib.hid (rnumber_at HR0.out HLN.out u1 HU1.out)
        obtain ⟨S, hS⟩ : ∃ S, S = num (l.drop u1) := ⟨_, rfl⟩
        rw [← hS] at HN2
        have HP1 : Hid (parseC l = fin2 l x1 u1 (if S.2.2 ≠ 0 then (0, 0, S.2.2) else if kdB S.1 = false then (0, S.2.1, 6) else (S.1, S.2.1, 0))) := by show _ = _; rw [HP.out, hS]; rfl
        have HU2 : Hid (S.2.2 = 0 → u1 + S.2.1 ≤ l.length) := fun h => by
          have h1 := HU1.out
          rw [hS] at h ⊢
          have := (num_at h).2.1
          rw [List.length_drop] at this
          omega
        clear HP hlo hhi hS
        obtain ⟨x2, u2, k2⟩ := S
        dsimp only at HN2 HP1 HU2
        obtain ⟨U, hU⟩ : ∃ U, U = u1 + u2 := ⟨_, rfl⟩
        have HUU := Lib.hid hU
        rw [← hU] at HN2 HU2
        clear hU
        by_cases hk2 : k2 = 0
        · subst hk2
          have HV := Lib.hid (HU2.out rfl)
          rw [if_neg (by simp)] at HP1
          clear HU2
          by_cases hkd : kdB x2 = false
          · have HP2 : Hid (parseC l = (c0, 6, u1)) := by show _ = _; rw [HP1.out, if_pos hkd]; exact fin2_bad (by simp)
            have hx : ¬ x2 = 1 ∧ ¬ x2 = 2 := by
              constructor
              · rintro rfl; cases hkd
              · rintro rfl; cases hkd
            have q1 : ((x2 : Int) != 1) = true := by rw [bne_iff_ne]; omega
            have q2 : ((x2 : Int) != 2) = true := by rw [bne_iff_ne]; omega
            clear HP1 hkd HUU HU1 HV hx
            go_enter Tryz.func46, Tryz.ntmps46
            go_wp2_with fail
            refine HN.out.mono ?_
            rintro e w2 ⟨rfl, hw2⟩
            subst hw2
            clear HN
            generalize w.alloc (.cells (chc c0).toArray 61) = w1 at HB0 HX0 HR0 HN2 ⊢
            go_wp2_with fail
            refine HN2.out.mono ?_
            rintro e w2 ⟨rfl, hw2⟩
            subst hw2
            clear HN2
            have hA := HX0.out
            go_wp2_with ((with_reducible refine storeC (x := .tmp 2) (y := .tmp 51) (u := c0) (o := ⟨none, .store _ _ _, _, _, _, _⟩) hA ?_ ?_); exact ⟨rfl, rfl, rfl, rfl⟩)
            refine bodyPost_ret (resC2 rfl (hA.row _) rfl) rfl ⟨?_, below_row HB0.out (Nat.le_refl _) _⟩
            rw [HP2.out]; rfl
          · rw [if_neg hkd, fin2_yes rfl] at HP1
            dsimp only at HP1
            have hx : x2 = 1 ∨ x2 = 2 := by
              have := kd_lim (by simpa using hkd)
              omega
            have HRD := Lib.hid (rtread_any HR0.out (Nat.le_refl _) HLN.out U HV.out)
            obtain ⟨TT, hT⟩ : ∃ TT, TT = readT l U := ⟨_, rfl⟩
            rw [← hT] at HRD
            have HP3 : Hid (parseC l = fin3 l.length x1 x2 TT) := by show _ = _; rw [HP1.out, hT, HUU.out]
            have HAT : Hid (TT.2.1 ≤ l.length) := by show _ ≤ _; rw [hT]; exact (readT_at HV.out).2
            obtain ⟨d, hd⟩ : ∃ d, d = (x2 == 2) := ⟨_, rfl⟩
            have hq2 : ((x2 : Int) == 2) = d := by rw [hd]; exact natEqC x2 2
            have HDD := Lib.hid hd
            clear HP1 hkd hT HUU HU1 HV hd
            obtain ⟨t, n, cd⟩ := TT
            dsimp only at HRD HP3 HAT
            rcases hx with hx | hx
            · have q1 : ((x2 : Int) != 1) = false := by rw [hx]; rfl
              clear hx
              go_enter Tryz.func46, Tryz.ntmps46
              go_wp2_with fail
              refine HN.out.mono ?_
              rintro e w2 ⟨rfl, hw2⟩
              subst hw2
              clear HN
              generalize w.alloc (.cells (chc c0).toArray 61) = w1 at HB0 HX0 HR0 HN2 HRD ⊢
              go_wp2_with fail
              refine HN2.out.mono ?_
              rintro e w2 ⟨rfl, hw2⟩
              subst hw2
              clear HN2
              go_wp2_with fail
              refine HRD.out.mono ?_
              rintro e w2 ⟨rfl, b2⟩
              have HB2 := Lib.hid (HB0.out.trans (b2.mono HB0.out.size))
              have HX2 := Lib.hid (HX0.out.later b2)
              have b3 : Below w2.heap.size w2 (w2.alloc (.cells (tc t).toArray 25)) := (Below.refl _ _).alloc (Nat.le_refl _) _
              have HB3 := Lib.hid (HB2.out.trans (b3.mono HB2.out.size))
              have HX3 := Lib.hid (HX2.out.later b3)
              have HT3 := Lib.hid (tu_new w2 t)
              clear b2 b3 HRD HB0 HX0 HB2 HX2
              go_upto_region 12 with ((with_reducible refine atT w2.heap.size (x := .tmp 10) (y := .tmp 58) (u := t) (o := ⟨none, .store _ _ _, _, _, _, _⟩) ?_ ?_); exact ⟨rfl, rfl, rfl, rfl, rfl, rfl⟩)
              generalize w2.alloc (.cells (tc t).toArray 25) = w3 at HB3 HX3 HT3 ⊢
              generalize w2.heap.size = g3 at HT3 ⊢
              have hA := HX3.out
              by_cases hc : cd = 0
              · subst hc
                by_cases hlt : n < l.length
                · have HP2 : Hid (parseC l = (c0, 16, n)) := by show _ = _; rw [HP3.out]; exact fin3_long rfl hlt
                  have h1 : (n : Int) < l.length := by omega
                  clear HP3 hlt
                  go_wp2_with ((with_reducible refine storeC (x := .tmp 2) (y := .tmp 71) (u := c0) (o := ⟨none, .store _ _ _, _, _, _, _⟩) hA ?_ ?_); exact ⟨rfl, rfl, rfl, rfl⟩)
                  refine bodyPost_ret (resC2 rfl (hA.row _) rfl) rfl ⟨?_, below_row HB3.out (Nat.le_refl _) _⟩
                  rw [HP2.out]; rfl
                · have HP2 : Hid (parseC l = (⟨x1, d, t⟩, 0, 0)) := by show _ = _; rw [HP3.out, HDD.out]; exact fin3_yes rfl hlt
                  have h1 : ¬ (n : Int) < l.length := by omega
                  clear HP3 hlt
                  go_wp2_with (first
                    | ((with_reducible refine loadT (x := .tmp 10) (o := ⟨some 77, _, _, _, _, _⟩) HT3.out ?_ ?_); exact ⟨rfl, rfl, rfl⟩)
                    | ((with_reducible refine buildC (x := .tmp 74) (y := .tmp 76) (z := .tmp 77) (r := x1) (d := d) (t := t) (o := ⟨some 78, _, _, _, _, _⟩) ?_ ?_); exact ⟨rfl, rfl, rfl, rfl, rfl⟩)
                    | ((with_reducible refine storeC (x := .tmp 2) (y := .tmp 78) (u := ⟨x1, d, t⟩) (o := ⟨none, .store _ _ _, _, _, _, _⟩) hA ?_ ?_); exact ⟨rfl, rfl, rfl, rfl⟩))
                  refine bodyPost_ret (resC2 rfl (hA.row _) rfl) rfl ⟨?_, below_row HB3.out (Nat.le_refl _) _⟩
                  rw [HP2.out]; rfl
              · have HP2 : Hid (parseC l = (c0, cd, n)) := by show _ = _; rw [HP3.out]; exact fin3_bad hc
                have p1 : ((cd : Int) == 0) = false := by rw [beq_eq_false_iff_ne]; omega
                have p2 : ((cd : Int) != 0) = true := by rw [bne_iff_ne]; omega
                clear HP3 hc
                go_wp2_with ((with_reducible refine storeC (x := .tmp 2) (y := .tmp 71) (u := c0) (o := ⟨none, .store _ _ _, _, _, _, _⟩) hA ?_ ?_); exact ⟨rfl, rfl, rfl, rfl⟩)
                refine bodyPost_ret (resC2 rfl (hA.row _) rfl) rfl ⟨?_, below_row HB3.out (Nat.le_refl _) _⟩
                rw [HP2.out]; rfl
            · have q1 : ((x2 : Int) != 1) = true := by rw [hx]; rfl
              have q2 : ((x2 : Int) != 2) = false := by rw [hx]; rfl
              clear hx
              go_enter Tryz.func46, Tryz.ntmps46
              go_wp2_with fail
              refine HN.out.mono ?_
              rintro e w2 ⟨rfl, hw2⟩
              subst hw2
              clear HN
              generalize w.alloc (.cells (chc c0).toArray 61) = w1 at HB0 HX0 HR0 HN2 HRD ⊢
              go_wp2_with fail
              refine HN2.out.mono ?_
              rintro e w2 ⟨rfl, hw2⟩
              subst hw2
              clear HN2
              go_wp2_with fail
              refine HRD.out.mono ?_
              rintro e w2 ⟨rfl, b2⟩
              have HB2 := Lib.hid (HB0.out.trans (b2.mono HB0.out.size))
              have HX2 := Lib.hid (HX0.out.later b2)
              have b3 : Below w2.heap.size w2 (w2.alloc (.cells (tc t).toArray 25)) := (Below.refl _ _).alloc (Nat.le_refl _) _
              have HB3 := Lib.hid (HB2.out.trans (b3.mono HB2.out.size))
              have HX3 := Lib.hid (HX2.out.later b3)
              have HT3 := Lib.hid (tu_new w2 t)
              clear b2 b3 HRD HB0 HX0 HB2 HX2
              go_upto_region 12 with ((with_reducible refine atT w2.heap.size (x := .tmp 10) (y := .tmp 58) (u := t) (o := ⟨none, .store _ _ _, _, _, _, _⟩) ?_ ?_); exact ⟨rfl, rfl, rfl, rfl, rfl, rfl⟩)
              generalize w2.alloc (.cells (tc t).toArray 25) = w3 at HB3 HX3 HT3 ⊢
              generalize w2.heap.size = g3 at HT3 ⊢
              have hA := HX3.out
              by_cases hc : cd = 0
              · subst hc
                by_cases hlt : n < l.length
                · have HP2 : Hid (parseC l = (c0, 16, n)) := by show _ = _; rw [HP3.out]; exact fin3_long rfl hlt
                  have h1 : (n : Int) < l.length := by omega
                  clear HP3 hlt
                  go_wp2_with ((with_reducible refine storeC (x := .tmp 2) (y := .tmp 71) (u := c0) (o := ⟨none, .store _ _ _, _, _, _, _⟩) hA ?_ ?_); exact ⟨rfl, rfl, rfl, rfl⟩)
                  refine bodyPost_ret (resC2 rfl (hA.row _) rfl) rfl ⟨?_, below_row HB3.out (Nat.le_refl _) _⟩
                  rw [HP2.out]; rfl
                · have HP2 : Hid (parseC l = (⟨x1, d, t⟩, 0, 0)) := by show _ = _; rw [HP3.out, HDD.out]; exact fin3_yes rfl hlt
                  have h1 : ¬ (n : Int) < l.length := by omega
                  clear HP3 hlt
                  go_wp2_with (first
                    | ((with_reducible refine loadT (x := .tmp 10) (o := ⟨some 77, _, _, _, _, _⟩) HT3.out ?_ ?_); exact ⟨rfl, rfl, rfl⟩)
                    | ((with_reducible refine buildC (x := .tmp 74) (y := .tmp 76) (z := .tmp 77) (r := x1) (d := d) (t := t) (o := ⟨some 78, _, _, _, _, _⟩) ?_ ?_); exact ⟨rfl, rfl, rfl, rfl, rfl⟩)
                    | ((with_reducible refine storeC (x := .tmp 2) (y := .tmp 78) (u := ⟨x1, d, t⟩) (o := ⟨none, .store _ _ _, _, _, _, _⟩) hA ?_ ?_); exact ⟨rfl, rfl, rfl, rfl⟩))
                  refine bodyPost_ret (resC2 rfl (hA.row _) rfl) rfl ⟨?_, below_row HB3.out (Nat.le_refl _) _⟩
                  rw [HP2.out]; rfl
              · have HP2 : Hid (parseC l = (c0, cd, n)) := by show _ = _; rw [HP3.out]; exact fin3_bad hc
                have p1 : ((cd : Int) == 0) = false := by rw [beq_eq_false_iff_ne]; omega
                have p2 : ((cd : Int) != 0) = true := by rw [bne_iff_ne]; omega
                clear HP3 hc
                go_wp2_with ((with_reducible refine storeC (x := .tmp 2) (y := .tmp 71) (u := c0) (o := ⟨none, .store _ _ _, _, _, _, _⟩) hA ?_ ?_); exact ⟨rfl, rfl, rfl, rfl⟩)
                refine bodyPost_ret (resC2 rfl (hA.row _) rfl) rfl ⟨?_, below_row HB3.out (Nat.le_refl _) _⟩
                rw [HP2.out]; rfl
        · have HP2 : Hid (parseC l = (c0, k2, u1)) := by show _ = _; rw [HP1.out, if_pos hk2]; exact fin2_bad hk2
          have q1 : ((k2 : Int) == 0) = false := by rw [beq_eq_false_iff_ne]; omega
          have q2 : ((k2 : Int) != 0) = true := by rw [bne_iff_ne]; omega
          clear HP1 HU2 hk2 HUU HU1
          go_enter Tryz.func46, Tryz.ntmps46
          go_wp2_with fail
          refine HN.out.mono ?_
          rintro e w2 ⟨rfl, hw2⟩
          subst hw2
          clear HN
          generalize w.alloc (.cells (chc c0).toArray 61) = w1 at HB0 HX0 HR0 HN2 ⊢
          go_wp2_with fail
          refine HN2.out.mono ?_
          rintro e w2 ⟨rfl, hw2⟩
          subst hw2
          clear HN2
          have hA := HX0.out
          go_wp2_with ((with_reducible refine storeC (x := .tmp 2) (y := .tmp 51) (u := c0) (o := ⟨none, .store _ _ _, _, _, _, _⟩) hA ?_ ?_); exact ⟨rfl, rfl, rfl, rfl⟩)
          refine bodyPost_ret (resC2 rfl (hA.row _) rfl) rfl ⟨?_, below_row HB0.out (Nat.le_refl _) _⟩
          rw [HP2.out]; rfl
  · have HP2 : Hid (parseC l = (c0, k1, 0)) := by show _ = _; rw [HP.out, if_pos hk]; exact fin1_bad hk
    have q1 : ((k1 : Int) == 0) = false := by rw [beq_eq_false_iff_ne]; omega
    have q2 : ((k1 : Int) != 0) = true := by rw [bne_iff_ne]; omega
    clear HP HU hk
    go_enter Tryz.func46, Tryz.ntmps46
    go_wp2_with fail
    refine HN.out.mono ?_
    rintro e w2 ⟨rfl, hw2⟩
    subst hw2
    clear HN
    generalize w.alloc (.cells (chc c0).toArray 61) = w1 at HB0 HX0 HR0 ⊢
    have hA := HX0.out
    go_wp2_with ((with_reducible refine storeC (x := .tmp 2) (y := .tmp 30) (u := c0) (o := ⟨none, .store _ _ _, _, _, _, _⟩) hA ?_ ?_); exact ⟨rfl, rfl, rfl, rfl⟩)
    refine bodyPost_ret (resC2 rfl (hA.row _) rfl) rfl ⟨?_, below_row HB0.out (Nat.le_refl _) _⟩
    rw [HP2.out]; rfl
end Go.Proofs.YtnnebfcggdbgpaaGreatDoor
/-
  change.ParseLog; the reference's ParseLog.
-/
namespace Go.Proofs.YtnnebfcggdbgpaaGreatDoor
open Go.ChangeShapes Go.WideShapes Go.ChangeAt Go.RowKit
open errAs (ErrT)
set_option linter.unusedVariables false

theorem loadCX {ops : Array Oper} {rest : List Oper} {o : Oper} {a : Act} {Q : Exit → Act → World → Prop} {w : World} {g : Nat} {x : Operand} {t : TypeId} {u : Ch} (hA : Arr w t g (chc u)) (hs : Region.wanted o (yielded ops a.tmps) = true ∧ o.op = .load 61 x ∧ a.eval x = .pointer (some ⟨g, 0, none⟩))
    (hk : wpList Tryz.prog ops Q rest (a.put o.dst (.agg #[.int .u64 u.r, .bool u.d, .string u.t.ot, .string u.t.oi, .string u.t.re, .string u.t.st, .string u.t.si, .string u.t.us])) w) : wpList Tryz.prog ops Q (o :: rest) a w := loadC hA hs hk
def OwnC (w : World) (base : Nat) (v : Value) (l : List Ch) : Prop := w.ownsRow base 61 8 v l.length (l.flatMap chc)
theorem OwnC.nil (w : World) (base : Nat) : OwnC w base (.slice none 0 0) [] := World.ownsRow_nil _ _ _ _
theorem OwnC.later {w w' : World} {base : Nat} {v : Value} {l : List Ch} (h : OwnC w base v l) (hb : Below w.heap.size w w') : OwnC w' base v l := by
  refine World.ownsRow.kept h (row := none) (grown_of hb none) ?_
  by_cases e : v.ownBlock = none
  · exact .inl e
  · exact .inr e
theorem OwnC.rd {w : World} {base : Nat} {v : Value} {l : List Ch} (h : OwnC w base v l) : ChRd w v l := by
  rcases h.2 with ⟨h1, h2⟩ | ⟨g, cap, cur, rfl, h1, h2, h3, _, h5, h6⟩
  · exact .inl ⟨h1, List.eq_nil_of_length_eq_zero h2⟩
  · refine .inr ⟨⟨g, 0, none⟩, cap, rfl, h3, fun _ => ⟨g, 0, rfl, (Array.getElem?_eq_some_iff.1 h2).1, fun j u hu => ?_⟩⟩
    rw [Nat.zero_add, cell_of_row _ _ _ cur 61 (0, 0) h2, ← Array.getElem?_toList]
    rw [← h6, List.getElem?_take] at hu
    split at hu
    · exact hu
    · cases hu
theorem appC1 {ops : Array Oper} {rest : List Oper} {o : Oper} {a : Act} {Q : Exit → Act → World → Prop} {w : World} (hgd : o.guard = none) (s x : Operand) (ho : o.op = .call { callee := .builtin .append, args := #[s, x], argTypes := #[73, 73] })
    {base g off cap : Nat} {v : Value} {l : List Ch} {c : Ch} (hs : a.eval s = v) (hown : OwnC w base v l) (hx : a.eval x = .slice (some ⟨g, off, none⟩) 1 cap) (hr : w.rangeAt g off (chc c))
    (hlen : l.length + 1 ≤ 10000000) (hbase : base ≤ w.heap.size)
    (h : ∀ v' w', OwnC w' base v' (l ++ [c]) → Below base w w' → wpList Tryz.prog ops Q rest (a.put o.dst v') w') : wpList Tryz.prog ops Q (o :: rest) a w := by
  obtain ⟨i0, hi⟩ : ∃ i, Tryz.prog.info? 61 = some i := Option.isSome_iff_exists.1 (by kernel_rfl)
  have q1 : (Tryz.prog.info? 61).bind (·.zero) = some (chV c0) := by kernel_rfl
  have q2 : (Tryz.prog.info? 61).map (·.size) = some 8 := by kernel_rfl
  have q3 : (Tryz.prog.info? 61).map (·.bytes) = some 112 := by kernel_rfl
  rw [hi] at q1 q2 q3
  refine wpList_append_own w hgd s x 73 ho base 61 i0 (chV c0) 8 112 Tryz.underlying73 hi q1 (Option.some.inj q2) (Option.some.inj q3) (by kernel_rfl) (by decide) v l.length _ hs hown ⟨g, off, none⟩ 1 cap (chc c) hx rfl ?_ (chc_one c) (by unfold maxLen; omega) (by omega) hbase ?_
  · intro j u hj
    rw [show (Addr.add ⟨g, off, none⟩ j) = ⟨g, off + j, none⟩ by cases j <;> simp [Addr.add]]
    exact hr j u hj
  · intro v' w' r1 r2 _
    refine h v' w' ?_ ((Below.refl _ _).grown r2 hbase (fun k hk => (World.ownsRow.lt hown k hk).1))
    unfold OwnC
    rw [List.flatMap_append, List.length_append]
    simpa using r1
theorem rd_some {B : Nat} {w : World} {q : Option Addr} {cap k : Nat} {l : List UInt8} (h : Rd B w (.slice q l.length cap) l) (hk : k < l.length) :
    ∃ g off, q = some ⟨g, off, none⟩ ∧ l.length ≤ cap ∧ cap ≤ maxLen ∧ g < B ∧ ∀ i, i < l.length → w.cell? ⟨g, off + i, none⟩ = some (bv (l.getD i 0)) := by
  rcases h with ⟨oa, _, h2⟩ | ⟨g, off, c, hv, h1, h2, h3, hc⟩
  · subst h2; exact absurd hk (by simp)
  · simp only [Value.slice.injEq] at hv
    obtain ⟨rfl, _, rfl⟩ := hv
    exact ⟨g, off, rfl, h1, h2, h3, hc⟩
def LgPost (w : World) (b : List UInt8) (e : Ending) (w' : World) : Prop := ∃ v, e = .returned (.tuple #[v, errF (parseLg b).2.1 (parseLg b).2.2]) ∧ ChRd w' v (parseLg b).1 ∧ Below w.heap.size w w'
def RLgPost (w : World) (b : List UInt8) (e : Ending) (w' : World) : Prop := ∃ v, e = .returned (.tuple #[v, .int .i64 ((parseLg b).2.1 : Nat), .int .i64 ((parseLg b).2.2 : Nat)]) ∧ ChRd w' v (parseLg b).1 ∧ Below w.heap.size w w'
set_option maxRecDepth 100000 in
set_option maxHeartbeats 4000000 in
theorem cplog_any {B : Nat} {w : World} {vb : Value} {b : List UInt8} (hr : Rd B w vb b) (hB : B ≤ w.heap.size) (hl : b.length ≤ 1000000) (hE : Env w) :
    Calls Tryz.prog 50 #[vb] w (LgPost w b) := by
  have HE := Lib.hid hE
  have HL := Lib.hid hl
  have HBB := Lib.hid hB
  have hbl : (b.length : Int) ≤ 1000000 := by omega
  obtain ⟨P, hP⟩ : ∃ P, P = parseLg b := ⟨_, rfl⟩
  unfold LgPost
  rw [← hP]
  have HP0 : Hid (lgo (b.length + 1) b 0 [] = P) := hP.symm
  have HRB := Lib.hid hr
  obtain ⟨qb, cb, hvb⟩ := rd_form hr
  have HVB := Lib.hid hvb
  subst hvb
  clear hP hE hB hl hr
  go_enter Tryz.func50, Tryz.ntmps50
  go_wp2_with fail
  go_loopg [4, 5] (b.length + 1) (fun g s4 s5 wr => ∃ (k n : Nat) (acc : List Ch), k ≤ b.length ∧ b.length + 1 - k ≤ g ∧ s5 = .int .i64 k ∧ Below w.heap.size w wr ∧ OwnC wr w.heap.size s4 acc ∧ b.length + 1 ≤ n + k ∧ lgo n b k acc = P ∧ acc.length ≤ k)
  case atStart => exact ⟨0, b.length + 1, [], by omega, by omega, rfl, Below.refl _ _, OwnC.nil _ _, by omega, HP0.out, by simp⟩
  case round =>
    obtain ⟨k, n, acc, hk, hg, rfl, hb, ho, hn, hp, hal⟩ := hrel
    have HB := Lib.hid hb
    have HO := Lib.hid ho
    have HP := Lib.hid hp
    have HAL := Lib.hid hal
    clear hb ho hp hal HP0
    by_cases hlt : k < b.length
    · obtain ⟨n, rfl⟩ : ∃ m, n = m + 1 := ⟨n - 1, by omega⟩
      obtain ⟨g, off, rfl, h1, h2, h3, hc⟩ := rd_some HRB.out hlt
      have hsl : Rd B wr (.slice (some ⟨g, off + k, none⟩) (b.length - k) (cb - k)) (b.drop k) := Rd.drop h1 h2 h3 (fun i hi => by
        have := hc i hi
        rw [World.cell?_of_block (HB.out.block g (Nat.lt_of_lt_of_le h3 HBB.out))]; exact this) (by omega)
      have HF := Lib.hid (fread_any hsl (Nat.le_trans HBB.out HB.out.size) (by rw [List.length_drop]; have := HL.out; omega) (errT_below HE.out.2.1 HB.out))
      unfold ReadPost at HF
      have hck : ¬ k = cb := by omega
      have hck2 : k ≤ cb := by omega
      have i1 : (k : Int) < b.length := by omega
      have i2 : (0 : Int) ≤ k := by omega
      have i3 : (k : Int) ≤ b.length := by omega
      have i4 : (b.length : Int) ≤ cb := by omega
      obtain ⟨R, hR⟩ : ∃ R, R = readF (b.drop k) := ⟨_, rfl⟩
      have HRS : Hid (R.1.length ≤ 65536) := by rw [hR]; exact readF_size _
      have HUS : Hid (R.2.2.1 = 0 → 0 < R.2.1 ∧ R.2.1 ≤ b.length - k) := fun h => by
        rw [hR] at h ⊢
        have := used_pos h
        rwa [List.length_drop] at this
      have HOF : Hid (R.2.2.2 ≤ 1000000) := by
        show _ ≤ _
        have h4 := readF_off (b.drop k)
        have h5 := HL.out
        rw [List.length_drop, ← hR] at h4
        omega
      have HRR := Lib.hid hR
      rw [← hR] at HF
      clear hR hsl hc h1 h2 h3
      obtain ⟨pl, us, ec, eo⟩ := R
      dsimp only at HF HRS HUS HOF
      by_cases hec : ec = 0
      · subst hec
        have hus := HUS.out rfl
        have HUP : Hid (0 < us) := hus.1
        have HUL : Hid (k + us ≤ b.length) := by show _ ≤ _; omega
        obtain ⟨PC, hPC⟩ : ∃ PC, PC = parseC pl := ⟨_, rfl⟩
        have HPC := Lib.hid hPC
        clear hus hPC HUS HOF
        rw [errF_zero] at HF
        go_wp2_with fail
        refine HF.out.mono ?_
        rintro e w2 ⟨v2, rfl, o2, b2⟩
        have HB2 := Lib.hid (HB.out.trans (b2.mono HB.out.size))
        have HO2 := Lib.hid (HO.out.later b2)
        have HPA := Lib.hid (cparse_any (Rd.of_own o2) (Nat.le_refl _) (by have := HRS.out; omega) (HE.out.below HB2.out))
        obtain ⟨q2, n2, m2, rfl⟩ := held_sl (Held.of_own o2)
        rw [← HPC.out] at HPA
        clear b2 o2 HF HB HO
        obtain ⟨c, pc, po⟩ := PC
        dsimp only at HPA
        have HPR : Hid (parseC (readF (b.drop k)).1 = (c, pc, po)) := by show _ = _; rw [← HRR.out]; exact HPC.out.symm
        have HRC : Hid ((readF (b.drop k)).2.2.1 = 0) := by show _ = _; rw [← HRR.out]
        have HRU : Hid ((readF (b.drop k)).2.1 = us) := by show _ = _; rw [← HRR.out]
        clear HPC HRR HRS
        go_wp2_with fail
        refine HPA.out.mono ?_
        rintro e w3 ⟨rfl, b3⟩
        have b4 : Below w3.heap.size w3 (w3.alloc (.cells (chc c).toArray 61)) := (Below.refl _ _).alloc (Nat.le_refl _) _
        have HB4 := Lib.hid ((HB2.out.trans (b3.mono HB2.out.size)).trans (b4.mono (HB2.out.trans (b3.mono HB2.out.size)).size))
        have HO4 := Lib.hid ((HO2.out.later b3).later b4)
        have HX4 := Lib.hid (ch_new w3 c)
        clear b3 b4 HPA HB2 HO2
        by_cases hpc : pc = 0
        · subst hpc
          rw [errF_zero]
          have HNX : Hid (lgo n b (k + us) (acc ++ [c]) = P) := by
            show _ = _
            rw [← HP.out, lgo_next hlt HRC.out (by rw [HPR.out]), HPR.out, HRU.out]
          clear HP HPR HRC HRU
          go_upto_region 8 with ((with_reducible refine atC w3.heap.size (x := .tmp 9) (y := .tmp 32) (u := c) (o := ⟨none, .store _ _ _, _, _, _, _⟩) ?_ ?_); exact ⟨rfl, rfl, rfl, rfl, rfl, rfl⟩)
          generalize w3.alloc (.cells (chc c).toArray 61) = w4 at HB4 HO4 HX4 ⊢
          generalize w3.heap.size = g4 at HX4 ⊢
          have ba : Below w4.heap.size w4 (w4.alloc (.cells (chc c).toArray 61)) := (Below.refl _ _).alloc (Nat.le_refl _) _
          have HBA := Lib.hid (HB4.out.trans (ba.mono HB4.out.size))
          have HOA := Lib.hid (HO4.out.later ba)
          have HRA : Hid ((w4.alloc (.cells (chc c).toArray 61)).rangeAt w4.heap.size 0 (chc c)) := (ch_new w4 c).range
          obtain ⟨m, hm⟩ : ∃ m, m = k + us := ⟨_, rfl⟩
          have hmi : (k : Int) + us = m := by omega
          have hmw : IntKind.i64.wrap (m : Int) = m := by have := HUL.out; have := HL.out; rw [IntKind.wrap_i64]; omega
          have HM := Lib.hid hm
          clear ba HB4 HO4 hm
          go_wp2_with (first
            | ((with_reducible refine loadCX (x := .tmp 9) (u := c) (o := ⟨some 45, _, _, _, _, _⟩) HX4.out ?_ ?_); exact ⟨rfl, rfl, rfl⟩)
            | (at_builtin; refine appC1 rfl _ _ rfl (base := w.heap.size) rfl HOA.out rfl HRA.out (by have := HAL.out; have := HL.out; omega) HBA.out.size ?_; intro v5 w5 h5 b5))
          have HB5 := Lib.hid (HBA.out.trans b5)
          have HO5 := Lib.hid h5
          clear b5 h5 HBA HOA HRA HX4
          go_wp2_with fail
          go_roundg (b.length + 1 - m)
          case measure => have := HM.out; have := HUP.out; have := HUL.out; omega
          case rel => exact ⟨m, n, acc ++ [c], by have := HM.out; have := HUL.out; omega, Nat.le_refl _, by go_num, HB5.out, HO5.out, by have := HM.out; have := HUP.out; omega, by rw [HM.out]; exact HNX.out, by have := HM.out; have := HUP.out; have := HAL.out; rw [List.length_append]; simp only [List.length_cons, List.length_nil]; omega⟩
        · have HPP : Hid (P = ([], pc, k)) := by
            show _ = _
            rw [← HP.out, lgo_parse hlt HRC.out (by rw [HPR.out]; exact hpc), HPR.out]
          have e0 : errF pc po = faultN pc po := by unfold errF; rw [if_neg hpc]
          have HF : Hid (errF pc po = .iface 141 (.agg #[.int .i64 pc, .int .i64 po])) := by show _ = _; rw [e0]; rfl
          have HE2 : Hid (errF pc k = faultN pc k) := by show _ = _; unfold errF; rw [if_neg hpc]
          rw [HF.out]
          have hq := eqNF pc po
          clear hpc e0 HP
          go_upto_region 8 with ((with_reducible refine atC w3.heap.size (x := .tmp 9) (y := .tmp 32) (u := c) (o := ⟨none, .store _ _ _, _, _, _, _⟩) ?_ ?_); exact ⟨rfl, rfl, rfl, rfl, rfl, rfl⟩)
          generalize w3.alloc (.cells (chc c).toArray 61) = w4 at HB4 HO4 HX4 ⊢
          generalize w3.heap.size = g4 at HX4 ⊢
          have HCO := Lib.hid (errAs.code_F pc po w4 (errT_below HE.out.2.1 HB4.out))
          go_wp2_with fail
          refine HCO.out.mono ?_
          rintro e w5 ⟨rfl, b5⟩
          have HB5 := Lib.hid (HB4.out.trans (b5.mono HB4.out.size))
          clear b5 HCO HB4 HO4 HX4
          go_wp2_with fail
          refine (fnew_any _ _ _).mono ?_
          rintro e w6 ⟨rfl, hw6⟩
          subst w6
          go_wp2_with fail
          go_ret2
          refine ⟨.slice none 0 0, ?_, ?_, HB5.out⟩
          · rw [HPP.out]; show _ = Ending.returned (.tuple #[.slice none 0 0, errF pc k]); rw [HE2.out]; rfl
          · rw [HPP.out]; exact .inl ⟨rfl, rfl⟩
      · have HPP : Hid (P = ([], ec, eo + k)) := by
          show _ = _
          rw [← HP.out, lgo_frame hlt (by rw [← HRR.out]; exact hec), ← HRR.out]
        have e0 : errF ec eo = faultN ec eo := by unfold errF; rw [if_neg hec]
        rw [e0] at HF
        have e2 : errF ec (eo + k) = faultN ec (eo + k) := by unfold errF; rw [if_neg hec]
        have HE2 := Lib.hid e2
        have hq := eqNF ec eo
        clear hec e0 e2 HUS
        go_wp2_with fail
        refine HF.out.mono ?_
        rintro e w2 ⟨v2, rfl, o2, b2⟩
        have HB2 := Lib.hid (HB.out.trans (b2.mono HB.out.size))
        obtain ⟨q2, n2, m2, rfl⟩ := held_sl (Held.of_own o2)
        have HSH := Lib.hid (shift_F ec eo k w2 (errT_below HE.out.2.1 HB2.out) (by have := HOF.out; omega) (by have := HL.out; omega))
        rw [show faultN ec eo = .iface 141 (.agg #[.int .i64 ec, .int .i64 eo]) from rfl] at HSH ⊢
        clear b2 o2 HF HB
        go_wp2_with fail
        refine HSH.out.mono ?_
        rintro e w3 ⟨rfl, b3⟩
        have HB3 := Lib.hid (HB2.out.trans (b3.mono HB2.out.size))
        clear b3 HSH HB2
        go_wp2_with fail
        go_ret2
        refine ⟨.slice none 0 0, ?_, ?_, HB3.out⟩
        · rw [HPP.out]; show _ = Ending.returned (.tuple #[.slice none 0 0, errF ec (eo + k)]); rw [HE2.out]; rfl
        · rw [HPP.out]; exact .inl ⟨rfl, rfl⟩
    · obtain ⟨n, rfl⟩ : ∃ m, n = m + 1 := ⟨n - 1, by omega⟩
      have HPP : Hid (P = (acc, 0, 0)) := by show _ = _; rw [← HP.out]; exact lgo_end hlt
      have i1 : ¬ (k : Int) < b.length := by omega
      go_wp2_with fail
      go_ret2
      rw [HPP.out]
      exact ⟨_, rfl, HO.out.rd, HB.out⟩
set_option maxRecDepth 100000 in
set_option maxHeartbeats 4000000 in
theorem rplog_any {B : Nat} {w : World} {vb : Value} {b : List UInt8} (hr : Rd B w vb b) (hB : B ≤ w.heap.size) (hl : b.length ≤ 1000000) :
    Calls Tryz.prog 53 #[vb] w (RLgPost w b) := by
  have HL := Lib.hid hl
  have HBB := Lib.hid hB
  have hbl : (b.length : Int) ≤ 1000000 := by omega
  obtain ⟨P, hP⟩ : ∃ P, P = parseLg b := ⟨_, rfl⟩
  unfold RLgPost
  rw [← hP]
  have HP0 : Hid (lgo (b.length + 1) b 0 [] = P) := hP.symm
  have HRB := Lib.hid hr
  obtain ⟨qb, cb, hvb⟩ := rd_form hr
  have HVB := Lib.hid hvb
  subst hvb
  clear hP hB hl hr
  go_enter Tryz.func53, Tryz.ntmps53
  go_wp2_with fail
  go_loopg [5, 6] (b.length + 1) (fun g s4 s5 wr => ∃ (k n : Nat) (acc : List Ch), k ≤ b.length ∧ b.length + 1 - k ≤ g ∧ s5 = .int .i64 k ∧ Below w.heap.size w wr ∧ OwnC wr w.heap.size s4 acc ∧ b.length + 1 ≤ n + k ∧ lgo n b k acc = P ∧ acc.length ≤ k)
  case atStart => exact ⟨0, b.length + 1, [], by omega, by omega, rfl, Below.refl _ _, OwnC.nil _ _, by omega, HP0.out, by simp⟩
  case round =>
    obtain ⟨k, n, acc, hk, hg, rfl, hb, ho, hn, hp, hal⟩ := hrel
    have HB := Lib.hid hb
    have HO := Lib.hid ho
    have HP := Lib.hid hp
    have HAL := Lib.hid hal
    clear hb ho hp hal HP0
    by_cases hlt : k < b.length
    · obtain ⟨n, rfl⟩ : ∃ m, n = m + 1 := ⟨n - 1, by omega⟩
      obtain ⟨g, off, rfl, h1, h2, h3, hc⟩ := rd_some HRB.out hlt
      have hsl : Rd B wr (.slice (some ⟨g, off + k, none⟩) (b.length - k) (cb - k)) (b.drop k) := Rd.drop h1 h2 h3 (fun i hi => by
        have := hc i hi
        rw [World.cell?_of_block (HB.out.block g (Nat.lt_of_lt_of_le h3 HBB.out))]; exact this) (by omega)
      have HF := Lib.hid (rread_any (w := wr) hsl (by rw [List.length_drop]; have := HL.out; omega))
      unfold RefPost at HF
      have hck : ¬ k = cb := by omega
      have hck2 : k ≤ cb := by omega
      have i1 : (k : Int) < b.length := by omega
      have i2 : (0 : Int) ≤ k := by omega
      have i3 : (k : Int) ≤ b.length := by omega
      have i4 : (b.length : Int) ≤ cb := by omega
      obtain ⟨R, hR⟩ : ∃ R, R = readF (b.drop k) := ⟨_, rfl⟩
      have HRS : Hid (R.1.length ≤ 65536) := by rw [hR]; exact readF_size _
      have HUS : Hid (R.2.2.1 = 0 → 0 < R.2.1 ∧ R.2.1 ≤ b.length - k) := fun h => by
        rw [hR] at h ⊢
        have := used_pos h
        rwa [List.length_drop] at this
      have HOF : Hid (R.2.2.2 ≤ 1000000) := by
        show _ ≤ _
        have h4 := readF_off (b.drop k)
        have h5 := HL.out
        rw [List.length_drop, ← hR] at h4
        omega
      have HRR := Lib.hid hR
      rw [← hR] at HF
      clear hR hsl hc h1 h2 h3
      obtain ⟨pl, us, ec, eo⟩ := R
      dsimp only at HF HRS HUS HOF
      by_cases hec : ec = 0
      · subst hec
        have hus := HUS.out rfl
        have HUP : Hid (0 < us) := hus.1
        have HUL : Hid (k + us ≤ b.length) := by show _ ≤ _; omega
        obtain ⟨PC, hPC⟩ : ∃ PC, PC = parseC pl := ⟨_, rfl⟩
        have HPC := Lib.hid hPC
        clear hus hPC HUS HOF
        go_wp2_with fail
        refine HF.out.mono ?_
        rintro e w2 ⟨v2, rfl, o2, hw2⟩
        subst w2
        have HB2 := HB
        have HO2 := HO
        have HPA := Lib.hid (rcparse_any o2 (Nat.le_trans HBB.out HB2.out.size) (by have := HRS.out; omega))
        obtain ⟨q2, c2, rfl⟩ := rd_form o2
        rw [← HPC.out] at HPA
        clear o2 HF HB HO
        obtain ⟨c, pc, po⟩ := PC
        dsimp only at HPA
        have HPR : Hid (parseC (readF (b.drop k)).1 = (c, pc, po)) := by show _ = _; rw [← HRR.out]; exact HPC.out.symm
        have HRC : Hid ((readF (b.drop k)).2.2.1 = 0) := by show _ = _; rw [← HRR.out]
        have HRU : Hid ((readF (b.drop k)).2.1 = us) := by show _ = _; rw [← HRR.out]
        clear HPC HRR HRS
        go_wp2_with fail
        refine HPA.out.mono ?_
        rintro e w3 ⟨rfl, b3⟩
        have b4 : Below w3.heap.size w3 (w3.alloc (.cells (chc c).toArray 61)) := (Below.refl _ _).alloc (Nat.le_refl _) _
        have HB4 := Lib.hid ((HB2.out.trans (b3.mono HB2.out.size)).trans (b4.mono (HB2.out.trans (b3.mono HB2.out.size)).size))
        have HO4 := Lib.hid ((HO2.out.later b3).later b4)
        have HX4 := Lib.hid (ch_new w3 c)
        clear b3 b4 HPA HB2 HO2
        by_cases hpc : pc = 0
        · subst hpc
          have HNX : Hid (lgo n b (k + us) (acc ++ [c]) = P) := by
            show _ = _
            rw [← HP.out, lgo_next hlt HRC.out (by rw [HPR.out]), HPR.out, HRU.out]
          clear HP HPR HRC HRU
          go_upto_region 8 with ((with_reducible refine atC w3.heap.size (x := .tmp 11) (y := .tmp 35) (u := c) (o := ⟨none, .store _ _ _, _, _, _, _⟩) ?_ ?_); exact ⟨rfl, rfl, rfl, rfl, rfl, rfl⟩)
          generalize w3.alloc (.cells (chc c).toArray 61) = w4 at HB4 HO4 HX4 ⊢
          generalize w3.heap.size = g4 at HX4 ⊢
          have ba : Below w4.heap.size w4 (w4.alloc (.cells (chc c).toArray 61)) := (Below.refl _ _).alloc (Nat.le_refl _) _
          have HBA := Lib.hid (HB4.out.trans (ba.mono HB4.out.size))
          have HOA := Lib.hid (HO4.out.later ba)
          have HRA : Hid ((w4.alloc (.cells (chc c).toArray 61)).rangeAt w4.heap.size 0 (chc c)) := (ch_new w4 c).range
          obtain ⟨m, hm⟩ : ∃ m, m = k + us := ⟨_, rfl⟩
          have hmi : (k : Int) + us = m := by omega
          have hmw : IntKind.i64.wrap (m : Int) = m := by have := HUL.out; have := HL.out; rw [IntKind.wrap_i64]; omega
          have HM := Lib.hid hm
          clear ba HB4 HO4 hm
          go_wp2_with (first
            | ((with_reducible refine loadCX (x := .tmp 11) (u := c) (o := ⟨some 43, _, _, _, _, _⟩) HX4.out ?_ ?_); exact ⟨rfl, rfl, rfl⟩)
            | (at_builtin; refine appC1 rfl _ _ rfl (base := w.heap.size) rfl HOA.out rfl HRA.out (by have := HAL.out; have := HL.out; omega) HBA.out.size ?_; intro v5 w5 h5 b5))
          have HB5 := Lib.hid (HBA.out.trans b5)
          have HO5 := Lib.hid h5
          clear b5 h5 HBA HOA HRA HX4
          go_wp2_with fail
          go_roundg (b.length + 1 - m)
          case measure => have := HM.out; have := HUP.out; have := HUL.out; omega
          case rel => exact ⟨m, n, acc ++ [c], by have := HM.out; have := HUL.out; omega, Nat.le_refl _, by go_num, HB5.out, HO5.out, by have := HM.out; have := HUP.out; omega, by rw [HM.out]; exact HNX.out, by have := HM.out; have := HUP.out; have := HAL.out; rw [List.length_append]; simp only [List.length_cons, List.length_nil]; omega⟩
        · have HPP : Hid (P = ([], pc, k)) := by
            show _ = _
            rw [← HP.out, lgo_parse hlt HRC.out (by rw [HPR.out]; exact hpc), HPR.out]
          have hq : ((pc : Int) != 0) = true := by rw [bne_iff_ne]; omega
          clear hpc HP
          go_upto_region 8 with ((with_reducible refine atC w3.heap.size (x := .tmp 11) (y := .tmp 35) (u := c) (o := ⟨none, .store _ _ _, _, _, _, _⟩) ?_ ?_); exact ⟨rfl, rfl, rfl, rfl, rfl, rfl⟩)
          generalize w3.alloc (.cells (chc c).toArray 61) = w4 at HB4 HO4 HX4 ⊢
          generalize w3.heap.size = g4 at HX4 ⊢
          go_wp2_with fail
          go_ret3
          refine ⟨.slice none 0 0, ?_, ?_, HB4.out⟩
          · rw [HPP.out]; rfl
          · rw [HPP.out]; exact .inl ⟨rfl, rfl⟩
      · have HPP : Hid (P = ([], ec, eo + k)) := by
          show _ = _
          rw [← HP.out, lgo_frame hlt (by rw [← HRR.out]; exact hec), ← HRR.out]
        have hq : ((ec : Int) != 0) = true := by rw [bne_iff_ne]; omega
        have hw : IntKind.i64.wrap ((k : Int) + eo) = (k : Int) + eo := by have := HOF.out; rw [IntKind.wrap_i64]; omega
        clear hec HUS
        go_wp2_with fail
        refine HF.out.mono ?_
        rintro e w2 ⟨v2, rfl, o2, hw2⟩
        subst hw2
        obtain ⟨q2, c2, rfl⟩ := rd_form o2
        clear o2 HF
        go_wp2_with fail
        go_ret3
        refine ⟨.slice none 0 0, ?_, ?_, HB.out⟩
        · rw [HPP.out]
          show _ = Ending.returned (.tuple #[.slice none 0 0, .int .i64 (ec : Nat), .int .i64 ((eo + k : Nat) : Int)])
          rw [show ((eo + k : Nat) : Int) = (k : Int) + eo by omega]; rfl
        · rw [HPP.out]; exact .inl ⟨rfl, rfl⟩
    · obtain ⟨n, rfl⟩ : ∃ m, n = m + 1 := ⟨n - 1, by omega⟩
      have HPP : Hid (P = (acc, 0, 0)) := by show _ = _; rw [← HP.out]; exact lgo_end hlt
      have i1 : ¬ (k : Int) < b.length := by omega
      go_wp2_with fail
      go_ret3
      rw [HPP.out]
      exact ⟨_, rfl, HO.out.rd, HB.out⟩
end Go.Proofs.YtnnebfcggdbgpaaGreatDoor
/-
  change.ParseText.
-/
namespace Go.Proofs.YtnnebfcggdbgpaaGreatDoor
open Go.ChangeShapes Go.WideShapes Go.ChangeAt Go.RowKit
open errAs (ErrT)
set_option linter.unusedVariables false

theorem cut_space (s : ByteArray) : (cut3 s ⟨#[32]⟩).1 = s.extract 0 (spaceN s) := by
  by_cases h : spaceN s < s.size
  · rw [cut_yes (n := spaceN s) rfl h]
  · have e : spaceN s = s.size := by have := spaceN_le s; omega
    rw [cut_nay (n := spaceN s) rfl h, e, ext_all]
theorem extc_take (s : ByteArray) (n : Nat) : (s.extract 0 n).data.toList = s.data.toList.take n := by rw [ext_mid, bstr_data, List.drop_zero]
theorem extc_drop (s : ByteArray) (n : Nat) : (s.extract n s.size).data.toList = s.data.toList.drop n := by rw [ext_mid, bstr_data, ← size_len s, List.take_length]
theorem parseT_at {s : ByteArray} (hs : s.size ≤ 1000000) : (parseT s).2.2 ≤ 3000000 := by
  have a1 := cut_size s atA
  have a2 := cut_size2 s atA
  unfold parseT
  generalize (cut3 s atA).1 = f at a1 ⊢
  generalize (cut3 s atA).2.1 = b at a2 ⊢
  have b1 := cut_size f hashA
  have b2 := cut_size b hashA
  unfold parseW
  have p1 := (parseObj_at (cut3 f hashA).1).1
  have p2 := (parseObj_at (cut3 b hashA).1).1
  split
  · show s.size ≤ _; omega
  split
  · show (parseObj (cut3 f hashA).1).2.2.2 ≤ _; omega
  split
  · show (cut3 f hashA).1.size + 1 ≤ _; omega
  split
  · show (parseObj (cut3 b hashA).1).2.2.2 + (f.size + 1) ≤ _; omega
  split
  · show f.size + 1 + (cut3 b hashA).1.size + 1 ≤ _; omega
  · exact Nat.zero_le _
set_option maxRecDepth 100000 in
set_option maxHeartbeats 4000000 in
theorem cptext_any (s : ByteArray) (w : World) (hE : EnvU w) (hs : s.size ≤ 1000000) :
    Calls Tryz.prog 43 #[.string s] w fun e w' => e = .returned (.tuple #[chV (parseCT s).1, errF (parseCT s).2.1 (parseCT s).2.2]) ∧ Below w.heap.size w w' := by
  have b0 : Below w.heap.size w (w.alloc (.cells (chc c0).toArray 61)) := (Below.refl _ _).alloc (Nat.le_refl _) _
  have HB0 := Lib.hid b0
  have HX0 := Lib.hid (ch_new w c0)
  have HE0 := Lib.hid (hE.below b0)
  have HSZ := Lib.hid hs
  have hnl := spaceN_le s
  obtain ⟨n, hn⟩ : ∃ n, n = spaceN s := ⟨_, rfl⟩
  obtain ⟨f, hf⟩ : ∃ f, f = s.extract 0 n := ⟨_, rfl⟩
  obtain ⟨q, hq⟩ : ∃ q, q = s.extract n s.size := ⟨_, rfl⟩
  have hcut : (cut3 s ⟨#[32]⟩).1 = f := by rw [hf, hn]; exact cut_space s
  rw [← hn] at hnl
  have hfs : f.size = n := by rw [hf]; exact ext_size hnl
  have hfd : f.data.toList = s.data.toList.take n := by rw [hf]; exact extc_take s n
  have hqd : q.data.toList = s.data.toList.drop n := by rw [hq]; exact extc_drop s n
  have HP : Hid (parseCT s = parseN s n (numS f.data.toList) (sgnL q.data.toList)) := by show _ = _; unfold parseCT; rw [← hn, hfd, hqd]
  have HC : Hid (∃ k bk, Calls Tryz.prog 61 #[.string s, .string ⟨#[32]⟩] (w.alloc (.cells (chc c0).toArray 61)) fun e w' => e = .returned (.tuple #[.string f, .string bk, .bool k]) ∧ ∃ m, w' = (w.alloc (.cells (chc c0).toArray 61)).drewN m) := by
    have h := cut_any s ⟨#[32]⟩ _ HE0.out.1 hs
    rw [hcut] at h
    exact ⟨_, _, h⟩
  have HNL := Lib.hid hnl
  have HQL : Hid (q.data.toList.length = s.size - n) := by show _ = _; rw [hqd, List.length_drop, size_len]
  have HFZ : Hid (f.size ≤ 1000000) := by show _ ≤ _; omega
  have HQ := Lib.hid hq
  have HFS := Lib.hid hfs
  clear hE hs hn hf hq hcut hfd hqd b0 hnl hfs
  obtain ⟨k, bk, HC⟩ := HC.out
  have HC := Lib.hid HC
  obtain ⟨x, hx⟩ : ∃ x, x = numS f.data.toList := ⟨_, rfl⟩
  have HXX := Lib.hid hx
  rw [← hx] at HP
  clear hx
  by_cases hx : x = 0
  · have HP2 : Hid (parseCT s = (c0, 6, 0)) := by show _ = _; rw [HP.out]; exact parseN_0 hx
    have HB : Hid (decide (x ≠ 0) = false) := decide_eq_false (by omega)
    clear HP hx
    go_enter Tryz.func43, Tryz.ntmps43
    go_wp2_with fail
    refine HC.out.mono ?_
    rintro e w1 ⟨rfl, m, rfl⟩
    have b1 := below_drewN (Below.refl (w.alloc (.cells (chc c0).toArray 61)).heap.size (w.alloc (.cells (chc c0).toArray 61))) m
    have HB1 := Lib.hid (HB0.out.trans (b1.mono HB0.out.size))
    have HX1 := Lib.hid (HX0.out.later b1)
    have HE1 := Lib.hid (HE0.out.below b1)
    clear b1 HB0 HX0 HE0 HC
    generalize (w.alloc (.cells (chc c0).toArray 61)).drewN m = w1 at HB1 HX1 HE1 ⊢
    go_wp2_with fail
    refine (revisions_any _).mono ?_
    rintro e w2 ⟨g1, g2, rfl, h1, h2, hw2, b2⟩
    have HB2 := Lib.hid (HB1.out.trans (b2.mono HB1.out.size))
    have HX2 := Lib.hid (HX1.out.later b2)
    have HE2 := Lib.hid (HE1.out.below b2)
    clear b2 HB1 HX1 HE1 h1 h2
    have HDE : Hid (Calls Tryz.prog 89 #[.string f, witF g1 g2] w2 fun e w' => e = .returned (.tuple #[.int .u64 x, .bool false]) ∧ Below w2.heap.size w2 w') := by
      have h := cdec_any f HFZ.out hw2 HE2.out
      unfold DecPost at h
      rw [← HXX.out] at h
      rw [show decide (x ≠ 0) = false from HB.out] at h
      exact h
    clear hw2
    go_wp2_with fail
    refine HDE.out.mono ?_
    rintro e w3 ⟨rfl, b3⟩
    have HB3 := Lib.hid (HB2.out.trans (b3.mono HB2.out.size))
    have HX3 := Lib.hid (HX2.out.later b3)
    have HE3 := Lib.hid (HE2.out.below b3)
    clear b3 HB2 HX2 HE2 HDE
    go_wp2_with fail
    refine (fnew_any _ _ _).mono ?_
    rintro e w4 ⟨rfl, hw4⟩
    subst hw4
    have hA := HX3.out
    go_wp2_with ((with_reducible refine storeC (x := .tmp 2) (y := .tmp 28) (u := c0) (o := ⟨none, .store _ _ _, _, _, _, _⟩) hA ?_ ?_); exact ⟨rfl, rfl, rfl, rfl⟩)
    refine bodyPost_ret (resC rfl (hA.row _) rfl) rfl ⟨?_, below_row HB3.out (Nat.le_refl _) _⟩
    rw [HP2.out]; rfl
  · rcases sgnL_cases q.data.toList with hs0 | hs1 | hs2
    · have HP2 : Hid (parseCT s = (c0, 6, n)) := by show _ = _; rw [HP.out]; exact parseN_1 hx hs0
      have HPX1 : Hid (Lib.hasPrefix q.data.toList smP.data.toList = false) := (sgnL_zero hs0).2
      have HPX2 : Hid (Lib.hasPrefix q.data.toList spP.data.toList = false) := (sgnL_zero hs0).1
      have HB : Hid (decide (x ≠ 0) = true) := decide_eq_true hx
      clear HP hx hs0
      go_enter Tryz.func43, Tryz.ntmps43
      go_wp2_with fail
      refine HC.out.mono ?_
      rintro e w1 ⟨rfl, m, rfl⟩
      have b1 := below_drewN (Below.refl (w.alloc (.cells (chc c0).toArray 61)).heap.size (w.alloc (.cells (chc c0).toArray 61))) m
      have HB1 := Lib.hid (HB0.out.trans (b1.mono HB0.out.size))
      have HX1 := Lib.hid (HX0.out.later b1)
      have HE1 := Lib.hid (HE0.out.below b1)
      clear b1 HB0 HX0 HE0 HC
      generalize (w.alloc (.cells (chc c0).toArray 61)).drewN m = w1 at HB1 HX1 HE1 ⊢
      go_wp2_with fail
      refine (revisions_any _).mono ?_
      rintro e w2 ⟨g1, g2, rfl, h1, h2, hw2, b2⟩
      have HB2 := Lib.hid (HB1.out.trans (b2.mono HB1.out.size))
      have HX2 := Lib.hid (HX1.out.later b2)
      have HE2 := Lib.hid (HE1.out.below b2)
      clear b2 HB1 HX1 HE1 h1 h2
      have HDE : Hid (Calls Tryz.prog 89 #[.string f, witF g1 g2] w2 fun e w' => e = .returned (.tuple #[.int .u64 x, .bool true]) ∧ Below w2.heap.size w2 w') := by
        have h := cdec_any f HFZ.out hw2 HE2.out
        unfold DecPost at h
        rw [← HXX.out] at h
        rw [show decide (x ≠ 0) = true from HB.out] at h
        exact h
      clear hw2
      go_wp2_with fail
      refine HDE.out.mono ?_
      rintro e w3 ⟨rfl, b3⟩
      have HB3 := Lib.hid (HB2.out.trans (b3.mono HB2.out.size))
      have HX3 := Lib.hid (HX2.out.later b3)
      have HE3 := Lib.hid (HE2.out.below b3)
      clear b3 HB2 HX2 HE2 HDE
      have i1 : (n : Int) ≤ s.size := by have := HNL.out; omega
      have i2 : (0 : Int) ≤ n := by omega
      have i3 : (f.size : Int) = n := by have := HFS.out; omega
      have HQ2 : Hid (s.extract n s.size = q) := HQ.out.symm
      have hqx := HQ2.out
      have hfx := HFS.out
      go_upto_region 6 with fail
      have HR1 := Lib.hid (show Calls Tryz.prog 90 #[.string q, .string ⟨#[32, 45, 32]⟩] w3 fun e w' => e = .returned (.bool false) ∧ w' = w3 from by have h := Tryz.strings_HasPrefix q ⟨#[32, 45, 32]⟩ w3; rw [show Lib.hasPrefix q.data.toList (⟨#[32, 45, 32]⟩ : ByteArray).data.toList = false from HPX1.out] at h; exact h)
      have HR2 := Lib.hid (show Calls Tryz.prog 90 #[.string q, .string ⟨#[32, 43, 32]⟩] w3 fun e w' => e = .returned (.bool false) ∧ w' = w3 from by have h := Tryz.strings_HasPrefix q ⟨#[32, 43, 32]⟩ w3; rw [show Lib.hasPrefix q.data.toList (⟨#[32, 43, 32]⟩ : ByteArray).data.toList = false from HPX2.out] at h; exact h)
      clear hqx
      go_wp2_with fail
      refine HR1.out.mono ?_
      rintro e w4 ⟨rfl, hw4⟩
      subst w4
      clear HR1
      go_wp2_with fail
      refine HR2.out.mono ?_
      rintro e w4 ⟨rfl, hw4⟩
      subst w4
      clear HR2
      go_wp2_with fail
      refine (fnew_any _ _ _).mono ?_
      rintro e w5 ⟨rfl, hw5⟩
      subst hw5
      have hA := HX3.out
      go_wp2_with ((with_reducible refine storeC (x := .tmp 2) (y := .tmp 43) (u := c0) (o := ⟨none, .store _ _ _, _, _, _, _⟩) hA ?_ ?_); exact ⟨rfl, rfl, rfl, rfl⟩)
      refine bodyPost_ret (resC rfl (hA.row _) rfl) rfl ⟨?_, below_row HB3.out (Nat.le_refl _) _⟩
      rw [HP2.out, ← HFS.out]; rfl
    · have HPX1 : Hid (Lib.hasPrefix q.data.toList smP.data.toList = false) := (sgnL_one hs1).2
      have HPX2 : Hid (Lib.hasPrefix q.data.toList spP.data.toList = true) := (sgnL_one hs1).1
      have hlen : n + 3 ≤ s.size := by
        have h1 := Lib.hasPrefix_le (HPX2.out)
        have h2 : (spP).data.toList.length = 3 := rfl
        have h3 := HQL.out
        omega
      have HB : Hid (decide (x ≠ 0) = true) := decide_eq_true hx
      obtain ⟨q2, hq2⟩ : ∃ q2, q2 = s.extract (n + 3) s.size := ⟨_, rfl⟩
      have HQ3 := Lib.hid hq2
      have HP2 : Hid (parseCT s = finT x n 1 (parseT q2)) := by show _ = _; rw [HP.out, parseN_2 hx (by omega), hs1, hq2]
      have HLE := Lib.hid hlen
      clear HP hx hs1 hq2 hlen
      go_enter Tryz.func43, Tryz.ntmps43
      go_wp2_with fail
      refine HC.out.mono ?_
      rintro e w1 ⟨rfl, m, rfl⟩
      have b1 := below_drewN (Below.refl (w.alloc (.cells (chc c0).toArray 61)).heap.size (w.alloc (.cells (chc c0).toArray 61))) m
      have HB1 := Lib.hid (HB0.out.trans (b1.mono HB0.out.size))
      have HX1 := Lib.hid (HX0.out.later b1)
      have HE1 := Lib.hid (HE0.out.below b1)
      clear b1 HB0 HX0 HE0 HC
      generalize (w.alloc (.cells (chc c0).toArray 61)).drewN m = w1 at HB1 HX1 HE1 ⊢
      go_wp2_with fail
      refine (revisions_any _).mono ?_
      rintro e w2 ⟨g1, g2, rfl, h1, h2, hw2, b2⟩
      have HB2 := Lib.hid (HB1.out.trans (b2.mono HB1.out.size))
      have HX2 := Lib.hid (HX1.out.later b2)
      have HE2 := Lib.hid (HE1.out.below b2)
      clear b2 HB1 HX1 HE1 h1 h2
      have HDE : Hid (Calls Tryz.prog 89 #[.string f, witF g1 g2] w2 fun e w' => e = .returned (.tuple #[.int .u64 x, .bool true]) ∧ Below w2.heap.size w2 w') := by
        have h := cdec_any f HFZ.out hw2 HE2.out
        unfold DecPost at h
        rw [← HXX.out] at h
        rw [show decide (x ≠ 0) = true from HB.out] at h
        exact h
      clear hw2
      go_wp2_with fail
      refine HDE.out.mono ?_
      rintro e w3 ⟨rfl, b3⟩
      have HB3 := Lib.hid (HB2.out.trans (b3.mono HB2.out.size))
      have HX3 := Lib.hid (HX2.out.later b3)
      have HE3 := Lib.hid (HE2.out.below b3)
      clear b3 HB2 HX2 HE2 HDE
      have i1 : (n : Int) ≤ s.size := by have := HNL.out; omega
      have i2 : (0 : Int) ≤ n := by omega
      have i3 : (f.size : Int) = n := by have := HFS.out; omega
      have HQ2 : Hid (s.extract n s.size = q) := HQ.out.symm
      have hqx := HQ2.out
      have hfx := HFS.out
      go_upto_region 6 with fail
      have HR1 := Lib.hid (show Calls Tryz.prog 90 #[.string q, .string ⟨#[32, 45, 32]⟩] w3 fun e w' => e = .returned (.bool false) ∧ w' = w3 from by have h := Tryz.strings_HasPrefix q ⟨#[32, 45, 32]⟩ w3; rw [show Lib.hasPrefix q.data.toList (⟨#[32, 45, 32]⟩ : ByteArray).data.toList = false from HPX1.out] at h; exact h)
      have HR2 := Lib.hid (show Calls Tryz.prog 90 #[.string q, .string ⟨#[32, 43, 32]⟩] w3 fun e w' => e = .returned (.bool true) ∧ w' = w3 from by have h := Tryz.strings_HasPrefix q ⟨#[32, 43, 32]⟩ w3; rw [show Lib.hasPrefix q.data.toList (⟨#[32, 43, 32]⟩ : ByteArray).data.toList = true from HPX2.out] at h; exact h)
      clear hqx
      go_wp2_with fail
      refine HR1.out.mono ?_
      rintro e w4 ⟨rfl, hw4⟩
      subst w4
      clear HR1
      go_wp2_with fail
      refine HR2.out.mono ?_
      rintro e w4 ⟨rfl, hw4⟩
      subst w4
      clear HR2
      have hz2 : q2.size ≤ 1000000 := by rw [HQ3.out]; have := ext_size2 s (n + 3) s.size; have := HSZ.out; omega
      have HTP := Lib.hid (tparse_any q2 w3 HE3.out.1 hz2)
      obtain ⟨TT, hT⟩ : ∃ TT, TT = parseT q2 := ⟨_, rfl⟩
      rw [← hT] at HTP HP2
      have HAT : Hid (TT.2.2 ≤ 3000000) := by show _ ≤ _; rw [hT]; exact parseT_at hz2
      clear hT hz2
      obtain ⟨t, cd, o⟩ := TT
      dsimp only at HTP HP2 HAT
      have i4 : ((n + 3 : Nat) : Int) ≤ s.size := by have := HLE.out; omega
      obtain ⟨m3, hm3⟩ : ∃ m3, m3 = n + 3 := ⟨_, rfl⟩
      have HM3 := Lib.hid hm3
      have hi3 : (n : Int) + 3 = m3 := by omega
      have hw3 : IntKind.i64.wrap (m3 : Int) = m3 := by have := HLE.out; have := HSZ.out; rw [IntKind.wrap_i64]; omega
      have hq3 : s.extract m3 s.size = q2 := by rw [hm3]; exact HQ3.out.symm
      have i5 : (m3 : Int) ≤ s.size := by rw [hm3]; exact i4
      clear hm3 i4
      go_wp2_with fail
      refine HTP.out.mono ?_
      rintro e w5 ⟨rfl, b5⟩
      have b6 : Below w5.heap.size w5 (w5.alloc (.cells (tc t).toArray 25)) := (Below.refl _ _).alloc (Nat.le_refl _) _
      have HB6 := Lib.hid ((HB3.out.trans (b5.mono HB3.out.size)).trans (b6.mono (HB3.out.trans (b5.mono HB3.out.size)).size))
      have HX6 := Lib.hid ((HX3.out.later b5).later b6)
      have HE6 := Lib.hid ((HE3.out.below b5).below b6)
      have HT6 := Lib.hid (tu_new w5 t)
      clear b5 b6 HTP HB3 HX3 HE3 hq3
      by_cases hk : cd = 0
      · subst hk
        rw [errF_zero]
        have HP3 : Hid (parseCT s = (⟨x, false, t⟩, 0, 0)) := by show _ = _; rw [HP2.out]; exact finT_yes rfl
        clear HP2
        go_upto_region 11 with ((with_reducible refine atT w5.heap.size (x := .tmp 12) (y := .tmp 55) (u := t) (o := ⟨none, .store _ _ _, _, _, _, _⟩) ?_ ?_); exact ⟨rfl, rfl, rfl, rfl, rfl, rfl⟩)
        generalize w5.alloc (.cells (tc t).toArray 25) = w6 at HB6 HX6 HE6 HT6 ⊢
        generalize w5.heap.size = g6 at HT6 ⊢
        have hA := HX6.out
        go_wp2_with (first
          | ((with_reducible refine loadT (x := .tmp 12) (o := ⟨some 65, _, _, _, _, _⟩) HT6.out ?_ ?_); exact ⟨rfl, rfl, rfl⟩)
          | ((with_reducible refine buildC (x := .tmp 63) (y := .tmp 64) (z := .tmp 65) (r := x) (d := false) (t := t) (o := ⟨some 66, _, _, _, _, _⟩) ?_ ?_); exact ⟨rfl, rfl, rfl, rfl, rfl⟩)
          | ((with_reducible refine storeC (x := .tmp 2) (y := .tmp 66) (u := ⟨x, false, t⟩) (o := ⟨none, .store _ _ _, _, _, _, _⟩) hA ?_ ?_); exact ⟨rfl, rfl, rfl, rfl⟩))
        refine bodyPost_ret (resC rfl (hA.row _) rfl) rfl ⟨?_, below_row HB6.out (Nat.le_refl _) _⟩
        rw [HP3.out]; rfl
      · have HP3 : Hid (parseCT s = (c0, cd, o + m3)) := by show _ = _; rw [HP2.out, HM3.out]; exact finT_bad hk
        have HZ := Lib.hid hk
        have e0 : errF cd o = faultN cd o := by unfold errF; rw [if_neg hk]
        have HF : Hid (errF cd o = .iface 141 (.agg #[.int .i64 cd, .int .i64 o])) := by show _ = _; rw [e0]; rfl
        rw [HF.out]
        have hq := eqNF cd o
        clear hk e0
        clear HP2
        go_upto_region 11 with ((with_reducible refine atT w5.heap.size (x := .tmp 12) (y := .tmp 55) (u := t) (o := ⟨none, .store _ _ _, _, _, _, _⟩) ?_ ?_); exact ⟨rfl, rfl, rfl, rfl, rfl, rfl⟩)
        generalize w5.alloc (.cells (tc t).toArray 25) = w6 at HB6 HX6 HE6 HT6 ⊢
        generalize w5.heap.size = g6 at HT6 ⊢
        have HSH := Lib.hid (shift_F cd o m3 w6 HE6.out.1.2.1 (by have := HAT.out; omega) (by have := HLE.out; have := HSZ.out; have := HM3.out; omega))
        rw [show faultN cd o = .iface 141 (.agg #[.int .i64 cd, .int .i64 o]) from rfl] at HSH
        go_wp2_with fail
        refine HSH.out.mono ?_
        rintro e w7 ⟨rfl, b7⟩
        have HB7 := Lib.hid (HB6.out.trans (b7.mono HB6.out.size))
        have hA := HX6.out.later b7
        clear b7 HSH HB6
        go_wp2_with ((with_reducible refine storeC (x := .tmp 2) (y := .tmp 59) (u := c0) (o := ⟨none, .store _ _ _, _, _, _, _⟩) hA ?_ ?_); exact ⟨rfl, rfl, rfl, rfl⟩)
        refine bodyPost_ret (resC rfl (hA.row _) rfl) rfl ⟨?_, below_row HB7.out (Nat.le_refl _) _⟩
        rw [HP3.out]
        show _ = Ending.returned (.tuple #[chV c0, errF cd (o + m3)])
        rw [show errF cd (o + m3) = faultN cd (o + m3) by unfold errF; rw [if_neg HZ.out]]; rfl
    · have HPX1 : Hid (Lib.hasPrefix q.data.toList smP.data.toList = true) := sgnL_two.1 hs2
      have hlen : n + 3 ≤ s.size := by
        have h1 := Lib.hasPrefix_le (HPX1.out)
        have h2 : (smP).data.toList.length = 3 := rfl
        have h3 := HQL.out
        omega
      have HB : Hid (decide (x ≠ 0) = true) := decide_eq_true hx
      obtain ⟨q2, hq2⟩ : ∃ q2, q2 = s.extract (n + 3) s.size := ⟨_, rfl⟩
      have HQ3 := Lib.hid hq2
      have HP2 : Hid (parseCT s = finT x n 2 (parseT q2)) := by show _ = _; rw [HP.out, parseN_2 hx (by omega), hs2, hq2]
      have HLE := Lib.hid hlen
      clear HP hx hs2 hq2 hlen
      go_enter Tryz.func43, Tryz.ntmps43
      go_wp2_with fail
      refine HC.out.mono ?_
      rintro e w1 ⟨rfl, m, rfl⟩
      have b1 := below_drewN (Below.refl (w.alloc (.cells (chc c0).toArray 61)).heap.size (w.alloc (.cells (chc c0).toArray 61))) m
      have HB1 := Lib.hid (HB0.out.trans (b1.mono HB0.out.size))
      have HX1 := Lib.hid (HX0.out.later b1)
      have HE1 := Lib.hid (HE0.out.below b1)
      clear b1 HB0 HX0 HE0 HC
      generalize (w.alloc (.cells (chc c0).toArray 61)).drewN m = w1 at HB1 HX1 HE1 ⊢
      go_wp2_with fail
      refine (revisions_any _).mono ?_
      rintro e w2 ⟨g1, g2, rfl, h1, h2, hw2, b2⟩
      have HB2 := Lib.hid (HB1.out.trans (b2.mono HB1.out.size))
      have HX2 := Lib.hid (HX1.out.later b2)
      have HE2 := Lib.hid (HE1.out.below b2)
      clear b2 HB1 HX1 HE1 h1 h2
      have HDE : Hid (Calls Tryz.prog 89 #[.string f, witF g1 g2] w2 fun e w' => e = .returned (.tuple #[.int .u64 x, .bool true]) ∧ Below w2.heap.size w2 w') := by
        have h := cdec_any f HFZ.out hw2 HE2.out
        unfold DecPost at h
        rw [← HXX.out] at h
        rw [show decide (x ≠ 0) = true from HB.out] at h
        exact h
      clear hw2
      go_wp2_with fail
      refine HDE.out.mono ?_
      rintro e w3 ⟨rfl, b3⟩
      have HB3 := Lib.hid (HB2.out.trans (b3.mono HB2.out.size))
      have HX3 := Lib.hid (HX2.out.later b3)
      have HE3 := Lib.hid (HE2.out.below b3)
      clear b3 HB2 HX2 HE2 HDE
      have i1 : (n : Int) ≤ s.size := by have := HNL.out; omega
      have i2 : (0 : Int) ≤ n := by omega
      have i3 : (f.size : Int) = n := by have := HFS.out; omega
      have HQ2 : Hid (s.extract n s.size = q) := HQ.out.symm
      have hqx := HQ2.out
      have hfx := HFS.out
      go_upto_region 6 with fail
      have HR1 := Lib.hid (show Calls Tryz.prog 90 #[.string q, .string ⟨#[32, 45, 32]⟩] w3 fun e w' => e = .returned (.bool true) ∧ w' = w3 from by have h := Tryz.strings_HasPrefix q ⟨#[32, 45, 32]⟩ w3; rw [show Lib.hasPrefix q.data.toList (⟨#[32, 45, 32]⟩ : ByteArray).data.toList = true from HPX1.out] at h; exact h)
      clear hqx
      go_wp2_with fail
      refine HR1.out.mono ?_
      rintro e w4 ⟨rfl, hw4⟩
      subst w4
      clear HR1
      have hz2 : q2.size ≤ 1000000 := by rw [HQ3.out]; have := ext_size2 s (n + 3) s.size; have := HSZ.out; omega
      have HTP := Lib.hid (tparse_any q2 w3 HE3.out.1 hz2)
      obtain ⟨TT, hT⟩ : ∃ TT, TT = parseT q2 := ⟨_, rfl⟩
      rw [← hT] at HTP HP2
      have HAT : Hid (TT.2.2 ≤ 3000000) := by show _ ≤ _; rw [hT]; exact parseT_at hz2
      clear hT hz2
      obtain ⟨t, cd, o⟩ := TT
      dsimp only at HTP HP2 HAT
      have i4 : ((n + 3 : Nat) : Int) ≤ s.size := by have := HLE.out; omega
      obtain ⟨m3, hm3⟩ : ∃ m3, m3 = n + 3 := ⟨_, rfl⟩
      have HM3 := Lib.hid hm3
      have hi3 : (n : Int) + 3 = m3 := by omega
      have hw3 : IntKind.i64.wrap (m3 : Int) = m3 := by have := HLE.out; have := HSZ.out; rw [IntKind.wrap_i64]; omega
      have hq3 : s.extract m3 s.size = q2 := by rw [hm3]; exact HQ3.out.symm
      have i5 : (m3 : Int) ≤ s.size := by rw [hm3]; exact i4
      clear hm3 i4
      go_wp2_with fail
      refine HTP.out.mono ?_
      rintro e w5 ⟨rfl, b5⟩
      have b6 : Below w5.heap.size w5 (w5.alloc (.cells (tc t).toArray 25)) := (Below.refl _ _).alloc (Nat.le_refl _) _
      have HB6 := Lib.hid ((HB3.out.trans (b5.mono HB3.out.size)).trans (b6.mono (HB3.out.trans (b5.mono HB3.out.size)).size))
      have HX6 := Lib.hid ((HX3.out.later b5).later b6)
      have HE6 := Lib.hid ((HE3.out.below b5).below b6)
      have HT6 := Lib.hid (tu_new w5 t)
      clear b5 b6 HTP HB3 HX3 HE3 hq3
      by_cases hk : cd = 0
      · subst hk
        rw [errF_zero]
        have HP3 : Hid (parseCT s = (⟨x, true, t⟩, 0, 0)) := by show _ = _; rw [HP2.out]; exact finT_yes rfl
        clear HP2
        go_upto_region 11 with ((with_reducible refine atT w5.heap.size (x := .tmp 12) (y := .tmp 55) (u := t) (o := ⟨none, .store _ _ _, _, _, _, _⟩) ?_ ?_); exact ⟨rfl, rfl, rfl, rfl, rfl, rfl⟩)
        generalize w5.alloc (.cells (tc t).toArray 25) = w6 at HB6 HX6 HE6 HT6 ⊢
        generalize w5.heap.size = g6 at HT6 ⊢
        have hA := HX6.out
        go_wp2_with (first
          | ((with_reducible refine loadT (x := .tmp 12) (o := ⟨some 65, _, _, _, _, _⟩) HT6.out ?_ ?_); exact ⟨rfl, rfl, rfl⟩)
          | ((with_reducible refine buildC (x := .tmp 63) (y := .tmp 64) (z := .tmp 65) (r := x) (d := true) (t := t) (o := ⟨some 66, _, _, _, _, _⟩) ?_ ?_); exact ⟨rfl, rfl, rfl, rfl, rfl⟩)
          | ((with_reducible refine storeC (x := .tmp 2) (y := .tmp 66) (u := ⟨x, true, t⟩) (o := ⟨none, .store _ _ _, _, _, _, _⟩) hA ?_ ?_); exact ⟨rfl, rfl, rfl, rfl⟩))
        refine bodyPost_ret (resC rfl (hA.row _) rfl) rfl ⟨?_, below_row HB6.out (Nat.le_refl _) _⟩
        rw [HP3.out]; rfl
      · have HP3 : Hid (parseCT s = (c0, cd, o + m3)) := by show _ = _; rw [HP2.out, HM3.out]; exact finT_bad hk
        have HZ := Lib.hid hk
        have e0 : errF cd o = faultN cd o := by unfold errF; rw [if_neg hk]
        have HF : Hid (errF cd o = .iface 141 (.agg #[.int .i64 cd, .int .i64 o])) := by show _ = _; rw [e0]; rfl
        rw [HF.out]
        have hq := eqNF cd o
        clear hk e0
        clear HP2
        go_upto_region 11 with ((with_reducible refine atT w5.heap.size (x := .tmp 12) (y := .tmp 55) (u := t) (o := ⟨none, .store _ _ _, _, _, _, _⟩) ?_ ?_); exact ⟨rfl, rfl, rfl, rfl, rfl, rfl⟩)
        generalize w5.alloc (.cells (tc t).toArray 25) = w6 at HB6 HX6 HE6 HT6 ⊢
        generalize w5.heap.size = g6 at HT6 ⊢
        have HSH := Lib.hid (shift_F cd o m3 w6 HE6.out.1.2.1 (by have := HAT.out; omega) (by have := HLE.out; have := HSZ.out; have := HM3.out; omega))
        rw [show faultN cd o = .iface 141 (.agg #[.int .i64 cd, .int .i64 o]) from rfl] at HSH
        go_wp2_with fail
        refine HSH.out.mono ?_
        rintro e w7 ⟨rfl, b7⟩
        have HB7 := Lib.hid (HB6.out.trans (b7.mono HB6.out.size))
        have hA := HX6.out.later b7
        clear b7 HSH HB6
        go_wp2_with ((with_reducible refine storeC (x := .tmp 2) (y := .tmp 59) (u := c0) (o := ⟨none, .store _ _ _, _, _, _, _⟩) hA ?_ ?_); exact ⟨rfl, rfl, rfl, rfl⟩)
        refine bodyPost_ret (resC rfl (hA.row _) rfl) rfl ⟨?_, below_row HB7.out (Nat.le_refl _) _⟩
        rw [HP3.out]
        show _ = Ending.returned (.tuple #[chV c0, errF cd (o + m3)])
        rw [show errF cd (o + m3) = faultN cd (o + m3) by unfold errF; rw [if_neg HZ.out]]; rfl
end Go.Proofs.YtnnebfcggdbgpaaGreatDoor
/-
  fault.New; the law's told.
-/
namespace Go.Proofs.YtnnebfcggdbgpaaGreatDoor
open Go.ChangeShapes Go.WideShapes Go.ChangeAt Go.RowKit
open errAs (ErrT)
set_option linter.unusedVariables false

set_option maxRecDepth 100000 in
theorem told21_none (n : Nat) (w : World) : Calls Tryz.prog 47 #[.nilIface, .int .i64 0, .int .i64 n] w fun e w' => e = .returned (.bool true) ∧ w = w' := by
  go_enter Tryz.func47, Tryz.ntmps47
  go_wp2_with fail
  go_ret
  exact ⟨rfl, rfl⟩
set_option maxRecDepth 100000 in
theorem told21_fault (c n : Nat) (hc : c ≠ 0) (w : World) (hg : ErrT w) : Calls Tryz.prog 47 #[faultN c n, .int .i64 c, .int .i64 n] w fun e w' => e = .returned (.bool true) ∧ Below w.heap.size w w' := by
  have HE := Lib.hid hg
  have h0 : ¬ (c : Int) = 0 := by omega
  have h0' : ((c : Int) == 0) = false := by rw [beq_eq_false_iff_ne]; omega
  clear hg
  unfold faultN
  go_enter Tryz.func47, Tryz.ntmps47
  go_wp2_with fail
  refine (errAs.code_F c n _ HE.out).mono ?_
  rintro e w1 ⟨rfl, b1⟩
  have HE1 := Lib.hid (errT_below HE.out b1)
  have HB1 := Lib.hid b1
  clear b1
  go_wp2_with fail
  refine (errAs.at_F c n _ HE1.out).mono ?_
  rintro e w2 ⟨rfl, b2⟩
  have HB2 := Lib.hid (HB1.out.trans (b2.mono HB1.out.size))
  clear b2
  go_wp2_with fail
  go_ret
  exact ⟨rfl, HB2.out⟩
theorem told21_any (c n : Nat) (w : World) (hg : ErrT w) : Calls Tryz.prog 47 #[errF c n, .int .i64 c, .int .i64 n] w fun e w' => e = .returned (.bool true) ∧ Below w.heap.size w w' := by
  by_cases hc : c = 0
  · subst hc
    exact (told21_none n w).mono fun e w' ⟨h1, h2⟩ => ⟨h1, h2 ▸ Below.refl _ _⟩
  · unfold errF
    rw [if_neg hc]
    exact told21_fault c n hc w hg
end Go.Proofs.YtnnebfcggdbgpaaGreatDoor
/-
  vestrylaw21.awake.
-/
namespace Go.Proofs.YtnnebfcggdbgpaaGreatDoor
open Go.ChangeShapes Go.WideShapes Go.ChangeAt Go.RowKit
open errAs (ErrT)
set_option linter.unusedVariables false

theorem rightC_c0 : rightC c0 = false := by decide +kernel
theorem awakeC_text : ∃ c, parseCT ⟨#[51, 32, 45, 32, 100, 111, 99, 58, 97, 35, 118, 105, 101, 119, 101, 114, 64, 117, 115, 101, 114, 58, 98]⟩ = (c, 0, 0) ∧ rightC c = true ∧ textC c = ⟨#[51, 32, 45, 32, 100, 111, 99, 58, 97, 35, 118, 105, 101, 119, 101, 114, 64, 117, 115, 101, 114, 58, 98]⟩ ∧ c.r = 3 ∧ c.d = true := by
  have h0 : (parseCT ⟨#[51, 32, 45, 32, 100, 111, 99, 58, 97, 35, 118, 105, 101, 119, 101, 114, 64, 117, 115, 101, 114, 58, 98]⟩).2.1 = 0 := by decide +kernel
  have hr : (parseCT ⟨#[51, 32, 45, 32, 100, 111, 99, 58, 97, 35, 118, 105, 101, 119, 101, 114, 64, 117, 115, 101, 114, 58, 98]⟩).1.r = 3 := by decide +kernel
  have hd : (parseCT ⟨#[51, 32, 45, 32, 100, 111, 99, 58, 97, 35, 118, 105, 101, 119, 101, 114, 64, 117, 115, 101, 114, 58, 98]⟩).1.d = true := by decide +kernel
  obtain ⟨h1, h2, h3⟩ := parseCT_back h0
  exact ⟨_, Prod.ext rfl (Prod.ext h0 h3), h1, h2, hr, hd⟩
theorem awakeC_bad : ∃ u, parseC [0] = (u, 15, 0) := ⟨(parseC [0]).1, Prod.ext rfl (by decide +kernel)⟩
theorem log_two {w w' : World} {c : Ch} {e : Ending} (hr : rightC c = true) (h : ((∀ x ∈ [c, c], rightC x = true) ∧ ∃ v, e = .returned (.tuple #[v, .nilIface]) ∧ Held w.heap.size w' v (logC [c, c])) ∨
   (∃ i, ∃ hi : i < [c, c].length, (∀ j, (hj : j < [c, c].length) → j < i → rightC [c, c][j] = true) ∧ rightC [c, c][i] = false ∧ e = .returned (.tuple #[.slice none 0 0, faultN 5 i]))) :
    ∃ v, e = .returned (.tuple #[v, .nilIface]) ∧ Held w.heap.size w' v (logC [c, c]) := by
  rcases h with ⟨_, h⟩ | ⟨i, hi, _, h, _⟩
  · exact h
  · have : [c, c][i] = c := by
      match i, hi with
      | 0, _ => rfl
      | 1, _ => rfl
    rw [this, hr] at h; cases h
theorem chrd_two {w : World} {v : Value} {c : Ch} (h : ChRd w v [c, c]) : ∃ p m, v = .slice (some p) 2 m := by
  rcases h with ⟨_, h⟩ | ⟨a, cap, rfl, _⟩
  · cases h
  · exact ⟨_, _, rfl⟩
theorem rd_zero (w : World) : Rd (w.alloc (.cells #[.int .u8 0] 5)).heap.size (w.alloc (.cells #[.int .u8 0] 5)) (.slice (some ⟨w.heap.size, 0, none⟩) 1 1) [0] := by
  refine .inr ⟨w.heap.size, 0, 1, rfl, Nat.le_refl _, by decide, by simp, fun i hi => ?_⟩
  obtain rfl : i = 0 := by simpa using hi
  exact (Arr.new' w 5 #[.int .u8 0] [.int .u8 0] rfl).cell 0
set_option maxRecDepth 100000 in
set_option maxHeartbeats 4000000 in
theorem cawake_any (w : World) (hE : EnvU w) : Calls Tryz.prog 37 #[] w fun e w' => e = .returned (.bool true) ∧ Below w.heap.size w w' := by
  obtain ⟨c, hp, hr, ht, h3, hd⟩ := awakeC_text
  obtain ⟨u, hq⟩ := awakeC_bad
  have HE := Lib.hid hE
  have HR := Lib.hid hr
  have HQ := Lib.hid hq
  have HTX := Lib.hid ht
  have H3 := Lib.hid h3
  have HD := Lib.hid hd
  have HP : Hid (Calls Tryz.prog 43 #[.string ⟨#[51, 32, 45, 32, 100, 111, 99, 58, 97, 35, 118, 105, 101, 119, 101, 114, 64, 117, 115, 101, 114, 58, 98]⟩] w fun e w' => e = .returned (.tuple #[chV c, .nilIface]) ∧ Below w.heap.size w w') := by
    have h := cptext_any ⟨#[51, 32, 45, 32, 100, 111, 99, 58, 97, 35, 118, 105, 101, 119, 101, 114, 64, 117, 115, 101, 114, 58, 98]⟩ w hE (by decide)
    rw [hp] at h
    exact h
  clear hE hr hq ht hp h3 hd
  go_enter Tryz.func37, Tryz.ntmps37
  go_wp2_with fail
  refine HP.out.mono ?_
  rintro e w1 ⟨rfl, b1⟩
  have hb2 : Below w1.heap.size w1 (w1.alloc (.cells (chc c).toArray 61)) := (Below.refl _ _).alloc (Nat.le_refl _) _
  have HB2 := Lib.hid (b1.trans (hb2.mono b1.size))
  have HE2 := Lib.hid ((HE.out.below b1).below hb2)
  have HX2 := Lib.hid (ch_new w1 c)
  clear b1 hb2 HP HE
  go_upto_region 2 with ((with_reducible refine atC w1.heap.size (x := .tmp 1) (y := .tmp 17) (u := c) (o := ⟨none, .store _ _ _, _, _, _, _⟩) ?_ ?_); exact ⟨rfl, rfl, rfl, rfl, rfl, rfl⟩)
  generalize w1.alloc (.cells (chc c).toArray 61) = w2 at HB2 HE2 HX2 ⊢
  generalize w1.heap.size = g2 at HX2 ⊢
  have HT := Lib.hid (ctextC_yes c HR.out w2 HE2.out)
  rw [HTX.out] at HT
  go_wp2_with ((with_reducible refine loadC (x := .tmp 1) (u := c) (o := ⟨some 20, _, _, _, _, _⟩) HX2.out ?_ ?_); exact ⟨rfl, rfl, rfl⟩)
  refine HT.out.mono ?_
  rintro e w3 ⟨rfl, b3⟩
  have HB3 := Lib.hid (HB2.out.trans (b3.mono HB2.out.size))
  have HE3 := Lib.hid (HE2.out.below b3)
  have HX3 := Lib.hid (HX2.out.later b3)
  clear b3 HB2 HE2 HX2 HT
  have HPU := Lib.hid (cputC_yes c HR.out w3 HE3.out.1.1)
  go_wp2_with ((with_reducible refine loadC (x := .tmp 1) (u := c) (o := ⟨some 25, _, _, _, _, _⟩) HX3.out ?_ ?_); exact ⟨rfl, rfl, rfl⟩)
  refine HPU.out.mono ?_
  rintro e w4 ⟨v, rfl, hh, b4⟩
  have HB4 := Lib.hid (HB3.out.trans (b4.mono HB3.out.size))
  have HE4 := Lib.hid (HE3.out.below b4)
  have HX4 := Lib.hid (HX3.out.later b4)
  clear b4 HB3 HE3 HX3 HPU
  have HPB : Hid (Calls Tryz.prog 42 #[v] w4 fun e w' => e = .returned (.tuple #[chV c, .nilIface]) ∧ Below w4.heap.size w4 w') := by
    have h := cparse_any hh.rd (Nat.le_refl _) (Nat.le_trans (putC_len HR.out) (by decide)) HE4.out.1
    rw [parseC_put HR.out] at h
    exact h
  obtain ⟨pv, nv, cv, rfl⟩ := held_sl hh
  clear hh
  go_wp2_with fail
  refine HPB.out.mono ?_
  rintro e w5 ⟨rfl, b5⟩
  have hb6 : Below w5.heap.size w5 (w5.alloc (.cells (chc c).toArray 61)) := (Below.refl _ _).alloc (Nat.le_refl _) _
  have hb56 := b5.trans (hb6.mono b5.size)
  have HY6 := Lib.hid (ch_new w5 c)
  have HB6 := Lib.hid (HB4.out.trans (hb56.mono HB4.out.size))
  have HE6 := Lib.hid (HE4.out.below hb56)
  have HX6 := Lib.hid (HX4.out.later hb56)
  clear hb56 HB4 HE4 HX4 b5 hb6 HPB
  go_upto_region 5 with ((with_reducible refine atC w5.heap.size (x := .tmp 7) (y := .tmp 32) (u := c) (o := ⟨none, .store _ _ _, _, _, _, _⟩) ?_ ?_); exact ⟨rfl, rfl, rfl, rfl, rfl, rfl⟩)
  generalize w5.alloc (.cells (chc c).toArray 61) = w6 at HB6 HE6 HX6 HY6 ⊢
  generalize w5.heap.size = g6 at HY6 ⊢
  have HX6' := HX6
  have hb7 : Below w6.heap.size w6 (w6.alloc (.cells #[.int .u64 c.r, .bool c.d, .string c.t.ot, .string c.t.oi, .string c.t.re, .string c.t.st, .string c.t.si, .string c.t.us, .int .u64 c.r, .bool c.d, .string c.t.ot, .string c.t.oi, .string c.t.re, .string c.t.st, .string c.t.si, .string c.t.us] 61)) := (Below.refl _ _).alloc (Nat.le_refl _) _
  have HLG := Lib.hid (clog_any (w := w6.alloc (.cells #[.int .u64 c.r, .bool c.d, .string c.t.ot, .string c.t.oi, .string c.t.re, .string c.t.st, .string c.t.si, .string c.t.us, .int .u64 c.r, .bool c.d, .string c.t.ot, .string c.t.oi, .string c.t.re, .string c.t.st, .string c.t.si, .string c.t.us] 61)) (sv := .slice (some ⟨w6.heap.size, 0, none⟩) 2 2) (l := [c, c]) (.inr ⟨⟨w6.heap.size, 0, none⟩, 2, rfl, Nat.le_refl _, fun _ => ⟨w6.heap.size, 0, rfl, by simp, Arr.range (Arr.new' w6 61 _ _ rfl)⟩⟩) (by show 2 ≤ 1000000; decide) (HE6.out.below hb7).1.1)
  have HB7 := Lib.hid (HB6.out.trans (hb7.mono HB6.out.size))
  have HE7 := Lib.hid (HE6.out.below hb7)
  have HX7 := Lib.hid (HX6.out.later hb7)
  have HY7 := Lib.hid (HY6.out.later hb7)
  clear hb7 HB6 HE6 HX6 HY6 
  go_wp2_with (first
    | ((with_reducible refine loadCX (x := .tmp 1) (u := c) (o := ⟨some 35, _, _, _, _, _⟩) HX6'.out ?_ ?_); exact ⟨rfl, rfl, rfl⟩)
    | ((with_reducible refine loadCX (x := .tmp 1) (u := c) (o := ⟨some 36, _, _, _, _, _⟩) HX6'.out ?_ ?_); exact ⟨rfl, rfl, rfl⟩))
  refine HLG.out.mono ?_
  rintro e w8 ⟨b8, hlg⟩
  obtain ⟨v8, rfl, h8⟩ := log_two HR.out hlg
  have HB8 := Lib.hid (HB7.out.trans (b8.mono HB7.out.size))
  have HE8 := Lib.hid (HE7.out.below b8)
  have HX8 := Lib.hid (HX7.out.later b8)
  have HY8 := Lib.hid (HY7.out.later b8)
  clear b8 HB7 HE7 HX7 HY7 HLG hlg
  have HPL := Lib.hid (cplog_any h8.rd (Nat.le_refl _) (Nat.le_trans (logC_len (l := [c, c]) (fun x hx => by rw [List.mem_cons, List.mem_singleton] at hx; rcases hx with rfl | rfl <;> exact HR.out)) (by show 2 * 640 ≤ 1000000; decide)) HE8.out.1)
  unfold LgPost at HPL
  rw [parseLg_log (l := [c, c]) (fun x hx => by rw [List.mem_cons, List.mem_singleton] at hx; rcases hx with rfl | rfl <;> exact HR.out), errF_zero] at HPL
  obtain ⟨q8, n8, m8, rfl⟩ := held_sl h8
  clear h8
  go_wp2_with fail
  refine HPL.out.mono ?_
  rintro e w9 ⟨v9, rfl, h9, b9⟩
  obtain ⟨p9, c9, rfl⟩ := chrd_two h9
  have HB9 := Lib.hid (HB8.out.trans (b9.mono HB8.out.size))
  have HE9 := Lib.hid (HE8.out.below b9)
  have HX9 := Lib.hid (HX8.out.later b9)
  have HY9 := Lib.hid (HY8.out.later b9)
  clear b9 HB8 HE8 HX8 HY8 HPL h9
  have hb10 : Below w9.heap.size w9 (w9.alloc (.cells #[.int .u8 0] 5)) := (Below.refl _ _).alloc (Nat.le_refl _) _
  have HPZ : Hid (Calls Tryz.prog 42 #[.slice (some ⟨w9.heap.size, 0, none⟩) 1 1] (w9.alloc (.cells #[.int .u8 0] 5)) fun e w' => e = .returned (.tuple #[chV u, errF 15 0]) ∧ Below (w9.alloc (.cells #[.int .u8 0] 5)).heap.size (w9.alloc (.cells #[.int .u8 0] 5)) w') := by
    have h := cparse_any (rd_zero w9) (Nat.le_refl _) (by decide) (HE9.out.below hb10).1
    rw [HQ.out] at h
    exact h
  have HB10 := Lib.hid (HB9.out.trans (hb10.mono HB9.out.size))
  have HE10 := Lib.hid (HE9.out.below hb10)
  have HX10 := Lib.hid (HX9.out.later hb10)
  have HY10 := Lib.hid (HY9.out.later hb10)
  clear hb10 HB9 HE9 HX9 HY9 
  go_wp2_with fail
  refine HPZ.out.mono ?_
  rintro e w11 ⟨rfl, b11⟩
  have hb12 : Below w11.heap.size w11 (w11.alloc (.cells (chc u).toArray 61)) := (Below.refl _ _).alloc (Nat.le_refl _) _
  have hb112 := b11.trans (hb12.mono b11.size)
  have HB12 := Lib.hid (HB10.out.trans (hb112.mono HB10.out.size))
  have HE12 := Lib.hid (HE10.out.below hb112)
  have HX12 := Lib.hid (HX10.out.later hb112)
  have HY12 := Lib.hid (HY10.out.later hb112)
  clear hb112 HB10 HE10 HX10 HY10 b11 hb12 HPZ
  go_upto_region 8 with ((with_reducible refine atC w11.heap.size (x := .tmp 13) (y := .tmp 49) (u := u) (o := ⟨none, .store _ _ _, _, _, _, _⟩) ?_ ?_); exact ⟨rfl, rfl, rfl, rfl, rfl, rfl⟩)
  generalize w11.alloc (.cells (chc u).toArray 61) = w12 at HB12 HE12 HX12 HY12 ⊢
  have c0 : w12.cell? ⟨g2, 0, none⟩ = some (.int .u64 3) := by have := (ChAt.cells HX12.out).1; rwa [H3.out] at this
  have c1 : w12.cell? ⟨g2, 1, none⟩ = some (.bool true) := by have := (ChAt.cells HX12.out).2; rwa [HD.out] at this
  have HTO := Lib.hid (told21_any 15 0 w12 HE12.out.1.2.1)
  have hee : Hid (eqC c c = true) := eqC_refl c
  go_wp2_with (first
    | ((with_reducible refine loadC (x := .tmp 7) (u := c) (o := ⟨some 73, _, _, _, _, _⟩) HY12.out ?_ ?_); exact ⟨rfl, rfl, rfl⟩)
    | ((with_reducible refine loadC (x := .tmp 1) (u := c) (o := ⟨some 74, _, _, _, _, _⟩) HX12.out ?_ ?_); exact ⟨rfl, rfl, rfl⟩)
    | ((with_reducible refine eqCW hee.out (t := 61) (x := .tmp 73) (y := .tmp 74) (o := ⟨some 75, _, _, _, _, _⟩) ?_ ?_); exact ⟨rfl, rfl, rfl, rfl⟩))
  refine HTO.out.mono ?_
  rintro e w13 ⟨rfl, b13⟩
  have HB13 := Lib.hid (HB12.out.trans (b13.mono HB12.out.size))
  have HE13 := Lib.hid (HE12.out.below b13)
  have HX13 := Lib.hid (HX12.out.later b13)
  have HRT := Lib.hid (cright_any c w13 HE13.out.1.1)
  rw [HR.out] at HRT
  clear b13 HB12 HE12 HX12 HTO HY12 c0 c1
  go_wp2_with ((with_reducible refine loadC (x := .tmp 1) (u := c) (o := ⟨some 99, _, _, _, _, _⟩) HX13.out ?_ ?_); exact ⟨rfl, rfl, rfl⟩)
  refine HRT.out.mono ?_
  rintro e w14 ⟨rfl, b14⟩
  have HB14 := Lib.hid (HB13.out.trans (b14.mono HB13.out.size))
  have HE14 := Lib.hid (HE13.out.below b14)
  have HR0 := Lib.hid (cright_any c0 w14 HE14.out.1.1)
  rw [rightC_c0] at HR0
  clear b14 HB13 HE13  HRT HX13
  go_wp2_with fail
  refine HR0.out.mono ?_
  rintro e w15 ⟨rfl, b15⟩
  have HB15 := Lib.hid (HB14.out.trans (b15.mono HB14.out.size))
  clear b15 HR0
  go_wp2_with fail
  go_ret
  exact ⟨rfl, HB15.out⟩
end Go.Proofs.YtnnebfcggdbgpaaGreatDoor
/-
  The reference's ParseText.
-/
namespace Go.Proofs.YtnnebfcggdbgpaaGreatDoor
open Go.ChangeShapes Go.WideShapes Go.ChangeAt Go.RowKit
open errAs (ErrT)
set_option linter.unusedVariables false

theorem spP_list : spP.toList = [32, 43, 32] := by decide +kernel
theorem smP_list : smP.toList = [32, 45, 32] := by decide +kernel
theorem eq_pre (s : ByteArray) (n : Nat) (p : ByteArray) (hp : p.data.toList.length = 3) (h : n + 3 ≤ s.size) : ((s.extract n (n + 3)).toList == p.toList) = Lib.hasPrefix (s.data.toList.drop n) p.data.toList := by
  have hd : decide (3 ≤ (s.data.toList.drop n).length) = true := decide_eq_true (by rw [List.length_drop, size_len]; omega)
  rw [strEq, ← Lib.hasPrefix_of_take, hp, hd, Bool.true_and]
  have e : (s.extract n (n + 3)).data.toList = (s.data.toList.drop n).take 3 := by rw [ext_mid, bstr_data, List.drop_take]; congr 1; omega
  rw [← e]
  by_cases h2 : s.extract n (n + 3) = p
  · rw [decide_eq_true h2, h2]; simp
  · rw [decide_eq_false h2]
    exact (beq_eq_false_iff_ne.2 fun h3 => h2 (bytes_inj h3)).symm
theorem byte_at (s : ByteArray) (n : Nat) (p : ByteArray) {c : UInt8} (h : Lib.hasPrefix (s.data.toList.drop n) p.data.toList = true) (hp : p.data.toList[1]? = some c) (hl : n + 3 ≤ s.size) : s[n + 1]'(by omega) = c := by
  obtain ⟨r, hr⟩ := (pre_iff _ _).1 h
  have e : (s.data.toList.drop n)[1]? = some c := by
    rw [← hr, List.getElem?_append_left (List.getElem?_eq_some_iff.1 hp).1]; exact hp
  rw [List.getElem?_drop] at e
  have := (List.getElem?_eq_some_iff.1 e).2
  exact this
theorem stillB {ops : Array Oper} {rest : List Oper} {o : Oper} {a : Act} {Q' : Act → Prop} {w : World} {x y z : Operand} {r : Nat} {d : Bool} {t : Tu}
    (hs : o.guard = none ∧ o.op = .build 61 #[(0, x), (1, y), (2, z)] ∧ a.eval x = .int .u64 r ∧ a.eval y = .bool d ∧ a.eval z = tuV t)
    (hk : wpStill Tryz.prog ops w Q' rest (a.put o.dst (chV ⟨r, d, t⟩))) : wpStill Tryz.prog ops w Q' (o :: rest) a := by
  refine wpStill_step (fun K hK => ?_)
  rw [if_pos (by unfold Region.wanted; rw [hs.1])]
  unfold Oper.still execOp
  simp only [hs.2.1, List.map_toArray, List.map_cons, List.map_nil, hs.2.2.1, hs.2.2.2.1, hs.2.2.2.2, Sem.run_bind, buildC_run, Result.andThen_ok, Sem.run_pure]
  exact ⟨rfl, hK _ hk⟩
set_option maxRecDepth 100000 in
set_option maxHeartbeats 8000000 in
theorem rcptext_any (s : ByteArray) (w : World) (hs : s.size ≤ 1000000) :
    Calls Tryz.prog 48 #[.string s] w fun e w' => e = .returned (.tuple #[chV (parseCT s).1, .int .i64 ((parseCT s).2.1 : Nat), .int .i64 ((parseCT s).2.2 : Nat)]) ∧ Below w.heap.size w w' := by
  have b0 : Below w.heap.size w (w.alloc (.cells (chc c0).toArray 61)) := (Below.refl _ _).alloc (Nat.le_refl _) _
  have HB0 := Lib.hid b0
  have HX0 := Lib.hid (ch_new w c0)
  have HSZ := Lib.hid hs
  have hnl := spaceN_le s
  obtain ⟨n, hn⟩ : ∃ n, n = spaceN s := ⟨_, rfl⟩
  obtain ⟨f, hf⟩ : ∃ f, f = s.extract 0 n := ⟨_, rfl⟩
  rw [← hn] at hnl
  have hfs : f.size = n := by rw [hf]; exact ext_size hnl
  have hfd : f.data.toList = s.data.toList.take n := by rw [hf]; exact extc_take s n
  obtain ⟨L, hL⟩ : ∃ L, L = s.data.toList.drop n := ⟨_, rfl⟩
  have HP : Hid (parseCT s = parseN s n (numS f.data.toList) (sgnL L)) := by show _ = _; unfold parseCT; rw [← hn, hfd, hL]
  obtain ⟨x, hx⟩ : ∃ x, x = numS f.data.toList := ⟨_, rfl⟩
  have HRN : Hid (∀ W, Calls Tryz.prog 94 #[.string f] W fun e w' => e = .returned (.int .u64 x) ∧ w' = W) := fun W => by rw [hx]; exact rnum_any f (by omega) W
  rw [← hx] at HP
  have HNL := Lib.hid hnl
  have HLL : Hid (L.length = s.size - n) := by show _ = _; rw [hL, List.length_drop, size_len]
  have HF := Lib.hid hf
  have HLD := Lib.hid hL
  have HFI : Hid (∃ z : Int, (Calls Tryz.prog 68 #[.string s, .int .u8 32] (w.alloc (.cells (chc c0).toArray 61)) fun e w' => e = .returned (.int .i64 z) ∧ w.alloc (.cells (chc c0).toArray 61) = w') ∧ ((n < s.size ∧ z = n) ∨ (n = s.size ∧ z = -1))) := by
    refine ⟨_, find_any s 32 hs _, ?_⟩
    have e : fnd s.data.toList 32 = n := hn.symm
    rw [e]
    by_cases h : n < s.size
    · exact .inl ⟨h, by rw [if_pos h]⟩
    · exact .inr ⟨by omega, by rw [if_neg h]⟩
  clear hs hn hf hfs hfd hL hx b0 hnl
  obtain ⟨z, HFI, hz⟩ := HFI.out
  have HFI := Lib.hid HFI
  have HZZ := Lib.hid hz
  clear hz
  by_cases hx : x = 0
  · have HP2 : Hid (parseCT s = (c0, 6, 0)) := by show _ = _; rw [HP.out]; exact parseN_0 hx
    have q1 : ((x : Int) == 0) = true := by rw [hx]; rfl
    clear HP
    go_enter Tryz.func48, Tryz.ntmps48
    go_wp2_with fail
    refine HFI.out.mono ?_
    rintro e w1 ⟨rfl, hw1⟩
    subst hw1
    clear HFI
    generalize w.alloc (.cells (chc c0).toArray 61) = w1 at HB0 HX0 ⊢
    have i1 : (n : Int) ≤ s.size := by have := HNL.out; omega
    have i2 : (0 : Int) ≤ n := by omega
    have hfx := HF.out.symm
    have hR := HRN.out w1
    obtain ⟨hlt, hz⟩ | ⟨hlt, hz⟩ := HZZ.out
    · subst hz
      have i3 : ¬ (n : Int) < 0 := by omega
      have HR := Lib.hid hR
      clear hlt HZZ hR
      go_wp2_with fail
      refine HR.out.mono ?_
      rintro e w2 ⟨rfl, hw2⟩
      subst w2
      clear HR
      have hA := HX0.out
      go_wp2_with ((with_reducible refine storeC (x := .tmp 2) (y := .tmp 22) (u := c0) (o := ⟨none, .store _ _ _, _, _, _, _⟩) hA ?_ ?_); exact ⟨rfl, rfl, rfl, rfl⟩)
      refine bodyPost_ret (resC2 rfl (hA.row _) rfl) rfl ⟨?_, below_row HB0.out (Nat.le_refl _) _⟩
      rw [HP2.out]; rfl
    · subst hz
      have i3 : (s.size : Int) = n := by omega
      have HR := Lib.hid hR
      clear hlt HZZ hR
      go_wp2_with fail
      refine HR.out.mono ?_
      rintro e w2 ⟨rfl, hw2⟩
      subst w2
      clear HR
      have hA := HX0.out
      go_wp2_with ((with_reducible refine storeC (x := .tmp 2) (y := .tmp 22) (u := c0) (o := ⟨none, .store _ _ _, _, _, _, _⟩) hA ?_ ?_); exact ⟨rfl, rfl, rfl, rfl⟩)
      refine bodyPost_ret (resC2 rfl (hA.row _) rfl) rfl ⟨?_, below_row HB0.out (Nat.le_refl _) _⟩
      rw [HP2.out]; rfl
  · rcases sgnL_cases L with hs0 | hs1 | hs2
    · by_cases hlen : s.size < n + 3
      · have HP2 : Hid (parseCT s = (c0, 6, n)) := by show _ = _; rw [HP.out]; exact parseN_1 hx hs0
        obtain ⟨m3, hm3⟩ : ∃ m3, m3 = n + 3 := ⟨_, rfl⟩
        have HM3 := Lib.hid hm3
        have hi3 : (n : Int) + 3 = m3 := by omega
        have hw3 : IntKind.i64.wrap (m3 : Int) = m3 := by have := HNL.out; have := HSZ.out; rw [IntKind.wrap_i64]; omega
        have q1 : ((x : Int) == 0) = false := by rw [beq_eq_false_iff_ne]; omega
        have i4 : (s.size : Int) < m3 := by omega
        clear HP hx hs0 hlen hm3
        go_enter Tryz.func48, Tryz.ntmps48
        go_wp2_with fail
        refine HFI.out.mono ?_
        rintro e w1 ⟨rfl, hw1⟩
        subst hw1
        clear HFI
        generalize w.alloc (.cells (chc c0).toArray 61) = w1 at HB0 HX0 ⊢
        have i1 : (n : Int) ≤ s.size := by have := HNL.out; omega
        have i2 : (0 : Int) ≤ n := by omega
        have hfx := HF.out.symm
        have hR := HRN.out w1
        obtain ⟨hlt, hz⟩ | ⟨hlt, hz⟩ := HZZ.out
        · subst hz
          have i3 : ¬ (n : Int) < 0 := by omega
          have HR := Lib.hid hR
          clear hlt HZZ hR
          go_wp2_with fail
          refine HR.out.mono ?_
          rintro e w2 ⟨rfl, hw2⟩
          subst w2
          clear HR
          have hA := HX0.out
          go_wp2_with ((with_reducible refine storeC (x := .tmp 2) (y := .tmp 44) (u := c0) (o := ⟨none, .store _ _ _, _, _, _, _⟩) hA ?_ ?_); exact ⟨rfl, rfl, rfl, rfl⟩)
          refine bodyPost_ret (resC2 rfl (hA.row _) rfl) rfl ⟨?_, below_row HB0.out (Nat.le_refl _) _⟩
          rw [HP2.out]; rfl
        · subst hz
          have i3 : (s.size : Int) = n := by omega
          have HR := Lib.hid hR
          clear hlt HZZ hR
          go_wp2_with fail
          refine HR.out.mono ?_
          rintro e w2 ⟨rfl, hw2⟩
          subst w2
          clear HR
          have hA := HX0.out
          go_wp2_with ((with_reducible refine storeC (x := .tmp 2) (y := .tmp 44) (u := c0) (o := ⟨none, .store _ _ _, _, _, _, _⟩) hA ?_ ?_); exact ⟨rfl, rfl, rfl, rfl⟩)
          refine bodyPost_ret (resC2 rfl (hA.row _) rfl) rfl ⟨?_, below_row HB0.out (Nat.le_refl _) _⟩
          rw [HP2.out]; rfl
      · have HP2 : Hid (parseCT s = (c0, 6, n)) := by show _ = _; rw [HP.out]; exact parseN_1 hx hs0
        obtain ⟨h1, h2⟩ := sgnL_zero hs0
        obtain ⟨m3, hm3⟩ : ∃ m3, m3 = n + 3 := ⟨_, rfl⟩
        have HM3 := Lib.hid hm3
        have hi3 : (n : Int) + 3 = m3 := by omega
        have hw3 : IntKind.i64.wrap (m3 : Int) = m3 := by have := HNL.out; have := HSZ.out; rw [IntKind.wrap_i64]; omega
        have q1 : ((x : Int) == 0) = false := by rw [beq_eq_false_iff_ne]; omega
        obtain ⟨q3, hq3⟩ : ∃ q3, q3 = s.extract n m3 := ⟨_, rfl⟩
        have e1' : (q3.toList == [32, 43, 32]) = false := by
          have h := eq_pre s n spP rfl (by omega)
          rw [← HLD.out, h1, spP_list] at h
          rw [hq3, hm3]; exact h
        have e1 : ¬ q3.toList = [32, 43, 32] := beq_eq_false_iff_ne.1 e1'
        have e2' : (q3.toList == [32, 45, 32]) = false := by
          have h := eq_pre s n smP rfl (by omega)
          rw [← HLD.out, h2, smP_list] at h
          rw [hq3, hm3]; exact h
        have e2 : ¬ q3.toList = [32, 45, 32] := beq_eq_false_iff_ne.1 e2'
        replace hq3 := hq3.symm
        have i4 : decide (s.size < m3) = false := decide_eq_false (by omega)
        have i5 : (m3 : Int) ≤ s.size := by omega
        have i6 : (n : Int) ≤ m3 := by omega
        have j5 : m3 ≤ s.size := by omega
        have j6 : n ≤ m3 := by omega
        have j7 : (0 : Int) ≤ m3 := by omega
        have HLEN : Hid (n + 3 ≤ s.size) := by show _ ≤ _; omega
        clear HP hx hs0 hlen hm3 h1 h2
        go_enter Tryz.func48, Tryz.ntmps48
        go_wp2_with fail
        refine HFI.out.mono ?_
        rintro e w1 ⟨rfl, hw1⟩
        subst hw1
        clear HFI
        generalize w.alloc (.cells (chc c0).toArray 61) = w1 at HB0 HX0 ⊢
        have i1 : (n : Int) ≤ s.size := by have := HNL.out; omega
        have i2 : (0 : Int) ≤ n := by omega
        have hfx := HF.out.symm
        have hR := HRN.out w1
        obtain ⟨hlt, hz⟩ | ⟨hlt, hz⟩ := HZZ.out
        · subst hz
          have i3 : ¬ (n : Int) < 0 := by omega
          have HR := Lib.hid hR
          clear hlt HZZ hR
          go_wp2_with fail
          refine HR.out.mono ?_
          rintro e w2 ⟨rfl, hw2⟩
          subst w2
          clear HR
          have hA := HX0.out
          go_wp2_with ((with_reducible refine storeC (x := .tmp 2) (y := .tmp 44) (u := c0) (o := ⟨none, .store _ _ _, _, _, _, _⟩) hA ?_ ?_); exact ⟨rfl, rfl, rfl, rfl⟩)
          refine bodyPost_ret (resC2 rfl (hA.row _) rfl) rfl ⟨?_, below_row HB0.out (Nat.le_refl _) _⟩
          rw [HP2.out]; rfl
        · exact absurd hlt (by have := HLEN.out; omega)
    · obtain ⟨h1, h2⟩ := sgnL_one hs1
      have hlen : n + 3 ≤ s.size := by
        have h1 := Lib.hasPrefix_le h1
        have h3 : (spP).data.toList.length = 3 := rfl
        have h4 := HLL.out
        omega
      obtain ⟨q2, hq2⟩ : ∃ q2, q2 = s.extract (n + 3) s.size := ⟨_, rfl⟩
      have HP2 : Hid (parseCT s = finT x n 1 (parseT q2)) := by show _ = _; rw [HP.out, parseN_2 hx (by omega), hs1, hq2]
      have hby := byte_at s n spP (by rw [← HLD.out]; exact h1) (by rfl) hlen
      obtain ⟨m3, hm3⟩ : ∃ m3, m3 = n + 3 := ⟨_, rfl⟩
      have HM3 := Lib.hid hm3
      have hi3 : (n : Int) + 3 = m3 := by omega
      have hw3 : IntKind.i64.wrap (m3 : Int) = m3 := by have := HNL.out; have := HSZ.out; rw [IntKind.wrap_i64]; omega
      have q1 : ((x : Int) == 0) = false := by rw [beq_eq_false_iff_ne]; omega
      obtain ⟨q3, hq3⟩ : ∃ q3, q3 = s.extract n m3 := ⟨_, rfl⟩
      have e1' : (q3.toList == [32, 43, 32]) = true := by
        have h := eq_pre s n spP rfl (by omega)
        rw [← HLD.out, h1, spP_list] at h
        rw [hq3, hm3]; exact h
      have e1 : q3.toList = [32, 43, 32] := beq_iff_eq.1 e1'
      have e2' : (q3.toList == [32, 45, 32]) = false := by
        have h := eq_pre s n smP rfl (by omega)
        rw [← HLD.out, h2, smP_list] at h
        rw [hq3, hm3]; exact h
      have e2 : ¬ q3.toList = [32, 45, 32] := beq_eq_false_iff_ne.1 e2'
      clear e1'
      replace hq3 := hq3.symm
      have i4 : decide (s.size < m3) = false := decide_eq_false (by omega)
      have i5 : (m3 : Int) ≤ s.size := by omega
      have i6 : (n : Int) ≤ m3 := by omega
      have j5 : m3 ≤ s.size := by omega
      have j6 : n ≤ m3 := by omega
      have j7 : (0 : Int) ≤ m3 := by omega
      have hz2 : q2.size ≤ 1000000 := by rw [hq2]; have := ext_size2 s (n + 3) s.size; have := HSZ.out; omega
      have HTP : Hid (∀ W, Calls Tryz.prog 24 #[.string q2] W fun e w' => e = .returned (.tuple #[tuV (parseT q2).1, .int .i64 ((parseT q2).2.1 : Nat), .int .i64 ((parseT q2).2.2 : Nat)]) ∧ Below W.heap.size W w') := fun W => rtparse_any q2 W hz2
      obtain ⟨TT, hT⟩ : ∃ TT, TT = parseT q2 := ⟨_, rfl⟩
      rw [← hT] at HTP HP2
      have HAT : Hid (TT.2.2 ≤ 3000000) := by show _ ≤ _; rw [hT]; exact parseT_at hz2
      have hq3' : s.extract m3 s.size = q2 := by rw [hm3]; exact hq2.symm
      obtain ⟨m1, hm1⟩ : ∃ m1, m1 = n + 1 := ⟨_, rfl⟩
      have hi1 : (n : Int) + 1 = m1 := by omega
      have hw1 : IntKind.i64.wrap (m1 : Int) = m1 := by have := HNL.out; have := HSZ.out; rw [IntKind.wrap_i64]; omega
      have hl1 : m1 < s.size := by omega
      have hy : ((s[m1].toNat : Int) == 45) = false := by
        have h := hby
        subst hm1
        rw [h]; rfl
      have il1 : (m1 : Int) < s.size := by omega
      have HLEN := Lib.hid hlen
      obtain ⟨t, cd, o⟩ := TT
      dsimp only at HTP HP2 HAT
      clear HP hx hlen hm3 h1 h2 hq2 hz2 hT hm1 hby hs1
      by_cases hk : cd = 0
      · subst hk
        have HP3 : Hid (parseCT s = (⟨x, false, t⟩, 0, 0)) := by show _ = _; rw [HP2.out]; exact finT_yes rfl
        clear HP2
        go_enter Tryz.func48, Tryz.ntmps48
        go_wp2_with fail
        refine HFI.out.mono ?_
        rintro e w1 ⟨rfl, hw1⟩
        subst hw1
        clear HFI
        generalize w.alloc (.cells (chc c0).toArray 61) = w1 at HB0 HX0 ⊢
        have i1 : (n : Int) ≤ s.size := by have := HNL.out; omega
        have i2 : (0 : Int) ≤ n := by omega
        have hfx := HF.out.symm
        have hR := HRN.out w1
        obtain ⟨hlt, hz⟩ | ⟨hlt, hz⟩ := HZZ.out
        · subst hz
          have i3 : ¬ (n : Int) < 0 := by omega
          have HR := Lib.hid hR
          clear hlt HZZ hR
          go_wp2_with fail
          refine HR.out.mono ?_
          rintro e w2 ⟨rfl, hw2⟩
          subst w2
          clear HR
          go_wp2_with fail
          refine (HTP.out w1).mono ?_
          rintro e w5 ⟨rfl, b5⟩
          have b6 : Below w5.heap.size w5 (w5.alloc (.cells (tc t).toArray 25)) := (Below.refl _ _).alloc (Nat.le_refl _) _
          have HB6 := Lib.hid ((HB0.out.trans (b5.mono HB0.out.size)).trans (b6.mono (HB0.out.trans (b5.mono HB0.out.size)).size))
          have HX6 := Lib.hid ((HX0.out.later b5).later b6)
          have HT6 := Lib.hid (tu_new w5 t)
          clear b5 b6 HTP HB0 HX0
          go_upto_region 10 with ((with_reducible refine atT w5.heap.size (x := .tmp 7) (y := .tmp 52) (u := t) (o := ⟨none, .store _ _ _, _, _, _, _⟩) ?_ ?_); exact ⟨rfl, rfl, rfl, rfl, rfl, rfl⟩)
          generalize w5.alloc (.cells (tc t).toArray 25) = w6 at HB6 HX6 HT6 ⊢
          generalize w5.heap.size = g6 at HT6 ⊢
          go_wp2_with fail
          refine region_tail 8 (by kernel_rfl) (by kernel_rfl) ?_
          simp only [List.take_succ_cons, List.take_zero, List.drop_succ_cons, List.drop_zero]
          have HRG : Hid ((w6.drew).rangeAt g6 0 (tc t)) := HT6.out.range
          repeat first
            | still_step
            | ((with_reducible refine stillG (x := .tmp 7) (o := ⟨some 69, _, _, _, _, _⟩) HRG.out ?_ ?_); exact ⟨rfl, rfl, by go_simp⟩)
            | ((with_reducible refine stillB (x := .tmp 63) (y := .tmp 68) (z := .tmp 69) (r := x) (d := false) (t := t) (o := ⟨some 70, _, _, _, _, _⟩) ?_ ?_); exact ⟨rfl, rfl, rfl, rfl, rfl⟩)
          refine wpStill_nil ?_
          have HB7 := Lib.hid (HB6.out.trans ((Below.refl w6.heap.size w6).drew.mono HB6.out.size))
          have hA := HX6.out.later (Below.refl w6.heap.size w6).drew
          clear HRG HB6
          generalize w6.drew = w7 at HB7 hA ⊢
          go_wp2_with ((with_reducible refine storeC (x := .tmp 2) (y := .tmp 70) (u := ⟨x, false, t⟩) (o := ⟨none, .store _ _ _, _, _, _, _⟩) hA ?_ ?_); exact ⟨rfl, rfl, rfl, rfl⟩)
          refine bodyPost_ret (resC2 rfl (hA.row _) rfl) rfl ⟨?_, below_row HB7.out (Nat.le_refl _) _⟩
          rw [HP3.out]; rfl
        · exact absurd hlt (by have := HLEN.out; omega)
      · have HP3 : Hid (parseCT s = (c0, cd, o + m3)) := by show _ = _; rw [HP2.out, HM3.out]; exact finT_bad hk
        have p1 : ((cd : Int) != 0) = true := by rw [bne_iff_ne]; omega
        have hw5 : IntKind.i64.wrap ((m3 : Int) + o) = (m3 : Int) + o := by have := HAT.out; have := HM3.out; have := HNL.out; have := HSZ.out; rw [IntKind.wrap_i64]; omega
        clear HP2 hk
        go_enter Tryz.func48, Tryz.ntmps48
        go_wp2_with fail
        refine HFI.out.mono ?_
        rintro e w1 ⟨rfl, hw1⟩
        subst hw1
        clear HFI
        generalize w.alloc (.cells (chc c0).toArray 61) = w1 at HB0 HX0 ⊢
        have i1 : (n : Int) ≤ s.size := by have := HNL.out; omega
        have i2 : (0 : Int) ≤ n := by omega
        have hfx := HF.out.symm
        have hR := HRN.out w1
        obtain ⟨hlt, hz⟩ | ⟨hlt, hz⟩ := HZZ.out
        · subst hz
          have i3 : ¬ (n : Int) < 0 := by omega
          have HR := Lib.hid hR
          clear hlt HZZ hR
          go_wp2_with fail
          refine HR.out.mono ?_
          rintro e w2 ⟨rfl, hw2⟩
          subst w2
          clear HR
          go_wp2_with fail
          refine (HTP.out w1).mono ?_
          rintro e w5 ⟨rfl, b5⟩
          have b6 : Below w5.heap.size w5 (w5.alloc (.cells (tc t).toArray 25)) := (Below.refl _ _).alloc (Nat.le_refl _) _
          have HB6 := Lib.hid ((HB0.out.trans (b5.mono HB0.out.size)).trans (b6.mono (HB0.out.trans (b5.mono HB0.out.size)).size))
          have HX6 := Lib.hid ((HX0.out.later b5).later b6)
          have HT6 := Lib.hid (tu_new w5 t)
          clear b5 b6 HTP HB0 HX0
          go_upto_region 10 with ((with_reducible refine atT w5.heap.size (x := .tmp 7) (y := .tmp 52) (u := t) (o := ⟨none, .store _ _ _, _, _, _, _⟩) ?_ ?_); exact ⟨rfl, rfl, rfl, rfl, rfl, rfl⟩)
          generalize w5.alloc (.cells (tc t).toArray 25) = w6 at HB6 HX6 HT6 ⊢
          generalize w5.heap.size = g6 at HT6 ⊢
          have hA := HX6.out
          go_wp2_with ((with_reducible refine storeC (x := .tmp 2) (y := .tmp 57) (u := c0) (o := ⟨none, .store _ _ _, _, _, _, _⟩) hA ?_ ?_); exact ⟨rfl, rfl, rfl, rfl⟩)
          refine bodyPost_ret (resC2 rfl (hA.row _) rfl) rfl ⟨?_, below_row HB6.out (Nat.le_refl _) _⟩
          rw [HP3.out]
          show _ = Ending.returned (.tuple #[chV c0, .int .i64 (cd : Nat), .int .i64 ((o + m3 : Nat) : Int)])
          rw [show ((o + m3 : Nat) : Int) = (m3 : Int) + o by omega]; rfl
        · exact absurd hlt (by have := HLEN.out; omega)
    · have h2 : Lib.hasPrefix L smP.data.toList = true := sgnL_two.1 hs2
      have hlen : n + 3 ≤ s.size := by
        have h1 := Lib.hasPrefix_le h2
        have h3 : (smP).data.toList.length = 3 := rfl
        have h4 := HLL.out
        omega
      obtain ⟨q2, hq2⟩ : ∃ q2, q2 = s.extract (n + 3) s.size := ⟨_, rfl⟩
      have HP2 : Hid (parseCT s = finT x n 2 (parseT q2)) := by show _ = _; rw [HP.out, parseN_2 hx (by omega), hs2, hq2]
      have hby := byte_at s n smP (by rw [← HLD.out]; exact h2) (by rfl) hlen
      obtain ⟨m3, hm3⟩ : ∃ m3, m3 = n + 3 := ⟨_, rfl⟩
      have HM3 := Lib.hid hm3
      have hi3 : (n : Int) + 3 = m3 := by omega
      have hw3 : IntKind.i64.wrap (m3 : Int) = m3 := by have := HNL.out; have := HSZ.out; rw [IntKind.wrap_i64]; omega
      have q1 : ((x : Int) == 0) = false := by rw [beq_eq_false_iff_ne]; omega
      have h1 : Lib.hasPrefix L spP.data.toList = false := by
        rw [Bool.eq_false_iff]
        intro h
        obtain ⟨r1, e1⟩ := (pre_iff _ _).1 h
        obtain ⟨r2, e2⟩ := (pre_iff _ _).1 h2
        rw [← e2] at e1
        simp [smP, spP] at e1
      obtain ⟨q3, hq3⟩ : ∃ q3, q3 = s.extract n m3 := ⟨_, rfl⟩
      have e1' : (q3.toList == [32, 43, 32]) = false := by
        have h := eq_pre s n spP rfl (by omega)
        rw [← HLD.out, h1, spP_list] at h
        rw [hq3, hm3]; exact h
      have e1 : ¬ q3.toList = [32, 43, 32] := beq_eq_false_iff_ne.1 e1'
      have e2' : (q3.toList == [32, 45, 32]) = true := by
        have h := eq_pre s n smP rfl (by omega)
        rw [← HLD.out, h2, smP_list] at h
        rw [hq3, hm3]; exact h
      have e2 : q3.toList = [32, 45, 32] := beq_iff_eq.1 e2'
      clear e2'
      replace hq3 := hq3.symm
      have i4 : decide (s.size < m3) = false := decide_eq_false (by omega)
      have i5 : (m3 : Int) ≤ s.size := by omega
      have i6 : (n : Int) ≤ m3 := by omega
      have j5 : m3 ≤ s.size := by omega
      have j6 : n ≤ m3 := by omega
      have j7 : (0 : Int) ≤ m3 := by omega
      have hz2 : q2.size ≤ 1000000 := by rw [hq2]; have := ext_size2 s (n + 3) s.size; have := HSZ.out; omega
      have HTP : Hid (∀ W, Calls Tryz.prog 24 #[.string q2] W fun e w' => e = .returned (.tuple #[tuV (parseT q2).1, .int .i64 ((parseT q2).2.1 : Nat), .int .i64 ((parseT q2).2.2 : Nat)]) ∧ Below W.heap.size W w') := fun W => rtparse_any q2 W hz2
      obtain ⟨TT, hT⟩ : ∃ TT, TT = parseT q2 := ⟨_, rfl⟩
      rw [← hT] at HTP HP2
      have HAT : Hid (TT.2.2 ≤ 3000000) := by show _ ≤ _; rw [hT]; exact parseT_at hz2
      have hq3' : s.extract m3 s.size = q2 := by rw [hm3]; exact hq2.symm
      obtain ⟨m1, hm1⟩ : ∃ m1, m1 = n + 1 := ⟨_, rfl⟩
      have hi1 : (n : Int) + 1 = m1 := by omega
      have hw1 : IntKind.i64.wrap (m1 : Int) = m1 := by have := HNL.out; have := HSZ.out; rw [IntKind.wrap_i64]; omega
      have hl1 : m1 < s.size := by omega
      have hy : ((s[m1].toNat : Int) == 45) = true := by
        have h := hby
        subst hm1
        rw [h]; rfl
      have il1 : (m1 : Int) < s.size := by omega
      have HLEN := Lib.hid hlen
      obtain ⟨t, cd, o⟩ := TT
      dsimp only at HTP HP2 HAT
      clear HP hx hlen hm3 h1 h2 hq2 hz2 hT hm1 hby hs2
      by_cases hk : cd = 0
      · subst hk
        have HP3 : Hid (parseCT s = (⟨x, true, t⟩, 0, 0)) := by show _ = _; rw [HP2.out]; exact finT_yes rfl
        clear HP2
        go_enter Tryz.func48, Tryz.ntmps48
        go_wp2_with fail
        refine HFI.out.mono ?_
        rintro e w1 ⟨rfl, hw1⟩
        subst hw1
        clear HFI
        generalize w.alloc (.cells (chc c0).toArray 61) = w1 at HB0 HX0 ⊢
        have i1 : (n : Int) ≤ s.size := by have := HNL.out; omega
        have i2 : (0 : Int) ≤ n := by omega
        have hfx := HF.out.symm
        have hR := HRN.out w1
        obtain ⟨hlt, hz⟩ | ⟨hlt, hz⟩ := HZZ.out
        · subst hz
          have i3 : ¬ (n : Int) < 0 := by omega
          have HR := Lib.hid hR
          clear hlt HZZ hR
          go_wp2_with fail
          refine HR.out.mono ?_
          rintro e w2 ⟨rfl, hw2⟩
          subst w2
          clear HR
          go_wp2_with fail
          refine (HTP.out w1).mono ?_
          rintro e w5 ⟨rfl, b5⟩
          have b6 : Below w5.heap.size w5 (w5.alloc (.cells (tc t).toArray 25)) := (Below.refl _ _).alloc (Nat.le_refl _) _
          have HB6 := Lib.hid ((HB0.out.trans (b5.mono HB0.out.size)).trans (b6.mono (HB0.out.trans (b5.mono HB0.out.size)).size))
          have HX6 := Lib.hid ((HX0.out.later b5).later b6)
          have HT6 := Lib.hid (tu_new w5 t)
          clear b5 b6 HTP HB0 HX0
          go_upto_region 10 with ((with_reducible refine atT w5.heap.size (x := .tmp 7) (y := .tmp 52) (u := t) (o := ⟨none, .store _ _ _, _, _, _, _⟩) ?_ ?_); exact ⟨rfl, rfl, rfl, rfl, rfl, rfl⟩)
          generalize w5.alloc (.cells (tc t).toArray 25) = w6 at HB6 HX6 HT6 ⊢
          generalize w5.heap.size = g6 at HT6 ⊢
          go_wp2_with fail
          refine region_tail 8 (by kernel_rfl) (by kernel_rfl) ?_
          simp only [List.take_succ_cons, List.take_zero, List.drop_succ_cons, List.drop_zero]
          have HRG : Hid ((w6.drew).rangeAt g6 0 (tc t)) := HT6.out.range
          repeat first
            | still_step
            | ((with_reducible refine stillG (x := .tmp 7) (o := ⟨some 69, _, _, _, _, _⟩) HRG.out ?_ ?_); exact ⟨rfl, rfl, by go_simp⟩)
            | ((with_reducible refine stillB (x := .tmp 63) (y := .tmp 68) (z := .tmp 69) (r := x) (d := true) (t := t) (o := ⟨some 70, _, _, _, _, _⟩) ?_ ?_); exact ⟨rfl, rfl, rfl, rfl, rfl⟩)
          refine wpStill_nil ?_
          have HB7 := Lib.hid (HB6.out.trans ((Below.refl w6.heap.size w6).drew.mono HB6.out.size))
          have hA := HX6.out.later (Below.refl w6.heap.size w6).drew
          clear HRG HB6
          generalize w6.drew = w7 at HB7 hA ⊢
          go_wp2_with ((with_reducible refine storeC (x := .tmp 2) (y := .tmp 70) (u := ⟨x, true, t⟩) (o := ⟨none, .store _ _ _, _, _, _, _⟩) hA ?_ ?_); exact ⟨rfl, rfl, rfl, rfl⟩)
          refine bodyPost_ret (resC2 rfl (hA.row _) rfl) rfl ⟨?_, below_row HB7.out (Nat.le_refl _) _⟩
          rw [HP3.out]; rfl
        · exact absurd hlt (by have := HLEN.out; omega)
      · have HP3 : Hid (parseCT s = (c0, cd, o + m3)) := by show _ = _; rw [HP2.out, HM3.out]; exact finT_bad hk
        have p1 : ((cd : Int) != 0) = true := by rw [bne_iff_ne]; omega
        have hw5 : IntKind.i64.wrap ((m3 : Int) + o) = (m3 : Int) + o := by have := HAT.out; have := HM3.out; have := HNL.out; have := HSZ.out; rw [IntKind.wrap_i64]; omega
        clear HP2 hk
        go_enter Tryz.func48, Tryz.ntmps48
        go_wp2_with fail
        refine HFI.out.mono ?_
        rintro e w1 ⟨rfl, hw1⟩
        subst hw1
        clear HFI
        generalize w.alloc (.cells (chc c0).toArray 61) = w1 at HB0 HX0 ⊢
        have i1 : (n : Int) ≤ s.size := by have := HNL.out; omega
        have i2 : (0 : Int) ≤ n := by omega
        have hfx := HF.out.symm
        have hR := HRN.out w1
        obtain ⟨hlt, hz⟩ | ⟨hlt, hz⟩ := HZZ.out
        · subst hz
          have i3 : ¬ (n : Int) < 0 := by omega
          have HR := Lib.hid hR
          clear hlt HZZ hR
          go_wp2_with fail
          refine HR.out.mono ?_
          rintro e w2 ⟨rfl, hw2⟩
          subst w2
          clear HR
          go_wp2_with fail
          refine (HTP.out w1).mono ?_
          rintro e w5 ⟨rfl, b5⟩
          have b6 : Below w5.heap.size w5 (w5.alloc (.cells (tc t).toArray 25)) := (Below.refl _ _).alloc (Nat.le_refl _) _
          have HB6 := Lib.hid ((HB0.out.trans (b5.mono HB0.out.size)).trans (b6.mono (HB0.out.trans (b5.mono HB0.out.size)).size))
          have HX6 := Lib.hid ((HX0.out.later b5).later b6)
          have HT6 := Lib.hid (tu_new w5 t)
          clear b5 b6 HTP HB0 HX0
          go_upto_region 10 with ((with_reducible refine atT w5.heap.size (x := .tmp 7) (y := .tmp 52) (u := t) (o := ⟨none, .store _ _ _, _, _, _, _⟩) ?_ ?_); exact ⟨rfl, rfl, rfl, rfl, rfl, rfl⟩)
          generalize w5.alloc (.cells (tc t).toArray 25) = w6 at HB6 HX6 HT6 ⊢
          generalize w5.heap.size = g6 at HT6 ⊢
          have hA := HX6.out
          go_wp2_with ((with_reducible refine storeC (x := .tmp 2) (y := .tmp 57) (u := c0) (o := ⟨none, .store _ _ _, _, _, _, _⟩) hA ?_ ?_); exact ⟨rfl, rfl, rfl, rfl⟩)
          refine bodyPost_ret (resC2 rfl (hA.row _) rfl) rfl ⟨?_, below_row HB6.out (Nat.le_refl _) _⟩
          rw [HP3.out]
          show _ = Ending.returned (.tuple #[chV c0, .int .i64 (cd : Nat), .int .i64 ((o + m3 : Nat) : Int)])
          rw [show ((o + m3 : Nat) : Int) = (m3 : Int) + o by omega]; rfl
        · exact absurd hlt (by have := HLEN.out; omega)
end Go.Proofs.YtnnebfcggdbgpaaGreatDoor
/-
  vestrylaw21.ChangeParses: the walk.
-/
namespace Go.Proofs.YtnnebfcggdbgpaaGreatDoor
open Go.ChangeShapes Go.WideShapes Go.ChangeAt Go.RowKit
open errAs (ErrT)
set_option linter.unusedVariables false

set_option maxRecDepth 100000 in
set_option maxHeartbeats 4000000 in
theorem cparses_law (vb : Value) (l : List UInt8) (w : World) (hr : Rd w.heap.size w vb l) (hE : EnvU w) : Calls Tryz.prog 9 #[vb] w fun e w' => e = .returned (.bool true) ∧ Below w.heap.size w w' := by
  have HE := Lib.hid hE
  have HAW := Lib.hid (cawake_any w hE)
  have HRD := Lib.hid hr
  obtain ⟨qb, cb, rfl⟩ := rd_form hr
  clear hE hr
  by_cases hbig : 1500 < l.length
  · have h1 : (1500 : Int) < l.length := by omega
    go_enter Tryz.func9, Tryz.ntmps9
    go_wp2_with fail
    refine HAW.out.mono ?_
    rintro e w1 ⟨rfl, b1⟩
    have HB1 := Lib.hid b1
    have HAW2 := Lib.hid (cawake_any _ (HE.out.below b1))
    clear b1
    go_wp2_with fail
    refine HAW2.out.mono ?_
    rintro e w2 ⟨rfl, b2⟩
    have HB2 := Lib.hid (HB1.out.trans (b2.mono HB1.out.size))
    clear b2
    go_wp2_with fail
    go_ret
    exact ⟨rfl, HB2.out⟩
  · have h1 : ¬ (1500 : Int) < l.length := by omega
    have HSZ : Hid (l.length ≤ 1000000) := by show l.length ≤ 1000000; omega
    obtain ⟨c, cd, n, hpz⟩ : ∃ c cd n, parseC l = (c, cd, n) := ⟨_, _, _, rfl⟩
    have HPZ := Lib.hid hpz
    clear hpz
    go_enter Tryz.func9, Tryz.ntmps9
    go_wp2_with fail
    refine HAW.out.mono ?_
    rintro e w1 ⟨rfl, b1⟩
    have HB1 := Lib.hid b1
    have HE1 := Lib.hid (HE.out.below b1)
    have HPA : Hid (Calls Tryz.prog 42 #[.slice qb l.length cb] w1 fun e w' => e = .returned (.tuple #[chV c, errF cd n]) ∧ Below w1.heap.size w1 w') := by
      have h := cparse_any (rd_now (B := 0) HRD.out HB1.out) (Nat.le_refl _) HSZ.out HE1.out.1
      rw [HPZ.out] at h
      exact h
    clear b1 HAW HE
    go_wp2_with fail
    refine HPA.out.mono ?_
    rintro e w2 ⟨rfl, b2⟩
    have hb3 : Below w2.heap.size w2 (w2.alloc (.cells (chc c).toArray 61)) := (Below.refl _ _).alloc (Nat.le_refl _) _
    have HB3 := Lib.hid ((HB1.out.trans (b2.mono HB1.out.size)).trans (hb3.mono (HB1.out.trans (b2.mono HB1.out.size)).size))
    have HE3 := Lib.hid ((HE1.out.below b2).below hb3)
    have HA3 := Lib.hid (ch_new w2 c)
    clear b2 hb3 HPA HB1 HE1
    go_upto_region 4 with ((with_reducible refine atC w2.heap.size (x := .tmp 3) (y := .tmp 21) (u := c) (o := ⟨none, .store _ _ _, _, _, _, _⟩) ?_ ?_); exact ⟨rfl, rfl, rfl, rfl, rfl, rfl⟩)
    generalize w2.alloc (.cells (chc c).toArray 61) = w3 at HB3 HE3 HA3 ⊢
    generalize w2.heap.size = g3 at HA3 ⊢
    have HRP : Hid (Calls Tryz.prog 46 #[.slice qb l.length cb] w3 fun e w' => e = .returned (.tuple #[chV c, .int .i64 (cd : Nat), .int .i64 (n : Nat)]) ∧ Below w3.heap.size w3 w') := by
      have h := rcparse_any (rd_now (B := 0) HRD.out HB3.out) (Nat.le_refl _) HSZ.out
      rw [HPZ.out] at h
      exact h
    go_wp2_with fail
    refine HRP.out.mono ?_
    rintro e w4 ⟨rfl, b4⟩
    have hb5 : Below w4.heap.size w4 (w4.alloc (.cells (chc c).toArray 61)) := (Below.refl _ _).alloc (Nat.le_refl _) _
    have HB5 := Lib.hid ((HB3.out.trans (b4.mono HB3.out.size)).trans (hb5.mono (HB3.out.trans (b4.mono HB3.out.size)).size))
    have HE5 := Lib.hid ((HE3.out.below b4).below hb5)
    have HA5 := Lib.hid ((HA3.out.later b4).later hb5)
    have HX5 := Lib.hid (ch_new w4 c)
    clear b4 hb5 HRP HB3 HE3 HA3
    go_upto_region 5 with ((with_reducible refine atC w4.heap.size (x := .tmp 5) (y := .tmp 26) (u := c) (o := ⟨none, .store _ _ _, _, _, _, _⟩) ?_ ?_); exact ⟨rfl, rfl, rfl, rfl, rfl, rfl⟩)
    generalize w4.alloc (.cells (chc c).toArray 61) = w5 at HB5 HE5 HA5 HX5 ⊢
    generalize w4.heap.size = g5 at HX5 ⊢
    have hee : Hid (eqC c c = !false) := eqC_refl c
    have HTO := Lib.hid (told21_any cd n w5 HE5.out.1.2.1)
    go_wp2_with (first
      | ((with_reducible refine loadC (x := .tmp 3) (u := c) (o := ⟨some 29, _, _, _, _, _⟩) HA5.out ?_ ?_); exact ⟨rfl, rfl, rfl⟩)
      | ((with_reducible refine loadC (x := .tmp 5) (u := c) (o := ⟨some 30, _, _, _, _, _⟩) HX5.out ?_ ?_); exact ⟨rfl, rfl, rfl⟩)
      | ((with_reducible refine neCW hee.out (t := 61) (x := .tmp 29) (y := .tmp 30) (o := ⟨some 31, _, _, _, _, _⟩) ?_ ?_); exact ⟨rfl, rfl, rfl, rfl⟩))
    refine HTO.out.mono ?_
    rintro e w6 ⟨rfl, b6⟩
    have HB6 := Lib.hid (HB5.out.trans (b6.mono HB5.out.size))
    have HE6 := Lib.hid (HE5.out.below b6)
    have HA6 := Lib.hid (HA5.out.later b6)
    clear b6 HTO HB5 HE5 HA5 HX5
    by_cases hc : cd = 0
    · subst hc
      obtain ⟨hr, ht, _⟩ := parseC_back (b := l) (by rw [HPZ.out])
      rw [HPZ.out] at hr ht
      have HR := Lib.hid hr
      have HTT : Hid (putC c = l) := ht
      clear hr ht
      have HTX := Lib.hid (cputC_yes c HR.out w6 HE6.out.1.1)
      go_wp2_with ((with_reducible refine loadC (x := .tmp 3) (u := c) (o := ⟨some 40, _, _, _, _, _⟩) HA6.out ?_ ?_); exact ⟨rfl, rfl, rfl⟩)
      refine HTX.out.mono ?_
      rintro e w7 ⟨v7, rfl, h7, b7⟩
      have HB7 := Lib.hid (HB6.out.trans (b7.mono HB6.out.size))
      have HSM := Lib.hid (same_any h7.rd (rd_now (B := 0) HRD.out HB7.out))
      rw [HTT.out, eqB_refl] at HSM
      obtain ⟨q7, n7, c7, rfl⟩ := held_sl h7
      clear b7 h7 HTX HB6 HE6 HA6
      go_wp2_with fail
      refine HSM.out.mono ?_
      rintro e w8 ⟨rfl, k, rfl⟩
      have HB8 := Lib.hid (HB7.out.trans (below_drewN (Below.refl w7.heap.size w7) k |>.mono HB7.out.size))
      clear HSM HB7
      go_wp2_with fail
      go_ret
      exact ⟨rfl, HB8.out⟩
    · have hcc : c = c0 := by have := parseC_fail (b := l) (by rw [HPZ.out]; exact hc); rw [HPZ.out] at this; exact this
      have hc1 : ¬ (cd : Int) = 0 := by omega
      have hc2 : ((cd : Int) != 0) = true := by rw [bne_iff_ne]; exact hc1
      subst hcc
      have HTX := Lib.hid (cputC_no c0 rightC_c0 w6 HE6.out.1.1)
      go_wp2_with ((with_reducible refine loadC (x := .tmp 3) (u := c0) (o := ⟨some 40, _, _, _, _, _⟩) HA6.out ?_ ?_); exact ⟨rfl, rfl, rfl⟩)
      refine HTX.out.mono ?_
      rintro e w7 ⟨rfl, b7⟩
      have HB7 := Lib.hid (HB6.out.trans (b7.mono HB6.out.size))
      clear b7 HTX HB6 HE6 HA6
      go_wp2_with fail
      go_ret
      exact ⟨rfl, HB7.out⟩
end Go.Proofs.YtnnebfcggdbgpaaGreatDoor
/-
  vestrylaw21.ChangeTexts: the walk.
-/
namespace Go.Proofs.YtnnebfcggdbgpaaGreatDoor
open Go.ChangeShapes Go.WideShapes Go.ChangeAt Go.RowKit
open errAs (ErrT)
set_option linter.unusedVariables false

set_option maxRecDepth 100000 in
set_option maxHeartbeats 4000000 in
theorem ctexts_law (s : ByteArray) (w : World) (hE : EnvU w) : Calls Tryz.prog 10 #[.string s] w fun e w' => e = .returned (.bool true) ∧ Below w.heap.size w w' := by
  have HE := Lib.hid hE
  have HAW := Lib.hid (cawake_any w hE)
  clear hE
  by_cases hbig : 1000 < s.size
  · have h1 : (1000 : Int) < s.size := by omega
    go_enter Tryz.func10, Tryz.ntmps10
    go_wp2_with fail
    refine HAW.out.mono ?_
    rintro e w1 ⟨rfl, b1⟩
    have HB1 := Lib.hid b1
    have HAW2 := Lib.hid (cawake_any _ (HE.out.below b1))
    clear b1
    go_wp2_with fail
    refine HAW2.out.mono ?_
    rintro e w2 ⟨rfl, b2⟩
    have HB2 := Lib.hid (HB1.out.trans (b2.mono HB1.out.size))
    clear b2
    go_wp2_with fail
    go_ret
    exact ⟨rfl, HB2.out⟩
  · have h1 : ¬ (1000 : Int) < s.size := by omega
    have HSZ : Hid (s.size ≤ 1000000) := by show s.size ≤ 1000000; omega
    obtain ⟨c, cd, n, hpz⟩ : ∃ c cd n, parseCT s = (c, cd, n) := ⟨_, _, _, rfl⟩
    have HPZ := Lib.hid hpz
    clear hpz
    go_enter Tryz.func10, Tryz.ntmps10
    go_wp2_with fail
    refine HAW.out.mono ?_
    rintro e w1 ⟨rfl, b1⟩
    have HB1 := Lib.hid b1
    have HE1 := Lib.hid (HE.out.below b1)
    have HPA : Hid (Calls Tryz.prog 43 #[.string s] w1 fun e w' => e = .returned (.tuple #[chV c, errF cd n]) ∧ Below w1.heap.size w1 w') := by
      have h := cptext_any s w1 HE1.out HSZ.out
      rw [HPZ.out] at h
      exact h
    clear b1 HAW HE
    go_wp2_with fail
    refine HPA.out.mono ?_
    rintro e w2 ⟨rfl, b2⟩
    have hb3 : Below w2.heap.size w2 (w2.alloc (.cells (chc c).toArray 61)) := (Below.refl _ _).alloc (Nat.le_refl _) _
    have HB3 := Lib.hid ((HB1.out.trans (b2.mono HB1.out.size)).trans (hb3.mono (HB1.out.trans (b2.mono HB1.out.size)).size))
    have HE3 := Lib.hid ((HE1.out.below b2).below hb3)
    have HA3 := Lib.hid (ch_new w2 c)
    clear b2 hb3 HPA HB1 HE1
    go_upto_region 4 with ((with_reducible refine atC w2.heap.size (x := .tmp 3) (y := .tmp 21) (u := c) (o := ⟨none, .store _ _ _, _, _, _, _⟩) ?_ ?_); exact ⟨rfl, rfl, rfl, rfl, rfl, rfl⟩)
    generalize w2.alloc (.cells (chc c).toArray 61) = w3 at HB3 HE3 HA3 ⊢
    generalize w2.heap.size = g3 at HA3 ⊢
    have HRP : Hid (Calls Tryz.prog 48 #[.string s] w3 fun e w' => e = .returned (.tuple #[chV c, .int .i64 (cd : Nat), .int .i64 (n : Nat)]) ∧ Below w3.heap.size w3 w') := by
      have h := rcptext_any s w3 HSZ.out
      rw [HPZ.out] at h
      exact h
    go_wp2_with fail
    refine HRP.out.mono ?_
    rintro e w4 ⟨rfl, b4⟩
    have hb5 : Below w4.heap.size w4 (w4.alloc (.cells (chc c).toArray 61)) := (Below.refl _ _).alloc (Nat.le_refl _) _
    have HB5 := Lib.hid ((HB3.out.trans (b4.mono HB3.out.size)).trans (hb5.mono (HB3.out.trans (b4.mono HB3.out.size)).size))
    have HE5 := Lib.hid ((HE3.out.below b4).below hb5)
    have HA5 := Lib.hid ((HA3.out.later b4).later hb5)
    have HX5 := Lib.hid (ch_new w4 c)
    clear b4 hb5 HRP HB3 HE3 HA3
    go_upto_region 5 with ((with_reducible refine atC w4.heap.size (x := .tmp 5) (y := .tmp 26) (u := c) (o := ⟨none, .store _ _ _, _, _, _, _⟩) ?_ ?_); exact ⟨rfl, rfl, rfl, rfl, rfl, rfl⟩)
    generalize w4.alloc (.cells (chc c).toArray 61) = w5 at HB5 HE5 HA5 HX5 ⊢
    generalize w4.heap.size = g5 at HX5 ⊢
    have hee : Hid (eqC c c = !false) := eqC_refl c
    have HTO := Lib.hid (told21_any cd n w5 HE5.out.1.2.1)
    go_wp2_with (first
      | ((with_reducible refine loadC (x := .tmp 3) (u := c) (o := ⟨some 29, _, _, _, _, _⟩) HA5.out ?_ ?_); exact ⟨rfl, rfl, rfl⟩)
      | ((with_reducible refine loadC (x := .tmp 5) (u := c) (o := ⟨some 30, _, _, _, _, _⟩) HX5.out ?_ ?_); exact ⟨rfl, rfl, rfl⟩)
      | ((with_reducible refine neCW hee.out (t := 61) (x := .tmp 29) (y := .tmp 30) (o := ⟨some 31, _, _, _, _, _⟩) ?_ ?_); exact ⟨rfl, rfl, rfl, rfl⟩))
    refine HTO.out.mono ?_
    rintro e w6 ⟨rfl, b6⟩
    have HB6 := Lib.hid (HB5.out.trans (b6.mono HB5.out.size))
    have HE6 := Lib.hid (HE5.out.below b6)
    have HA6 := Lib.hid (HA5.out.later b6)
    clear b6 HTO HB5 HE5 HA5 HX5
    by_cases hc : cd = 0
    · subst hc
      obtain ⟨hr, ht, _⟩ := parseCT_back (s := s) (by rw [HPZ.out])
      rw [HPZ.out] at hr ht
      have HR := Lib.hid hr
      have HTT : Hid (textC c = s) := ht
      clear hr ht
      have HTX := Lib.hid (ctextC_yes c HR.out w6 HE6.out)
      rw [HTT.out] at HTX
      go_wp2_with ((with_reducible refine loadC (x := .tmp 3) (u := c) (o := ⟨some 40, _, _, _, _, _⟩) HA6.out ?_ ?_); exact ⟨rfl, rfl, rfl⟩)
      refine HTX.out.mono ?_
      rintro e w7 ⟨rfl, b7⟩
      have HB7 := Lib.hid (HB6.out.trans (b7.mono HB6.out.size))
      clear b7 HTX HB6 HE6 HA6
      go_wp2_with fail
      go_ret
      exact ⟨rfl, HB7.out⟩
    · have hcc : c = c0 := by have := parseCT_fail (s := s) (by rw [HPZ.out]; exact hc); rw [HPZ.out] at this; exact this
      have hc1 : ¬ (cd : Int) = 0 := by omega
      have hc2 : ((cd : Int) != 0) = true := by rw [bne_iff_ne]; exact hc1
      subst hcc
      have HTX := Lib.hid (ctextC_no c0 rightC_c0 w6 HE6.out)
      go_wp2_with ((with_reducible refine loadC (x := .tmp 3) (u := c0) (o := ⟨some 40, _, _, _, _, _⟩) HA6.out ?_ ?_); exact ⟨rfl, rfl, rfl⟩)
      refine HTX.out.mono ?_
      rintro e w7 ⟨rfl, b7⟩
      have HB7 := Lib.hid (HB6.out.trans (b7.mono HB6.out.size))
      clear b7 HTX HB6 HE6 HA6
      go_wp2_with fail
      go_ret
      exact ⟨rfl, HB7.out⟩
end Go.Proofs.YtnnebfcggdbgpaaGreatDoor
/-
  vestrylaw21.ChangeReads: the walk.
-/
namespace Go.Proofs.YtnnebfcggdbgpaaGreatDoor
open Go.ChangeShapes Go.WideShapes Go.ChangeAt Go.RowKit
open errAs (ErrT)
set_option linter.unusedVariables false

theorem log_all {w w' : World} {l : List Ch} {e : Ending} (hr : ∀ x ∈ l, rightC x = true) (h : ((∀ x ∈ l, rightC x = true) ∧ ∃ v, e = .returned (.tuple #[v, .nilIface]) ∧ Held w.heap.size w' v (logC l)) ∨
   (∃ i, ∃ hi : i < l.length, (∀ j, (hj : j < l.length) → j < i → rightC l[j] = true) ∧ rightC l[i] = false ∧ e = .returned (.tuple #[.slice none 0 0, faultN 5 i]))) :
    ∃ v, e = .returned (.tuple #[v, .nilIface]) ∧ Held w.heap.size w' v (logC l) := by
  rcases h with ⟨_, h⟩ | ⟨i, hi, _, h, _⟩
  · exact h
  · rw [hr _ (List.getElem_mem hi)] at h; cases h
theorem short_right {t : Tu} (h : rightT t = true) : shortT t = true := by
  obtain ⟨h1, h2, h3, h4, h5, h6⟩ := rightT_all h
  have a1 := name_size h1
  have a2 := id_size h2
  have a3 := name_size h3
  have a4 := name_size h4
  have a5 := id_size h5
  have a6 := us_size h6
  exact decide_eq_true (by omega)
set_option maxRecDepth 100000 in
set_option maxHeartbeats 4000000 in
theorem creads_law (vb : Value) (l : List UInt8) (w : World) (hr : Rd w.heap.size w vb l) (hE : EnvU w) : Calls Tryz.prog 12 #[vb] w fun e w' => e = .returned (.bool true) ∧ Below w.heap.size w w' := by
  have HE := Lib.hid hE
  have HAW := Lib.hid (cawake_any w hE)
  have HRD := Lib.hid hr
  obtain ⟨qb, cb, rfl⟩ := rd_form hr
  clear hE hr
  by_cases hbig : 3000 < l.length
  · have h1 : (3000 : Int) < l.length := by omega
    go_enter Tryz.func12, Tryz.ntmps12
    go_wp2_with fail
    refine HAW.out.mono ?_
    rintro e w1 ⟨rfl, b1⟩
    have HB1 := Lib.hid b1
    have HAW2 := Lib.hid (cawake_any _ (HE.out.below b1))
    clear b1
    go_wp2_with fail
    refine HAW2.out.mono ?_
    rintro e w2 ⟨rfl, b2⟩
    have HB2 := Lib.hid (HB1.out.trans (b2.mono HB1.out.size))
    clear b2
    go_wp2_with fail
    go_ret
    exact ⟨rfl, HB2.out⟩
  · have h1 : ¬ (3000 : Int) < l.length := by omega
    have HSZ : Hid (l.length ≤ 1000000) := by show l.length ≤ 1000000; omega
    obtain ⟨cl, cd, n, hpz⟩ : ∃ cl cd n, parseLg l = (cl, cd, n) := ⟨_, _, _, rfl⟩
    have HPZ := Lib.hid hpz
    have HCL : Hid (cl.length ≤ 1000000) := by
      show _ ≤ _
      have h := lgo_len (l.length + 1) l 0 []
      rw [show lgo (l.length + 1) l 0 [] = parseLg l from rfl, hpz] at h
      simp only [List.length_nil] at h
      omega
    clear hpz
    go_enter Tryz.func12, Tryz.ntmps12
    go_wp2_with fail
    refine HAW.out.mono ?_
    rintro e w1 ⟨rfl, b1⟩
    have HB1 := Lib.hid b1
    have HE1 := Lib.hid (HE.out.below b1)
    have HPA := Lib.hid (cplog_any (rd_now (B := 0) HRD.out b1) (Nat.le_refl _) HSZ.out HE1.out.1)
    unfold LgPost at HPA
    rw [HPZ.out] at HPA
    clear b1 HAW HE
    go_wp2_with fail
    refine HPA.out.mono ?_
    rintro e w2 ⟨v2, rfl, h2, b2⟩
    have HB2 := Lib.hid (HB1.out.trans (b2.mono HB1.out.size))
    have HE2 := Lib.hid (HE1.out.below b2)
    have HV2 := Lib.hid h2
    have HRP := Lib.hid (rplog_any (rd_now (B := 0) HRD.out HB2.out) (Nat.le_refl _) HSZ.out)
    unfold RLgPost at HRP
    rw [HPZ.out] at HRP
    clear b2 h2 HPA HB1 HE1
    go_wp2_with fail
    refine HRP.out.mono ?_
    rintro e w3 ⟨v3, rfl, h3, b3⟩
    have HB3 := Lib.hid (HB2.out.trans (b3.mono HB2.out.size))
    have HE3 := Lib.hid (HE2.out.below b3)
    have HV3 := Lib.hid (HV2.out.below b3)
    have HSM := Lib.hid (samelC_any HV3.out h3 (by have := HCL.out; omega) (by have := HCL.out; omega))
    rw [show sameC cl cl = true from decide_eq_true rfl] at HSM
    clear b3 h3 HRP HB2 HE2 HV2
    go_wp2_with fail
    refine HSM.out.mono ?_
    rintro e w4 ⟨rfl, b4⟩
    have HB4 := Lib.hid (HB3.out.trans (b4.mono HB3.out.size))
    have HE4 := Lib.hid (HE3.out.below b4)
    have HV4 := Lib.hid (HV3.out.below b4)
    have HTO := Lib.hid (told21_any cd n w4 HE4.out.1.2.1)
    clear b4 HSM HB3 HE3 HV3
    go_wp2_with fail
    refine HTO.out.mono ?_
    rintro e w5 ⟨rfl, b5⟩
    have HB5 := Lib.hid (HB4.out.trans (b5.mono HB4.out.size))
    have HE5 := Lib.hid (HE4.out.below b5)
    have HLG := Lib.hid (clog_any (HV4.out.below b5) HCL.out HE5.out.1.1)
    clear b5 HTO HB4 HE4 HV4
    by_cases hc : cd = 0
    · subst hc
      obtain ⟨hr, ht, _⟩ := parseLg_back (b := l) (by rw [HPZ.out])
      rw [HPZ.out] at hr ht
      have HR := Lib.hid hr
      have HTT : Hid (logC cl = l) := ht
      clear hr ht
      go_wp2_with fail
      refine HLG.out.mono ?_
      rintro e w6 ⟨b6, hlg⟩
      obtain ⟨v6, rfl, h6⟩ := log_all HR.out hlg
      have HB6 := Lib.hid (HB5.out.trans (b6.mono HB5.out.size))
      have HSN := Lib.hid (same_any h6.rd (rd_now (B := 0) HRD.out HB6.out))
      rw [HTT.out, eqB_refl] at HSN
      obtain ⟨q6, n6, c6, rfl⟩ := held_sl h6
      clear b6 h6 hlg HLG HB5 HE5
      go_wp2_with fail
      refine HSN.out.mono ?_
      rintro e w7 ⟨rfl, k, rfl⟩
      have HB7 := Lib.hid (HB6.out.trans (below_drewN (Below.refl w6.heap.size w6) k |>.mono HB6.out.size))
      clear HSN HB6
      go_wp2_with fail
      go_ret
      exact ⟨rfl, HB7.out⟩
    · have hcc : cl = [] := by
        have h := lgo_off (l.length + 1) l 0 [] (Nat.zero_le _) (by rw [show lgo (l.length + 1) l 0 [] = parseLg l from rfl, HPZ.out]; exact hc)
        rw [show lgo (l.length + 1) l 0 [] = parseLg l from rfl, HPZ.out] at h; exact h
      have hc2 : ((cd : Int) != 0) = true := by rw [bne_iff_ne]; omega
      subst hcc
      go_wp2_with fail
      refine HLG.out.mono ?_
      rintro e w6 ⟨b6, hlg⟩
      obtain ⟨v6, rfl, h6⟩ := log_all (fun x hx => by cases hx) hlg
      have HB6 := Lib.hid (HB5.out.trans (b6.mono HB5.out.size))
      obtain ⟨q6, n6, c6, rfl⟩ := held_sl h6
      clear b6 h6 hlg HLG HB5 HE5
      go_wp2_with fail
      go_ret
      exact ⟨rfl, HB6.out⟩
end Go.Proofs.YtnnebfcggdbgpaaGreatDoor
/-
  vestrylaw21.ChangeLogs: the walk.
-/
namespace Go.Proofs.YtnnebfcggdbgpaaGreatDoor
open Go.ChangeShapes Go.WideShapes Go.ChangeAt Go.RowKit
open errAs (ErrT)
set_option linter.unusedVariables false

set_option maxRecDepth 100000 in
set_option maxHeartbeats 4000000 in
theorem clogs_law (l : List Ch) {sv : Value} (hz : ∀ c ∈ l, sizesT c.t 140737488355328) (hl : l.length ≤ 140737488355328) (w : World) (hs : ChRd w sv l) (hE : EnvU w) : Calls Tryz.prog 11 #[sv] w fun e w' => e = .returned (.bool true) ∧ Below w.heap.size w w' := by
  have HE := Lib.hid hE
  have HAW := Lib.hid (cawake_any w hE)
  have HZ := Lib.hid hz
  have HS := Lib.hid hs
  obtain ⟨p, cp, rfl, hrow⟩ := hs.form chc_length (by decide)
  have HW := Lib.hid hrow
  clear hE hz hs hrow
  by_cases hbig : 40 < l.length
  · have h1 : (40 : Int) < l.length := by omega
    go_enter Tryz.func11, Tryz.ntmps11
    go_wp2_with fail
    refine HAW.out.mono ?_
    rintro e w1 ⟨rfl, b1⟩
    have HB1 := Lib.hid b1
    have HAW2 := Lib.hid (cawake_any _ (HE.out.below b1))
    clear b1
    go_wp2_with fail
    refine HAW2.out.mono ?_
    rintro e w2 ⟨rfl, b2⟩
    have HB2 := Lib.hid (HB1.out.trans (b2.mono HB1.out.size))
    clear b2
    go_wp2_with fail
    go_ret
    exact ⟨rfl, HB2.out⟩
  · have h1 : ¬ (40 : Int) < l.length := by omega
    have h40 : l.length ≤ 40 := by omega
    clear hbig
    go_enter Tryz.func11, Tryz.ntmps11
    go_wp2_with fail
    refine HAW.out.mono ?_
    rintro e w1 ⟨rfl, b1⟩
    have HB1 := Lib.hid b1
    have HE1 := Lib.hid (HE.out.below b1)
    have HLG := Lib.hid (clog_any (HS.out.below b1) (by omega) HE1.out.1.1)
    clear b1 HAW
    go_wp2_with fail
    refine HLG.out.mono ?_
    rintro e w2 ⟨b2, hlg⟩
    have HB2 := Lib.hid (HB1.out.trans (b2.mono HB1.out.size))
    clear b2 HLG HB1 HE1
    rcases hlg with ⟨hall, v2, rfl, h2⟩ | ⟨i0, hi0, hall, hbad, rfl⟩
    · have HA := Lib.hid hall
      have HH2 := Lib.hid h2
      have HBV := HB2
      obtain ⟨q2, n2, m2, rfl⟩ := held_sl h2
      clear h2 hall
      go_wp2_with fail
      go_loopg [5] l.length (fun g s5 wr => ∃ k : Nat, k ≤ l.length ∧ l.length - k ≤ g ∧ s5 = .int .i64 k ∧ Below w2.heap.size w2 wr)
      case atStart => exact ⟨0, by omega, by omega, rfl, Below.refl _ _⟩
      case round =>
        obtain ⟨k, hk, hg, rfl, hb⟩ := hrel
        have HK := Lib.hid hb
        have HB := Lib.hid (HB2.out.trans (hb.mono HB2.out.size))
        clear hb
        by_cases hlt : k < l.length
        · obtain ⟨b, off, rfl, hbl, hrr⟩ := HW.out k hlt
          obtain ⟨c, hc⟩ : ∃ c, c = l[k] := ⟨_, rfl⟩
          have hrr : w.rangeAt b (off + k * 8) (chc c) := by rw [hc]; exact hrr
          have HR : Hid (∀ W, Below w.heap.size w W → W.rangeAt b (off + k * 8) (chc c)) := fun W hB => range_below hrr hbl hB
          have HRC : Hid (rightC c = true) := by rw [hc]; exact HA.out _ (List.getElem_mem hlt)
          clear hrr hbl hc
          have HS1 : Hid (wr.rangeAt b (off + k * 8 + 2) (tc c.t)) := ch_tail (HR.out _ HB.out)
          have HSH := Lib.hid (short_any c.t ((sizes_right (rightC_all HRC.out).2.2).mono (by decide)) wr)
          rw [short_right (rightC_all HRC.out).2.2] at HSH
          go_wp2_with ((with_reducible refine loadTr (x := .tmp 30) (u := c.t) (o := ⟨some 31, _, _, _, _, _⟩) HS1.out ?_ ?_); exact ⟨rfl, rfl, by go_simp⟩)
          refine HSH.out.mono ?_
          rintro e w3 ⟨rfl, b3⟩
          have HB3 := Lib.hid (HB.out.trans (b3.mono HB.out.size))
          have HK3 := Lib.hid (HK.out.trans (b3.mono HK.out.size))
          have HS3 : Hid (w3.rangeAt b (off + k * 8) (chc c)) := HR.out _ HB3.out
          have HRT := Lib.hid (rrightC_any c ((sizes_right (rightC_all HRC.out).2.2).mono (by decide)) w3)
          rw [HRC.out] at HRT
          clear b3 HSH HS1 HB HK
          go_wp2_with ((with_reducible refine loadCr (x := .tmp 36) (u := c) (o := ⟨some 37, _, _, _, _, _⟩) HS3.out ?_ ?_); exact ⟨rfl, rfl, by go_simp⟩)
          refine HRT.out.mono ?_
          rintro e w4 ⟨rfl, b4⟩
          have HK4 := Lib.hid (HK3.out.trans (b4.mono HK3.out.size))
          clear b4 HRT HS3 HB3 HK3
          go_wp2_with fail
          go_roundg (l.length - (k + 1))
          case measure => omega
          case rel => exact ⟨k + 1, by omega, Nat.le_refl _, by go_num, HK4.out⟩
        · have HE5 := Lib.hid (HE.out.below HB.out)
          have HH5 := Lib.hid (HH2.out.later HK.out)
          have HPL := Lib.hid (cplog_any HH5.out.rd (Nat.le_refl _) (by have := logC_len HA.out; omega) HE5.out.1)
          unfold LgPost at HPL
          rw [parseLg_log HA.out, errF_zero] at HPL
          clear HK
          go_wp2_with fail
          refine HPL.out.mono ?_
          rintro e w6 ⟨v6, rfl, h6, b6⟩
          have HB6 := Lib.hid (HB.out.trans (b6.mono HB.out.size))
          have HH6 := Lib.hid (HH5.out.later b6)
          have HV6 := Lib.hid h6
          have HRL := Lib.hid (rlog_any (HS.out.below HB6.out) (by omega) HA.out)
          clear b6 h6 HPL HB HH5 HE5
          go_wp2_with fail
          refine HRL.out.mono ?_
          rintro e w7 ⟨v7, rfl, h7, b7⟩
          have HB7 := Lib.hid (HB6.out.trans (b7.mono HB6.out.size))
          have HV7 := Lib.hid (HV6.out.below b7)
          have HSN := Lib.hid (same_any (HH6.out.later b7).rd h7.rd)
          rw [eqB_refl] at HSN
          obtain ⟨q7, n7, m7, rfl⟩ := held_sl h7
          clear b7 h7 HRL HB6 HH6 HV6
          go_wp2_with fail
          refine HSN.out.mono ?_
          rintro e w8 ⟨rfl, kk, rfl⟩
          have b8 := below_drewN (Below.refl w7.heap.size w7) kk
          have HB8 := Lib.hid (HB7.out.trans (b8.mono HB7.out.size))
          have HSC := Lib.hid (samelC_any (HV7.out.below b8) (HS.out.below HB8.out) (by omega) (by omega))
          rw [show sameC l l = true from decide_eq_true rfl] at HSC
          clear b8 HSN HB7 HV7
          generalize w7.drewN kk = w8 at HB8 HSC ⊢
          go_wp2_with fail
          refine HSC.out.mono ?_
          rintro e w9 ⟨rfl, b9⟩
          have HB9 := Lib.hid (HB8.out.trans (b9.mono HB8.out.size))
          clear b9 HSC HB8
          go_wp2_with fail
          go_ret
          exact ⟨rfl, HB9.out⟩
    · have HA := Lib.hid hall
      have HBAD := Lib.hid hbad
      rw [show faultN 5 i0 = .iface 141 (.agg #[.int .i64 (5 : Nat), .int .i64 i0]) from rfl]
      clear hall hbad
      go_wp2_with fail
      go_loopg [5] l.length (fun g s5 wr => ∃ k : Nat, k ≤ i0 ∧ l.length - k ≤ g ∧ s5 = .int .i64 k ∧ Below w.heap.size w wr)
      case atStart => exact ⟨0, by omega, by omega, rfl, HB2.out⟩
      case round =>
        obtain ⟨k, hk, hg, rfl, hb⟩ := hrel
        have HB := Lib.hid hb
        have hlt : k < l.length := by omega
        obtain ⟨b, off, rfl, hbl, hrr⟩ := HW.out k hlt
        obtain ⟨c, hc⟩ : ∃ c, c = l[k] := ⟨_, rfl⟩
        have hrr : w.rangeAt b (off + k * 8) (chc c) := by rw [hc]; exact hrr
        have HR : Hid (∀ W, Below w.heap.size w W → W.rangeAt b (off + k * 8) (chc c)) := fun W hB => range_below hrr hbl hB
        have HCT : Hid (sizesT c.t 140737488355328) := by rw [hc]; exact HZ.out _ (List.getElem_mem hlt)
        have HS1 : Hid (wr.rangeAt b (off + k * 8 + 2) (tc c.t)) := ch_tail (HR.out _ HB.out)
        have HSH := Lib.hid (short_any c.t HCT.out wr)
        have HKC : Hid (if k < i0 then rightC c = true else rightC c = false) := by
          by_cases h : k < i0
          · rw [if_pos h, hc]; exact HA.out k hlt h
          · have : k = i0 := by omega
            subst this
            rw [if_neg h, hc]; exact HBAD.out
        clear hrr hbl hc hb HB2
        by_cases hki : k < i0
        · have hrc := HKC.out
          rw [if_pos hki] at hrc
          have HRC := Lib.hid hrc
          rw [short_right (rightC_all HRC.out).2.2] at HSH
          clear hrc HKC
          go_wp2_with ((with_reducible refine loadTr (x := .tmp 30) (u := c.t) (o := ⟨some 31, _, _, _, _, _⟩) HS1.out ?_ ?_); exact ⟨rfl, rfl, by go_simp⟩)
          refine HSH.out.mono ?_
          rintro e w3 ⟨rfl, b3⟩
          have HB3 := Lib.hid (HB.out.trans (b3.mono HB.out.size))
          have HS3 : Hid (w3.rangeAt b (off + k * 8) (chc c)) := HR.out _ HB3.out
          have HRT := Lib.hid (rrightC_any c ((sizes_right (rightC_all HRC.out).2.2).mono (by decide)) w3)
          rw [HRC.out] at HRT
          clear b3 HSH HS1 HB
          go_wp2_with ((with_reducible refine loadCr (x := .tmp 36) (u := c) (o := ⟨some 37, _, _, _, _, _⟩) HS3.out ?_ ?_); exact ⟨rfl, rfl, by go_simp⟩)
          refine HRT.out.mono ?_
          rintro e w4 ⟨rfl, b4⟩
          have HB4 := Lib.hid (HB3.out.trans (b4.mono HB3.out.size))
          clear b4 HRT HS3 HB3
          go_wp2_with fail
          go_roundg (l.length - (k + 1))
          case measure => omega
          case rel => exact ⟨k + 1, by omega, Nat.le_refl _, by go_num, HB4.out⟩
        · have hrc := HKC.out
          rw [if_neg hki] at hrc
          have HRC := Lib.hid hrc
          have hke : k = i0 := by omega
          subst hke
          clear hrc HKC hki
          rcases hsh : shortT c.t with _ | _
          · rw [hsh] at HSH
            clear hsh
            go_wp2_with ((with_reducible refine loadTr (x := .tmp 30) (u := c.t) (o := ⟨some 31, _, _, _, _, _⟩) HS1.out ?_ ?_); exact ⟨rfl, rfl, by go_simp⟩)
            refine HSH.out.mono ?_
            rintro e w3 ⟨rfl, b3⟩
            have HB3 := Lib.hid (HB.out.trans (b3.mono HB.out.size))
            clear b3 HSH HS1 HB
            go_wp2_with fail
            go_ret
            exact ⟨rfl, HB3.out⟩
          · rw [hsh] at HSH
            have HCS := Lib.hid (shortT_sizes hsh)
            clear hsh
            go_wp2_with ((with_reducible refine loadTr (x := .tmp 30) (u := c.t) (o := ⟨some 31, _, _, _, _, _⟩) HS1.out ?_ ?_); exact ⟨rfl, rfl, by go_simp⟩)
            refine HSH.out.mono ?_
            rintro e w3 ⟨rfl, b3⟩
            have HB3 := Lib.hid (HB.out.trans (b3.mono HB.out.size))
            have HS3 : Hid (w3.rangeAt b (off + k * 8) (chc c)) := HR.out _ HB3.out
            have HRT := Lib.hid (rrightC_any c (HCS.out.mono (by decide)) w3)
            rw [HRC.out] at HRT
            clear b3 HSH HS1 HB
            go_wp2_with ((with_reducible refine loadCr (x := .tmp 36) (u := c) (o := ⟨some 37, _, _, _, _, _⟩) HS3.out ?_ ?_); exact ⟨rfl, rfl, by go_simp⟩)
            refine HRT.out.mono ?_
            rintro e w4 ⟨rfl, b4⟩
            have HB4 := Lib.hid (HB3.out.trans (b4.mono HB3.out.size))
            have HTO : Hid (Calls Tryz.prog 47 #[.iface 141 (.agg #[.int .i64 5, .int .i64 k]), .int .i64 5, .int .i64 k] w4 fun e w' => e = .returned (.bool true) ∧ Below w4.heap.size w4 w') := told21_any 5 k w4 (HE.out.below HB4.out).1.2.1
            clear b4 HRT HS3 HB3
            go_wp2_with fail
            refine HTO.out.mono ?_
            rintro e w5 ⟨rfl, b5⟩
            have HB5 := Lib.hid (HB4.out.trans (b5.mono HB4.out.size))
            clear b5 HTO HB4
            go_wp2_with fail
            go_ret
            exact ⟨rfl, HB5.out⟩
end Go.Proofs.YtnnebfcggdbgpaaGreatDoor
/-
  vestrylaw21.ChangeMatchesReference: the walk.
-/
namespace Go.Proofs.YtnnebfcggdbgpaaGreatDoor
open Go.ChangeShapes Go.WideShapes Go.ChangeAt Go.RowKit
open errAs (ErrT)
set_option linter.unusedVariables false

def CS2 (w : World) (g : Nat) (c : Ch) (w0 W : World) : Prop := Below w.heap.size w W ∧ EnvU W ∧ ChAt W g c ∧ Below w0.heap.size w0 W
theorem CS2.later {w w0 W W' : World} {g : Nat} {c : Ch} (h : CS2 w g c w0 W) (b : Below W.heap.size W W') : CS2 w g c w0 W' := ⟨h.1.trans (b.mono h.1.size), h.2.1.below b, h.2.2.1.later b, h.2.2.2.trans (b.mono h.2.2.2.size)⟩
theorem CS2.right {w w0 W : World} {g : Nat} {c : Ch} (h : CS2 w g c w0 W) : Calls Tryz.prog 40 #[chV c] W fun e W' => ∃ v, e = .returned v ∧ v = .bool (rightC c) ∧ CS2 w g c w0 W' :=
  (cright_any c W h.2.1.1.1).mono fun _ _ ⟨he, hb⟩ => ⟨_, he, rfl, h.later hb⟩
theorem CS2.rright {w w0 W : World} {g : Nat} {c : Ch} (h : CS2 w g c w0 W) (hs : sizesT c.t 1000000) : Calls Tryz.prog 41 #[chV c] W fun e W' => ∃ v, e = .returned v ∧ v = .bool (rightC c) ∧ CS2 w g c w0 W' :=
  (rrightC_any c hs W).mono fun _ _ ⟨he, hb⟩ => ⟨_, he, rfl, h.later hb⟩
theorem takeC {ops : Array Oper} {md : Region.Mode} {S : World → Prop} {Q : Exit → Act → World → Prop} {i : Nat} {o : Oper} {fuel : Nat} {listed : Array Bool} {a : Act} {w : World} {u : Ch} (hi : ops[i]? = some o) (hs : Region.noSelect ops = true) (hf : Region.free md ops listed i = true) (hr : (Region.ready md ops listed).contains i = true)
    (hQ : ∀ c a w, Q (.panic c) (a.put o.dst (chV u)) w → Q (.panic c) a w) (hwt : Region.wanted o (yielded ops a.tmps) = true) {x : Operand} {b off : Nat} (ho : o.op = .load 61 x ∧ a.eval x = .pointer (some ⟨b, off, none⟩)) (hS : ∀ w, S w → w.rangeAt b off (chc u)) (hw : S w)
    (h : wpAnyH Tryz.prog md ops Q S fuel (listed.setIfInBounds i true) (a.put o.dst (chV u)) w) : wpAnyH Tryz.prog md ops Q S (fuel + 1) listed a w :=
  wpAnyH_take hi hs hf hr hQ (yieldsIf_load_mid hwt _ x ho.1 b off ho.2 (chc u) _ hS Tryz.underlying61 rfl (by kernel_rfl)) hw h
set_option maxRecDepth 100000 in
set_option maxHeartbeats 4000000 in
theorem cmatch_law (c : Ch) (hz : sizesT c.t 140737488355328) (w : World) (hE : EnvU w) : Calls Tryz.prog 8 #[chV c] w fun e w' => e = .returned (.bool true) ∧ Below w.heap.size w w' := by
  have b0 : Below w.heap.size w (w.alloc (.cells (chc c).toArray 61)) := (Below.refl _ _).alloc (Nat.le_refl _) _
  have HB0 := Lib.hid b0
  have HE0 := Lib.hid (hE.below b0)
  have HA0 := Lib.hid (ch_new w c)
  have HAW := Lib.hid (cawake_any _ HE0.out)
  have HSH := Lib.hid (short_any c.t hz)
  rcases hs : shortT c.t with _ | _
  · have HSF := Lib.hid hs
    clear b0 hE hz hs
    go_enter Tryz.func8, Tryz.ntmps8
    go_wp2_with fail
    generalize w.alloc (.cells (chc c).toArray 61) = w0 at HB0 HE0 HA0 HAW HSH ⊢
    refine HAW.out.mono ?_
    rintro e w1 ⟨rfl, b1⟩
    have HSH1 := Lib.hid (HSH.out w1)
    have HB1 := Lib.hid (HB0.out.trans (b1.mono HB0.out.size))
    have HE1 := Lib.hid (HE0.out.below b1)
    have HA1 := Lib.hid (HA0.out.later b1)
    clear b1 HB0 HE0 HA0 HAW HSH
    go_wp2_with ((with_reducible refine loadCt (x := .tmp 14) (u := c) (o := ⟨some 15, _, _, _, _, _⟩) HA1.out ?_ ?_); exact ⟨rfl, rfl, rfl⟩)
    refine HSH1.out.mono ?_
    rintro e w2 ⟨rfl, b2⟩
    have HB2 := Lib.hid (HB1.out.trans (b2.mono HB1.out.size))
    have HE2 := Lib.hid (HE1.out.below b2)
    have HA2 := Lib.hid (HA1.out.later b2)
    clear b2 HB1 HE1 HA1 HSH1
    rw [HSF.out]
    have HAW3 := Lib.hid (cawake_any w2 HE2.out)
    go_wp2_with fail
    refine HAW3.out.mono ?_
    rintro e w3 ⟨rfl, b3⟩
    have HB3 := Lib.hid (HB2.out.trans (b3.mono HB2.out.size))
    have HE3 := Lib.hid (HE2.out.below b3)
    have HA3 := Lib.hid (HA2.out.later b3)
    clear b3 HB2 HE2 HA2 
    go_wp2_with fail
    go_ret
    exact ⟨rfl, HB3.out⟩
  · have HST := Lib.hid hs
    have HS6 : Hid (sizesT c.t 1000000) := (shortT_sizes hs).mono (by decide)
    clear b0 hE hz hs
    rcases hr : rightC c with _ | _
    · have HR := Lib.hid hr
      clear hr
      go_enter Tryz.func8, Tryz.ntmps8
      go_wp2_with fail
      generalize w.alloc (.cells (chc c).toArray 61) = w0 at HB0 HE0 HA0 HAW HSH ⊢
      refine HAW.out.mono ?_
      rintro e w1 ⟨rfl, b1⟩
      have HSH1 := Lib.hid (HSH.out w1)
      have HB1 := Lib.hid (HB0.out.trans (b1.mono HB0.out.size))
      have HE1 := Lib.hid (HE0.out.below b1)
      have HA1 := Lib.hid (HA0.out.later b1)
      clear b1 HB0 HE0 HA0 HAW HSH
      go_wp2_with ((with_reducible refine loadCt (x := .tmp 14) (u := c) (o := ⟨some 15, _, _, _, _, _⟩) HA1.out ?_ ?_); exact ⟨rfl, rfl, rfl⟩)
      refine HSH1.out.mono ?_
      rintro e w2 ⟨rfl, b2⟩
      have HB2 := Lib.hid (HB1.out.trans (b2.mono HB1.out.size))
      have HE2 := Lib.hid (HE1.out.below b2)
      have HA2 := Lib.hid (HA1.out.later b2)
      clear b2 HB1 HE1 HA1 HSH1
      rw [HST.out]
      have HPU := Lib.hid (cputC_no c HR.out w2 HE2.out.1.1)
      go_wp2_with ((with_reducible refine loadC (x := .tmp 1) (u := c) (o := ⟨some 21, _, _, _, _, _⟩) HA2.out ?_ ?_); exact ⟨rfl, rfl, rfl⟩)
      refine HPU.out.mono ?_
      rintro e w3 ⟨rfl, b3⟩
      have HB3 := Lib.hid (HB2.out.trans (b3.mono HB2.out.size))
      have HE3 := Lib.hid (HE2.out.below b3)
      have HA3 := Lib.hid (HA2.out.later b3)
      clear b3 HB2 HE2 HA2 HPU
      have HTX := Lib.hid (ctextC_no c HR.out w3 HE3.out)
      go_wp2_with ((with_reducible refine loadC (x := .tmp 1) (u := c) (o := ⟨some 26, _, _, _, _, _⟩) HA3.out ?_ ?_); exact ⟨rfl, rfl, rfl⟩)
      refine HTX.out.mono ?_
      rintro e w4 ⟨rfl, b4⟩
      have HB4 := Lib.hid (HB3.out.trans (b4.mono HB3.out.size))
      have HE4 := Lib.hid (HE3.out.below b4)
      have HA4 := Lib.hid (HA3.out.later b4)
      clear b4 HB3 HE3 HA3 HTX
      go_wp2_with fail
      have HM : Hid (CS2 w w.heap.size c w4 w4) := ⟨HB4.out, HE4.out, HA4.out, Below.refl _ _⟩
      clear HB4 HE4 HA4
      refine wp_region_noPanic ?_
      refine wp_region_held_drew (S := CS2 w w.heap.size c w4) (by kernel_rfl) (HM.out.later (Below.refl _ _).drew) (fun hHeld => ?_)
      try simp only [Act.put]
      generalize w4.drew = wd at hHeld ⊢
      clear HM
      refine takeC (i := 0) (o := ⟨some 30, _, _, _, _, _⟩) (u := c) rfl (by kernel_rfl) (by kernel_rfl) (by kernel_rfl) (fun _ _ _ h => h) (by rfl) ⟨rfl, rfl⟩ (fun _ h => h.2.2.1.range) hHeld ?_
      try simp only [Act.put, List.setIfInBounds_toArray, List.set_cons_zero, List.set_cons_succ]
      refine takeC (i := 2) (o := ⟨some 32, _, _, _, _, _⟩) (u := c) rfl (by kernel_rfl) (by kernel_rfl) (by kernel_rfl) (fun _ _ _ h => h) (by rfl) ⟨rfl, rfl⟩ (fun _ h => h.2.2.1.range) hHeld ?_
      try simp only [Act.put, List.setIfInBounds_toArray, List.set_cons_zero, List.set_cons_succ]
      refine wpAnyH_ready (rs := [1]) (by kernel_rfl) (by simp) ?_
      refine AllReadyH.cons (o := ⟨some 31, _, _, _, _, _⟩) rfl (fun K' hK' => ?_) AllReadyH.nil
      refine stepw_call (by rfl) ?_ (hHeld.right) ?_
      focus go_simp
      rintro v wa ⟨rfl, hkn⟩
      refine hK'.out _ _ hkn (fun _ => ?_)
      clear hK' K' hHeld
      have hHeld := hkn
      clear hkn
      try simp only [Act.put, List.setIfInBounds_toArray, List.set_cons_zero, List.set_cons_succ]
      refine wpAnyH_ready (rs := [3]) (by kernel_rfl) (by simp) ?_
      refine AllReadyH.cons (o := ⟨some 33, _, _, _, _, _⟩) rfl (fun K' hK' => ?_) AllReadyH.nil
      refine stepw_call (by rfl) ?_ (hHeld.rright HS6.out) ?_
      focus go_simp
      rintro v wb ⟨rfl, hkn⟩
      refine hK'.out _ _ hkn (fun _ => ?_)
      clear hK' K' hHeld
      have hHeld := hkn
      clear hkn
      try simp only [Act.put, List.setIfInBounds_toArray, List.set_cons_zero, List.set_cons_succ]
      rw [HR.out]
      refine wpAnyH_take (i := 4) (oi := ⟨some 34, _, _, _, _, _⟩) (v := .bool false) rfl (by kernel_rfl) (by kernel_rfl) (by kernel_rfl) (fun _ _ _ h => h) (.inl ⟨by rfl, fun w' hSw => ?_⟩) hHeld ?_
      focus (skip; clear hHeld; go_simp)
      try simp only [Act.put, List.setIfInBounds_toArray, List.set_cons_zero, List.set_cons_succ]
      refine wpAnyH_done (by kernel_rfl) ?_ _
      refine NoPanic.normal ?_
      have HB5 := Lib.hid hHeld.1
      have HE5 := Lib.hid hHeld.2.1
      have HA5 := Lib.hid hHeld.2.2.1
      clear hHeld
      generalize wb = w5 at HB5 HE5 HA5 ⊢
      have HRR := Lib.hid (rrightC_any c HS6.out w5)
      rw [HR.out] at HRR
      go_wp2_with ((with_reducible refine loadC (x := .tmp 1) (u := c) (o := ⟨some 35, _, _, _, _, _⟩) HA5.out ?_ ?_); exact ⟨rfl, rfl, rfl⟩)
      refine HRR.out.mono ?_
      rintro e w6 ⟨rfl, b6⟩
      have HB6 := Lib.hid (HB5.out.trans (b6.mono HB5.out.size))
      have HE6 := Lib.hid (HE5.out.below b6)
      have HA6 := Lib.hid (HA5.out.later b6)
      clear b6 HB5 HE5 HA5 HRR
      go_wp2_with fail
      go_ret
      exact ⟨rfl, HB6.out⟩
    · have HR := Lib.hid hr
      have HS3 : Hid (sizesT c.t 1000) := (sizes_right (rightC_all hr).2.2).mono (by decide)
      clear hr
      go_enter Tryz.func8, Tryz.ntmps8
      go_wp2_with fail
      generalize w.alloc (.cells (chc c).toArray 61) = w0 at HB0 HE0 HA0 HAW HSH ⊢
      refine HAW.out.mono ?_
      rintro e w1 ⟨rfl, b1⟩
      have HSH1 := Lib.hid (HSH.out w1)
      have HB1 := Lib.hid (HB0.out.trans (b1.mono HB0.out.size))
      have HE1 := Lib.hid (HE0.out.below b1)
      have HA1 := Lib.hid (HA0.out.later b1)
      clear b1 HB0 HE0 HA0 HAW HSH
      go_wp2_with ((with_reducible refine loadCt (x := .tmp 14) (u := c) (o := ⟨some 15, _, _, _, _, _⟩) HA1.out ?_ ?_); exact ⟨rfl, rfl, rfl⟩)
      refine HSH1.out.mono ?_
      rintro e w2 ⟨rfl, b2⟩
      have HB2 := Lib.hid (HB1.out.trans (b2.mono HB1.out.size))
      have HE2 := Lib.hid (HE1.out.below b2)
      have HA2 := Lib.hid (HA1.out.later b2)
      clear b2 HB1 HE1 HA1 HSH1
      rw [HST.out]
      have HPU := Lib.hid (cputC_yes c HR.out w2 HE2.out.1.1)
      go_wp2_with ((with_reducible refine loadC (x := .tmp 1) (u := c) (o := ⟨some 21, _, _, _, _, _⟩) HA2.out ?_ ?_); exact ⟨rfl, rfl, rfl⟩)
      refine HPU.out.mono ?_
      rintro e w3 ⟨v, rfl, hh, b3⟩
      have HRD3 : Hid (Held w2.heap.size w3 v (putC c)) := hh
      obtain ⟨pv, nv, cv, rfl⟩ := held_sl hh
      clear hh
      obtain ⟨pl, hpl⟩ : ∃ pl, pl = putC c := ⟨_, rfl⟩
      rw [← hpl] at HRD3
      have HPE := Lib.hid hpl
      have HPZ : Hid (pl.length ≤ 1000000) := by show pl.length ≤ 1000000; rw [hpl]; exact Nat.le_trans (putC_len HR.out) (by decide)
      clear hpl
      have HB3 := Lib.hid (HB2.out.trans (b3.mono HB2.out.size))
      have HE3 := Lib.hid (HE2.out.below b3)
      have HA3 := Lib.hid (HA2.out.later b3)
      clear b3 HB2 HE2 HA2 HPU
      have HTX := Lib.hid (ctextC_yes c HR.out w3 HE3.out)
      obtain ⟨tx, htx⟩ : ∃ tx, tx = textC c := ⟨_, rfl⟩
      rw [← htx] at HTX
      have HTE := Lib.hid htx
      have HTZ : Hid (tx.size ≤ 1000000) := by show tx.size ≤ 1000000; rw [htx]; exact Nat.le_trans (textC_len HR.out) (by decide)
      clear htx
      go_wp2_with ((with_reducible refine loadC (x := .tmp 1) (u := c) (o := ⟨some 26, _, _, _, _, _⟩) HA3.out ?_ ?_); exact ⟨rfl, rfl, rfl⟩)
      refine HTX.out.mono ?_
      rintro e w4 ⟨rfl, b4⟩
      have HRD := Lib.hid (HRD3.out.later b4)
      have HB4 := Lib.hid (HB3.out.trans (b4.mono HB3.out.size))
      have HE4 := Lib.hid (HE3.out.below b4)
      have HA4 := Lib.hid (HA3.out.later b4)
      clear b4 HB3 HE3 HA3 HTX HRD3
      go_wp2_with fail
      have HM : Hid (CS2 w w.heap.size c w4 w4) := ⟨HB4.out, HE4.out, HA4.out, Below.refl _ _⟩
      clear HB4 HE4 HA4
      refine wp_region_noPanic ?_
      refine wp_region_held_drew (S := CS2 w w.heap.size c w4) (by kernel_rfl) (HM.out.later (Below.refl _ _).drew) (fun hHeld => ?_)
      try simp only [Act.put]
      generalize w4.drew = wd at hHeld ⊢
      clear HM
      refine takeC (i := 0) (o := ⟨some 30, _, _, _, _, _⟩) (u := c) rfl (by kernel_rfl) (by kernel_rfl) (by kernel_rfl) (fun _ _ _ h => h) (by rfl) ⟨rfl, rfl⟩ (fun _ h => h.2.2.1.range) hHeld ?_
      try simp only [Act.put, List.setIfInBounds_toArray, List.set_cons_zero, List.set_cons_succ]
      refine takeC (i := 2) (o := ⟨some 32, _, _, _, _, _⟩) (u := c) rfl (by kernel_rfl) (by kernel_rfl) (by kernel_rfl) (fun _ _ _ h => h) (by rfl) ⟨rfl, rfl⟩ (fun _ h => h.2.2.1.range) hHeld ?_
      try simp only [Act.put, List.setIfInBounds_toArray, List.set_cons_zero, List.set_cons_succ]
      refine wpAnyH_ready (rs := [1]) (by kernel_rfl) (by simp) ?_
      refine AllReadyH.cons (o := ⟨some 31, _, _, _, _, _⟩) rfl (fun K' hK' => ?_) AllReadyH.nil
      refine stepw_call (by rfl) ?_ (hHeld.right) ?_
      focus go_simp
      rintro v wa ⟨rfl, hkn⟩
      refine hK'.out _ _ hkn (fun _ => ?_)
      clear hK' K' hHeld
      have hHeld := hkn
      clear hkn
      try simp only [Act.put, List.setIfInBounds_toArray, List.set_cons_zero, List.set_cons_succ]
      refine wpAnyH_ready (rs := [3]) (by kernel_rfl) (by simp) ?_
      refine AllReadyH.cons (o := ⟨some 33, _, _, _, _, _⟩) rfl (fun K' hK' => ?_) AllReadyH.nil
      refine stepw_call (by rfl) ?_ (hHeld.rright HS6.out) ?_
      focus go_simp
      rintro v wb ⟨rfl, hkn⟩
      refine hK'.out _ _ hkn (fun _ => ?_)
      clear hK' K' hHeld
      have hHeld := hkn
      clear hkn
      try simp only [Act.put, List.setIfInBounds_toArray, List.set_cons_zero, List.set_cons_succ]
      rw [HR.out]
      refine wpAnyH_take (i := 4) (oi := ⟨some 34, _, _, _, _, _⟩) (v := .bool false) rfl (by kernel_rfl) (by kernel_rfl) (by kernel_rfl) (fun _ _ _ h => h) (.inl ⟨by rfl, fun w' hSw => ?_⟩) hHeld ?_
      focus (skip; clear hHeld; go_simp)
      try simp only [Act.put, List.setIfInBounds_toArray, List.set_cons_zero, List.set_cons_succ]
      refine wpAnyH_done (by kernel_rfl) ?_ _
      refine NoPanic.normal ?_
      have HB5 := Lib.hid hHeld.1
      have HE5 := Lib.hid hHeld.2.1
      have HA5 := Lib.hid hHeld.2.2.1
      have HRD5 := Lib.hid (HRD.out.later hHeld.2.2.2)
      clear HRD
      clear hHeld
      generalize wb = w5 at HB5 HE5 HA5 HRD5 ⊢
      have HRR := Lib.hid (rrightC_any c HS6.out w5)
      rw [HR.out] at HRR
      go_wp2_with ((with_reducible refine loadC (x := .tmp 1) (u := c) (o := ⟨some 35, _, _, _, _, _⟩) HA5.out ?_ ?_); exact ⟨rfl, rfl, rfl⟩)
      refine HRR.out.mono ?_
      rintro e w6 ⟨rfl, b6⟩
      have HB6 := Lib.hid (HB5.out.trans (b6.mono HB5.out.size))
      have HE6 := Lib.hid (HE5.out.below b6)
      have HA6 := Lib.hid (HA5.out.later b6)
      have HRD6 := Lib.hid (HRD5.out.later b6)
      clear b6 HB5 HE5 HA5 HRD5 HRR
      have HPB : Hid (Calls Tryz.prog 42 #[.slice pv nv cv] w6 fun e w' => e = .returned (.tuple #[chV c, .nilIface]) ∧ Below w6.heap.size w6 w') := by
        have h := cparse_any HRD6.out.rd (Nat.le_refl _) HPZ.out HE6.out.1
        rw [show parseC pl = (c, 0, 0) by rw [HPE.out, parseC_put HR.out]] at h
        exact h
      go_wp2_with fail
      refine HPB.out.mono ?_
      rintro e w7 ⟨rfl, b7⟩
      have hb8 : Below w7.heap.size w7 (w7.alloc (.cells (chc c).toArray 61)) := (Below.refl _ _).alloc (Nat.le_refl _) _
      have b8 := b7.trans (hb8.mono b7.size)
      have HX8 := Lib.hid (ch_new w7 c)
      have HB8 := Lib.hid (HB6.out.trans (b8.mono HB6.out.size))
      have HE8 := Lib.hid (HE6.out.below b8)
      have HA8 := Lib.hid (HA6.out.later b8)
      have HRD8 := Lib.hid (HRD6.out.later b8)
      clear b8 HB6 HE6 HA6 HRD6 b7 hb8 HPB
      go_upto_region 10 with ((with_reducible refine atC w7.heap.size (x := .tmp 7) (y := .tmp 56) (u := c) (o := ⟨none, .store _ _ _, _, _, _, _⟩) ?_ ?_); exact ⟨rfl, rfl, rfl, rfl, rfl, rfl⟩)
      generalize w7.alloc (.cells (chc c).toArray 61) = w8 at HB8 HE8 HA8 HX8 HRD8 ⊢
      generalize w7.heap.size = g8 at HX8 ⊢
      have HPA : Hid (Calls Tryz.prog 43 #[.string tx] w8 fun e w' => e = .returned (.tuple #[chV c, .nilIface]) ∧ Below w8.heap.size w8 w') := by
        have h := cptext_any tx w8 HE8.out HTZ.out
        rw [show parseCT tx = (c, 0, 0) by rw [HTE.out, parseCT_text HR.out]] at h
        exact h
      go_wp2_with fail
      refine HPA.out.mono ?_
      rintro e w9 ⟨rfl, b9⟩
      have hb10 : Below w9.heap.size w9 (w9.alloc (.cells (chc c).toArray 61)) := (Below.refl _ _).alloc (Nat.le_refl _) _
      have b10 := b9.trans (hb10.mono b9.size)
      have HY10 := Lib.hid (ch_new w9 c)
      have HB10 := Lib.hid (HB8.out.trans (b10.mono HB8.out.size))
      have HE10 := Lib.hid (HE8.out.below b10)
      have HA10 := Lib.hid (HA8.out.later b10)
      have HRD10 := Lib.hid (HRD8.out.later b10)
      have HX10 := Lib.hid (HX8.out.later b10)
      clear b10 HB8 HE8 HA8 HRD8 HX8 b9 hb10 HPA
      go_upto_region 11 with ((with_reducible refine atC w9.heap.size (x := .tmp 9) (y := .tmp 61) (u := c) (o := ⟨none, .store _ _ _, _, _, _, _⟩) ?_ ?_); exact ⟨rfl, rfl, rfl, rfl, rfl, rfl⟩)
      generalize w9.alloc (.cells (chc c).toArray 61) = w10 at HB10 HE10 HA10 HX10 HY10 HRD10 ⊢
      generalize w9.heap.size = g10 at HY10 ⊢
      have HRU := Lib.hid (rputC_any c (by have := (rightC_all HR.out).2.1; unfold lim64; omega) HS3.out w10)
      rw [← HPE.out] at HRU
      go_wp2_with ((with_reducible refine loadC (x := .tmp 1) (u := c) (o := ⟨some 69, _, _, _, _, _⟩) HA10.out ?_ ?_); exact ⟨rfl, rfl, rfl⟩)
      refine HRU.out.mono ?_
      rintro e w11 ⟨v11, rfl, hh11, b11⟩
      have HSM := Lib.hid (same_any (HRD10.out.later b11).rd hh11.rd)
      rw [eqB_refl] at HSM
      obtain ⟨q11, n11, c11, rfl⟩ := held_sl hh11
      clear hh11
      have HB11 := Lib.hid (HB10.out.trans (b11.mono HB10.out.size))
      have HE11 := Lib.hid (HE10.out.below b11)
      have HA11 := Lib.hid (HA10.out.later b11)
      have HX11 := Lib.hid (HX10.out.later b11)
      have HY11 := Lib.hid (HY10.out.later b11)
      clear b11 HB10 HE10 HA10 HX10 HY10 HRU HRD10
      go_wp2_with fail
      refine HSM.out.mono ?_
      rintro e w12 ⟨rfl, n12, rfl⟩
      have b12 := below_drewN (Below.refl w11.heap.size w11) n12
      generalize w11.drewN n12 = w12 at b12 ⊢
      have HB12 := Lib.hid (HB11.out.trans (b12.mono HB11.out.size))
      have HE12 := Lib.hid (HE11.out.below b12)
      have HA12 := Lib.hid (HA11.out.later b12)
      have HX12 := Lib.hid (HX11.out.later b12)
      have HY12 := Lib.hid (HY11.out.later b12)
      clear b12 HB11 HE11 HA11 HX11 HY11 HSM
      have HRT := Lib.hid (rtextC_any c (rightC_all HR.out).2.1 HS3.out w12)
      rw [← HTE.out] at HRT
      go_wp2_with ((with_reducible refine loadC (x := .tmp 1) (u := c) (o := ⟨some 75, _, _, _, _, _⟩) HA12.out ?_ ?_); exact ⟨rfl, rfl, rfl⟩)
      refine HRT.out.mono ?_
      rintro e w13 ⟨rfl, b13⟩
      have HB13 := Lib.hid (HB12.out.trans (b13.mono HB12.out.size))
      have HE13 := Lib.hid (HE12.out.below b13)
      have HA13 := Lib.hid (HA12.out.later b13)
      have HX13 := Lib.hid (HX12.out.later b13)
      have HY13 := Lib.hid (HY12.out.later b13)
      clear b13 HB12 HE12 HA12 HX12 HY12 HRT
      have hee : Hid (eqC c c = true) := eqC_refl c
      go_wp2_with (first
        | ((with_reducible refine loadC (x := .tmp 7) (u := c) (o := ⟨some 84, _, _, _, _, _⟩) HX13.out ?_ ?_); exact ⟨rfl, rfl, rfl⟩)
        | ((with_reducible refine loadC (x := .tmp 1) (u := c) (o := ⟨some 85, _, _, _, _, _⟩) HA13.out ?_ ?_); exact ⟨rfl, rfl, rfl⟩)
        | ((with_reducible refine eqCW hee.out (t := 61) (x := .tmp 84) (y := .tmp 85) (o := ⟨some 86, _, _, _, _, _⟩) ?_ ?_); exact ⟨rfl, rfl, rfl, rfl⟩)
        | ((with_reducible refine loadC (x := .tmp 9) (u := c) (o := ⟨some 93, _, _, _, _, _⟩) HY13.out ?_ ?_); exact ⟨rfl, rfl, rfl⟩)
        | ((with_reducible refine loadC (x := .tmp 1) (u := c) (o := ⟨some 94, _, _, _, _, _⟩) HA13.out ?_ ?_); exact ⟨rfl, rfl, rfl⟩)
        | ((with_reducible refine eqCW hee.out (t := 61) (x := .tmp 93) (y := .tmp 94) (o := ⟨some 95, _, _, _, _, _⟩) ?_ ?_); exact ⟨rfl, rfl, rfl, rfl⟩))
      go_ret
      exact ⟨rfl, HB13.out⟩
end Go.Proofs.YtnnebfcggdbgpaaGreatDoor
/-
  What the rows' condition on package-level variables gives the walks, and that a world meets it.
-/
namespace Go.Proofs.YtnnebfcggdbgpaaGreatDoor
open Go.ChangeShapes Go.WideShapes Go.ChangeAt Go.RowKit
set_option linter.unusedVariables false

def laidL : List (String × DataW Unit) := [("errors.errorType", Rows.laid_errors_errorType), ("vestry/name.reserved", Rows.laid_vestry_name_reserved)]

theorem own : ownKnob Tryz.prog.godebug = none := by kernel_rfl
theorem laidOut : laidOutB Tryz.prog = true := by kernel_rfl
theorem gErr : Tryz.prog.globalNamed "errors.errorType" = some 2 := by kernel_rfl
theorem gRes : Tryz.prog.globalNamed "vestry/name.reserved" = some 0 := by kernel_rfl
theorem tRes : (Tryz.prog.globals[0]?).map (·.type) = some 158 := by kernel_rfl
theorem rtyp : (Tryz.prog.cutTypes.find? (·.1 == "internal/reflectlite.rtype")).map (·.2) = some 211 := by kernel_rfl
theorem nTypes : ∃ n, Tryz.prog.types.size = n ∧ ((List.range n).filter fun t => Tryz.prog.rowNamed t [101, 114, 114, 111, 114]) = [34] := ⟨_, rfl, by kernel_rfl⟩
theorem errHandle : typeHandle Tryz.prog 34 = .pointer (some ⟨8, 34, none⟩) := by kernel_rfl
theorem cells9 : Tryz.prog.cellsOf 9 = 1 := by kernel_rfl

/-- The heap that the door's own run leaves meets the condition. -/
theorem door_met (os : Os) (args : Array Value) : laidMetH Tryz.prog laidL ((World.doorLaid Tryz.prog 400 os).forCall (fun _ _ => 0) ⟨#[], args, []⟩).memory :=
  laidMetH_of_parts3 (fuel := 8) (laidMet_of_run' 8 (by kernel_rfl) (by kernel_rfl)) (by kernel_rfl) (by kernel_rfl)

set_option maxRecDepth 100000 in
theorem env_of_laid {W : World} (h : laidMetH Tryz.prog laidL W) (hsh : W.ShapedOpen Tryz.prog) : Env W := by
  have h' : laidMet Tryz.prog [("vestry/name.reserved", Rows.laid_vestry_name_reserved)] W ∧ handlesMet Tryz.prog [("errors.errorType", Rows.laid_errors_errorType)] W := h
  obtain ⟨h1, h2⟩ := h'
  refine ⟨?_, ?_, Tryz.laysM145.s1_3 W hsh⟩
  · obtain ⟨ps, ⟨g0, t0, cs0, f0, p0, q0, hg0, ht0, hv0, hd0, _, _⟩, _, _⟩ := h1
    obtain rfl := Option.some.inj (gRes.symm.trans hg0)
    obtain rfl := Option.some.inj (tRes.symm.trans ht0)
    obtain ⟨xs, m1, rfl, hx1, hlen, hn3, hel⟩ := DataW.trod_array Tryz.underlying158 hd0
    have e0 := hel 0 (by decide)
    have e1 := hel 1 (by decide)
    have e2 := hel 2 (by decide)
    rw [cells9] at e0 e1 e2
    simp only [Prod.mk.injEq, Rows.laid_vestry_name_reserved, DataW.agg.injEq] at hx1
    match xs, hn3, hx1, e0, e1, e2 with
    | [x0, x1, x2], _, hx1, e0, e1, e2 =>
      simp only [List.map_cons, List.map_nil, List.cons.injEq] at hx1
      obtain ⟨s0, a0, b0, _⟩ := DataW.trod_string Tryz.underlying9 (show DataW.trod _ Tryz.prog W 0 _ false m1 9 _ = some x0 from e0)
      obtain ⟨s1, a1, b1, _⟩ := DataW.trod_string Tryz.underlying9 (show DataW.trod _ Tryz.prog W 0 _ false m1 9 _ = some x1 from e1)
      obtain ⟨s2, a2, b2, _⟩ := DataW.trod_string Tryz.underlying9 (show DataW.trod _ Tryz.prog W 0 _ false m1 9 _ = some x2 from e2)
      rw [b0, b1, b2] at hx1
      simp at hx1
      obtain ⟨⟨y0, y1, y2⟩, _⟩ := hx1
      have z0 : s0 = wDef := bytes_inj y0.symm
      have z1 : s1 = wRel := bytes_inj y1.symm
      have z2 : s2 = wPerm := bytes_inj y2.symm
      subst z0 z1 z2
      have v0 := World.var?_cell hg0 hv0 0
      have v1 := World.var?_cell hg0 hv0 1
      have v2 := World.var?_cell hg0 hv0 2
      obtain ⟨l⟩ := cs0
      match l, a0, a1, a2 with
      | [c0, c1, c2], a0, a1, a2 =>
        simp at a0 a1 a2
        subst a0 a1 a2
        exact ⟨by simpa using v0, by simpa using v1, by simpa using v2⟩
  · obtain ⟨name, u, ty, k1, k2, k3, k4, k5⟩ := h2 _ (List.mem_singleton.2 rfl)
    have en : name = [101, 114, 114, 111, 114] := (Option.some.inj k1).symm
    subst en
    obtain rfl := Option.some.inj (rtyp.symm.trans k2)
    obtain ⟨n, hn, hone⟩ := nTypes
    have hm : ty ∈ (List.range n).filter fun t => Tryz.prog.rowNamed t [101, 114, 114, 111, 114] := List.mem_filter.2 ⟨List.mem_range.2 (by rw [← hn]; exact k3), k4⟩
    rw [hone] at hm
    obtain rfl := List.mem_singleton.1 hm
    rw [errHandle] at k5
    have k6 := World.var?_cell gErr k5 0
    show errAs.ErrT W
    unfold errAs.ErrT
    simpa using k6

section
variable {H : Type} {enc : TypeId × Value → H}
/-- The wrap of a row with a condition on memory, the world's shape kept. -/
theorem wrap_and {a : Assume} {C : Checked} {os : Os} {f : FuncId} {fn : Func} {s : ChangeSpec} {conds : List PathCond} {apart fresh handsOn again : Bool} {X : World → Array Value → Prop}
    (hX : ∀ (w w' : World) (args : Array Value), w.heap = w'.heap → X w args → X w' args)
    (own : ownKnob C.prog.godebug = none) (started : os.Started) (noInit : C.prog.inits.idxOf? f = none) (hfn : C.prog.funcs[f]? = some fn)
    (witness : ∃ (w : World) (tape : Tape) (i : Input), w.os = os ∧ (w.forCall tape i).Shaped C.prog ∧ i.vars = [] ∧ Input.okWide C.prog (w.forCall tape i) .any w.heap.size f i ∧
      ((s.pre enc C.prog fn conds apart (w.forCall tape i).memory i.args ∧ X (w.forCall tape i).memory i.args) ∧ sizedMet enc C.prog fn (OpenSpec.ofChange s) apart (w.forCall tape i).memory i.args) ∧ a.holds C.prog (lone (Frame.enter C.prog f i.args .normal) [] (w.forCall tape i)))
    (contract : ∀ (W : World) (base : Nat) (args : Array Value) (ds gs : List (DataW H)) (before : List MemPlace),
      (∀ (j : Nat) t v, fn.params[j]? = some t → args[j]? = some v → Value.okWide C.prog W .any base t v) →
      DataW.Whole enc C.prog fn.params.toList s.vars apart W args.toList ds gs before →
      W.ShapedOpen C.prog → X W args →
      Calls C.prog f args W fun e W' => ∃ v, e = .returned v ∧ s.post enc C.prog fn apart fresh handsOn again W args v W') :
    ReturnsInHanded a C os f .any (fun w args => (s.pre enc C.prog fn conds apart w args ∧ X w args) ∧ sizedMet enc C.prog fn (OpenSpec.ofChange s) apart w args) (s.post enc C.prog fn apart fresh handsOn again) := by
  refine returnsInHanded_of_calls own started noInit witness ?_
  intro w tape i _ hsh _ hok hpre _
  obtain ⟨_, _, _, fn', hfn', _, _, _, _, hval⟩ := hok
  have e : fn' = fn := Option.some.inj (hfn'.symm.trans hfn)
  subst e
  obtain ⟨⟨⟨ds, gs, before, hw, _⟩, hx⟩, _⟩ := hpre
  have hw' := DataW.Whole.of_heap (w' := w.forCall tape i) (by rfl) hw
  refine (contract (w.forCall tape i) w.heap.size i.args ds gs before hval hw' hsh (hX _ _ _ (by rfl) hx)).mono fun e W' ⟨v, he, hp⟩ => ?_
  subst he
  exact ChangeSpec.post_blind hp
/-- .. with the arguments' sizes. -/
theorem wrap_sized {a : Assume} {C : Checked} {os : Os} {f : FuncId} {fn : Func} {s : ChangeSpec} {conds : List PathCond} {apart fresh handsOn again : Bool} {X : World → Array Value → Prop}
    (hX : ∀ (w w' : World) (args : Array Value), w.heap = w'.heap → X w args → X w' args)
    (own : ownKnob C.prog.godebug = none) (started : os.Started) (noInit : C.prog.inits.idxOf? f = none) (hfn : C.prog.funcs[f]? = some fn)
    (witness : ∃ (w : World) (tape : Tape) (i : Input), w.os = os ∧ (w.forCall tape i).Shaped C.prog ∧ i.vars = [] ∧ Input.okWide C.prog (w.forCall tape i) .any w.heap.size f i ∧
      ((s.pre enc C.prog fn conds apart (w.forCall tape i).memory i.args ∧ X (w.forCall tape i).memory i.args) ∧ sizedMet enc C.prog fn (OpenSpec.ofChange s) apart (w.forCall tape i).memory i.args) ∧ a.holds C.prog (lone (Frame.enter C.prog f i.args .normal) [] (w.forCall tape i)))
    (contract : ∀ (W : World) (base : Nat) (args : Array Value) (ds gs : List (DataW H)) (before : List MemPlace),
      (∀ (j : Nat) t v, fn.params[j]? = some t → args[j]? = some v → Value.okWide C.prog W .any base t v) →
      DataW.Whole enc C.prog fn.params.toList s.vars apart W args.toList ds gs before →
      W.ShapedOpen C.prog → X W args →
      (DataW.weightsEach C.prog (fn.params.toList ++ (OpenSpec.ofChange s).bare.plain.varTypes C.prog) (ds ++ gs)).all (· ≤ reachBytes) = true →
      Calls C.prog f args W fun e W' => ∃ v, e = .returned v ∧ s.post enc C.prog fn apart fresh handsOn again W args v W') :
    ReturnsInHanded a C os f .any (fun w args => (s.pre enc C.prog fn conds apart w args ∧ X w args) ∧ sizedMet enc C.prog fn (OpenSpec.ofChange s) apart w args) (s.post enc C.prog fn apart fresh handsOn again) := by
  refine returnsInHanded_of_calls own started noInit witness ?_
  intro w tape i _ hsh _ hok hpre _
  obtain ⟨_, _, _, fn', hfn', _, _, _, _, hval⟩ := hok
  have e : fn' = fn := Option.some.inj (hfn'.symm.trans hfn)
  subst e
  obtain ⟨⟨⟨ds, gs, before, hw, _⟩, hx⟩, hz⟩ := hpre
  have hw' := DataW.Whole.of_heap (w' := w.forCall tape i) (by rfl) hw
  refine (contract (w.forCall tape i) w.heap.size i.args ds gs before hval hw' hsh (hX _ _ _ (by rfl) hx) (hz.weights hw)).mono fun e W' ⟨v, he, hp⟩ => ?_
  subst he
  exact ChangeSpec.post_blind hp
end
end Go.Proofs.YtnnebfcggdbgpaaGreatDoor
/-
  What the rows of stage 21 say of package-level variables gives the walks, and that a world meets it.
-/
namespace Go.Proofs.YtnnebfcggdbgpaaGreatDoor
open Go.ChangeShapes Go.WideShapes Go.ChangeAt Go.RowKit
set_option linter.unusedVariables false

def laidL21 : List (String × DataW Unit) := [("math/bits.deBruijn32tab", Rows.laid_math_bits_deBruijn32tab), ("math/bits.deBruijn64tab", Rows.laid_math_bits_deBruijn64tab), ("internal/strconv.uint64pow10", Rows.laid_internal_strconv_uint64pow10), ("errors.errorType", Rows.laid_errors_errorType), ("strconv.ErrRange", Rows.laid_strconv_ErrRange), ("strconv.ErrSyntax", Rows.laid_strconv_ErrSyntax), ("vestry/name.reserved", Rows.laid_vestry_name_reserved)]
theorem door_met21 (os : Os) (args : Array Value) : laidMetH Tryz.prog laidL21 ((World.doorLaid Tryz.prog 400 os).forCall (fun _ _ => 0) ⟨#[], args, []⟩).memory :=
  laidMetH_of_parts3 (fuel := 8) (laidMet_of_run' 8 (by kernel_rfl) (by kernel_rfl)) (by kernel_rfl) (by kernel_rfl)
theorem gPow : Tryz.prog.globalNamed "internal/strconv.uint64pow10" = some 3 := by kernel_rfl
theorem gER : Tryz.prog.globalNamed "strconv.ErrRange" = some 5 := by kernel_rfl
theorem gES : Tryz.prog.globalNamed "strconv.ErrSyntax" = some 4 := by kernel_rfl
theorem var_of {W : World} {n nm : String} {d : DataW Unit} {r : List (String × DataW Unit)} {g : Nat} (h : laidMet Tryz.prog ((n, .iface nm d) :: r) W) (hg : Tryz.prog.globalNamed n = some g) (ht : (Tryz.prog.globals[g]?).map (·.type) = some 34) : VarE W n := by
  obtain ⟨ps, ⟨g0, t0, cs0, f0, p0, q0, hg0, ht0, hv0, hd0, _, e0⟩, _, _⟩ := h
  obtain rfl := Option.some.inj (hg.symm.trans hg0)
  obtain rfl := Option.some.inj (ht.symm.trans ht0)
  obtain ⟨l0⟩ := cs0
  obtain ⟨f1, u, v, hl, _, _⟩ := iface_of_trod Tryz.underlying34 hd0
  have hl' : l0 = [.iface u v] := hl
  subst hl'
  exact ⟨u, v, hv0⟩
theorem env_of_laid21 {W : World} (h : laidMetH Tryz.prog laidL21 W) (hsh : W.ShapedOpen Tryz.prog) : EnvU W := by
  have h' : laidMet Tryz.prog [("math/bits.deBruijn32tab", Rows.laid_math_bits_deBruijn32tab), ("math/bits.deBruijn64tab", Rows.laid_math_bits_deBruijn64tab), ("internal/strconv.uint64pow10", Rows.laid_internal_strconv_uint64pow10), ("strconv.ErrRange", Rows.laid_strconv_ErrRange), ("strconv.ErrSyntax", Rows.laid_strconv_ErrSyntax), ("vestry/name.reserved", Rows.laid_vestry_name_reserved)] W ∧ handlesMet Tryz.prog [("errors.errorType", Rows.laid_errors_errorType)] W := h
  obtain ⟨h1, h2⟩ := h'
  have t2 := laidMet.tail (laidMet.tail h1)
  have t3 := laidMet.tail t2
  have t4 := laidMet.tail t3
  have t5 := laidMet.tail t4
  refine ⟨env_of_laid (show laidMetH Tryz.prog laidL W from ⟨t5, h2⟩) hsh, ?_, var_of t4 gES (by kernel_rfl), var_of t3 gER (by kernel_rfl)⟩
  exact Lib.tabIs_of_head gPow (t := 199) (e := 59) (by kernel_rfl) Tryz.underlying199 Tryz.underlying59 (by kernel_rfl) (by kernel_rfl) t2
end Go.Proofs.YtnnebfcggdbgpaaGreatDoor
