/-
  crc.Seal, crc.Open and the reference's Fast, Seal, Sealed, Spread.
-/
import Derived.Test.YtikokimnhanloaaDoorCrc
namespace Go.Proofs.YtikokimnhanloaaDoor
open Go.ChangeShapes Go.WideShapes Go.ChangeAt Go.RowKit
set_option linter.unusedVariables false

def le4 (c : Nat) : List UInt8 := [UInt8.ofNat c, UInt8.ofNat (c / 256), UInt8.ofNat (c / 65536), UInt8.ofNat (c / 16777216)]
def sealed (l : List UInt8) : List UInt8 := l ++ le4 (crc l)
theorem bvo (n : Nat) : bv (UInt8.ofNat n) = .int .u8 ((n : Int) % 256) := by
  unfold bv; congr 1

theorem fast_bit (q x j : Nat) : bits .xor .u32 ((q : Int) % 2) ((x : Int) / 2 ^ j % 2) = (((q % 2) ^^^ (x / 2 ^ j % 2) : Nat) : Int) := by
  have e1 : (q : Int) % 2 = ((q % 2 : Nat) : Int) := by omega
  have e2 : (x : Int) / 2 ^ j % 2 = ((x / 2 ^ j % 2 : Nat) : Int) := by simp
  rw [e1, e2, u32_xor_nat _ _ (by omega) (by omega)]
theorem fast_yes {q x j : Nat} (hq : q < lim32) (h : (bits .xor .u32 ((q : Int) % 2) ((x : Int) / 2 ^ j % 2) == 1) = true) :
    bits .xor .u32 ((q : Int) / 2 % 4294967296) 3988292384 = ((stp q (x / 2 ^ j % 2) : Nat) : Int) := by
  rw [fast_bit, beq_iff_eq] at h
  rw [stp_bit q _ (by omega), if_pos (by omega)]
  have e : (q : Int) / 2 % 4294967296 = ((q / 2 : Nat) : Int) := by unfold lim32 at hq; omega
  rw [e]
  exact u32_xor_nat _ gen (by unfold lim32 at hq; omega) gen_lt
theorem fast_no {q x j : Nat} (hq : q < lim32) (h : (bits .xor .u32 ((q : Int) % 2) ((x : Int) / 2 ^ j % 2) == 1) = false) :
    (q : Int) / 2 % 4294967296 = ((stp q (x / 2 ^ j % 2) : Nat) : Int) := by
  rw [fast_bit, beq_eq_false_iff_ne] at h
  rw [stp_bit q _ (by omega), if_neg (by omega)]
  unfold lim32 at hq; omega
theorem stp_lt {q b : Nat} (hq : q < lim32) (hb : b < 2) : stp q b < lim32 := tt_lt (xor_lt32 hq (by unfold lim32; omega))
theorem lowb_next {q x j : Nat} (hj : j < 8) : run q (lowb (8 - j) (x / 2 ^ j)) = run (stp q (x / 2 ^ j % 2)) (lowb (8 - (j + 1)) (x / 2 ^ (j + 1))) := by
  have e : 8 - j = (8 - (j + 1)) + 1 := by omega
  rw [e, lowb, Nat.div_div_eq_div_mul, ← Nat.pow_succ]
  rfl

set_option maxRecDepth 100000 in
theorem fast_any {B : Nat} {w : World} {vb : Value} {l : List UInt8} (hr : Rd B w vb l) :
    Calls Tryd.prog 38 #[vb] w fun e w' => e = .returned (.int .u32 (crc l)) ∧ w = w' := by
  obtain ⟨ov, cv, rfl, hmx, hcell⟩ := hr.form
  unfold maxLen at hmx
  go_enter Tryd.func38, Tryd.ntmps38
  go_wp2_with fail
  go_loop [3, 4] (fun v iv => ∃ (k r : Nat), k ≤ l.length ∧ iv = .int .i64 k ∧ r < lim32 ∧ v = .int .u32 r ∧ Hid (r = reg ones (l.take k))) (fun _ iv => l.length - (intOf iv).toNat)
  case atStart => exact ⟨0, ones, by omega, rfl, ones_lt, rfl, by show ones = reg ones []; rw [reg_nil]⟩
  case round =>
    obtain ⟨k, r, hk, rfl, hrl, rfl, HT⟩ := hrel
    by_cases hlt : k < l.length
    · obtain ⟨b, off, rfl, _, _, hbB, hcc⟩ := hcell (by omega)
      obtain ⟨x, HX, hx⟩ : ∃ x : UInt8, Hid (l.take (k + 1) = l.take k ++ [x]) ∧ w.cell? ⟨b, off + k, none⟩ = some (.int .u8 x.toNat) := ⟨l.getD k 0, take_next l k hlt, hcc k hlt⟩
      have hi0 : (0 : Int) ≤ k := by omega
      have hi1 : (k : Int) < l.length := by omega
      clear hcell hcc
      go_wp2_with fail
      go_loop [3, 5] (fun v jv => ∃ (j q : Nat), j ≤ 8 ∧ jv = .int .i64 j ∧ q < lim32 ∧ v = .int .u32 q ∧ Hid (run q (lowb (8 - j) (x.toNat / 2 ^ j)) = reg ones (l.take (k + 1)))) (fun _ jv => 8 - (intOf jv).toNat)
      case atStart =>
        refine ⟨0, r, by omega, rfl, hrl, rfl, ?_⟩
        show run r (lowb 8 (x.toNat / 1)) = _
        rw [Nat.div_one, HX.out, reg_append, ← HT.out]
        show run r (lowb 8 x.toNat) = run r (lowb 8 x.toNat ++ [])
        rw [List.append_nil]
      case round =>
        obtain ⟨j, q, hj, rfl, hql, rfl, HQ⟩ := hrel
        by_cases hjl : j < 8
        · have hj0 : (0 : Int) ≤ j := by omega
          go_wp2_with fail
          · have hb := ‹(bits BinOp.xor IntKind.u32 _ _ == 1) = true›
            go_roundw
            case rel => exact ⟨j + 1, stp q (x.toNat / 2 ^ j % 2), by omega, by go_num, stp_lt hql (by omega), by rw [fast_yes hql hb], by show run _ _ = _; rw [← lowb_next hjl]; exact HQ.out⟩
            case measure => simp [intOf]; omega
          · have hb := ‹(bits BinOp.xor IntKind.u32 _ _ == 1) = false›
            go_roundw
            case rel => exact ⟨j + 1, stp q (x.toNat / 2 ^ j % 2), by omega, by go_num, stp_lt hql (by omega), by rw [fast_no hql hb], by show run _ _ = _; rw [← lowb_next hjl]; exact HQ.out⟩
            case measure => simp [intOf]; omega
        · obtain rfl : j = 8 := by omega
          go_wp2_with fail
          go_round
          case rel => exact ⟨k + 1, q, by omega, by go_num, hql, rfl, HQ.out⟩
          case measure => simp [intOf]; omega
    · obtain rfl : k = l.length := by omega
      go_wp2_with fail
      go_ret
      refine ⟨?_, rfl⟩
      have h := HT.out
      rw [List.take_length] at h
      have h2 : (4294967295 - (r : Int)) % 4294967296 = ((crc l : Nat) : Int) := by
        have e : crc l = ones - r := by unfold crc; rw [h]
        rw [e]; unfold lim32 at hrl; unfold ones; omega
      rw [h2]; rfl

theorem app_one {ops : Array Oper} {rest : List Oper} {o : Oper} {a : Act} {Q : Exit → Act → World → Prop} {w : World} (hgd : o.guard = none) (s x : Operand)
    (ho : o.op = .call { callee := .builtin .append, args := #[s, x], argTypes := #[22, 22] })
    {base n nl : Nat} {v u : Value} {l : List UInt8} {b : UInt8} (hs : a.eval s = v) (hown' : w.ownsRow base 5 1 v nl (bvs l)) (hx : a.eval x = .slice (some ⟨n, 0, none⟩) 1 1) (hc : w.cell? ⟨n, 0, none⟩ = some u) (hu : u = bv b)
    (hlen : l.length + 1 ≤ 140737488355328) (hbase : base ≤ w.heap.size)
    (h : ∀ v' w', Hid (w'.ownsRow base 5 1 v' (l ++ [b]).length (bvs (l ++ [b]))) → w.grownBy w' v.ownBlock → wpList Tryd.prog ops Q rest (a.put o.dst v') w') : wpList Tryd.prog ops Q (o :: rest) a w := by
  have hown : w.ownsRow base 5 1 v l.length (bvs l) := by
    obtain rfl : nl = l.length := by have := hown'.1; rw [bvs_length] at this; omega
    exact hown'
  refine app_bytes (C := n + 1) (m := [b]) hgd s x ho hs hown hx ?_ (by simpa using hlen) hbase h
  refine .inr ⟨n, 0, 1, rfl, by simp, by decide, by omega, fun i hi => ?_⟩
  obtain rfl : i = 0 := by simpa using hi
  rw [Nat.zero_add, hc, hu]; rfl
theorem own_nl {base n : Nat} {w : World} {v : Value} {l : List UInt8} (h : w.ownsRow base 5 1 v n (bvs l)) : w.ownsRow base 5 1 v l.length (bvs l) := by
  have h1 := h.1
  rw [bvs_length] at h1
  obtain rfl : n = l.length := by omega
  exact h
theorem cell_lit (w : World) (v : Value) (t : TypeId) : (w.alloc (.cells #[v] t)).cell? ⟨w.heap.size, 0, none⟩ = some v := by
  rw [cell_of_row _ _ _ #[v] t (0, 0) (heap_alloc_new w _)]; rfl
theorem bvo1 (n : Nat) : Value.int .u8 ((n : Int) / 256 % 256) = bv (UInt8.ofNat (n / 256)) := by
  rw [bvo]; congr 1
theorem bvo2 (n : Nat) : Value.int .u8 ((n : Int) / 65536 % 256) = bv (UInt8.ofNat (n / 65536)) := by
  rw [bvo]; congr 1
theorem bvo3 (n : Nat) : Value.int .u8 ((n : Int) / 16777216 % 256) = bv (UInt8.ofNat (n / 16777216)) := by
  rw [bvo]; congr 1

set_option maxRecDepth 100000 in
theorem cseal_any {B : Nat} {w : World} {vb : Value} {l : List UInt8} (hr : Rd B w vb l) (hB : B ≤ w.heap.size) (hl : l.length ≤ 30000000000000) :
    Calls Tryd.prog 25 #[vb] w (Owned w (sealed l)) := by
  obtain ⟨ov, cv, rfl, hmx, hcell⟩ := hr.form
  go_enter Tryd.func25, Tryd.ntmps25
  go_wp2_with fail
  refine (csum_one hr hB).mono ?_
  rintro e w1 ⟨rfl, rfl⟩
  have hr1 := hr.below ((Below.refl w.heap.size w).alloc (Nat.le_refl _) (.cells #[.slice ov l.length cv] 22)) hB
  have hb0 : Below w.heap.size w (w.alloc (.cells #[.slice ov l.length cv] 22)) := (Below.refl w.heap.size w).alloc (Nat.le_refl _) _
  obtain ⟨w0, hw0⟩ : ∃ w0, w0 = w.alloc (.cells #[.slice ov l.length cv] 22) := ⟨_, rfl⟩
  rw [← hw0] at hr1 hb0 ⊢
  clear hw0
  obtain ⟨c, hc⟩ : ∃ c, c = crc l := ⟨_, rfl⟩
  have hcl : c < lim32 := by rw [hc]; exact crc_lt l
  rw [← hc]
  have HC := Lib.hid hc
  have hc0 : (0 : Int) ≤ c := by omega
  clear hc hcell
  go_wp2_with (at_make; refine make_bytes rfl _ _ rfl (base := w.heap.size) (l.length + 4) rfl rfl (by omega) (by omega) hb0.size ?_)
  intro v0 W1 hown1 hg1
  have hb1 : Below w.heap.size w W1 := hb0.grown hg1 hb0.size (by simp)
  have hr2 := hr1.below ((Below.refl w0.heap.size w0).grown hg1 (Nat.le_refl _) (by simp)) (Nat.le_trans hB hb0.size)
  clear hg1 hr1 hb0
  go_wp2_with (at_builtin; refine app_bytes rfl _ _ rfl rfl hown1 rfl hr2 (by simp; omega) hb1.size ?_)
  intro v2 W2 hown2 hg2
  have hb2 := below_grown hb1 hb1.size (Nat.le_refl _) hown1 hg2
  clear hown1 hg2 hr2 hb1
  go_wp2_with fail
  refine wp_loop_rounds 5 ?_
  rw [rounds_succ]
  have HO2 := Lib.hid hown2
  clear hown2
  go_wp2_with (at_builtin; refine app_one rfl (.tmp 19) (.tmp 24) rfl rfl (HO2.out.alloc _) rfl (cell_lit _ _ _) (bvo c).symm ?c1 ?c2 ?_)
  case c1 => simp; omega
  case c2 => have := hb2.size; simp; omega
  intro v3 W3 HO3 hg3
  have hb3 := below_append hb2 hb2.size (Nat.le_refl _) HO2.out hg3
  clear HO2 hb2 hg3
  go_wp2_with fail
  rw [rounds_succ]
  go_wp2_with (at_builtin; refine app_one rfl (.tmp 19) (.tmp 24) rfl rfl (HO3.out.alloc _) rfl (cell_lit _ _ _) (bvo1 c) ?c1 ?c2 ?_)
  case c1 => simp; omega
  case c2 => have := hb3.size; simp; omega
  intro v4 W4 HO4 hg4
  have hb4 := below_append hb3 hb3.size (Nat.le_refl _) HO3.out hg4
  clear HO3 hb3 hg4
  go_wp2_with fail
  rw [rounds_succ]
  go_wp2_with (at_builtin; refine app_one rfl (.tmp 19) (.tmp 24) rfl rfl (HO4.out.alloc _) rfl (cell_lit _ _ _) (bvo2 c) ?c1 ?c2 ?_)
  case c1 => simp; omega
  case c2 => have := hb4.size; simp; omega
  intro v5 W5 HO5 hg5
  have hb5 := below_append hb4 hb4.size (Nat.le_refl _) HO4.out hg5
  clear HO4 hb4 hg5
  go_wp2_with fail
  rw [rounds_succ]
  go_wp2_with (at_builtin; refine app_one rfl (.tmp 19) (.tmp 24) rfl rfl (HO5.out.alloc _) rfl (cell_lit _ _ _) (bvo3 c) ?c1 ?c2 ?_)
  case c1 => simp; omega
  case c2 => have := hb5.size; simp; omega
  intro v6 W6 HO6 hg6
  have hb6 := below_append hb5 hb5.size (Nat.le_refl _) HO5.out hg6
  clear HO5 hb5 hg6
  go_wp2_with fail
  rw [rounds_succ]
  go_wp2_with fail
  go_ret
  refine ⟨v6, rfl, ?_, hb6⟩
  have h := own_nl HO6.out
  have e : l ++ [UInt8.ofNat c, UInt8.ofNat (c / 256), UInt8.ofNat (c / 65536), UInt8.ofNat (c / 16777216)] = sealed l := by
    unfold sealed; rw [← HC.out]; rfl
  rw [← e]
  exact h

theorem le4_vals (c : Nat) : (#[Value.int .u8 ((c : Int) % 256), Value.int .u8 ((c : Int) / 256 % 256), Value.int .u8 ((c : Int) / 65536 % 256), Value.int .u8 ((c : Int) / 16777216 % 256)] : Array Value).toList = bvs (le4 c) := by
  rw [bvo1, bvo2, bvo3, ← bvo]; rfl
theorem own_empty {base : Nat} (w : World) (hb : base ≤ w.heap.size) : (w.alloc (.cells #[] 5)).ownsRow base 5 1 (.slice (some ⟨w.heap.size, 0, none⟩) 0 0) ([] : List UInt8).length (bvs []) :=
  World.ownsRow_lit w #[] 0 hb (Nat.zero_le _) rfl

set_option maxRecDepth 100000 in
theorem rseal_any {B : Nat} {w : World} {vb : Value} {l : List UInt8} (hr : Rd B w vb l) (hB : B ≤ w.heap.size) (hl : l.length ≤ 30000000000000) :
    Calls Tryd.prog 21 #[vb] w (Owned w (sealed l)) := by
  obtain ⟨ov, cv, rfl, hmx, hcell⟩ := hr.form
  go_enter Tryd.func21, Tryd.ntmps21
  go_wp2_with fail
  refine (fast_any hr).mono ?_
  rintro e w1 ⟨rfl, rfl⟩
  obtain ⟨c, hc⟩ : ∃ c, c = crc l := ⟨_, rfl⟩
  have hcl : c < lim32 := by rw [hc]; exact crc_lt l
  rw [← hc]
  have HC := Lib.hid hc
  have hc0 : (0 : Int) ≤ c := by omega
  clear hc hcell
  have hr1 := hr.below ((Below.refl w.heap.size w).alloc (Nat.le_refl _) (.cells #[] 5)) hB
  have hb0 : Below w.heap.size w (w.alloc (.cells #[] 5)) := (Below.refl w.heap.size w).alloc (Nat.le_refl _) _
  go_wp2_with (at_builtin; refine app_bytes rfl (.tmp 6) (.tmp 7) rfl rfl (own_empty w (Nat.le_refl _)) rfl hr1 ?c1 ?c2 ?_)
  case c1 => simp; omega
  case c2 => simp
  intro v1 W1 hown1 hg1
  have hb1 := below_grown hb0 hb0.size (Nat.le_refl _) (own_empty w (Nat.le_refl _)) hg1
  have HO1 := Lib.hid (own_nl hown1)
  clear hown1 hg1 hb0 hr1 hr
  go_wp2_with (at_builtin; refine app_bytes rfl (.tmp 8) (.tmp 20) rfl rfl (HO1.out.alloc _) rfl (rd_lit _ (le4 c) _ (le4_vals c) 4 rfl (show (4 : Nat) ≤ maxLen by decide)) ?c1 ?c2 ?_)
  case c1 => simp [le4]; omega
  case c2 => have := hb1.size; simp; omega
  intro v2 W2 hown2 hg2
  have hb2 := below_append hb1 hb1.size (Nat.le_refl _) HO1.out hg2
  have HO2 := Lib.hid (own_nl hown2)
  clear hown2 hg2
  go_wp2_with fail
  go_ret
  refine ⟨v2, rfl, ?_, hb2⟩
  have e : sealed l = [] ++ l ++ le4 c := by rw [HC.out]; rfl
  rw [e]
  exact HO2.out

set_option maxRecDepth 100000 in
theorem open_any {B : Nat} {w : World} {vb : Value} {l : List UInt8} (hr : Rd B w vb l) (hB : B ≤ w.heap.size) (hl : l.length < 4) :
    Calls Tryd.prog 31 #[vb] w fun e w' => e = .returned (.tuple #[.slice none 0 0, .bool false]) ∧ w = w' := by
  obtain ⟨ov, cv, rfl, hmx, hcell⟩ := hr.form
  have hl' : (l.length : Int) < 4 := by omega
  go_enter Tryd.func31, Tryd.ntmps31
  go_wp2_with fail
  go_ret2
  exact ⟨rfl, rfl⟩

theorem wrap64_nat (z : Int) : ∃ n : Nat, n < lim64 ∧ IntKind.u64.wrap z = n := by
  unfold lim64
  refine ⟨(IntKind.u64.wrap z).toNat, ?_, ?_⟩ <;> rw [IntKind.wrap_u64] <;> omega
theorem low8 (z : Int) : ∃ b : UInt8, Value.int .u8 (z % 256) = bv b := by
  refine ⟨UInt8.ofNat (z % 256).toNat, ?_⟩
  rw [bvo]; congr 1; omega

set_option maxRecDepth 100000 in
theorem spread_any (x : Nat) (hx : x < lim64) (n : Nat) (hn : n ≤ 3000) (w : World) :
    Calls Tryd.prog 22 #[.int .u64 x, .int .i64 n] w fun e w' => ∃ l, l.length = n ∧ Owned w l e w' := by
  have HX := Lib.hid hx
  clear hx
  go_enter Tryd.func22, Tryd.ntmps22
  go_wp2_with fail
  go_loopw [5, 6, 7] (fun v yv iv wr => ∃ (k y : Nat) (l : List UInt8), k ≤ n ∧ iv = .int .i64 k ∧ yv = .int .u64 y ∧ Hid (y < lim64 ∧ l.length = k ∧ wr.ownsRow w.heap.size 5 1 v l.length (bvs l)) ∧ Below w.heap.size w wr) (fun _ _ iv _ => n - (intOf iv).toNat)
  case atStart => exact ⟨0, x, [], by omega, rfl, rfl, ⟨HX.out, rfl, World.ownsRow_nil _ _ _ _⟩, Below.refl _ _⟩
  case round =>
    obtain ⟨k, y, l, hk, rfl, rfl, HL, hb⟩ := hrel
    by_cases hlt : k < n
    · have hk0 : (0 : Int) ≤ k := by omega
      obtain ⟨y', hy', HY⟩ : ∃ y' : Nat, y' < lim64 ∧ Hid (IntKind.u64.wrap (IntKind.u64.wrap (↑y * 6364136223846793005) + 1442695040888963407) = (y' : Int)) := wrap64_nat _
      obtain ⟨b, hb8⟩ := low8 (IntKind.u64.wrap (IntKind.u64.wrap (↑y * 6364136223846793005) + 1442695040888963407) / 8589934592)
      have HB8 := Lib.hid hb8
      have HO := Lib.hid HL.out.2.2
      clear hb8
      go_wp2_with (at_builtin; refine app_one rfl (.tmp 17) (.tmp 21) rfl rfl (HO.out.alloc _) rfl (cell_lit _ _ _) HB8.out ?c1 ?c2 ?_)
      case c1 => have := HL.out.2.1; omega
      case c2 => have := hb.size; simp; omega
      intro v1 w1 HO1 hg1
      have hb1 := below_append hb hb.size (Nat.le_refl _) HO.out hg1
      clear hb hg1 HO
      go_wp2_with fail
      go_roundw
      case rel => exact ⟨k + 1, y', l ++ [b], by omega, by go_num, by rw [HY.out], ⟨hy', by simp [HL.out.2.1], own_nl HO1.out⟩, hb1⟩
      case measure => simp [intOf]; omega
    · obtain rfl : k = n := by omega
      go_wp2_with fail
      go_ret
      exact ⟨l, HL.out.2.1, _, rfl, HL.out.2.2, hb⟩
end Go.Proofs.YtikokimnhanloaaDoor
