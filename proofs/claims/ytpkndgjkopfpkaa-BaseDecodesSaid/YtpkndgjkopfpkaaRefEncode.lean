/-
  vestryref04.Encode returns the same text as base.Encode.
-/
import Derived.Test.YtpkndgjkopfpkaaBits
import Derived.Test.YtpkndgjkopfpkaaSigns
import Derived.LoopN
import Derived.Outline
namespace Go.Proofs.Ytpkndgjkopfpkaa
open Go.ChangeShapes Go.WideShapes Go.ChangeAt Go.RowKit
set_option linter.unusedVariables false

theorem bits8 (v : Nat) : bitsN 8 v = [v / 128 % 2, v / 64 % 2, v / 32 % 2, v / 16 % 2, v / 8 % 2, v / 4 % 2, v / 2 % 2, v % 2] := by
  simp only [bitsN, Nat.div_div_eq_div_mul, List.nil_append, List.cons_append]
theorem bits6 (v : Nat) : bitsN 6 v = [v / 32 % 2, v / 16 % 2, v / 8 % 2, v / 4 % 2, v / 2 % 2, v % 2] := by
  simp only [bitsN, Nat.div_div_eq_div_mul, List.nil_append, List.cons_append]
theorem own_norm {base n : Nat} {w : World} {v : Value} {l : List UInt8} (h : w.ownsRow base 5 1 v n (bvs l)) : w.ownsRow base 5 1 v l.length (bvs l) := by
  have h1 := h.1
  rw [bvs_length] at h1
  obtain rfl : n = l.length := by omega
  exact h
def lenOf : Value → Nat | .slice _ n _ => n | _ => 0

set_option maxRecDepth 100000 in
set_option maxHeartbeats 4000000 in
theorem rencode_any {B : Nat} {w : World} {vb : Value} {l : List UInt8} (hr : Rd B w vb l) (hB : B ≤ w.heap.size) (hl : l.length ≤ 1000) :
    Calls Try.prog 27 #[vb] w fun e w' => e = .returned (.string (str (enc l))) ∧ Below w.heap.size w w' := by
  obtain ⟨ov, cv, rfl, _, hcell⟩ := hr.form
  go_enter Try.func27, Try.ntmps27
  go_wp2_with fail
  go_loopw [3, 4] (fun v iv wr => ∃ (k n : Nat), k ≤ l.length ∧ iv = .int .i64 k ∧ wr.ownsRow w.heap.size 3 1 v n (ivs (bitsOf (l.take k))) ∧ Below w.heap.size w wr) (fun _ iv _ => l.length - (intOf iv).toNat)
  case atStart => exact ⟨0, 0, Nat.zero_le _, rfl, World.ownsRow_nil _ _ _ _, Below.refl _ _⟩
  case round =>
    obtain ⟨k, n0, hk, rfl, hown0, hb0⟩ := hrel
    by_cases hlt : k < l.length
    · obtain ⟨b, off, rfl, _, _, hbB, hc⟩ := hcell (by omega)
      obtain ⟨x, HX, HX0⟩ : ∃ x : UInt8, Hid (l.take (k + 1) = l.take k ++ [x]) ∧ Hid (w.cell? ⟨b, off + k, none⟩ = some (.int .u8 x.toNat)) := by
        refine ⟨l.getD k 0, ?_, hc k hlt⟩
        show l.take (k + 1) = l.take k ++ [l.getD k 0]
        rw [List.take_succ_eq_append_getElem hlt]
        simp [List.getD_eq_getElem?_getD, List.getElem?_eq_getElem hlt]
      have hi1 : (k : Int) < l.length := by omega
      have hi0 : (0 : Int) ≤ k := by omega
      have hxn := x.toNat_lt
      have hxa : (0 : Int) ≤ x.toNat := by omega
      have hxb : (x.toNat : Int) < 256 := by omega
      obtain ⟨L, HL⟩ : ∃ L, Hid (L = bitsOf (l.take k)) := ⟨_, rfl⟩
      have hLl : L.length ≤ 8000 := by rw [HL.out, bitsOf_len, List.length_take]; omega
      rw [← HL.out] at hown0
      have hx0 : wr.cell? ⟨b, off + k, none⟩ = some (.int .u8 x.toNat) := (hb0.cell (by show b < w.heap.size; omega)).trans HX0.out
      clear hcell hc
      go_wp2_with fail
      refine wp_loop_rounds 9 ?_
      rw [rounds_succ]
      go_wp2_with (at_builtin; refine app_int (b := x.toNat / 128 % 2) rfl (.tmp 20) (.tmp 30) rfl rfl (hown0.alloc _) rfl (cell_lit _ _ _) ?c1 ?c2 ?_)
      case c1 => simp <;> omega
      case c2 => have := hb0.size; simp <;> omega
      intro v1 w1 hown1 hg1
      have hb1 := below_append hb0 hb0.size (Nat.le_refl _) hown0 hg1
      have hx1 : w1.cell? ⟨b, off + k, none⟩ = some (.int .u8 x.toNat) := (hb1.cell (by show b < w.heap.size; omega)).trans HX0.out
      clear hown0 hb0 hg1 hx0
      go_wp2_with fail
      rw [rounds_succ]
      go_wp2_with (at_builtin; refine app_int (b := x.toNat / 64 % 2) rfl (.tmp 20) (.tmp 30) rfl rfl (hown1.alloc _) rfl (cell_lit _ _ _) ?c1 ?c2 ?_)
      case c1 => simp <;> omega
      case c2 => have := hb1.size; simp <;> omega
      intro v2 w2 hown2 hg2
      have hb2 := below_append hb1 hb1.size (Nat.le_refl _) hown1 hg2
      have hx2 : w2.cell? ⟨b, off + k, none⟩ = some (.int .u8 x.toNat) := (hb2.cell (by show b < w.heap.size; omega)).trans HX0.out
      clear hown1 hb1 hg2 hx1
      go_wp2_with fail
      rw [rounds_succ]
      go_wp2_with (at_builtin; refine app_int (b := x.toNat / 32 % 2) rfl (.tmp 20) (.tmp 30) rfl rfl (hown2.alloc _) rfl (cell_lit _ _ _) ?c1 ?c2 ?_)
      case c1 => simp <;> omega
      case c2 => have := hb2.size; simp <;> omega
      intro v3 w3 hown3 hg3
      have hb3 := below_append hb2 hb2.size (Nat.le_refl _) hown2 hg3
      have hx3 : w3.cell? ⟨b, off + k, none⟩ = some (.int .u8 x.toNat) := (hb3.cell (by show b < w.heap.size; omega)).trans HX0.out
      clear hown2 hb2 hg3 hx2
      go_wp2_with fail
      rw [rounds_succ]
      go_wp2_with (at_builtin; refine app_int (b := x.toNat / 16 % 2) rfl (.tmp 20) (.tmp 30) rfl rfl (hown3.alloc _) rfl (cell_lit _ _ _) ?c1 ?c2 ?_)
      case c1 => simp <;> omega
      case c2 => have := hb3.size; simp <;> omega
      intro v4 w4 hown4 hg4
      have hb4 := below_append hb3 hb3.size (Nat.le_refl _) hown3 hg4
      have hx4 : w4.cell? ⟨b, off + k, none⟩ = some (.int .u8 x.toNat) := (hb4.cell (by show b < w.heap.size; omega)).trans HX0.out
      clear hown3 hb3 hg4 hx3
      go_wp2_with fail
      rw [rounds_succ]
      go_wp2_with (at_builtin; refine app_int (b := x.toNat / 8 % 2) rfl (.tmp 20) (.tmp 30) rfl rfl (hown4.alloc _) rfl (cell_lit _ _ _) ?c1 ?c2 ?_)
      case c1 => simp <;> omega
      case c2 => have := hb4.size; simp <;> omega
      intro v5 w5 hown5 hg5
      have hb5 := below_append hb4 hb4.size (Nat.le_refl _) hown4 hg5
      have hx5 : w5.cell? ⟨b, off + k, none⟩ = some (.int .u8 x.toNat) := (hb5.cell (by show b < w.heap.size; omega)).trans HX0.out
      clear hown4 hb4 hg5 hx4
      go_wp2_with fail
      rw [rounds_succ]
      go_wp2_with (at_builtin; refine app_int (b := x.toNat / 4 % 2) rfl (.tmp 20) (.tmp 30) rfl rfl (hown5.alloc _) rfl (cell_lit _ _ _) ?c1 ?c2 ?_)
      case c1 => simp <;> omega
      case c2 => have := hb5.size; simp <;> omega
      intro v6 w6 hown6 hg6
      have hb6 := below_append hb5 hb5.size (Nat.le_refl _) hown5 hg6
      have hx6 : w6.cell? ⟨b, off + k, none⟩ = some (.int .u8 x.toNat) := (hb6.cell (by show b < w.heap.size; omega)).trans HX0.out
      clear hown5 hb5 hg6 hx5
      go_wp2_with fail
      rw [rounds_succ]
      go_wp2_with (at_builtin; refine app_int (b := x.toNat / 2 % 2) rfl (.tmp 20) (.tmp 30) rfl rfl (hown6.alloc _) rfl (cell_lit _ _ _) ?c1 ?c2 ?_)
      case c1 => simp <;> omega
      case c2 => have := hb6.size; simp <;> omega
      intro v7 w7 hown7 hg7
      have hb7 := below_append hb6 hb6.size (Nat.le_refl _) hown6 hg7
      have hx7 : w7.cell? ⟨b, off + k, none⟩ = some (.int .u8 x.toNat) := (hb7.cell (by show b < w.heap.size; omega)).trans HX0.out
      clear hown6 hb6 hg7 hx6
      go_wp2_with fail
      rw [rounds_succ]
      go_wp2_with (at_builtin; refine app_int (b := x.toNat % 2) rfl (.tmp 20) (.tmp 30) rfl rfl (hown7.alloc _) rfl (cell_lit _ _ _) ?c1 ?c2 ?_)
      case c1 => simp <;> omega
      case c2 => have := hb7.size; simp <;> omega
      intro v8 w8 hown8 hg8
      have hb8 := below_append hb7 hb7.size (Nat.le_refl _) hown7 hg8
      have hx8 : w8.cell? ⟨b, off + k, none⟩ = some (.int .u8 x.toNat) := (hb8.cell (by show b < w.heap.size; omega)).trans HX0.out
      clear hown7 hb7 hg8 hx7
      go_wp2_with fail
      have hfin : ∃ n, w8.ownsRow w.heap.size 3 1 v8 n (ivs (bitsOf (l.take (k + 1)))) := by
        rw [HX.out, bitsOf_snoc, ← HL.out, bits8]
        exact ⟨_, hown8⟩
      obtain ⟨n8, hfin⟩ := hfin
      have HF := Lib.hid hfin
      clear hfin hown8
      rw [rounds_succ]
      go_wp2_with fail
      go_roundw
      case rel => exact ⟨k + 1, n8, by omega, by go_num, HF.out, hb8⟩
      case measure => simp [intOf]; omega
    · obtain rfl : k = l.length := by omega
      rw [List.take_length] at hown0
      have hown0' : ∃ n, wr.ownsRow w.heap.size 3 1 u3 n (ivs (bitsOf l ++ List.replicate 0 0)) := ⟨n0, by simpa using hown0⟩
      clear hcell hown0
      go_wp2_with fail
      go_loopw [3] (fun v wr => ∃ (j n : Nat), j ≤ padN (8 * l.length) ∧ Hid (wr.ownsRow w.heap.size 3 1 v n (ivs (bitsOf l ++ List.replicate j 0))) ∧ Below w.heap.size w wr) (fun v _ => 8 * l.length + 6 - lenOf v)
      case atStart => exact ⟨0, _, Nat.zero_le _, hown0'.choose_spec, hb0⟩
      case round =>
        obtain ⟨j, n1, hj, hown1, hb1⟩ := hrel
        rename World => wr_1
        clear hown0' hb0
        obtain ⟨m, HM⟩ : ∃ m, Hid (m = 8 * l.length + j) := ⟨_, rfl⟩
        have hBl : (bitsOf l ++ List.replicate j 0).length = m := by rw [List.length_append, bitsOf_len, List.length_replicate, HM.out]
        obtain ⟨hn1, o1, c1, rfl, _, hrd⟩ := own_int hown1.out
        rw [hn1] at hown1
        rw [hBl] at hrd hown1 ⊢
        have hm8 : m ≤ 8006 := by rw [HM.out]; unfold padN at hj; omega
        have HBL := Lib.hid hBl
        have HRD := Lib.hid hrd
        have hm0 : (0 : Int) ≤ m := by omega
        clear hBl hrd hn1
        by_cases hpad : j < padN (8 * l.length)
        · have t1 : (((m : Int) % 6) != 0) = true := by rw [bne_iff_ne]; rw [HM.out]; unfold padN at hpad; omega
          have ho := hown1.out
          clear HRD
          go_wp2_with (at_builtin; refine app_int (b := 0) rfl (.tmp 36) (.tmp 37) rfl rfl (ho.alloc _) rfl (cell_lit _ _ _) ?c1 ?c2 ?_)
          case c1 => have := HBL.out; omega
          case c2 => have := hb1.size; simp <;> omega
          intro v2 w2 hown2 hg2
          have hb2 := below_append hb1 hb1.size (Nat.le_refl _) ho hg2
          have hlv : lenOf v2 = m + 1 := by
            obtain ⟨_, o2, c2, rfl, _, _⟩ := own_int hown2
            show (bitsOf l ++ (List.replicate j 0 ++ [0])).length = m + 1
            rw [← List.append_assoc, List.length_append, HBL.out]; rfl
          have hfin : ∃ n, w2.ownsRow w.heap.size 3 1 v2 n (ivs (bitsOf l ++ List.replicate (j + 1) 0)) := by rw [List.replicate_succ']; exact ⟨_, hown2⟩
          obtain ⟨n3, hfin⟩ := hfin
          have HF := Lib.hid hfin
          have HLV := Lib.hid hlv
          clear hown2 hg2 ho hfin hown1 hb1 hlv
          go_wp2_with fail
          go_roundw
          case rel => exact ⟨j + 1, n3, by omega, HF.out, hb2⟩
          case measure => rw [HLV.out]; show 8 * l.length + 6 - (m + 1) < 8 * l.length + 6 - m; have := HM.out; unfold padN at hpad; omega
        · have t1 : (((m : Int) % 6) != 0) = false := by rw [bne_eq_false_iff_eq]; rw [HM.out]; unfold padN at hpad hj; omega
          obtain ⟨gs, hgs, he, hP⟩ := enc_groups l
          have hjj : j = padN (8 * l.length) := by omega
          have hm6 : m = 6 * gs.length := by
            have := congrArg List.length hP
            rw [List.length_append, bitsOf_len, List.length_replicate, six_len] at this
            rw [HM.out, hjj]; exact this
          have HP : Hid (bitsOf l ++ List.replicate j 0 = six gs) := by rw [hjj]; exact hP
          have HE := Lib.hid he
          have HM6 := Lib.hid hm6
          have HGS := Lib.hid hgs
          clear hP he hjj hm6 hgs hpad hj
          go_wp2_with fail
          obtain ⟨hs1, hs2⟩ : (0 < gs.length → ∃ g, o1 = some ⟨g, 0, none⟩ ∧ g < wr_1.heap.size ∧ ∀ i, i < m → wr_1.cell? ⟨g, i, none⟩ = some (iv ((six gs).getD i 0))) ∧ True := by
            refine ⟨fun hp => ?_, trivial⟩
            obtain ⟨g, h1, h2, h3, h4⟩ := HRD.out (by rw [HM6.out]; omega)
            rw [HP.out] at h4
            refine ⟨g, h1, ?_, h4⟩
            exact World.block_lt_of_cell? _ ⟨g, 0, none⟩ (h4 0 (by rw [HM6.out]; omega))
          have HS := Lib.hid hs1
          have HB1 := Lib.hid hb1
          clear hs1 hs2 HRD hown1 hb1 HBL
          go_loopw [6, 7] (fun v iv wr => ∃ (i p n : Nat), i ≤ gs.length ∧ iv = .int .i64 p ∧ Hid (p = 6 * i) ∧ p ≤ m ∧ Hid (wr.ownsRow wr_1.heap.size 5 1 v n (bvs ((gs.take i).map sgn))) ∧ Below wr_1.heap.size wr_1 wr) (fun _ iv _ => m - (intOf iv).toNat)
          case atStart => exact ⟨0, 0, 0, Nat.zero_le _, rfl, rfl, Nat.zero_le _, World.ownsRow_nil _ _ _ _, Below.refl _ _⟩
          case round =>
            obtain ⟨i, p, n2, hi, rfl, HPI, hpm, HO, hb2⟩ := hrel
            rename World => wr_2
            by_cases hlt : i < gs.length
            · obtain ⟨g, rfl, hgs, hcg⟩ := HS.out (by omega)
              have hp6 : p + 6 ≤ m := by rw [HPI.out, HM6.out]; omega
              obtain ⟨q, HQ, hq⟩ : ∃ q, Hid (gs.take (i + 1) = gs.take i ++ [q]) ∧ q < 64 := by
                refine ⟨gs[i], ?_, HGS.out _ (List.getElem_mem hlt)⟩
                exact List.take_succ_eq_append_getElem hlt
              have hsix : ∀ k, k < 6 → (six gs).getD (p + k) 0 = (bitsN 6 q).getD k 0 := by
                intro k hk
                have e1 : gs = gs.take i ++ q :: gs.drop (i + 1) := by
                  have h1 := List.take_append_drop (i + 1) gs
                  rw [HQ.out, List.append_assoc] at h1
                  exact h1.symm
                have e2 : six gs = six (gs.take i) ++ (bitsN 6 q ++ six (gs.drop (i + 1))) := by
                  conv => lhs; rw [e1]
                  simp [six, List.flatMap_append, List.flatMap_cons]
                have e3 : (six (gs.take i)).length = p := by rw [six_len, List.length_take, HPI.out]; omega
                rw [e2, List.getD_eq_getElem?_getD, List.getElem?_append_right (by omega), e3, List.getElem?_append_left (by rw [bitsN_len]; omega), ← List.getD_eq_getElem?_getD]
                congr 1; omega
              have hcb : ∀ k, k < 6 → wr_2.cell? ⟨g, p + k, none⟩ = some (iv ((bitsN 6 q).getD k 0)) := by
                intro k hk
                rw [← hsix k hk]
                exact (hb2.cell (p := ⟨g, p + k, none⟩) hgs).trans (hcg (p + k) (by omega))
              rw [bits6] at hcb
              have c0 : wr_2.cell? ⟨g, p, none⟩ = some (.int .i64 (q / 32 % 2 : Nat)) := hcb 0 (by omega)
              have c1' : wr_2.cell? ⟨g, p + 1, none⟩ = some (.int .i64 (q / 16 % 2 : Nat)) := hcb 1 (by omega)
              have c2 : wr_2.cell? ⟨g, p + 2, none⟩ = some (.int .i64 (q / 8 % 2 : Nat)) := hcb 2 (by omega)
              have c3 : wr_2.cell? ⟨g, p + 3, none⟩ = some (.int .i64 (q / 4 % 2 : Nat)) := hcb 3 (by omega)
              have c4 : wr_2.cell? ⟨g, p + 4, none⟩ = some (.int .i64 (q / 2 % 2 : Nat)) := hcb 4 (by omega)
              have c5 : wr_2.cell? ⟨g, p + 5, none⟩ = some (.int .i64 (q % 2 : Nat)) := hcb 5 (by omega)
              obtain ⟨z0, hz0⟩ : ∃ z, z = q / 32 % 2 := ⟨_, rfl⟩
              obtain ⟨z1, hz1⟩ : ∃ z, z = q / 16 % 2 := ⟨_, rfl⟩
              obtain ⟨z2, hz2⟩ : ∃ z, z = q / 8 % 2 := ⟨_, rfl⟩
              obtain ⟨z3, hz3⟩ : ∃ z, z = q / 4 % 2 := ⟨_, rfl⟩
              obtain ⟨z4, hz4⟩ : ∃ z, z = q / 2 % 2 := ⟨_, rfl⟩
              obtain ⟨z5, hz5⟩ : ∃ z, z = q % 2 := ⟨_, rfl⟩
              rw [← hz0] at c0
              rw [← hz1] at c1'
              rw [← hz2] at c2
              rw [← hz3] at c3
              rw [← hz4] at c4
              rw [← hz5] at c5
              have hzq : q = 32 * z0 + 16 * z1 + 8 * z2 + 4 * z3 + 2 * z4 + z5 := by omega
              have HZQ := Lib.hid hzq
              have l0 : (z0 : Int) ≤ 1 := by omega
              have l1 : (z1 : Int) ≤ 1 := by omega
              have l2 : (z2 : Int) ≤ 1 := by omega
              have l3 : (z3 : Int) ≤ 1 := by omega
              have l4 : (z4 : Int) ≤ 1 := by omega
              have l5 : (z5 : Int) ≤ 1 := by omega
              have k0 : (0 : Int) ≤ p := by omega
              have k6 : (p : Int) + 6 ≤ m := by omega
              have k8 : (m : Int) ≤ 8006 := by omega
              clear hz0 hz1 hz2 hz3 hz4 hz5 hzq hcb hsix hcg
              go_wp2_with fail
              refine wp_loop_rounds 7 ?_
              rw [rounds_succ]
              go_wp2_with fail
              rw [rounds_succ]
              go_wp2_with fail
              rw [rounds_succ]
              go_wp2_with fail
              rw [rounds_succ]
              go_wp2_with fail
              rw [rounds_succ]
              go_wp2_with fail
              rw [rounds_succ]
              go_wp2_with fail
              rw [rounds_succ]
              go_wp2_with fail
              refine (baseSigns.alpha_any _).mono ?_
              rintro e w9 ⟨rfl, rfl⟩
              have hE : 2 * (2 * (2 * (2 * (2 * z0 + z1) + z2) + z3) + z4) + z5 = q := by have := HZQ.out; omega
              have hz : alpha.size = 64 := rfl
              have hidx : 2 * (2 * (2 * (2 * (2 * (z0 : Int) + z1) + z2) + z3) + z4) + z5 < (alpha.size : Int) := by rw [hz]; omega
              have HEE := Lib.hid hE
              have hown2 := HO.out
              have hrl : ∀ x : Value, x = bv (sgn q) → Rd (wr_2.heap.size + 1) (wr_2.alloc (.cells #[x] 5)) (.slice (some ⟨wr_2.heap.size, 0, none⟩) 1 1) [sgn q] := by
                intro x hx
                exact rd_lit wr_2 [sgn q] #[x] (by rw [hx]; rfl) 1 rfl (by show 1 ≤ maxLen; decide)
              have HRL := Lib.hid hrl
              have hlen2 : ((gs.take i).map sgn).length ≤ 2000 := by rw [List.length_map, List.length_take]; have := HM6.out; omega
              have hown2' := own_norm hown2
              have HO2 := Lib.hid hown2'
              have HL2 := Lib.hid hlen2
              clear hz hE hrl hown2 hown2' hlen2 c0 c1' c2 c3 c4 c5
              go_wp2_with (at_builtin; refine app_bytes rfl (.tmp 58) (.tmp 62) rfl rfl (HO2.out.alloc _) rfl (HRL.out _ ?r) ?c1 ?c2 ?_)
              case r => unfold bv; rw [sgn_at, HEE.out]
              case c1 => have := HL2.out; simp only [List.length_singleton]; omega
              case c2 => have := hb2.size; simp <;> omega
              intro v9 w9 hown9 hg9
              have hb9 := below_append hb2 hb2.size (Nat.le_refl _) HO2.out hg9
              have hfin : ∃ n, w9.ownsRow wr_1.heap.size 5 1 v9 n (bvs ((gs.take (i + 1)).map sgn)) := by
                have he : (gs.take (i + 1)).map sgn = List.take i (List.map sgn gs) ++ [sgn q] := by
                  rw [HQ.out, List.map_append, List.map_take]; rfl
                rw [he]
                exact ⟨_, hown9⟩
              obtain ⟨n9, hfin⟩ := hfin
              have HF := Lib.hid hfin
              clear hown9 hg9 hfin HO2 HO hb2
              go_wp2_with fail
              go_roundw
              case rel => exact ⟨i + 1, p + 6, n9, by omega, by go_num, by show p + 6 = 6 * (i + 1); rw [HPI.out]; omega, by omega, HF.out, hb9⟩
              case measure => simp [intOf]; omega
            · obtain rfl : i = gs.length := by omega
              have hpm' : p = m := by rw [HPI.out, HM6.out]
              subst hpm'
              have hown2 := HO.out
              rw [List.take_length, ← HE.out] at hown2
              have hr2 := Rd.of_own hown2
              obtain ⟨o2, c2, rfl, _, _⟩ := hr2.form
              have hcv := conv_bytes hr2
              have HB2 := Lib.hid (HB1.out.trans (hb2.mono HB1.out.size))
              obtain ⟨S, hS⟩ : ∃ S, S = str (enc l) := ⟨_, rfl⟩
              rw [← hS] at hcv
              have HSS := Lib.hid hS
              clear hown2 hr2 hS HO hb2
              go_wp2_with fail
              go_ret
              exact ⟨by rw [HSS.out]; rfl, HB2.out⟩
end Go.Proofs.Ytpkndgjkopfpkaa
