/-
  vestryref04.Decode answers what base.Decode answers.
-/
import Derived.Test.YtpkndgjkopfpkaaBitsBack
import Derived.Test.YtpkndgjkopfpkaaRefEncode
import Derived.LoopN
import Derived.Outline
namespace Go.Proofs.Ytpkndgjkopfpkaa
open Go.ChangeShapes Go.WideShapes Go.ChangeAt Go.RowKit
set_option linter.unusedVariables false

theorem bitsN_sum : ∀ (n v : Nat), v < 2 ^ n → ((bitsN n v).sum = 0 ↔ v = 0)
  | 0, v, h => by simp [bitsN]; omega
  | n + 1, v, h => by
    rw [bitsN, List.sum_append]
    have := bitsN_sum n (v / 2) (by omega)
    simp
    omega
theorem bitsN_le : ∀ (n v k : Nat), (bitsN n v).getD k 0 ≤ 1
  | 0, v, k => by simp [bitsN]
  | n + 1, v, k => by
    rw [bitsN, List.getD_eq_getElem?_getD]
    by_cases h : k < n
    · rw [List.getElem?_append_left (by rw [bitsN_len]; exact h), ← List.getD_eq_getElem?_getD]
      exact bitsN_le n _ k
    · rw [List.getElem?_append_right (by rw [bitsN_len]; omega), bitsN_len]
      by_cases h2 : k - n = 0
      · rw [h2]; simp; omega
      · rw [List.getElem?_eq_none (by simp; omega)]; simp

set_option maxRecDepth 100000 in
set_option maxHeartbeats 4000000 in
theorem rdecode_any (s : ByteArray) (hs : s.size ≤ 1000) (w : World) :
    Calls Try.prog 29 #[.string s] w (DecPost w (dec s.data.toList)) := by
  have hsl : s.data.toList.length = s.size := by rw [Array.length_toList]; rfl
  have HSL := Lib.hid hsl
  clear hsl
  go_enter Try.func29, Try.ntmps29
  go_wp2_with fail
  go_loopw [4, 5] (fun v iv wr => ∃ (k n : Nat) (acc : List UInt8) (bb ss : Nat), k ≤ s.size ∧ iv = .int .i64 k ∧ wr.ownsRow w.heap.size 3 1 v n (ivs (bitsOf acc ++ bitsN ss bb)) ∧ Below w.heap.size w wr ∧ Hid (okB bb ss ∧ 8 * acc.length + ss = 6 * k ∧ dec s.data.toList = decGo (s.data.toList.drop k) k acc bb ss)) (fun _ iv _ => s.size - (intOf iv).toNat)
  case atStart => exact ⟨0, 0, [], 0, 0, Nat.zero_le _, rfl, World.ownsRow_nil _ _ _ _, Below.refl _ _, .inl ⟨rfl, by decide⟩, rfl, rfl⟩
  case round =>
    obtain ⟨k, n0, acc, bb, ss, hk, rfl, hown0, hb0, HK⟩ := hrel
    by_cases hlt : k < s.size
    · obtain ⟨o1, hal, hd⟩ := HK.out
      have hdk : s.data.toList.drop k = s[k] :: s.data.toList.drop (k + 1) := by
        rw [List.drop_eq_getElem_cons (by rw [HSL.out]; exact hlt)]; rfl
      rw [hdk] at hd
      have hbd := valI_bd s[k]
      have hi1 : (k : Int) < s.size := by omega
      have hi0 : (0 : Int) ≤ k := by omega
      by_cases hneg : valI s[k] < 0
      · have hv : valI s[k] = -1 := by omega
        rw [decGo, if_pos hneg] at hd
        have HD := Lib.hid hd
        have HV := Lib.hid hv
        have HB := Lib.hid hb0
        clear hd hv hbd hneg hdk hown0 hb0 o1 hal HK
        go_wp2_with fail
        refine (baseSigns.rvalue_any _ _).mono ?_
        rintro e w3 ⟨rfl, rfl⟩
        rw [HV.out]
        go_wp2_with fail
        go_ret2
        exact ⟨_, by rw [HD.out]; rfl, by rw [HD.out]; exact .inl ⟨none, rfl, rfl⟩, HB.out⟩
      · obtain ⟨v, hv⟩ : ∃ v : Nat, valI s[k] = v := Int.eq_ofNat_of_zero_le (show 0 ≤ valI s[k] by omega)
        have hv64 : v < 64 := by omega
        rw [decGo, if_neg hneg, hv, Int.toNat_natCast] at hd
        have HD := Lib.hid hd
        have HV := Lib.hid hv
        have HO := Lib.hid (okB_step (g := v) o1 hv64)
        have HBI := Lib.hid (stB_bits o1 hv64)
        have hv0 : (0 : Int) ≤ v := by omega
        have hv1 : (v : Int) < 64 := by omega
        have hv2 : ¬ (v : Int) < 0 := by omega
        obtain ⟨L, HL⟩ : ∃ L, Hid (L = bitsOf acc ++ bitsN ss bb) := ⟨_, rfl⟩
        have hLl : L.length ≤ 6000 := by rw [HL.out, List.length_append, bitsOf_len, bitsN_len]; omega
        have HAL := Lib.hid hal
        rw [← HL.out] at hown0
        clear hd hv hbd hneg hdk o1 hal HK
        go_wp2_with fail
        refine (baseSigns.rvalue_any _ _).mono ?_
        rintro e w3 ⟨rfl, rfl⟩
        rw [HV.out]
        go_wp2_with fail
        refine wp_loop_rounds 7 ?_
        rw [rounds_succ]
        go_wp2_with (at_builtin; refine app_int (b := v / 32 % 2) rfl (.tmp 32) (.tmp 38) rfl rfl (hown0.alloc _) rfl (cell_lit _ _ _) ?c1 ?c2 ?_)
        case c1 => simp <;> omega
        case c2 => have := hb0.size; simp <;> omega
        intro v1 w1 hown1 hg1
        have hb1 := below_append hb0 hb0.size (Nat.le_refl _) hown0 hg1
        clear hown0 hb0 hg1
        go_wp2_with fail
        rw [rounds_succ]
        go_wp2_with (at_builtin; refine app_int (b := v / 16 % 2) rfl (.tmp 32) (.tmp 38) rfl rfl (hown1.alloc _) rfl (cell_lit _ _ _) ?c1 ?c2 ?_)
        case c1 => simp <;> omega
        case c2 => have := hb1.size; simp <;> omega
        intro v2 w2 hown2 hg2
        have hb2 := below_append hb1 hb1.size (Nat.le_refl _) hown1 hg2
        clear hown1 hb1 hg2
        go_wp2_with fail
        rw [rounds_succ]
        go_wp2_with (at_builtin; refine app_int (b := v / 8 % 2) rfl (.tmp 32) (.tmp 38) rfl rfl (hown2.alloc _) rfl (cell_lit _ _ _) ?c1 ?c2 ?_)
        case c1 => simp <;> omega
        case c2 => have := hb2.size; simp <;> omega
        intro v3 w3 hown3 hg3
        have hb3 := below_append hb2 hb2.size (Nat.le_refl _) hown2 hg3
        clear hown2 hb2 hg3
        go_wp2_with fail
        rw [rounds_succ]
        go_wp2_with (at_builtin; refine app_int (b := v / 4 % 2) rfl (.tmp 32) (.tmp 38) rfl rfl (hown3.alloc _) rfl (cell_lit _ _ _) ?c1 ?c2 ?_)
        case c1 => simp <;> omega
        case c2 => have := hb3.size; simp <;> omega
        intro v4 w4 hown4 hg4
        have hb4 := below_append hb3 hb3.size (Nat.le_refl _) hown3 hg4
        clear hown3 hb3 hg4
        go_wp2_with fail
        rw [rounds_succ]
        go_wp2_with (at_builtin; refine app_int (b := v / 2 % 2) rfl (.tmp 32) (.tmp 38) rfl rfl (hown4.alloc _) rfl (cell_lit _ _ _) ?c1 ?c2 ?_)
        case c1 => simp <;> omega
        case c2 => have := hb4.size; simp <;> omega
        intro v5 w5 hown5 hg5
        have hb5 := below_append hb4 hb4.size (Nat.le_refl _) hown4 hg5
        clear hown4 hb4 hg5
        go_wp2_with fail
        rw [rounds_succ]
        go_wp2_with (at_builtin; refine app_int (b := v % 2) rfl (.tmp 32) (.tmp 38) rfl rfl (hown5.alloc _) rfl (cell_lit _ _ _) ?c1 ?c2 ?_)
        case c1 => simp <;> omega
        case c2 => have := hb5.size; simp <;> omega
        intro v6 w6 hown6 hg6
        have hb6 := below_append hb5 hb5.size (Nat.le_refl _) hown5 hg6
        clear hown5 hb5 hg6
        go_wp2_with fail
        have hlen := congrArg List.length HBI.out
        rw [List.length_append, List.length_append, bitsN_len, bitsN_len, bitsN_len, bitsOf_len] at hlen
        have hfin : ∃ n, w6.ownsRow w.heap.size 3 1 v6 n (ivs (bitsOf (acc ++ (stB bb ss v).1) ++ bitsN (stB bb ss v).2.2 (stB bb ss v).2.1)) := by
          have e : bitsOf (acc ++ (stB bb ss v).1) ++ bitsN (stB bb ss v).2.2 (stB bb ss v).2.1 = L ++ [v / 32 % 2, v / 16 % 2, v / 8 % 2, v / 4 % 2, v / 2 % 2, v % 2] := by
            rw [HL.out, List.append_assoc, ← bits6, HBI.out, ← List.append_assoc]
            congr 1
            simp [bitsOf, List.flatMap_append]
          rw [e]
          exact ⟨_, hown6⟩
        obtain ⟨n6, hfin⟩ := hfin
        have HF := Lib.hid hfin
        have HLN := Lib.hid hlen
        clear hfin hown6 hlen
        rw [rounds_succ]
        go_wp2_with fail
        go_roundw
        case rel => exact ⟨k + 1, n6, _, _, _, by omega, by go_num, HF.out, hb6, HO.out, by rw [List.length_append]; have := HLN.out; have := HAL.out; omega, HD.out⟩
        case measure => simp [intOf]; omega
    · obtain rfl : k = s.size := by omega
      obtain ⟨o1, hal, hd⟩ := HK.out
      have hdk : s.data.toList.drop s.size = [] := List.eq_nil_of_length_eq_zero (by rw [List.length_drop, HSL.out]; omega)
      rw [hdk, decGo] at hd
      rename World => wr
      obtain ⟨m, HM⟩ : ∃ m, Hid (m = 8 * acc.length + ss) := ⟨_, rfl⟩
      have hBl : (bitsOf acc ++ bitsN ss bb).length = m := by rw [List.length_append, bitsOf_len, bitsN_len, HM.out]
      obtain ⟨hn1, o2, c2, rfl, _, hrd⟩ := own_int hown0
      rw [hBl] at hrd
      have hss : ss ≤ 6 := by rcases o1 with h | h | h | h <;> omega
      have hbb : bb < 2 ^ ss := by rcases o1 with ⟨rfl, h⟩ | ⟨rfl, h⟩ | ⟨rfl, h⟩ | ⟨rfl, h⟩ <;> exact h
      obtain ⟨na, HNA⟩ : ∃ na, Hid (na = acc.length) := ⟨_, rfl⟩
      have hm := HM.out
      rw [← HNA.out] at hm
      have hq : (m : Int) / 8 = na := by omega
      have hm0 : (0 : Int) ≤ m := by omega
      have hm1 : (m : Int) ≤ 6000 := by have := HM.out; omega
      have hna1 : 8 * (na : Int) ≤ m := by omega
      have hcb : ∀ j, j < ss → ∃ g, o2 = some ⟨g, 0, none⟩ ∧ wr.cell? ⟨g, 8 * na + j, none⟩ = some (iv ((bitsN ss bb).getD j 0)) := by
        intro j hj
        obtain ⟨g, h1, h2, h3, h4⟩ := hrd (by omega)
        refine ⟨g, h1, ?_⟩
        rw [h4 (8 * na + j) (by omega), List.getD_eq_getElem?_getD, List.getElem?_append_right (by rw [bitsOf_len]; have := HNA.out; omega), ← List.getD_eq_getElem?_getD]
        congr 3
        rw [bitsOf_len, HNA.out]; omega
      have hca : ∀ i, i < na → ∃ g x, o2 = some ⟨g, 0, none⟩ ∧ g < wr.heap.size ∧ acc.take (i + 1) = acc.take i ++ [x] ∧ ∀ k, k < 8 → wr.cell? ⟨g, 8 * i + k, none⟩ = some (iv ((bitsN 8 x.toNat).getD k 0)) := by
        intro i hi
        have hil : i < acc.length := by rw [← HNA.out]; exact hi
        obtain ⟨g, h1, h2, h3, h4⟩ := hrd (by omega)
        obtain ⟨x, hx⟩ : ∃ x, acc.take (i + 1) = acc.take i ++ [x] := ⟨_, List.take_succ_eq_append_getElem hil⟩
        refine ⟨g, x, h1, World.block_lt_of_cell? _ ⟨g, 0, none⟩ (h4 0 (by omega)), hx, fun k hk => ?_⟩
        rw [h4 (8 * i + k) (by omega)]
        have e1 : acc = acc.take i ++ x :: acc.drop (i + 1) := by
          have h1 := List.take_append_drop (i + 1) acc
          rw [hx, List.append_assoc] at h1
          exact h1.symm
        have e2 : bitsOf acc = bitsOf (acc.take i) ++ (bitsN 8 x.toNat ++ bitsOf (acc.drop (i + 1))) := by
          conv => lhs; rw [e1]
          simp [bitsOf, List.flatMap_append, List.flatMap_cons]
        have e3 : (bitsOf (acc.take i)).length = 8 * i := by rw [bitsOf_len, List.length_take]; omega
        rw [e2, List.append_assoc, List.append_assoc, List.getD_eq_getElem?_getD, List.getElem?_append_right (by omega), e3, List.getElem?_append_left (by rw [bitsN_len]; omega), ← List.getD_eq_getElem?_getD]
        congr 3; omega
      have HCA := Lib.hid hca
      have HCB := Lib.hid hcb
      have HBB := Lib.hid hbb
      have HD := Lib.hid hd
      have HB0 := Lib.hid hb0
      rw [hBl]
      have HMM := Lib.hid hm
      clear hca hcb hbb hd hdk HK hal o1 hown0 hrd hBl hn1 hb0 hm HSL
      go_wp2_with fail
      go_loop [9, 10] (fun rv iv => ∃ j r p : Nat, j ≤ ss ∧ rv = .int .i64 r ∧ iv = .int .i64 p ∧ Hid (p = 8 * na + j ∧ r = ((bitsN ss bb).take j).sum) ∧ r ≤ j ∧ p ≤ m) (fun _ iv => m - (intOf iv).toNat)
      case atStart => exact ⟨0, 0, 8 * na, Nat.zero_le _, rfl, by go_num, ⟨rfl, by simp⟩, Nat.zero_le _, by omega⟩
      case round =>
        obtain ⟨j, r, p, hj, rfl, rfl, HP, hrj, hpm⟩ := hrel
        by_cases hlt2 : j < ss
        · obtain ⟨g, rfl, hc⟩ := HCB.out j hlt2
          rw [← HP.out.1] at hc
          obtain ⟨z, hz⟩ : ∃ z, z = (bitsN ss bb).getD j 0 := ⟨_, rfl⟩
          have hz1 : (z : Int) ≤ 1 := by have := bitsN_le ss bb j; omega
          rw [← hz] at hc
          have hc' : wr.cell? ⟨g, p, none⟩ = some (.int .i64 z) := hc
          have hpm1 : (p : Int) < m := by have := HMM.out; have := HP.out.1; omega
          have hp0 : (0 : Int) ≤ p := by omega
          have hr6 : (r : Int) ≤ 6 := by omega
          have hsum : r + z = ((bitsN ss bb).take (j + 1)).sum := by
            have hlj : j < (bitsN ss bb).length := by rw [bitsN_len]; exact hlt2
            rw [List.take_succ_eq_append_getElem hlj, List.sum_append, ← HP.out.2, hz, List.getD_eq_getElem?_getD, List.getElem?_eq_getElem hlj]
            simp
          have HSU := Lib.hid hsum
          clear hz hc hsum
          go_wp2_with fail
          go_round
          case rel => exact ⟨j + 1, r + z, p + 1, by omega, by go_num, by go_num, ⟨by have := HP.out.1; omega, HSU.out⟩, by omega, by omega⟩
          case measure => simp [intOf]; omega
        · obtain rfl : j = ss := by omega
          have hp : p = m := by rw [HP.out.1, HMM.out]
          subst hp
          have hr0 : r = 0 ↔ bb = 0 := by
            have h1 := HP.out.2
            rw [List.take_of_length_le (by rw [bitsN_len]; omega)] at h1
            rw [h1]
            exact bitsN_sum _ _ HBB.out
          have hsub : (p : Int) - 8 * na = j := by have := HMM.out; omega
          have hd := HD.out
          have hszz : (s.size : Int) ≤ 1000 := by omega
          by_cases hbad : 6 ≤ j ∨ bb ≠ 0
          · rw [if_pos hbad] at hd
            have HD2 := Lib.hid hd
            by_cases h6 : 6 ≤ j
            · have h6' : (6 : Int) ≤ j := by omega
              clear hd hr0 hbad HD
              go_wp2_with fail
              go_ret2
              exact ⟨_, by rw [HD2.out]; rfl, by rw [HD2.out]; exact .inl ⟨none, rfl, rfl⟩, HB0.out⟩
            · have h6' : ¬ (6 : Int) ≤ j := by omega
              have hr' : (0 : Int) < r := by omega
              clear hd hr0 hbad HD
              go_wp2_with fail
              go_ret2
              exact ⟨_, by rw [HD2.out]; rfl, by rw [HD2.out]; exact .inl ⟨none, rfl, rfl⟩, HB0.out⟩
          · rw [if_neg hbad] at hd
            have HD2 := Lib.hid hd
            have h6' : ¬ (6 : Int) ≤ j := by omega
            have hr' : ¬ (0 : Int) < r := by omega
            have hnb : (na : Int) ≤ 1000 := by omega
            clear hd hr0 hbad HD HCB
            go_wp2_with fail
            go_loopw [11, 12] (fun v iv wr_1 => ∃ (i n : Nat), i ≤ na ∧ iv = .int .i64 i ∧ Hid (wr_1.ownsRow wr.heap.size 5 1 v n (bvs (acc.take i))) ∧ Below wr.heap.size wr wr_1) (fun _ iv _ => na - (intOf iv).toNat)
            case atStart => exact ⟨0, 0, Nat.zero_le _, rfl, World.ownsRow_nil _ _ _ _, Below.refl _ _⟩
            case round =>
              obtain ⟨i, n2, hi, rfl, HO, hb2⟩ := hrel
              rename World => wr_2
              by_cases hlt3 : i < na
              · obtain ⟨g, x, rfl, hgs, HX, hcg⟩ := HCA.out i hlt3
                have hx := Lib.hid HX
                clear HX
                have hcb : ∀ k, k < 8 → wr_2.cell? ⟨g, 8 * i + k, none⟩ = some (iv ((bitsN 8 x.toNat).getD k 0)) := by
                  intro k hk
                  exact (hb2.cell (p := ⟨g, 8 * i + k, none⟩) hgs).trans (hcg k hk)
                have hx255 := x.toNat_lt
                rw [bits8] at hcb
                have c0 : wr_2.cell? ⟨g, 8 * i, none⟩ = some (.int .i64 (x.toNat / 128 % 2 : Nat)) := hcb 0 (by omega)
                have c1 : wr_2.cell? ⟨g, 8 * i + 1, none⟩ = some (.int .i64 (x.toNat / 64 % 2 : Nat)) := hcb 1 (by omega)
                have c2 : wr_2.cell? ⟨g, 8 * i + 2, none⟩ = some (.int .i64 (x.toNat / 32 % 2 : Nat)) := hcb 2 (by omega)
                have c3 : wr_2.cell? ⟨g, 8 * i + 3, none⟩ = some (.int .i64 (x.toNat / 16 % 2 : Nat)) := hcb 3 (by omega)
                have c4 : wr_2.cell? ⟨g, 8 * i + 4, none⟩ = some (.int .i64 (x.toNat / 8 % 2 : Nat)) := hcb 4 (by omega)
                have c5 : wr_2.cell? ⟨g, 8 * i + 5, none⟩ = some (.int .i64 (x.toNat / 4 % 2 : Nat)) := hcb 5 (by omega)
                have c6 : wr_2.cell? ⟨g, 8 * i + 6, none⟩ = some (.int .i64 (x.toNat / 2 % 2 : Nat)) := hcb 6 (by omega)
                have c7 : wr_2.cell? ⟨g, 8 * i + 7, none⟩ = some (.int .i64 (x.toNat % 2 : Nat)) := hcb 7 (by omega)
                obtain ⟨z0, hz0⟩ : ∃ z, z = x.toNat / 128 % 2 := ⟨_, rfl⟩
                obtain ⟨z1, hz1⟩ : ∃ z, z = x.toNat / 64 % 2 := ⟨_, rfl⟩
                obtain ⟨z2, hz2⟩ : ∃ z, z = x.toNat / 32 % 2 := ⟨_, rfl⟩
                obtain ⟨z3, hz3⟩ : ∃ z, z = x.toNat / 16 % 2 := ⟨_, rfl⟩
                obtain ⟨z4, hz4⟩ : ∃ z, z = x.toNat / 8 % 2 := ⟨_, rfl⟩
                obtain ⟨z5, hz5⟩ : ∃ z, z = x.toNat / 4 % 2 := ⟨_, rfl⟩
                obtain ⟨z6, hz6⟩ : ∃ z, z = x.toNat / 2 % 2 := ⟨_, rfl⟩
                obtain ⟨z7, hz7⟩ : ∃ z, z = x.toNat % 2 := ⟨_, rfl⟩
                rw [← hz0] at c0
                rw [← hz1] at c1
                rw [← hz2] at c2
                rw [← hz3] at c3
                rw [← hz4] at c4
                rw [← hz5] at c5
                rw [← hz6] at c6
                rw [← hz7] at c7
                have hxq : x.toNat = 128 * z0 + 64 * z1 + 32 * z2 + 16 * z3 + 8 * z4 + 4 * z5 + 2 * z6 + z7 := by omega
                have HXQ := Lib.hid hxq
                have l0 : (z0 : Int) ≤ 1 := by omega
                have l1 : (z1 : Int) ≤ 1 := by omega
                have l2 : (z2 : Int) ≤ 1 := by omega
                have l3 : (z3 : Int) ≤ 1 := by omega
                have l4 : (z4 : Int) ≤ 1 := by omega
                have l5 : (z5 : Int) ≤ 1 := by omega
                have l6 : (z6 : Int) ≤ 1 := by omega
                have l7 : (z7 : Int) ≤ 1 := by omega
                have hi0 : (0 : Int) ≤ i := by omega
                have hi3 : (i : Int) < na := by omega
                have hrl : ∀ y : Value, y = bv x → Rd (wr_2.heap.size + 1) (wr_2.alloc (.cells #[y] 5)) (.slice (some ⟨wr_2.heap.size, 0, none⟩) 1 1) [x] := by
                  intro y hy
                  exact rd_lit wr_2 [x] #[y] (by rw [hy]; rfl) 1 rfl (by show 1 ≤ maxLen; decide)
                have HRL := Lib.hid hrl
                have hlen2 : (acc.take i).length ≤ 1000 := by rw [List.length_take, ← HNA.out]; omega
                have HL2 := Lib.hid hlen2
                have hown2 := own_norm HO.out
                have HO2 := Lib.hid hown2
                clear hz0 hz1 hz2 hz3 hz4 hz5 hz6 hz7 hxq hcb hcg hx255 hrl hlen2 hown2
                go_wp2_with fail
                refine wp_loop_rounds 9 ?_
                rw [rounds_succ]
                go_wp2_with fail
                rw [rounds_succ]
                go_wp2_with fail
                rw [rounds_succ]
                go_wp2_with fail
                rw [rounds_succ]
                go_wp2_with fail
                rw [rounds_succ]
                go_wp2_with fail
                rw [rounds_succ]
                go_wp2_with fail
                rw [rounds_succ]
                go_wp2_with fail
                rw [rounds_succ]
                go_wp2_with fail
                rw [rounds_succ]
                go_wp2_with (at_builtin; refine app_bytes rfl (.tmp 89) (.tmp 92) rfl rfl (HO2.out.alloc _) rfl (HRL.out _ ?hrr) ?c1 ?c2 ?_)
                case hrr => unfold bv; rw [HXQ.out]; congr 1; omega
                case c1 => have := HL2.out; simp only [List.length_singleton]; omega
                case c2 => have := hb2.size; simp <;> omega
                intro v9 w9 hown9 hg9
                have hb9 := below_append hb2 hb2.size (Nat.le_refl _) HO2.out hg9
                have hfin : ∃ n, w9.ownsRow wr.heap.size 5 1 v9 n (bvs (acc.take (i + 1))) := by
                  rw [hx.out]
                  exact ⟨_, hown9⟩
                obtain ⟨n9, hfin⟩ := hfin
                have HF := Lib.hid hfin
                clear hown9 hg9 hfin HO2 HO hb2
                go_wp2_with fail
                go_roundw
                case rel => exact ⟨i + 1, n9, by omega, by go_num, HF.out, hb9⟩
                case measure => simp [intOf]; omega
              · obtain rfl : i = na := by omega
                have hown2 := HO.out
                rw [HNA.out, List.take_length] at hown2
                have hr2 := Rd.of_own hown2
                obtain ⟨o2, c2, rfl, _, _⟩ := hr2.form
                have HR2 := Lib.hid hr2
                have HB2 := Lib.hid (HB0.out.trans (hb2.mono HB0.out.size))
                clear hown2 hr2 HO hb2
                go_wp2_with fail
                go_ret2
                exact ⟨_, by rw [HD2.out]; rfl, by rw [HD2.out]; exact HR2.out, HB2.out⟩
end Go.Proofs.Ytpkndgjkopfpkaa
