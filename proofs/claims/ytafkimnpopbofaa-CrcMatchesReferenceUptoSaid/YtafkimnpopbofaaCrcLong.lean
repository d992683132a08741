/-
  vestryref03.Sum: the division of the definition gives the checksum.
-/
import Derived.Test.YtafkimnpopbofaaCrcSum
namespace Go.Proofs.Ytafkimnpopbofaa
open Go.ChangeShapes Go.WideShapes Go.ChangeAt Go.RowKit
set_option linter.unusedVariables false

/-- What holds while the coefficients lie in block g. -/
def Coef (w : World) (g N : Nat) (m : List Nat) (wr : World) : Prop := IRow wr w.heap.size g (N + 32) m ∧ Below w.heap.size w wr

theorem bit_val (x : UInt8) (k : Nat) : (wrap64 ((x.toNat : Int) / 2 ^ k)).tmod 2 = ((x.toNat / 2 ^ k % 2 : Nat) : Int) := by
  have h := x.toNat_lt
  have h1 : x.toNat / 2 ^ k ≤ x.toNat := Nat.div_le_self _ _
  have e : (x.toNat : Int) / 2 ^ k = ((x.toNat / 2 ^ k : Nat) : Int) := by simp
  rw [e]
  generalize x.toNat / 2 ^ k = z at *
  have e2 : wrap64 (z : Int) = z := by unfold wrap64; omega
  rw [e2, Int.tmod_eq_emod_of_nonneg (by omega)]
  simp
def Gen (w : World) (gg : Nat) (wr : World) : Prop := (∀ k, k < 33 → wr.cell? ⟨gg, k, none⟩ = some (.int .i64 (genl.getD k 0 : Nat))) ∧ w.heap.size < gg
theorem Gen.set {w wr : World} {gg q : Nat} {u : Value} (h : Gen w gg wr) : Gen w gg (wr.setCell ⟨w.heap.size, q, none⟩ u) :=
  ⟨fun k hk => (World.cell?_setCell_other wr ⟨w.heap.size, q, none⟩ ⟨gg, k, none⟩ u (fun e => by injection e with e; have := h.2; omega)).trans (h.1 k hk), h.2⟩
theorem Gen.drew {w wr : World} {gg : Nat} (h : Gen w gg wr) : Gen w gg wr.drew := h

set_option maxRecDepth 100000 in
set_option maxHeartbeats 2000000 in
theorem rsum_any {B : Nat} {w : World} {vb : Value} {l : List UInt8} (hr : Rd B w vb l) (hB : B ≤ w.heap.size) (hl : l.length ≤ 200) :
    Calls Try.prog 9 #[vb] w fun e w' => e = .returned (.int .u32 (crc l)) ∧ Below w.heap.size w w' := by
  obtain ⟨ov, cv, rfl, _, hcell⟩ := hr.form
  obtain ⟨N, hN⟩ : ∃ N, N = 8 * l.length := ⟨_, rfl⟩
  obtain ⟨n, hn⟩ : ∃ n, n = l.length := ⟨_, rfl⟩
  have hNn : (8 : Int) * n = N := by omega
  have HN := Lib.hid hN
  have HNN := Lib.hid hn
  have hnb : (n : Int) ≤ 200 := by omega
  have hNb : (N : Int) ≤ 1600 := by omega
  have hn0 : (0 : Int) ≤ n := by omega
  have hN0 : (0 : Int) ≤ N := by omega
  rw [← hn] at hcell ⊢
  clear hN hn
  go_enter Try.func9, Try.ntmps9
  go_wp2_with (at_make; refine make_ints rfl _ _ rfl (base := w.heap.size) (N + 32) rfl rfl (by omega) (by omega) (by omega) (Nat.le_refl _) ?_)
  intro w0 hown0 hg0
  have hb0 : Below w.heap.size w w0 := (Below.refl _ _).grown hg0 (Nat.le_refl _) (by simp)
  have HC0 : Hid (Coef w w.heap.size N (List.replicate (N + 32) 0) w0) := ⟨hown0, hb0⟩
  clear hown0 hg0 hb0
  go_wp2_with fail
  -- the message is laid
  go_loopw [5] (fun iv wr => ∃ (i : Nat) (m : List Nat), i ≤ n ∧ iv = .int .i64 i ∧ Hid (Coef w w.heap.size N m wr ∧ Laid (bat l) N (8 * i) m)) (fun iv _ => n - (intOf iv).toNat)
  case atStart => exact ⟨0, _, by omega, rfl, HC0.out, Laid.start _ _⟩
  case round =>
    obtain ⟨i, m, hi, rfl, HM⟩ := hrel
    clear HC0
    by_cases hlt : i < n
    · obtain ⟨b, off, rfl, _, _, hbB, hcc⟩ := hcell (by omega)
      obtain ⟨x, HX, hx⟩ : ∃ x : UInt8, Hid (x = l.getD i 0) ∧ w.cell? ⟨b, off + i, none⟩ = some (.int .u8 x.toNat) := ⟨_, rfl, hcc i hlt⟩
      have hi0 : (0 : Int) ≤ i := by omega
      have hi1 : (i : Int) < n := by omega
      clear hcell hcc
      go_wp2_with fail
      go_loopw [6] (fun kv wr => ∃ (k : Nat) (m : List Nat), k ≤ 8 ∧ kv = .int .i64 k ∧ Hid (Coef w w.heap.size N m wr ∧ Laid (bat l) N (8 * i + k) m)) (fun kv _ => 8 - (intOf kv).toNat)
      case atStart => exact ⟨0, m, by omega, rfl, HM.out⟩
      case round =>
        obtain ⟨k, m1, hk, rfl, HM1⟩ := hrel
        rename World => wr1
        clear HM
        by_cases hkl : k < 8
        · have hk0 : (0 : Int) ≤ k := by omega
          have hk1 : (k : Int) < 8 := by omega
          have hxr : wr1.cell? ⟨b, off + i, none⟩ = some (.int .u8 x.toNat) := (HM1.out.1.2.cell (by show b < w.heap.size; omega)).trans hx
          have hq : N + 31 - 8 * i - k < N + 32 := by omega
          have hcq := HM1.out.1.1.cell hq
          have hfq := HM1.out.1.1.frozen (N + 31 - 8 * i - k)
          clear hx
          go_wp2_with fail
          go_roundw
          case rel =>
            have hNl := HN.out
            have hT : 8 * i + k < N := by omega
            have e : N + 31 - 8 * i - k = N + 31 - (8 * i + k) := by omega
            refine ⟨k + 1, m1.set (N + 31 - (8 * i + k)) (bat l (8 * i + k)), by omega, by go_num, ⟨?_, HM1.out.1.2.setCell (Nat.le_refl _) _⟩, HM1.out.2.step hT⟩
            rw [e]
            refine HM1.out.1.1.set _ _ ?_
            unfold bat
            rw [show (8 * i + k) / 8 = i from by omega, show (8 * i + k) % 8 = k from by omega, ← HX.out, bit_val x k]
          case measure => simp [intOf]; omega
        · obtain rfl : k = 8 := by omega
          go_wp2_with fail
          go_roundw
          case rel => exact ⟨i + 1, m1, by omega, by go_num, HM1.out⟩
          case measure => simp [intOf]; omega
    · obtain rfl : i = n := by omega
      have HM2 : Hid (Coef w w.heap.size N m wr ∧ Compl (bat l) N 0 m) := by
        refine ⟨HM.out.1, Laid.compl ?_ (fun p hp => bat_end l p (by rw [← HN.out]; exact hp))⟩
        have h := HM.out.2
        have e : 8 * i = N := by omega
        rw [e] at h
        exact h
      clear HM
      clear hcell
      go_wp2_with fail
      -- the first 32 are complemented
      go_loopw [7] (fun iv wr => ∃ (i : Nat) (m : List Nat), i ≤ 32 ∧ iv = .int .i64 i ∧ Hid (Coef w w.heap.size N m wr ∧ Compl (bat l) N i m)) (fun iv _ => 32 - (intOf iv).toNat)
      case atStart => exact ⟨0, _, by omega, rfl, HM2.out⟩
      case round =>
        obtain ⟨j, m1, hj, rfl, HM1⟩ := hrel
        rename World => wr1
        clear HM2
        by_cases hjl : j < 32
        · have hj0 : (0 : Int) ≤ j := by omega
          have hj1 : (j : Int) < 32 := by omega
          obtain ⟨y, HY, hy2, hcq⟩ : ∃ y : Nat, Hid (y = m1.getD (N + j) 0) ∧ (y : Int) < 2 ∧ wr1.cell? ⟨w.heap.size, N + j, none⟩ = some (.int .i64 y) := by
            refine ⟨_, rfl, ?_, HM1.out.1.1.cell (by omega)⟩
            have h := HM1.out.2.2 (N + j) (by omega)
            rw [if_neg (by omega)] at h
            have := bat_lt l (N + 31 - (N + j))
            omega
          have hy0 : (0 : Int) ≤ y := by omega
          have hfq := HM1.out.1.1.frozen (N + j)
          go_wp2_with fail
          go_roundw
          case rel => exact ⟨j + 1, _, by omega, by go_num, ⟨HM1.out.1.1.set (N + j) ((m1.getD (N + j) 0 + 1) % 2) (by rw [← HY.out]; congr 1), HM1.out.1.2.setCell (Nat.le_refl _) _⟩, HM1.out.2.step hjl⟩
          case measure => simp [intOf]; omega
        · obtain rfl : j = 32 := by omega
          go_wp2_with fail
          refine (generator_any _).mono ?_
          rintro e w2 ⟨gg, rfl, hgr, hgb⟩
          have HD : Hid (Coef w w.heap.size N m1 w2 ∧ Div (bat l) N (N + 31) m1 ∧ Gen w gg w2) := by
            have hb := HM1.out.1.2
            refine ⟨⟨HM1.out.1.1.below hgb, hb.trans (hgb.mono hb.size)⟩, HM1.out.2.div (bat_lt l), fun k hk => hgr.cell hk, ?_⟩
            have h1 := hgr.base.1
            have h2 := HM1.out.1.1.base.2
            omega
          clear HM1 hgr hgb
          go_wp2_with fail
          -- the division
          go_loopw [9] (fun iv wr => ∃ (i : Nat) (m : List Nat), 31 ≤ i ∧ i ≤ N + 31 ∧ iv = .int .i64 i ∧ Hid (Coef w w.heap.size N m wr ∧ Div (bat l) N i m ∧ Gen w gg wr)) (fun iv _ => (intOf iv).toNat)
          case atStart => exact ⟨N + 31, _, by omega, by omega, by go_num, HD.out⟩
          case round =>
            obtain ⟨q, m2, hq1, hq2, rfl, HM⟩ := hrel
            rename World => wr2
            clear HD
            by_cases hql : 32 ≤ q
            · have hql' : (32 : Int) ≤ q := by omega
              have hq2' : (q : Int) ≤ N + 31 := by omega
              have hcq := HM.out.1.1.cell (q := q) (by omega)
              have hfq := HM.out.1.1.frozen q
              by_cases hone : m2.getD q 0 = 1
              · rw [hone] at hcq
                have HONE := Lib.hid hone
                clear hone
                go_wp2_with fail
                go_loopw [10] (fun kv wr => ∃ (k : Nat) (m : List Nat), k ≤ 33 ∧ kv = .int .i64 k ∧ Hid (Coef w w.heap.size N m wr ∧ DivIn N q (min k 32) m2 m ∧ Gen w gg wr)) (fun kv _ => 33 - (intOf kv).toNat)
                case atStart => exact ⟨0, m2, by omega, rfl, HM.out.1, DivIn.start HM.out.2.1.1, HM.out.2.2⟩
                case round =>
                  obtain ⟨k, m3, hk, rfl, HK⟩ := hrel
                  rename World => wr3
                  clear hcq hfq
                  have hc3 : wr3.cell? ⟨w.heap.size, q, none⟩ = some (.int .i64 1) := by
                    have h := HK.out.1.1.cell (q := q) (by omega)
                    rw [HK.out.2.1.top hql (by omega) (by omega), HONE.out] at h
                    exact h
                  have hf3 := HK.out.1.1.frozen q
                  have hk0 : (0 : Int) ≤ k := by omega
                  by_cases hk1 : k < 32
                  · have hk1' : (k : Int) < 32 := by omega
                    obtain ⟨y, HY, hy2, hcy⟩ : ∃ y : Nat, Hid (y = m3.getD (q - 32 + k) 0) ∧ (y : Int) < 2 ∧ wr3.cell? ⟨w.heap.size, q - 32 + k, none⟩ = some (.int .i64 y) := by
                      refine ⟨_, rfl, ?_, HK.out.1.1.cell (by omega)⟩
                      have h := HK.out.2.1.2 (q - 32 + k) (by omega)
                      rw [if_neg (by omega)] at h
                      have h2 := HM.out.2.1.2 (q - 32 + k) (by omega) (by omega)
                      omega
                    obtain ⟨z, HZ, hz2, hcz⟩ : ∃ z : Nat, Hid (z = rb gen (31 - k)) ∧ (z : Int) < 2 ∧ wr3.cell? ⟨gg, k, none⟩ = some (.int .i64 z) := by
                      refine ⟨_, rfl, ?_, ?_⟩
                      · have := rb_lt gen (31 - k); omega
                      · have h := HK.out.2.2.1 k (by omega)
                        rw [genl_get hk1] at h
                        exact h
                    have hy0 : (0 : Int) ≤ y := by omega
                    have hz0 : (0 : Int) ≤ z := by omega
                    have hfy := HK.out.1.1.frozen (q - 32 + k)
                    go_wp2_with fail
                    go_region
                    all_goals
                      go_wp2_with fail
                      go_roundw
                      case rel =>
                        have h1 := HK.out
                        rw [show min k 32 = k from by omega] at h1
                        refine ⟨k + 1, _, by omega, by go_num, ⟨(h1.1.1.set (q - 32 + k) ((m3.getD (q - 32 + k) 0 + rb gen (31 - k)) % 2) (by rw [← HY.out, ← HZ.out]; congr 1)).drew, (h1.1.2.setCell (p := ⟨w.heap.size, q - 32 + k, none⟩) (Nat.le_refl _) _).drew⟩, ?_, h1.2.2.set.drew⟩
                        rw [show min (k + 1) 32 = k + 1 from by omega]
                        exact h1.2.1.step hql (by omega) hk1
                      case measure => simp [intOf]; omega
                  · by_cases hk2 : k = 32
                    · subst hk2
                      go_wp2_with fail
                      go_roundw
                      case rel => exact ⟨33, m3, by omega, by go_num, HK.out⟩
                      case measure => simp [intOf]
                    · obtain rfl : k = 33 := by omega
                      go_wp2_with fail
                      go_roundw
                      case rel => exact ⟨q - 1, m3.set q 0, by omega, by omega, by go_num, ⟨HK.out.1.1.set q 0 rfl, HK.out.1.2.setCell (Nat.le_refl _) _⟩, HM.out.2.1.one (bat_lt l) hql (by omega) HONE.out HK.out.2.1, HK.out.2.2.set⟩
                      case measure => simp [intOf]; omega
              · obtain ⟨y, HY, hcy⟩ : ∃ y : Nat, Hid (y = m2.getD q 0) ∧ wr2.cell? ⟨w.heap.size, q, none⟩ = some (.int .i64 y) := ⟨_, rfl, hcq⟩
                have ht : ((y : Int) == 1) = false := by rw [beq_eq_false_iff_ne]; have := HY.out; omega
                have HONE : Hid (m2.getD q 0 ≠ 1) := hone
                clear hone hcq
                go_wp2_with fail
                go_loopw [10] (fun kv wr => kv = .int .i64 0 ∧ Hid (wr = wr2)) (fun kv _ => 0)
                case atStart => exact ⟨rfl, rfl⟩
                case round =>
                  obtain ⟨rfl, HW⟩ := hrel
                  rename World => wr3
                  have hw := HW.out
                  subst hw
                  go_wp2_with fail
                  go_roundw
                  case rel => exact ⟨q - 1, m2.set q 0, by omega, by omega, by go_num, ⟨HM.out.1.1.set q 0 rfl, HM.out.1.2.setCell (Nat.le_refl _) _⟩, HM.out.2.1.zero (bat_lt l) hql (by omega) HONE.out, HM.out.2.2.set⟩
                  case measure => simp [intOf]; omega
            · obtain rfl : q = 31 := by omega
              go_wp2_with fail
              have hrl : rf (bat l) N ones 0 < lim32 := by rw [HN.out, ← reg_rf]; exact reg_lt _ _ ones_lt
              go_loopw [11, 12] (fun xv jv wr => ∃ (j x : Nat), j ≤ 32 ∧ jv = .int .i64 j ∧ xv = .int .u32 x ∧ Hid (x = (ones - rf (bat l) N ones 0) % 2 ^ j) ∧ Hid (wr = wr2)) (fun _ jv _ => 32 - (intOf jv).toNat)
              case atStart => exact ⟨0, 0, by omega, rfl, rfl, by show 0 = _ % 1; rw [Nat.mod_one], rfl⟩
              case round =>
                obtain ⟨j, x, hj, rfl, rfl, HX, HW⟩ := hrel
                rename World => wr3
                have hw := HW.out
                subst hw
                by_cases hjl : j < 32
                · have hj0 : (0 : Int) ≤ j := by omega
                  have hj1 : (j : Int) < 32 := by omega
                  obtain ⟨y, HY, hcy⟩ : ∃ y : Nat, Hid (y = rb (rf (bat l) N ones 0) j) ∧ wr3.cell? ⟨w.heap.size, 31 - j, none⟩ = some (.int .i64 y) := by
                    refine ⟨_, rfl, ?_⟩
                    have h := HM.out.1.1.cell (q := 31 - j) (by omega)
                    rw [HM.out.2.1.last (fun p hp => bat_end l p (by rw [← HN.out]; exact hp)) hjl] at h
                    exact h
                  have hpb := put_bit _ j hrl hjl
                  rw [← HX.out, ← HY.out] at hpb
                  have HPB := Lib.hid hpb
                  have HRL := Lib.hid hrl
                  clear hpb hrl
                  by_cases hy : y = 0
                  · subst hy
                    go_wp2_with fail
                    go_roundw
                    case rel =>
                      have h := HPB.out
                      rw [if_pos rfl] at h
                      refine ⟨j + 1, x + 2 ^ j, by omega, by go_num, ?_, h.symm, trivial⟩
                      have hlt : x + 2 ^ j < 4294967296 := by
                        rw [← h]
                        refine Nat.lt_of_lt_of_le (Nat.mod_lt _ (Nat.two_pow_pos _)) ?_
                        exact (Nat.pow_le_pow_right (n := 2) (by decide) (show j + 1 ≤ 32 by omega))
                      have e : (2 : Int) ^ j = ((2 ^ j : Nat) : Int) := by simp
                      rw [e]
                      generalize 2 ^ j = z at *
                      congr 1
                      omega
                    case measure => simp [intOf]; omega
                  · have ht : ((y : Int) == 0) = false := by rw [beq_eq_false_iff_ne]; omega
                    have HY0 : Hid (y ≠ 0) := hy
                    clear hy
                    go_wp2_with fail
                    go_roundw
                    case rel => exact ⟨j + 1, x, by omega, by go_num, rfl, by have h := HPB.out; rw [if_neg HY0.out, Nat.add_zero] at h; exact h.symm, trivial⟩
                    case measure => simp [intOf]; omega
                · obtain rfl : j = 32 := by omega
                  have h := HX.out
                  rw [put_all _ hrl, HN.out, ← reg_rf] at h
                  have h2 : x = crc l := by unfold crc; exact h
                  have H2 := Lib.hid h2
                  have hb := HM.out.1.2
                  clear h h2 HX hrl
                  go_wp2_with fail
                  go_ret
                  exact ⟨by rw [← H2.out]; rfl, hb⟩
end Go.Proofs.Ytafkimnpopbofaa
