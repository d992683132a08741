/-
  vestryref02.Text.
-/
import Derived.Test.YtnbeeahfohfgoaaDoorFltD
namespace Go.Proofs.YtnbeeahfohfgoaaDoor
open Go.ChangeShapes Go.WideShapes Go.ChangeAt Go.RowKit
set_option linter.unusedVariables false

set_option maxRecDepth 100000 in
set_option maxHeartbeats 1000000 in
theorem rtext_any (nl f : Bool) (sl : Value) (l : List ByteArray) (c a : Int) (h0 : -9223372036854775808 ≤ c) (h1 : c ≤ 9223372036854775807) (w : World) (hs : Strs w sl l) (hl : l.length ≤ 1000) (hq : ∀ q ∈ l, q.size ≤ 1000) :
    Calls Tryd.prog 11 #[errD nl sl c a f] w fun e w' => e = .returned (.string (textW c l.reverse)) ∧ Below w.heap.size w w' := by
  unfold errD
  have hb := (Below.refl w.heap.size w).alloc (Nat.le_refl _) (.cells #[.bool nl, sl, .int .i64 c, .int .i64 a, .bool f] 24)
  have hs0 := hs.below hb
  obtain ⟨w0, hw0⟩ : ∃ w0, w0 = w.alloc (.cells #[.bool nl, sl, .int .i64 c, .int .i64 a, .bool f] 24) := ⟨_, rfl⟩
  have k0 : w0.heap[w.heap.size]? = some (.cells #[.bool nl, sl, .int .i64 c, .int .i64 a, .bool f] 24 (0, 0)) := by rw [hw0]; exact heap_alloc_new w _
  rw [← hw0] at hb hs0
  have c1 : w0.cell? ⟨w.heap.size, 1, none⟩ = some sl := cell_of_row _ _ 1 _ _ _ k0
  have c2 : w0.cell? ⟨w.heap.size, 2, none⟩ = some (.int .i64 c) := cell_of_row _ _ 2 _ _ _ k0
  have HB := Lib.hid hb
  have HW := Lib.hid hw0
  have H := Lib.hid (decimal_any (c.natAbs + 1) c (by omega) h0 h1)
  have HS := Lib.hid (fun (k : Nat) (ps : List ByteArray) (h : ∀ p ∈ ps, p.size ≤ 1000) => text_size c h0 h1 ps h)
  have z1 := cat_ok (a := 6) (by omega) (dec_size h0 h1)
  have HQ := Lib.hid hq
  clear hb hw0 hs k0 h0 h1 hq
  rcases hs0 with ⟨x0, rfl, rfl⟩ | ⟨b, off, cap, rfl, hbl, hc⟩
  · go_enter Tryd.func11, Tryd.ntmps11
    go_wp2_with fail
    rw [← HW.out]
    refine (H.out w0).mono ?_
    rintro e w1 ⟨rfl, d, rfl⟩
    go_wp2_with fail
    go_loop [3, 4] (fun sv iv => sv = .string (textW c []) ∧ iv = .int .i64 0) (fun _ _ => 0)
    case atStart => exact ⟨rfl, rfl⟩
    case round =>
      obtain ⟨rfl, rfl⟩ := hrel
      go_wp2_with fail
      go_ret
      exact ⟨rfl, below_dr HB.out d⟩
  · have HC := Lib.hid hc
    clear hc
    go_enter Tryd.func11, Tryd.ntmps11
    go_wp2_with fail
    rw [← HW.out]
    refine (H.out w0).mono ?_
    rintro e w1 ⟨rfl, d, rfl⟩
    go_wp2_with fail
    go_loop [3, 4] (fun sv iv => ∃ k : Nat, k ≤ l.length ∧ iv = .int .i64 k ∧ sv = .string (textW c (l.take k).reverse)) (fun _ iv => l.length - (intOf iv).toNat)
    case atStart => exact ⟨0, Nat.zero_le _, rfl, rfl⟩
    case round =>
      obtain ⟨k, hk, rfl, rfl⟩ := hrel
      by_cases hlt : k < l.length
      · have hk0 : (0 : Int) ≤ k := by omega
        have hk1 : (k : Int) < l.length := by omega
        have ck := HC.out k hlt
        have HR := Lib.hid (congrArg (textW c) (rev_take hlt))
        have hsz := HS.out k (l.take k).reverse (fun p hp => HQ.out p (List.mem_of_mem_take (List.mem_reverse.1 hp)))
        rw [List.length_reverse, List.length_take] at hsz
        have hpk := HQ.out l[k] (List.getElem_mem _)
        obtain ⟨ps, hps⟩ : ∃ ps, ps = (l.take k).reverse := ⟨_, rfl⟩
        rw [← hps] at HR hsz ⊢
        obtain ⟨X, hX⟩ : ∃ X, X = textW c ps := ⟨_, rfl⟩
        have HX : Hid (textW c (l.take (k + 1)).reverse = l[k] ++ colon ++ X) := by show _ = _; rw [HR.out, hX]; rfl
        rw [← hX] at hsz ⊢
        have z2 : ¬ 9223372036854775807 < l[k].size + 2 := by omega
        have z3 : ¬ 9223372036854775807 < l[k].size + 2 + X.size := by omega
        clear hps hX hsz hpk z1
        go_wp2_with fail
        go_round
        case rel => exact ⟨k + 1, by omega, by go_num, by rw [HX.out]; rfl⟩
        case measure => simp [intOf]; omega
      · obtain rfl : k = l.length := by omega
        have HT : Hid (l.take l.length = l) := List.take_length
        obtain ⟨X, hX⟩ : ∃ X, X = textW c (l.take l.length).reverse := ⟨_, rfl⟩
        rw [← hX]
        rw [HT.out] at hX
        have HV := Lib.hid hX
        clear hX
        go_wp2_with fail
        go_ret
        exact ⟨by rw [← HV.out]; rfl, below_dr HB.out d⟩
end Go.Proofs.YtnbeeahfohfgoaaDoor
