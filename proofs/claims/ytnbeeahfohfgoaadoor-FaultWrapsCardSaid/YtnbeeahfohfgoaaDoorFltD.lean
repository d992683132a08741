/-
  vestryref02.Text and vestrylaw02.build.
-/
import Derived.Test.YtnbeeahfohfgoaaDoorFltC
namespace Go.Proofs.YtnbeeahfohfgoaaDoor
open Go.ChangeShapes Go.WideShapes Go.ChangeAt Go.RowKit
set_option linter.unusedVariables false

/-- The errors that a description's first k parts make: the k-th is the outermost. -/
theorem rev_take {l : List ByteArray} {k : Nat} (h : k < l.length) : (l.take (k + 1)).reverse = l[k] :: (l.take k).reverse := by
  rw [List.take_succ_eq_append_getElem h, List.reverse_append]; rfl
theorem errW_iface (f : Bool) (c n : Int) (ps : List ByteArray) : ∃ t v, errW f c n ps = .iface t v := by
  cases ps with
  | nil => cases f <;> exact ⟨_, _, rfl⟩
  | cons p ps => exact ⟨_, _, rfl⟩

theorem in_err (p : ByteArray) (f : Bool) (c n : Int) (ps : List ByteArray) (w : World) : Calls Tryd.prog 13 #[.string p, errW f c n ps] w fun e w' => e = .returned (errW f c n (p :: ps)) ∧ Below w.heap.size w w' := by
  obtain ⟨t, v, h⟩ := errW_iface f c n ps
  have e : errW f c n (p :: ps) = .iface 52 (.agg #[.string p, errW f c n ps]) := rfl
  rw [e, h]
  exact in_any p t v w
theorem blk {w0 : World} {b i : Nat} {v : Value} (h : w0.cell? ⟨b, i, none⟩ = some v) : b < w0.heap.size := by
  rcases Nat.lt_or_ge b w0.heap.size with h' | h'
  · exact h'
  · simp [World.cell?, Array.getElem?_eq_none h'] at h

set_option maxRecDepth 100000 in
set_option maxHeartbeats 1000000 in
theorem build_any (sl : Value) (l : List ByteArray) (c a : Int) (f : Bool) (w : World) (hs : Strs w sl l) (hl : l.length ≤ 1000000000) :
    Calls Tryd.prog 8 #[errD false sl c a f] w fun e w' => e = .returned (errW f c a l.reverse) ∧ Below w.heap.size w w' := by
  unfold errD
  have hb := (Below.refl w.heap.size w).alloc (Nat.le_refl _) (.cells #[.bool false, sl, .int .i64 c, .int .i64 a, .bool f] 24)
  have hs0 := hs.below hb
  obtain ⟨w0, hw0⟩ : ∃ w0, w0 = w.alloc (.cells #[.bool false, sl, .int .i64 c, .int .i64 a, .bool f] 24) := ⟨_, rfl⟩
  have k0 : w0.heap[w.heap.size]? = some (.cells #[.bool false, sl, .int .i64 c, .int .i64 a, .bool f] 24 (0, 0)) := by rw [hw0]; exact heap_alloc_new w _
  rw [← hw0] at hb hs0
  have c0 : w0.cell? ⟨w.heap.size, 0, none⟩ = some (.bool false) := cell_of_row _ _ 0 _ _ _ k0
  have c1 : w0.cell? ⟨w.heap.size, 1, none⟩ = some sl := cell_of_row _ _ 1 _ _ _ k0
  have c2 : w0.cell? ⟨w.heap.size, 2, none⟩ = some (.int .i64 c) := cell_of_row _ _ 2 _ _ _ k0
  have c3 : w0.cell? ⟨w.heap.size, 3, none⟩ = some (.int .i64 a) := cell_of_row _ _ 3 _ _ _ k0
  have c4 : w0.cell? ⟨w.heap.size, 4, none⟩ = some (.bool f) := cell_of_row _ _ 4 _ _ _ k0
  have HB := Lib.hid hb
  have HW := Lib.hid hw0
  clear hb hw0 hs k0
  cases f with
  | true =>
    have e0 : errW true c a (l.take 0).reverse = faultV c a := rfl
    have E0 := Lib.hid e0
    clear e0
    rcases hs0 with ⟨x0, rfl, rfl⟩ | ⟨b, off, cap, rfl, hbl, hc⟩
    · go_enter Tryd.func8, Tryd.ntmps8
      go_wp2_with fail
      rw [← HW.out]
      go_loop [3, 4] (fun ev iv => ev = faultV c a ∧ iv = .int .i64 0) (fun _ _ => 0)
      case atStart => exact ⟨rfl, rfl⟩
      case round =>
        obtain ⟨rfl, rfl⟩ := hrel
        go_wp2_with fail
        go_ret
        exact ⟨rfl, HB.out⟩
    · have HC := Lib.hid hc
      have C1 := Lib.hid c1
      clear hc
      go_enter Tryd.func8, Tryd.ntmps8
      go_wp2_with fail
      rw [← HW.out]
      go_loopw [3, 4] (fun ev iv wr => ∃ k : Nat, k ≤ l.length ∧ iv = .int .i64 k ∧ ev = errW true c a (l.take k).reverse ∧ Hid (Below w.heap.size w wr) ∧ Hid (Below w0.heap.size w0 wr)) (fun _ iv _ => l.length - (intOf iv).toNat)
      case atStart => exact ⟨0, Nat.zero_le _, rfl, rfl, HB.out, Below.refl _ _⟩
      case round =>
        obtain ⟨k, hk, rfl, rfl, HB1, HB2⟩ := hrel
        rename World => wr
        have r1 : wr.cell? ⟨w.heap.size, 1, none⟩ = some (.slice (some ⟨b, off, none⟩) l.length cap) := (HB2.out.cell (blk C1.out)).trans C1.out
        by_cases hlt : k < l.length
        · have hk0 : (0 : Int) ≤ k := by omega
          have hk1 : (k : Int) < l.length := by omega
          have r2 : wr.cell? ⟨b, off + k, none⟩ = some (.string l[k]) := (HB2.out.cell (by exact hbl)).trans (HC.out k hlt)
          have HR := Lib.hid (congrArg (errW true c a) (rev_take hlt))
          obtain ⟨ps, hps⟩ : ∃ ps, ps = (l.take k).reverse := ⟨_, rfl⟩
          rw [← hps] at HR ⊢
          clear hps
          go_wp2_with fail
          refine (in_err l[k] true c a ps _).mono ?_
          rintro e w5 ⟨rfl, b5⟩
          have HB3 := Lib.hid (HB1.out.trans (b5.mono HB1.out.size))
          have HB4 := Lib.hid (HB2.out.trans (b5.mono HB2.out.size))
          clear b5 r1 r2
          rw [← HR.out]
          go_wp2_with fail
          go_roundw
          case rel => exact ⟨k + 1, by omega, by go_num, rfl, HB3.out, HB4.out⟩
          case measure => simp [intOf]; omega
        · obtain rfl : k = l.length := by omega
          have HT : Hid (l.take l.length = l) := List.take_length
          obtain ⟨ev, hev⟩ : ∃ ev, ev = errW true c a (l.take l.length).reverse := ⟨_, rfl⟩
          rw [← hev]
          rw [HT.out] at hev
          have HV := Lib.hid hev
          clear hev
          go_wp2_with fail
          go_ret
          exact ⟨by rw [← HV.out]; rfl, HB1.out⟩
  | false =>
    have e0 : errW false c a (l.take 0).reverse = codeV c := rfl
    have E0 := Lib.hid e0
    clear e0
    rcases hs0 with ⟨x0, rfl, rfl⟩ | ⟨b, off, cap, rfl, hbl, hc⟩
    · go_enter Tryd.func8, Tryd.ntmps8
      go_wp2_with fail
      rw [← HW.out]
      go_loop [3, 4] (fun ev iv => ev = codeV c ∧ iv = .int .i64 0) (fun _ _ => 0)
      case atStart => exact ⟨rfl, rfl⟩
      case round =>
        obtain ⟨rfl, rfl⟩ := hrel
        go_wp2_with fail
        go_ret
        exact ⟨rfl, HB.out⟩
    · have HC := Lib.hid hc
      have C1 := Lib.hid c1
      clear hc
      go_enter Tryd.func8, Tryd.ntmps8
      go_wp2_with fail
      rw [← HW.out]
      go_loopw [3, 4] (fun ev iv wr => ∃ k : Nat, k ≤ l.length ∧ iv = .int .i64 k ∧ ev = errW false c a (l.take k).reverse ∧ Hid (Below w.heap.size w wr) ∧ Hid (Below w0.heap.size w0 wr)) (fun _ iv _ => l.length - (intOf iv).toNat)
      case atStart => exact ⟨0, Nat.zero_le _, rfl, rfl, HB.out, Below.refl _ _⟩
      case round =>
        obtain ⟨k, hk, rfl, rfl, HB1, HB2⟩ := hrel
        rename World => wr
        have r1 : wr.cell? ⟨w.heap.size, 1, none⟩ = some (.slice (some ⟨b, off, none⟩) l.length cap) := (HB2.out.cell (blk C1.out)).trans C1.out
        by_cases hlt : k < l.length
        · have hk0 : (0 : Int) ≤ k := by omega
          have hk1 : (k : Int) < l.length := by omega
          have r2 : wr.cell? ⟨b, off + k, none⟩ = some (.string l[k]) := (HB2.out.cell (by exact hbl)).trans (HC.out k hlt)
          have HR := Lib.hid (congrArg (errW false c a) (rev_take hlt))
          obtain ⟨ps, hps⟩ : ∃ ps, ps = (l.take k).reverse := ⟨_, rfl⟩
          rw [← hps] at HR ⊢
          clear hps
          go_wp2_with fail
          refine (in_err l[k] false c a ps _).mono ?_
          rintro e w5 ⟨rfl, b5⟩
          have HB3 := Lib.hid (HB1.out.trans (b5.mono HB1.out.size))
          have HB4 := Lib.hid (HB2.out.trans (b5.mono HB2.out.size))
          clear b5 r1 r2
          rw [← HR.out]
          go_wp2_with fail
          go_roundw
          case rel => exact ⟨k + 1, by omega, by go_num, rfl, HB3.out, HB4.out⟩
          case measure => simp [intOf]; omega
        · obtain rfl : k = l.length := by omega
          have HT : Hid (l.take l.length = l) := List.take_length
          obtain ⟨ev, hev⟩ : ∃ ev, ev = errW false c a (l.take l.length).reverse := ⟨_, rfl⟩
          rw [← hev]
          rw [HT.out] at hev
          have HV := Lib.hid hev
          clear hev
          go_wp2_with fail
          go_ret
          exact ⟨by rw [← HV.out]; rfl, HB1.out⟩
end Go.Proofs.YtnbeeahfohfgoaaDoor
