/-
  vestrylaw01.awake returns true: the fixed examples hold; it changes nothing that was there.
-/
import Derived.Test.YtpkndgjkopfpkaaNumberM
import Derived.Test.YtpkndgjkopfpkaaText
namespace Go.Proofs.Ytpkndgjkopfpkaa
open Go.ChangeShapes Go.WideShapes Go.ChangeAt Go.RowKit

theorem Number_at {w : World} {c at' : Nat} {l : List UInt8} (h : Cur w c l at') {x s k : Nat} {v : Value} (hr : num (l.drop at') = (x, s, k)) (hv : errV k = v) :
    Calls Try.prog 16 #[.pointer (some ⟨c, 0, none⟩)] w fun e w' => e = .returned (.tuple #[.int .u64 x, v]) ∧ Cur w' c l (at' + s) ∧ w.grownBy w' (some c) := by
  refine (Number_any h).mono fun e w' ⟨h1, h2, h3⟩ => ?_
  rw [hr] at h1 h2
  exact ⟨by rw [h1, ← hv], h2, h3⟩

theorem below_ofGrown {B c : Nat} {w w' : World} (h : w.grownBy w' (some c)) (hB : B ≤ w.heap.size) (hc : B ≤ c) : Below B w w' :=
  (Below.refl B w).grown h hB (fun k hk => by cases hk; exact hc)

theorem put300 : put 300 = [172, 2] := by rw [put_ge (by decide), put_lt (by decide)]; decide
theorem put2 : put 2 = [2] := by rw [put_lt (by decide)]; decide

theorem eq_code (a b : Int) (w : World) : (binOp .eql 28 (.iface 33 (.int .i64 a)) (.iface 33 (.int .i64 b))).run Try.prog w = .ok (.bool (a == b)) w := by kernel_rfl

set_option maxRecDepth 100000 in
set_option maxHeartbeats 2000000 in
theorem awake_any (w : World) : Calls Try.prog 11 #[] w fun e w' => e = .returned (.bool true) ∧ Below w.heap.size w w' := by
  have heq := eq_code
  go_enter Try.func11, Try.ntmps11
  go_wp2_with fail
  have hr0 := rd_lit w [172, 2, 128, 0] #[.int .u8 172, .int .u8 2, .int .u8 128, .int .u8 0] rfl 4 rfl (by decide)
  refine (new_any hr0 (by simp) (by decide)).mono ?_
  rintro e w1 ⟨c, rfl, hc, hcur, hb1⟩
  have hB1 : Below w.heap.size w w1 := ((Below.refl _ _).alloc (Nat.le_refl _) _).trans (hb1.mono (by simp))
  have hc' : w.heap.size ≤ c := by simp at hc; omega
  clear hb1 hr0 hc
  go_wp2_with fail
  refine (Number_at hcur (x := 300) (s := 2) (k := 0) (v := .nilIface) (by decide) rfl).mono ?_
  rintro e w2 ⟨rfl, hcur2, hg2⟩
  have hB2 := hB1.trans (below_ofGrown hg2 hB1.size hc')
  clear hg2 hB1 hcur
  go_wp2_with fail
  refine (Number_at hcur2 (x := 0) (s := 0) (k := 3) (v := .iface 33 (.int .i64 3)) (by decide) rfl).mono ?_
  rintro e w3 ⟨rfl, hcur3, hg3⟩
  have hB3 := hB2.trans (below_ofGrown hg3 hB2.size hc')
  clear hg3 hB2 hcur2
  go_wp2_with fail
  refine (wput 300 (by unfold lim64; omega) _).mono ?_
  rintro e w4 ⟨v4, rfl, hown4, hb4⟩
  have hB4 := hB3.trans (hb4.mono hB3.size)
  have hcur4 := hcur3.below hb4 hcur3.lt
  have hr4 := Rd.of_own hown4
  clear hB3 hcur3 hown4
  go_wp2_with fail
  have hBx4 : Below w4.heap.size w4 (w4.alloc (.cells #[.int .u8 172, .int .u8 2] 5)) := (Below.refl _ _).alloc (Nat.le_refl _) _
  have hBx4' := hB4.trans (hBx4.mono hB4.size)
  have hcurx4 := hcur4.below hBx4 hcur4.lt
  refine (same_any (hr4.below hBx4 (Nat.le_refl _)) (rd_lit w4 [172, 2] #[.int .u8 172, .int .u8 2] rfl 2 rfl (by decide))).mono ?_
  rintro e w5 ⟨rfl, n5, rfl⟩
  rw [show eqB (put 300) [172, 2] = true from by rw [put300]; decide]
  have hB5 := below_drewN hBx4' n5
  have hcur5 := hcurx4.below (below_drewN (Below.refl (w4.alloc (.cells #[.int .u8 172, .int .u8 2] 5)).heap.size _) n5) hcurx4.lt
  generalize hW5 : (w4.alloc (.cells #[.int .u8 172, .int .u8 2] 5)).drewN n5 = W5 at *
  clear hW5 hBx4 hBx4' hcurx4 hr4 hcur4 hB4 hb4
  go_wp2_with fail
  refine (at_any hcur5).mono ?_
  rintro e w6 ⟨rfl, rfl⟩
  go_wp2_with fail
  refine (left_any hcur5).mono ?_
  rintro e w7 ⟨rfl, n7, rfl⟩
  have hB7 := below_drewN hB5 n7
  have hcur7 := hcur5.below (below_drewN (Below.refl W5.heap.size _) n7) hcur5.lt
  go_wp2_with fail
  refine (end_left hcur7 (by decide)).mono ?_
  rintro e w8 ⟨rfl, n8, rfl⟩
  have hB8 := below_drewN hB7 n8
  go_wp2_with fail
  refine (left_nil _).mono ?_
  rintro e w9 ⟨rfl, rfl⟩
  go_wp2_with fail
  refine (end_nil _).mono ?_
  rintro e w10 ⟨rfl, rfl⟩
  have hB9 := below_drewN hB5 (n7 + n8)
  generalize W5.drewN (n7 + n8) = W9 at *
  clear hB8 hB7 hcur7 hcur5 hB5
  go_wp2_with fail
  refine (text_any ⟨#[97, 98]⟩ (by decide) _).mono ?_
  rintro e w10 ⟨v10, rfl, hown10, hb10⟩
  have hB10 := hB9.trans (hb10.mono hB9.size)
  have hr10 := Rd.of_own hown10
  clear hown10 hb10 hB9
  go_wp2_with fail
  have hBx : Below w10.heap.size w10 (w10.alloc (.cells #[.int .u8 2, .int .u8 97, .int .u8 98] 5)) := (Below.refl _ _).alloc (Nat.le_refl _) _
  have hBx' := hB10.trans (hBx.mono hB10.size)
  refine (same_any (hr10.below hBx (Nat.le_refl _)) (rd_lit w10 [2, 97, 98] #[.int .u8 2, .int .u8 97, .int .u8 98] rfl 3 rfl (by decide))).mono ?_
  rintro e w11 ⟨rfl, n11, rfl⟩
  rw [show eqB (put (ByteArray.mk #[97, 98]).size ++ (ByteArray.mk #[97, 98]).data.toList) [2, 97, 98] = true from by rw [show (ByteArray.mk #[97, 98]).size = 2 from rfl, put2]; decide]
  have hB11 := below_drewN hBx' n11
  clear hBx hBx' hr10 hB10
  go_wp2_with fail
  go_ret
  exact ⟨rfl, hB11⟩
end Go.Proofs.Ytpkndgjkopfpkaa
