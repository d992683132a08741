/-
  vestrylaw04.awake returns true: the fixed examples hold; it changes nothing that was there.
-/
import Derived.Test.YtpkndgjkopfpkaaDecode
namespace Go.Proofs.Ytpkndgjkopfpkaa
open Go.ChangeShapes Go.WideShapes Go.ChangeAt Go.RowKit
set_option linter.unusedVariables false

theorem decode_at (s : ByteArray) (hs : s.size ≤ 30000000000000) (w : World) {b : List UInt8} {n : Int} (hd : dec s.data.toList = (b, n)) :
    Calls Try.prog 26 #[.string s] w fun e w' => ∃ v, e = .returned (.tuple #[v, .int .i64 n]) ∧ Rd w'.heap.size w' v b ∧ Below w.heap.size w w' := by
  refine (decode_any s hs w).mono fun e w' ⟨v, h1, h2, h3⟩ => ?_
  rw [hd] at h1 h2
  exact ⟨v, h1, h2, h3⟩

theorem dec1 : dec [95, 45, 65] = ([255, 224], -1) := by decide +kernel
theorem dec2 : dec [95, 45, 66] = ([], 2) := by decide +kernel
theorem dec3 : dec [65, 61, 65] = ([], 1) := by decide +kernel
theorem enc1 : enc [255, 224] = [95, 45, 65] := by decide +kernel

set_option maxRecDepth 100000 in
set_option maxHeartbeats 1000000 in
theorem bawake_any (w : World) : Calls Try.prog 24 #[] w fun e w' => e = .returned (.bool true) ∧ Below w.heap.size w w' := by
  go_enter Try.func24, Try.ntmps24
  go_wp2_with fail
  refine (decode_at ⟨#[95, 45, 65]⟩ (by decide) _ dec1).mono ?_
  rintro e w1 ⟨v1, rfl, r1, b1⟩
  obtain ⟨o1, c1, rfl, _, _⟩ := r1.form
  go_wp2_with fail
  refine (decode_at ⟨#[95, 45, 66]⟩ (by decide) _ dec2).mono ?_
  rintro e w2 ⟨v2, rfl, r2, b2⟩
  have r12 := r1.below b2 (Nat.le_refl _)
  have B2 := b1.trans (b2.mono b1.size)
  obtain ⟨o2, c2, rfl, _, _⟩ := r2.form
  clear r2
  go_wp2_with fail
  refine (decode_at ⟨#[65, 61, 65]⟩ (by decide) _ dec3).mono ?_
  rintro e w3 ⟨v3, rfl, r3, b3⟩
  have r13 := r12.below b3 b2.size
  have B3 := B2.trans (b3.mono B2.size)
  have z13 : w1.heap.size ≤ w3.heap.size := Nat.le_trans b2.size b3.size
  obtain ⟨o3, c3, rfl, _, _⟩ := r3.form
  clear r3 r12 r1 b1 b2 b3 B2
  go_wp2_with fail
  have hx : Below w3.heap.size w3 (w3.alloc (.cells #[.int .u8 255, .int .u8 224] 5)) := (Below.refl _ _).alloc (Nat.le_refl _) _
  refine (encode_any (rd_lit w3 [255, 224] #[.int .u8 255, .int .u8 224] rfl 2 rfl (by decide)) (by simp) (by decide)).mono ?_
  rintro e w4 ⟨rfl, b4⟩
  rw [show str (enc [255, 224]) = ⟨#[95, 45, 65]⟩ from by rw [enc1]; rfl]
  have B34 : Below w3.heap.size w3 w4 := hx.trans (b4.mono (by simp))
  have B4 := B3.trans (B34.mono B3.size)
  have r14 := r13.below B34 z13
  have z14 : w1.heap.size ≤ w4.heap.size := Nat.le_trans z13 B34.size
  clear hx b4 B34 B3 r13
  go_wp2_with fail
  have hx : Below w4.heap.size w4 (w4.alloc (.cells #[.int .u8 255, .int .u8 224] 5)) := (Below.refl _ _).alloc (Nat.le_refl _) _
  refine (same_any (r14.below hx z14) (rd_lit w4 [255, 224] #[.int .u8 255, .int .u8 224] rfl 2 rfl (by decide))).mono ?_
  rintro e w5 ⟨rfl, n5, rfl⟩
  rw [show eqB [255, 224] [255, 224] = true from by decide]
  have B5 := below_drewN (B4.trans (hx.mono B4.size)) n5
  clear hx B4 r14
  go_wp2_with fail
  refine (size_any 2 (by omega) _).mono ?_
  rintro e w6 ⟨rfl, rfl⟩
  go_wp2_with fail
  go_ret
  exact ⟨rfl, B5⟩
end Go.Proofs.Ytpkndgjkopfpkaa
