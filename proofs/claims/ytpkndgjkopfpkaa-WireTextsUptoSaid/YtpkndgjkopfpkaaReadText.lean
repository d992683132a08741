/-
  vestryref01.Read at the beginning of bytes, and the method Cursor.Text at the beginning of a cursor, where the bytes are a whole text.
-/
import Derived.Test.YtpkndgjkopfpkaaRefNumber
import Derived.Test.YtpkndgjkopfpkaaConv
namespace Go.Proofs.Ytpkndgjkopfpkaa
open Go.ChangeShapes Go.WideShapes Go.ChangeAt Go.RowKit

/-- What is read where it is good: the part, the offset behind it, no code; else nothing, 0, and the code Limit. -/
def partOf (good : Bool) (l : List UInt8) : List UInt8 := if good then l else []
def nextOf (good : Bool) (n : Nat) : Int := if good then (n : Int) else 0
def codeOf (good : Bool) : Nat := if good then 0 else 15

/-- The rest of a byte slice from k on, turned into a string, as the walk spells the rest. -/
theorem conv_rest {B : Nat} {w : World} {b off cap k : Nat} {l : List UInt8} (hr : Rd B w (.slice (some ⟨b, off, none⟩) l.length cap) l) (hk : k ≤ l.length) (h0 : 0 < l.length) :
    (cap = k → (convert 23 9 (.slice (some ⟨b, off, none⟩) 0 0)).run Try.prog w = .ok (.string (str (l.drop k))) w) ∧
    (convert 23 9 (.slice (some ⟨b, off + k, none⟩) (l.length - k) (cap - k))).run Try.prog w = .ok (.string (str (l.drop k))) w := by
  rcases hr with ⟨oa', hv, rfl⟩ | ⟨b', off', cap', hv, h1, h2, h3, hc⟩
  · simp at h0
  · simp only [Value.slice.injEq, Option.some.injEq, Addr.mk.injEq] at hv
    obtain ⟨⟨rfl, rfl, _⟩, _, rfl⟩ := hv
    refine ⟨fun hck => ?_, conv_bytes (Rd.drop h1 h2 h3 hc hk)⟩
    have e : l.length - k = 0 := by omega
    have e2 : l.drop k = [] := List.eq_nil_of_length_eq_zero (by rw [List.length_drop]; exact e)
    rw [e2]
    exact conv_bytes (B := B) (.inl ⟨_, rfl, rfl⟩)

set_option maxRecDepth 100000 in
set_option maxHeartbeats 800000 in
theorem rread_any {B : Nat} {w : World} {vb : Value} {l : List UInt8} (hr : Rd B w vb l) (hlen : l.length ≤ 1000) {n k : Nat} (hn : num l = (n, k, 0)) (hk : k + n = l.length) (hk0 : 0 < k) (most : Int) (hm : -9223372036854775808 ≤ most ∧ most ≤ 9223372036854775807) (good : Bool) (hg : good = decide (¬ (most < 0 ∨ most < n))) :
    Calls Try.prog 20 #[vb, .int .i64 0, .int .i64 most] w fun e w' => e = .returned (.tuple #[.string (str (partOf good (l.drop k))), .int .i64 (nextOf good l.length), .int .i64 (codeOf good)]) ∧ w = w' := by
  obtain ⟨oa, cap, rfl, _, hcell⟩ := hr.form
  have HC := Lib.hid (rnumber_any hr (by omega))
  have HN := Lib.hid hn
  clear hn
  by_cases hneg : most < 0
  · obtain rfl : good = false := by rw [hg]; simp [hneg]
    clear hg
    go_enter Try.func20, Try.ntmps20
    go_wp2_with (go_at_call 38; refine HC.out.mono ?_; rintro e w1 ⟨rfl, rfl⟩; rw [HN.out])
    go_ret3
    exact ⟨rfl, rfl⟩
  · obtain ⟨m, rfl⟩ := Int.eq_ofNat_of_zero_le (by omega : 0 ≤ most)
    by_cases hlt : m < n
    · obtain rfl : good = false := by rw [hg]; simp; omega
      have hlt' : (m : Int) < n := by omega
      clear hg
      go_enter Try.func20, Try.ntmps20
      go_wp2_with (go_at_call 38; refine HC.out.mono ?_; rintro e w1 ⟨rfl, rfl⟩; rw [HN.out])
      go_ret3
      exact ⟨rfl, rfl⟩
    · obtain rfl : good = true := by rw [hg]; simp; omega
      have hlt' : ¬ (m : Int) < n := by omega
      obtain ⟨b, off, rfl, _, _, _, _⟩ := hcell (by omega)
      obtain ⟨hc1, hc2⟩ := conv_rest hr (k := k) (by omega) (by omega)
      obtain ⟨S, hS⟩ : ∃ S, S = str (l.drop k) := ⟨_, rfl⟩
      rw [← hS] at hc1 hc2
      have HS := Lib.hid hS
      have hkn : (k : Int) + n = l.length := by omega
      have HK := Lib.hid hkn
      have hnl : (n : Int) ≤ l.length - k := by omega
      clear hg hS hcell hkn
      by_cases hck : cap = k
      · have hc3 := hc1 hck
        clear hc1 hc2
        subst hck
        go_enter Try.func20, Try.ntmps20
        go_wp2_with (go_at_call 38; refine HC.out.mono ?_; rintro e w1 ⟨rfl, rfl⟩; rw [HN.out])
        go_ret3
        refine ⟨?_, rfl⟩
        rw [HS.out]; unfold nextOf; rw [if_pos rfl, ← HK.out]; rfl
      · clear hc1
        go_enter Try.func20, Try.ntmps20
        go_wp2_with (go_at_call 38; refine HC.out.mono ?_; rintro e w1 ⟨rfl, rfl⟩; rw [HN.out])
        go_ret3
        refine ⟨?_, rfl⟩
        rw [HS.out]; unfold nextOf; rw [if_pos rfl, ← HK.out]; rfl

set_option maxRecDepth 100000 in
set_option maxHeartbeats 800000 in
theorem ctext_any {w : World} {c : Nat} {l : List UInt8} (h : Cur w c l 0) (hlen : l.length ≤ 1000) {n k : Nat} (hn : num l = (n, k, 0)) (hk : k + n = l.length) (hk0 : 0 < k) (most : Int) (hm : -9223372036854775808 ≤ most ∧ most ≤ 9223372036854775807) (good : Bool) (hg : good = decide (¬ (most < 0 ∨ most < n))) :
    Calls Try.prog 19 #[.pointer (some ⟨c, 0, none⟩), .int .i64 most] w fun e w' => e = .returned (.tuple #[.string (str (partOf good (l.drop k))), errV (codeOf good)]) ∧ w.grownBy w' (some c) := by
  have HN := Lib.hid hn
  clear hn
  by_cases hneg : most < 0
  · obtain rfl : good = false := by rw [hg]; simp [hneg]
    clear hg
    go_enter Try.func19, Try.ntmps19
    go_wp2_with fail
    refine (rest_any h).mono ?_
    rintro e w1 ⟨v, rfl, hr, nq, rfl⟩
    rw [List.drop_zero] at hr
    have hr1 : Rd c (w.drewN nq) v l := hr
    obtain ⟨ov, cv, rfl, _, _⟩ := hr1.form
    go_wp2_with fail
    refine (number_any hr1).mono ?_
    rintro e w2 ⟨rfl, rfl⟩
    rw [HN.out]
    simp only [errV, if_true]
    go_wp2_with fail
    go_ret2
    exact ⟨rfl, grown_drew _ _ _⟩
  · obtain ⟨m, rfl⟩ := Int.eq_ofNat_of_zero_le (by omega : 0 ≤ most)
    by_cases hlt : m < n
    · obtain rfl : good = false := by rw [hg]; simp; omega
      have hlt' : (m : Int) < n := by omega
      clear hg
      go_enter Try.func19, Try.ntmps19
      go_wp2_with fail
      refine (rest_any h).mono ?_
      rintro e w1 ⟨v, rfl, hr, nq, rfl⟩
      rw [List.drop_zero] at hr
      have hr1 : Rd c (w.drewN nq) v l := hr
      obtain ⟨ov, cv, rfl, _, _⟩ := hr1.form
      go_wp2_with fail
      refine (number_any hr1).mono ?_
      rintro e w2 ⟨rfl, rfl⟩
      rw [HN.out]
      simp only [errV, if_true]
      go_wp2_with fail
      go_ret2
      exact ⟨rfl, grown_drew _ _ _⟩
    · obtain rfl : good = true := by rw [hg]; simp; omega
      have hlt' : ¬ (m : Int) < n := by omega
      have hnl : (n : Int) ≤ l.length - k := by omega
      obtain ⟨_, _, hc1, hf1, _, _, _⟩ := h.cells
      clear hg
      go_enter Try.func19, Try.ntmps19
      go_wp2_with fail
      refine (rest_any h).mono ?_
      rintro e w1 ⟨v, rfl, hr, nq, rfl⟩
      rw [List.drop_zero] at hr
      have hr1 : Rd c (w.drewN nq) v l := hr
      obtain ⟨ov, cv, rfl, _, hcell⟩ := hr1.form
      obtain ⟨b, off, rfl, hlc, hcm, hbc, hcl⟩ := hcell (by omega)
      clear hcell
      obtain ⟨S, hS⟩ : ∃ S, S = str (l.drop k) := ⟨_, rfl⟩
      have hb2 : ∀ x : Value, Below c (w.drewN nq) ((w.drewN nq).setCell ⟨c, 1, none⟩ x) := fun x => (Below.refl c (w.drewN nq)).setCell (p := ⟨c, 1, none⟩) (Nat.le_refl c) x
      have hdl : (l.drop k).length = l.length - k := List.length_drop
      have hc3 : ∀ x : Value, (convert 23 9 (.slice (some ⟨b, off + k, none⟩) (l.length - k) (l.length - k))).run Try.prog ((w.drewN nq).setCell ⟨c, 1, none⟩ x) = .ok (.string S) ((w.drewN nq).setCell ⟨c, 1, none⟩ x) := by
        intro x
        rw [hS]
        refine conv_bytes (B := c) (.inr ⟨b, off + k, _, by rw [hdl], by omega, by unfold maxLen; omega, hbc, fun i hi => ?_⟩)
        rw [(hb2 x).cell (p := ⟨b, off + k + i, none⟩) hbc]
        have := hcl (k + i) (by omega)
        rw [← Nat.add_assoc] at this
        rw [this]
        simp [List.getD_eq_getElem?_getD, List.getElem?_drop]
      have hc4 : n = 0 → ∀ x : Value, (convert 23 9 (.slice (some ⟨b, off, none⟩) 0 0)).run Try.prog ((w.drewN nq).setCell ⟨c, 1, none⟩ x) = .ok (.string S) ((w.drewN nq).setCell ⟨c, 1, none⟩ x) := by
        intro hn0 x
        have e2 : l.drop k = [] := List.eq_nil_of_length_eq_zero (by omega)
        rw [hS, e2]
        exact conv_bytes (B := c) (.inl ⟨_, rfl, rfl⟩)
      have HS := Lib.hid hS
      unfold maxLen at hcm
      clear hcl hdl hS hb2
      go_wp2_with fail
      refine (number_any hr1).mono ?_
      rintro e w2 ⟨rfl, rfl⟩
      rw [HN.out]
      simp only [errV, if_true]
      by_cases hn0 : n = 0
      · have hc5 := hc4 hn0
        clear hc4 hc3
        subst hn0
        go_wp2_with fail
        go_ret2
        exact ⟨by rw [HS.out]; rfl, grown_set _ _ _ _ _⟩
      · clear hc4
        go_wp2_with fail
        go_ret2
        exact ⟨by rw [HS.out]; rfl, grown_set _ _ _ _ _⟩
end Go.Proofs.Ytpkndgjkopfpkaa
