/-
  The method Cursor.Number reads the number at the cursor and goes on behind it; where there is none the cursor stays.
-/
import Derived.Test.YtdnmgemjhpkekaaGreatDoorNumber
namespace Go.Proofs.YtdnmgemjhpkekaaGreatDoor
open Go.ChangeShapes Go.WideShapes Go.ChangeAt Go.RowKit

theorem numGo_size : ∀ (l : List UInt8) (i x : Nat), (numGo i x l).2.2 = 0 → (numGo i x l).2.1 ≤ i + l.length := by
  intro l
  induction l with
  | nil => intro i x h; simp [numGo] at h
  | cons g r ih =>
    intro i x h
    by_cases hA : i = 9 ∧ 1 < g.toNat
    · rw [go_long hA] at h; simp at h
    · by_cases hB : 0 < i ∧ g.toNat = 0
      · rw [go_min hA hB] at h; simp at h
      · by_cases hC : g.toNat < 128
        · rw [go_last hA hB hC]; simp only [List.length_cons]; omega
        · rw [go_next hA hB hC] at h ⊢
          have := ih _ _ h
          simp only [List.length_cons]; omega
theorem numGo_bad : ∀ (l : List UInt8) (i x : Nat), (numGo i x l).2.2 ≠ 0 → (numGo i x l).1 = 0 ∧ (numGo i x l).2.1 = 0 := by
  intro l
  induction l with
  | nil => intro i x h; simp [numGo]
  | cons g r ih =>
    intro i x h
    by_cases hA : i = 9 ∧ 1 < g.toNat
    · rw [go_long hA]; simp
    · by_cases hB : 0 < i ∧ g.toNat = 0
      · rw [go_min hA hB]; simp
      · by_cases hC : g.toNat < 128
        · rw [go_last hA hB hC] at h; simp at h
        · rw [go_next hA hB hC] at h ⊢
          exact ih _ _ h
theorem num_size (l : List UInt8) (h : (num l).2.2 = 0) : (num l).2.1 ≤ l.length := by have := numGo_size l 0 0 h; unfold num; omega

/-- What Put writes is read again as the number, whatever follows. -/
theorem numGo_put : ∀ (n x i acc : Nat) (r : List UInt8), i + n = 9 → x < 2 * 128 ^ n → (0 < i → 0 < x) → numGo i acc (put x ++ r) = (acc + x * 128 ^ i, i + (put x).length, 0) := by
  intro n
  induction n with
  | zero =>
    intro x i acc r hi hx hp
    have hx2 : x < 2 := by simpa using hx
    have e : (UInt8.ofNat x).toNat = x := by rw [UInt8.toNat_ofNat']; omega
    rw [put_lt (by omega), List.cons_append, go_last (by rw [e]; omega) (by rw [e]; omega) (by rw [e]; omega), e, Nat.mod_eq_of_lt (by omega)]
    rfl
  | succ n ih =>
    intro x i acc r hi hx hp
    by_cases h : x < 128
    · have e : (UInt8.ofNat x).toNat = x := by rw [UInt8.toNat_ofNat']; omega
      rw [put_lt h, List.cons_append, go_last (by rw [e]; omega) (by rw [e]; omega) (by rw [e]; omega), e, Nat.mod_eq_of_lt (by omega)]
      rfl
    · have e : (pb x).toNat = x % 128 + 128 := by unfold pb; rw [UInt8.toNat_ofNat']; omega
      rw [put_ge h, List.cons_append, go_next (by rw [e]; omega) (by rw [e]; omega) (by rw [e]; omega), e]
      rw [ih (x / 128) (i + 1) _ r (by omega) (by rw [Nat.pow_succ] at hx; omega) (by omega)]
      have e2 : (x % 128 + 128) % 128 = x % 128 := by omega
      rw [e2, List.length_cons]
      refine Prod.ext ?_ (Prod.ext (by simp only []; omega) rfl)
      show acc + x % 128 * 128 ^ i + x / 128 * 128 ^ (i + 1) = acc + x * 128 ^ i
      rw [Nat.pow_succ]
      have h1 : x / 128 * (128 ^ i * 128) = (x / 128 * 128) * 128 ^ i := by
        rw [Nat.mul_comm (128 ^ i) 128, Nat.mul_assoc]
      rw [h1, Nat.add_assoc, ← Nat.add_mul]
      congr 2
      omega
theorem num_put {x : Nat} (h : x < lim64) (r : List UInt8) : num (put x ++ r) = (x, (put x).length, 0) := by
  unfold num
  rw [numGo_put 9 x 0 0 r rfl (by unfold lim64 at h; omega) (by omega)]
  simp
/-- No beginning of what Put writes is a number. -/
theorem numGo_short : ∀ (n x i acc k : Nat), i + n = 9 → x < 2 * 128 ^ n → k < (put x).length → numGo i acc ((put x).take k) = (0, 0, 1) := by
  intro n
  induction n with
  | zero =>
    intro x i acc k hi hx hk
    have hx2 : x < 2 := by simpa using hx
    rw [put_lt (by omega)] at hk ⊢
    obtain rfl : k = 0 := by simpa using hk
    rfl
  | succ n ih =>
    intro x i acc k hi hx hk
    by_cases h : x < 128
    · rw [put_lt h] at hk ⊢
      obtain rfl : k = 0 := by simpa using hk
      rfl
    · rw [put_ge h] at hk ⊢
      cases k with
      | zero => rfl
      | succ k =>
        have e : (pb x).toNat = x % 128 + 128 := by unfold pb; rw [UInt8.toNat_ofNat']; omega
        rw [List.take_succ_cons, go_next (by rw [e]; omega) (by rw [e]; omega) (by rw [e]; omega)]
        exact ih (x / 128) (i + 1) _ k (by omega) (by rw [Nat.pow_succ] at hx; omega) (by simpa using hk)
theorem num_short {x k : Nat} (h : x < lim64) (hk : k < (put x).length) : num ((put x).take k) = (0, 0, 1) :=
  numGo_short 9 x 0 0 k rfl (by unfold lim64 at h; omega) hk

def NumberPost (w : World) (c : Nat) (l : List UInt8) (at' : Nat) (e : Ending) (w' : World) : Prop :=
  e = .returned (.tuple #[.int .u64 (num (l.drop at')).1, errV (num (l.drop at')).2.2]) ∧ Cur w' c l (at' + (num (l.drop at')).2.1) ∧ w.grownBy w' (some c)

theorem grown_set (w : World) (n c o : Nat) (v : Value) : w.grownBy ((w.drewN n).setCell ⟨c, o, none⟩ v) (some c) :=
  ⟨rfl, rfl, rfl, by simp [World.setCell], fun k _ hk => by
    have := Below.heap_setCell (w.drewN n) ⟨c, o, none⟩ v k (fun e => hk (by rw [e]))
    rw [this]; rfl⟩
theorem grown_drew (w : World) (n : Nat) (r : Option Nat) : w.grownBy (w.drewN n) r := ⟨rfl, rfl, rfl, Nat.le_refl _, fun _ _ _ => rfl⟩

theorem Cur.moved {w : World} {c at' n : Nat} {l : List UInt8} (h : Cur w c l at') (m : Nat) (hm : m ≤ l.length) : Cur ((w.drewN n).setCell ⟨c, 1, none⟩ (.int .i64 m)) c l m := by
  obtain ⟨v, h1, h2, _, h4⟩ := h
  refine ⟨v, ?_, ?_, hm, h4⟩
  · have h1' : (w.drewN n).heap[c]? = _ := h1
    simp only [World.setCell, Array.getElem?_modify, h1']
    simp
  · rcases h2 with h2 | ⟨b, off, cap, hv, g1, g2, g3, hc⟩
    · exact .inl h2
    · refine .inr ⟨b, off, cap, hv, g1, g2, g3, fun i hi => ?_⟩
      rw [World.cell?_of_block (Below.heap_setCell (w.drewN n) ⟨c, 1, none⟩ _ b (by show b ≠ c; omega))]
      exact hc i hi

set_option maxRecDepth 100000 in
set_option maxHeartbeats 800000 in
theorem Number_any {w : World} {c at' : Nat} {l : List UInt8} (h : Cur w c l at') :
    Calls Tryz.prog 87 #[.pointer (some ⟨c, 0, none⟩)] w (NumberPost w c l at') := by
  obtain ⟨r, hr⟩ : ∃ r, r = num (l.drop at') := ⟨_, rfl⟩
  obtain ⟨v, _, hc1, hf1, _, hle, hm⟩ := h.cells
  by_cases h0 : r.2.2 = 0
  · have hv : errV r.2.2 = .nilIface := by rw [h0]; rfl
    have hsz : r.2.1 + at' ≤ l.length := by
      have := num_size (l.drop at') (by rw [← hr]; exact h0)
      rw [List.length_drop, ← hr] at this; omega
    have hsz2 : r.2.1 ≤ l.length := by omega
    have HR := Lib.hid hr
    have HV := Lib.hid hv
    have H0 := Lib.hid h0
    obtain ⟨x, hx⟩ : ∃ x, x = r.1 := ⟨_, rfl⟩
    obtain ⟨s, hs⟩ : ∃ s, s = r.2.1 := ⟨_, rfl⟩
    rw [← hs] at hsz hsz2
    have HX := Lib.hid hx
    have HS := Lib.hid hs
    clear hr hv h0 hx hs
    go_enter Tryz.func87, Tryz.ntmps87
    go_wp2_with (first | (go_at_call 88; refine (rest_any h).mono ?_; rintro e w1 ⟨v1, rfl, hr1, nq, rfl⟩) | (go_at_call 89; refine (number_any (by assumption)).mono ?_; rintro e w1 ⟨rfl, rfl⟩; rw [← HR.out, HV.out, ← HX.out, ← HS.out]))
    go_ret2
    refine ⟨by rw [← HR.out, HV.out, ← HX.out]; rfl, ?_, grown_set _ _ _ _ _⟩
    rw [← HR.out, ← HS.out]
    exact h.moved (n := nq) (at' + s) (by omega)
  · have hv : errV r.2.2 = .iface 73 (.int .i64 r.2.2) := by unfold errV; rw [if_neg h0]
    obtain ⟨hb1, hb2⟩ := numGo_bad (l.drop at') 0 0 (by rw [hr] at h0; exact h0)
    have hb1' : r.1 = 0 := by rw [hr]; exact hb1
    have hb2' : r.2.1 = 0 := by rw [hr]; exact hb2
    have HR := Lib.hid hr
    have HV := Lib.hid hv
    have H1 := Lib.hid hb1'
    have H2 := Lib.hid hb2'
    obtain ⟨k, hk⟩ : ∃ k, k = r.2.2 := ⟨_, rfl⟩
    have HK := Lib.hid hk
    clear hr hv h0 hb1 hb2 hb1' hb2' hk
    go_enter Tryz.func87, Tryz.ntmps87
    go_wp2_with (first | (go_at_call 88; refine (rest_any h).mono ?_; rintro e w1 ⟨v1, rfl, hr1, nq, rfl⟩) | (go_at_call 89; refine (number_any (by assumption)).mono ?_; rintro e w1 ⟨rfl, rfl⟩; rw [← HR.out, HV.out, H1.out, H2.out, ← HK.out]))
    go_ret2
    refine ⟨by rw [← HR.out, HV.out, H1.out, ← HK.out]; rfl, ?_, grown_drew _ _ _⟩
    rw [← HR.out, H2.out]
    obtain ⟨v', g1, g2, g3, g4⟩ := h
    exact ⟨v', g1, g2.below (w' := w.drewN nq) ⟨rfl, rfl, rfl, Nat.le_refl _, fun _ _ => rfl⟩ (Nat.le_refl _), g3, g4⟩
end Go.Proofs.YtdnmgemjhpkekaaGreatDoor
