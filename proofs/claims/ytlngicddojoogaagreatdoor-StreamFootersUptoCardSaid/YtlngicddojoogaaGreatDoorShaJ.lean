/-
  sha.join.
-/
import Derived.Test.YtlngicddojoogaaGreatDoorShaC
namespace Go.Proofs.YtlngicddojoogaaGreatDoor
open Go.ChangeShapes Go.WideShapes Go.ChangeAt Go.RowKit
set_option linter.unusedVariables false

/-- Byte j of a state's digest. -/
def jbyte (l : List UInt32) (j : Nat) : UInt8 := (l.getD (j / 4) 0 >>> UInt32.ofNat (24 - 8 * (j % 4))).toUInt8
/-- The digest when n bytes of it are there. -/
def jpart (l : List UInt32) (n : Nat) : List UInt8 := (List.range 32).map fun j => if j < n then jbyte l j else 0
theorem jpart_length (l : List UInt32) (n : Nat) : (jpart l n).length = 32 := by simp [jpart]
theorem jpart_get (l : List UInt32) (n j : Nat) (h : j < 32) : (jpart l n).getD j 0 = if j < n then jbyte l j else 0 := by
  simp [jpart, List.getD_eq_getElem?_getD, h]
theorem jpart_done (s : S8) : jpart s.list 32 = joinS s := by
  unfold jpart joinS
  apply List.map_congr_left
  intro j hj
  rw [if_pos (List.mem_range.1 hj)]; rfl
theorem jpart_zero (l : List UInt32) : jpart l 0 = List.replicate 32 0 := by
  simp only [jpart, Nat.not_lt_zero, if_false]
  rfl
theorem jpart_next (l : List UInt32) (n : Nat) (h : n < 32) : (jpart l n).set n (jbyte l n) = jpart l (n + 1) := by
  apply List.ext_getElem
  · simp [jpart]
  · intro j h1 h2
    have hj : j < 32 := by simpa [jpart] using h2
    rw [List.getElem_set]
    simp only [jpart, List.getElem_map, List.getElem_range]
    by_cases e : n = j
    · subst e; rw [if_pos rfl, if_pos (by omega)]
    · rw [if_neg e]
      by_cases h3 : j < n
      · rw [if_pos h3, if_pos (by omega)]
      · rw [if_neg h3, if_neg (by omega)]
theorem bvs_set (l : List UInt8) (i : Nat) (x : UInt8) : (bvs l).set i (bv x) = bvs (l.set i x) := by simp [bvs]
theorem jbyte_val (l : List UInt32) (i k : Nat) (hk : k < 4) : ((l.getD i 0).toNat : Int) / 2 ^ (24 - 8 * k) % 256 = ((jbyte l (4 * i + k)).toNat : Int) := by
  unfold jbyte
  rw [show (4 * i + k) / 4 = i by omega, show (4 * i + k) % 4 = k by omega, w_shr _ _ (by omega)]
  simp
set_option maxRecDepth 100000 in
set_option maxHeartbeats 1000000 in
theorem sjoin_any (s : S8) (w : World) : Calls Tryz.prog 49 #[.agg (wvs s.list).toArray] w fun e w' => e = .returned (.agg (bvs (joinS s)).toArray) ∧ Below w.heap.size w w' := by
  have HJ := Lib.hid (jpart_done s)
  obtain ⟨l, hl⟩ : ∃ l, l = s.list := ⟨_, rfl⟩
  rw [← hl] at HJ ⊢
  have HL : Hid (l.length = 8) := by rw [hl]; rfl
  clear hl
  have hA : ∀ o, Arr ((w.alloc (.cells (wvs l).toArray 97)).alloc o) 97 w.heap.size (wvs l) := fun o => (Arr.new' w _ (wvs l).toArray (wvs l) (by simp)).alloc o
  go_enter Tryz.func49, Tryz.ntmps49
  go_wp2_with ((with_reducible refine load8w (x := .tmp 1) (o := ⟨some 6, _, _, _, _, _⟩) (hA _) HL.out ?_ ?_); exact ⟨rfl, rfl, rfl⟩)
  clear hA
  go_loopw [7] (fun iv wr => ∃ i : Nat, i ≤ 8 ∧ iv = .int .i64 i ∧ Hid (Arr wr 23 (w.heap.size + 1) (bvs (jpart l (4 * i))) ∧ Below w.heap.size w wr)) (fun iv _ => 8 - (intOf iv).toNat)
  case atStart =>
    refine ⟨0, by omega, rfl, ?_, ((Below.refl _ _).alloc (Nat.le_refl _) _).alloc (by simp) _⟩
    rw [Nat.mul_zero, jpart_zero]
    exact Arr.new2 _ _ _ _ _ rfl
  case round =>
    obtain ⟨i, hi, rfl, HM⟩ := hrel
    have hi0 : (0 : Int) ≤ i := by omega
    by_cases hlt : i < 8
    · have hlt1 : (i : Int) < 8 := by omega
      have hix := ix8 l i hlt (by rw [HL.out]; exact hlt)
      obtain ⟨x, hx⟩ : ∃ x, x = l.getD i 0 := ⟨_, rfl⟩
      rw [← hx] at hix
      have HX := Lib.hid hx
      clear hx
      obtain ⟨wo, hwo⟩ : ∃ wo, wo = wr := ⟨_, rfl⟩
      subst hwo
      go_wp2_with fail
      go_loopw [11] (fun kv wr => ∃ k : Nat, k ≤ 4 ∧ kv = .int .i64 k ∧ Hid (Arr wr 23 (w.heap.size + 1) (bvs (jpart l (4 * i + k))) ∧ Below w.heap.size w wr)) (fun kv _ => 4 - (intOf kv).toNat)
      case atStart => exact ⟨0, by omega, rfl, HM.out⟩
      case round =>
        obtain ⟨k, hk, rfl, HK⟩ := hrel
        clear HM
        have hk0 : (0 : Int) ≤ k := by omega
        by_cases hlk : k < 4
        · have hlk1 : (k : Int) < 4 := by omega
          have hf := HK.out.1.free (4 * i + k)
          have hc := (HK.out.1.cell (4 * i + k)).trans (bvs_getElem _ _ (by rw [jpart_length]; omega))
          have hz : (4 * (i : Int) + k) = ((4 * i + k : Nat) : Int) := by omega
          have hn1 : (4 * (i : Int) + k) < 32 := by omega
          have hn0 : (0 : Int) ≤ 4 * (i : Int) + k := by omega
          have hs0 : (0 : Int) ≤ 24 - 8 * (k : Int) := by omega
          have HZ := Lib.hid hz
          clear hz
          unfold bv at hc
          go_wp2_with fail
          go_roundw
          case rel =>
            refine ⟨k + 1, by omega, by go_num, ?_⟩
            have hv := jbyte_val l i k hlk
            rw [← HX.out] at hv
            rw [hv, ← Nat.add_assoc, ← jpart_next l (4 * i + k) (by omega), ← bvs_set]
            exact ⟨HK.out.1.set _ _, HK.out.2.setCell (by show w.heap.size ≤ w.heap.size + 1; omega) _⟩
          case measure => simp [intOf]; omega
        · rw [show (k : Int) = 4 by omega]
          have HK2 : Hid (Arr wr 23 (w.heap.size + 1) (bvs (jpart l (4 * (i + 1)))) ∧ Below w.heap.size w wr) := by
            rw [show 4 * (i + 1) = 4 * i + k by omega]; exact HK.out
          clear HK hlk hk hk0
          go_wp2_with fail
          go_roundw
          case rel => exact ⟨i + 1, by omega, by go_num, HK2.out⟩
          case measure => simp [intOf]; omega
    · rw [show (i : Int) = 8 by omega]
      have HK2 : Hid (Arr wr 23 (w.heap.size + 1) (bvs (joinS s)) ∧ Below w.heap.size w wr) := by
        rw [← HJ.out, show 32 = 4 * i by omega]; exact HM.out
      clear HM hlt hi hi0
      obtain ⟨R, hR⟩ : ∃ R, R = joinS s := ⟨_, rfl⟩
      have HRL : Hid (R.length = 32) := by rw [hR]; exact joinS_length s
      rw [← hR] at HK2
      have HRE := Lib.hid hR
      clear hR
      have hM := HK2.out.1
      have HO : Hid ((bvs R).length = 32) := by show _ = _; rw [bvs_length, HRL.out]
      go_wp2_with (first
        | ((with_reducible refine load32b (x := .tmp 2) (o := ⟨some 27, _, _, _, _, _⟩) hM HRL.out ?_ ?_); exact ⟨rfl, rfl, rfl⟩)
        | ((with_reducible refine store32b (x := .tmp 2) (y := .tmp 27) (l := R) (o := ⟨none, .store _ _ _, _, _, _, _⟩) hM HO.out HRL.out ?_ ?_); exact ⟨rfl, rfl, rfl, rfl⟩))
      exact bodyPost_ret (res32b rfl (hM.row _) HRL.out rfl) rfl ⟨by rw [HRE.out], below_row HK2.out.2 (by omega) _⟩
end Go.Proofs.YtlngicddojoogaaGreatDoor
