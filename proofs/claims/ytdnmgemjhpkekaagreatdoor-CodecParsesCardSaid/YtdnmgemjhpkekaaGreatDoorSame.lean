/-
  vestryref01.Same compares two byte slices: true exactly if they read as the same bytes; nothing changes.
-/
import Derived.Test.YtdnmgemjhpkekaaGreatDoorBase
import Derived.BigQuiet
import Derived.Deep.QuietTactic
namespace Go.Proofs.YtdnmgemjhpkekaaGreatDoor
open Go.ChangeShapes Go.WideShapes Go.ChangeAt Go.RowKit

theorem Rd.form {B : Nat} {w : World} {v : Value} {l : List UInt8} (h : Rd B w v l) :
    ∃ oa cap, v = .slice oa l.length cap ∧ l.length ≤ maxLen ∧ (0 < l.length → ∃ b off, oa = some ⟨b, off, none⟩ ∧ l.length ≤ cap ∧ cap ≤ maxLen ∧ b < B ∧ ∀ i, i < l.length → w.cell? ⟨b, off + i, none⟩ = some (bv (l.getD i 0))) := by
  rcases h with ⟨oa, rfl, rfl⟩ | ⟨b, off, cap, rfl, h1, h2, h3, hc⟩
  · exact ⟨oa, 0, rfl, Nat.zero_le _, fun h => absurd h (by simp)⟩
  · exact ⟨_, cap, rfl, by omega, fun _ => ⟨b, off, rfl, h1, h2, h3, hc⟩⟩

def eqB (a b : List UInt8) : Bool := a == b
theorem eqB_len {a b : List UInt8} (h : a.length ≠ b.length) : eqB a b = false := by
  unfold eqB; simp only [beq_eq_false_iff_ne, ne_eq]; intro e; exact h (by rw [e])
theorem eqB_at {a b : List UInt8} {k : Nat} (h : a.getD k 0 ≠ b.getD k 0) : eqB a b = false := by
  unfold eqB; simp only [beq_eq_false_iff_ne, ne_eq]; intro e; exact h (by rw [e])
theorem eqB_all {a b : List UInt8} (hl : a.length = b.length) (h : ∀ i, i < a.length → a.getD i 0 = b.getD i 0) : eqB a b = true := by
  unfold eqB; rw [beq_iff_eq]
  apply List.ext_getElem hl
  intro i h1 h2
  have := h i h1
  simpa [List.getD_eq_getElem?_getD, List.getElem?_eq_getElem h1, List.getElem?_eq_getElem h2] using this
theorem bv_ne {x y : UInt8} (h : x ≠ y) : (((x.toNat : Int)) != (y.toNat : Int)) = true := by
  rw [bne_iff_ne]; intro e; exact h (UInt8.toNat_inj.1 (by omega))
theorem bv_eq {x y : UInt8} (h : x = y) : (((x.toNat : Int)) != (y.toNat : Int)) = false := by subst h; simp

set_option maxRecDepth 100000 in
set_option maxHeartbeats 400000 in
theorem same_any {A B : Nat} {w : World} {va vb : Value} {la lb : List UInt8} (ha : Rd A w va la) (hb : Rd B w vb lb) :
    Calls Tryz.prog 14 #[va, vb] w fun e w' => e = .returned (.bool (eqB la lb)) ∧ ∃ n, w' = w.drewN n := by
  obtain ⟨oa, ca, rfl, hma, ha⟩ := ha.form
  obtain ⟨ob, cb, rfl, hmb, hb⟩ := hb.form
  unfold maxLen at hma hmb
  by_cases hl : la.length = lb.length
  · have HE := Lib.hid hl
    have hne : ((la.length : Int) != (lb.length : Int)) = false := by simp [hl]
    by_cases hz : 0 < la.length
    · obtain ⟨ba, fa, rfl, hla, _, _, hca⟩ := ha hz
      obtain ⟨bb, fb, rfl, hlb, _, _, hcb⟩ := hb (by omega)
      clear ha hb hl
      go_enter Tryz.func14, Tryz.ntmps14
      go_wp2
      go_loopw [5] (fun iv wr => ∃ k : Nat, k ≤ la.length ∧ iv = .int .i64 k ∧ Hid (∃ n, wr = w.drewN n) ∧ Hid (∀ i, i < k → la.getD i 0 = lb.getD i 0))
        (fun iv _ => la.length - (intOf iv).toNat)
      case atStart => exact ⟨0, Nat.zero_le _, rfl, ⟨0, rfl⟩, fun i hi => absurd hi (by omega)⟩
      case round =>
        obtain ⟨k, hk, rfl, HW, HP⟩ := hrel
        by_cases hlt : k < la.length
        · have hltb : k < lb.length := by have := HE.out; omega
          obtain ⟨x, hx⟩ : ∃ x, x = la.getD k 0 := ⟨_, rfl⟩
          obtain ⟨y, hy⟩ : ∃ y, y = lb.getD k 0 := ⟨_, rfl⟩
          have hcx : wr.cell? ⟨ba, fa + k, none⟩ = some (.int .u8 x.toNat) := by
            obtain ⟨n, rfl⟩ := HW.out; rw [hx]; exact hca k hlt
          have hcy : wr.cell? ⟨bb, fb + k, none⟩ = some (.int .u8 y.toNat) := by
            obtain ⟨n, rfl⟩ := HW.out; rw [hy]; exact hcb k hltb
          have hi1 : (k : Int) < la.length := by omega
          have hi2 : (k : Int) < lb.length := by omega
          have hi0 : (0 : Int) ≤ k := by omega
          have HX := Lib.hid hx
          have HY := Lib.hid hy
          clear hx hy hca hcb hne
          by_cases hxy : x = y
          · have hv := bv_eq hxy
            have HXY := Lib.hid hxy
            clear hxy
            go_wp2
            go_quiet (fail)
            go_wp2
            go_roundw
            case rel =>
              refine ⟨k + 1, by omega, by go_num, ?_, ?_⟩
              · obtain ⟨n, hn⟩ := HW.out
                exact ⟨_, by rw [hn, World.drewN_drewN]⟩
              · intro i hi
                by_cases e : i = k
                · subst e; rw [← HX.out, ← HY.out]; exact HXY.out
                · exact HP.out i (by omega)
            case measure => simp [intOf]; omega
          · have hv := bv_ne hxy
            have HXY := Lib.hid hxy
            clear hxy
            go_wp2
            go_quiet (fail)
            go_wp2
            go_ret
            refine ⟨?_, ?_⟩
            · rw [eqB_at (k := k) (by rw [← HX.out, ← HY.out]; exact HXY.out)]; rfl
            · obtain ⟨n, hn⟩ := HW.out
              exact ⟨_, by rw [hn, World.drewN_drewN]⟩
        · go_wp2
          go_ret
          refine ⟨?_, HW.out⟩
          rw [eqB_all HE.out (fun i hi => HP.out i (by omega))]; rfl
    · have hz0 : la.length = 0 := by omega
      have hzb : lb.length = 0 := by omega
      obtain rfl := List.eq_nil_of_length_eq_zero hz0
      obtain rfl := List.eq_nil_of_length_eq_zero hzb
      go_enter Tryz.func14, Tryz.ntmps14
      go_wp2
      go_loopw [5] (fun iv wr => iv = .int .i64 0 ∧ Hid (wr = w)) (fun _ _ => 0)
      case atStart => exact ⟨rfl, rfl⟩
      case round =>
        obtain ⟨rfl, HW⟩ := hrel
        go_wp2
        go_ret
        exact ⟨rfl, 0, HW.out⟩
  · have hne : ((la.length : Int) != (lb.length : Int)) = true := by rw [bne_iff_ne]; omega
    have hE := eqB_len hl
    go_enter Tryz.func14, Tryz.ntmps14
    go_wp2
    go_ret
    exact ⟨by rw [hE]; rfl, 0, rfl⟩
end Go.Proofs.YtdnmgemjhpkekaaGreatDoor
