/-
  The methods of a cursor that only read it: rest, At, Left, End; also at a nil cursor.
-/
import Derived.Test.YtdnmgemjhpkekaaGreatDoorNew
import Derived.BigQuiet
import Derived.Deep.QuietTactic
namespace Go.Proofs.YtdnmgemjhpkekaaGreatDoor
open Go.ChangeShapes Go.WideShapes Go.ChangeAt Go.RowKit

def RestPost (w : World) (c : Nat) (l : List UInt8) (e : Ending) (w' : World) : Prop :=
  ∃ v, e = .returned v ∧ Rd c w v l ∧ ∃ n, w' = w.drewN n

theorem Cur.cells {w : World} {c at' : Nat} {l : List UInt8} (h : Cur w c l at') :
    ∃ v, w.cell? ⟨c, 0, none⟩ = some v ∧ w.cell? ⟨c, 1, none⟩ = some (.int .i64 at') ∧ w.frozen? ⟨c, 1, none⟩ = false ∧ Rd c w v l ∧ at' ≤ l.length ∧ l.length ≤ 140737488355328 := by
  obtain ⟨v, h1, h2, h3, h4⟩ := h
  refine ⟨v, ?_, ?_, ?_, h2, h3, h4⟩
  · rw [cell_of_row _ _ _ _ _ _ h1]; rfl
  · rw [cell_of_row _ _ _ _ _ _ h1]; rfl
  · simp [World.frozen?, h1]

theorem Rd.drop {B : Nat} {w : World} {b off cap k : Nat} {l : List UInt8} (h1 : l.length ≤ cap) (h2 : cap ≤ maxLen) (h3 : b < B) (hc : ∀ i, i < l.length → w.cell? ⟨b, off + i, none⟩ = some (bv (l.getD i 0))) (hk : k ≤ l.length) :
    Rd B w (.slice (some ⟨b, off + k, none⟩) (l.length - k) (cap - k)) (l.drop k) := by
  refine .inr ⟨b, off + k, cap - k, by rw [List.length_drop], by rw [List.length_drop]; omega, by omega, h3, fun i hi => ?_⟩
  rw [List.length_drop] at hi
  have := hc (k + i) (by omega)
  rw [← Nat.add_assoc] at this
  rw [this]
  simp [List.getD_eq_getElem?_getD, List.getElem?_drop]

set_option maxRecDepth 100000 in
set_option maxHeartbeats 400000 in
theorem rest_any {w : World} {c at' : Nat} {l : List UInt8} (h : Cur w c l at') :
    Calls Tryz.prog 88 #[.pointer (some ⟨c, 0, none⟩)] w (RestPost w c (l.drop at')) := by
  obtain ⟨v, hc0, hc1, _, hr, hle, hm⟩ := h.cells
  rcases hr with ⟨_ | ad, rfl, rfl⟩ | ⟨b, off, cap, rfl, h1, h2, h3, hc⟩
  · obtain rfl : at' = 0 := by simpa using hle
    clear hle hm
    go_enter Tryz.func88, Tryz.ntmps88
    go_wp2
    go_quiet (fail)
    go_wp2
    go_ret
    exact ⟨_, rfl, .inl ⟨_, rfl, rfl⟩, _, rfl⟩
  · obtain rfl : at' = 0 := by simpa using hle
    clear hle hm
    go_enter Tryz.func88, Tryz.ntmps88
    go_wp2
    go_quiet (fail)
    go_wp2
    go_ret
    exact ⟨_, rfl, .inl ⟨_, rfl, rfl⟩, _, rfl⟩
  · obtain ⟨n, hn⟩ : ∃ n, n = l.length := ⟨_, rfl⟩
    unfold maxLen at h2
    rw [← hn] at hc0 hle h1 hm
    have HN := Lib.hid hn
    have HC := Lib.hid hc
    clear hn hc
    go_enter Tryz.func88, Tryz.ntmps88
    go_wp2
    go_quiet (fail)
    go_wp2
    · go_ret
      have he : cap = at' := by assumption
      have hn := HN.out
      have hd : (l.drop at').length = 0 := by rw [List.length_drop]; omega
      refine ⟨_, rfl, .inr ⟨b, off, 0, ?_, by omega, by unfold maxLen; omega, h3, fun i hi => absurd hi (by omega)⟩, _, rfl⟩
      rw [hd, show n - at' = 0 from by omega]; rfl
    · go_ret
      have hn := HN.out
      have := Rd.drop (hn ▸ h1) (by unfold maxLen; omega) h3 HC.out (hn ▸ hle)
      rw [← hn] at this
      exact ⟨_, rfl, this, _, rfl⟩

set_option maxRecDepth 100000 in
theorem rest_nil (w : World) : Calls Tryz.prog 88 #[.pointer none] w fun e w' => e = .returned (.slice none 0 0) ∧ w = w' := by
  go_enter Tryz.func88, Tryz.ntmps88
  go_wp2
  go_ret
  exact ⟨rfl, rfl⟩

set_option maxRecDepth 100000 in
theorem at_any {w : World} {c at' : Nat} {l : List UInt8} (h : Cur w c l at') :
    Calls Tryz.prog 51 #[.pointer (some ⟨c, 0, none⟩)] w fun e w' => e = .returned (.int .i64 at') ∧ w = w' := by
  obtain ⟨v, _, hc1, _, _, _, _⟩ := h.cells
  clear h
  go_enter Tryz.func51, Tryz.ntmps51
  go_wp2
  go_ret
  exact ⟨rfl, rfl⟩

set_option maxRecDepth 100000 in
theorem left_any {w : World} {c at' : Nat} {l : List UInt8} (h : Cur w c l at') :
    Calls Tryz.prog 76 #[.pointer (some ⟨c, 0, none⟩)] w fun e w' => e = .returned (.int .i64 (l.length - at' : Nat)) ∧ ∃ n, w' = w.drewN n := by
  obtain ⟨n, hn⟩ : ∃ n, n = l.length - at' := ⟨_, rfl⟩
  rw [← hn]
  have HN := Lib.hid hn
  clear hn
  go_enter Tryz.func76, Tryz.ntmps76
  go_wp2_with (go_at_call 88; refine (rest_any h).mono ?_; rintro e w1 ⟨v, rfl, hr, nq, rfl⟩; obtain ⟨ov, cv, rfl, _, _⟩ := hr.form; rw [List.length_drop, ← HN.out]; clear hr)
  go_ret
  exact ⟨rfl, _, rfl⟩

set_option maxRecDepth 100000 in
theorem left_nil (w : World) : Calls Tryz.prog 76 #[.pointer none] w fun e w' => e = .returned (.int .i64 0) ∧ w = w' := by
  go_enter Tryz.func76, Tryz.ntmps76
  go_wp2_with (go_at_call 88; refine (rest_nil _).mono ?_; rintro e w1 ⟨rfl, rfl⟩)
  go_ret
  exact ⟨rfl, rfl⟩

/-- An error of package api: its code; 0 for none. -/
def errV (c : Nat) : Value := if c = 0 then .nilIface else .iface 73 (.int .i64 c)

set_option maxRecDepth 100000 in
theorem end_left {w : World} {c at' : Nat} {l : List UInt8} (h : Cur w c l at') (hl : at' < l.length) :
    Calls Tryz.prog 49 #[.pointer (some ⟨c, 0, none⟩)] w fun e w' => e = .returned (.iface 73 (.int .i64 16)) ∧ ∃ n, w' = w.drewN n := by
  have hp : (0 : Int) < ((l.length - at' : Nat) : Int) := by omega
  go_enter Tryz.func49, Tryz.ntmps49
  go_wp2_with (go_at_call 76; refine (left_any h).mono ?_; rintro e w1 ⟨rfl, nq, rfl⟩)
  go_ret
  exact ⟨rfl, _, rfl⟩

set_option maxRecDepth 100000 in
theorem end_nil (w : World) : Calls Tryz.prog 49 #[.pointer none] w fun e w' => e = .returned .nilIface ∧ w = w' := by
  go_enter Tryz.func49, Tryz.ntmps49
  go_wp2_with (go_at_call 76; refine (left_nil _).mono ?_; rintro e w1 ⟨rfl, rfl⟩)
  go_ret
  exact ⟨rfl, rfl⟩
end Go.Proofs.YtdnmgemjhpkekaaGreatDoor
