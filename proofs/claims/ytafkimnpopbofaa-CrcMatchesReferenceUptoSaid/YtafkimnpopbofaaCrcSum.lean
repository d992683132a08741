/-
  vestryref03.generator and vestryref03.Sum: the division of the definition gives the checksum.
-/
import Derived.Test.YtafkimnpopbofaaIntRow
import Derived.Test.YtafkimnpopbofaaCrcPoly
import Derived.Test.YtafkimnpopbofaaCrcOpen
import Derived.BigRegion
namespace Go.Proofs.Ytafkimnpopbofaa
open Go.ChangeShapes Go.WideShapes Go.ChangeAt Go.RowKit
set_option linter.unusedVariables false

def pows : List Nat := [32, 26, 23, 22, 16, 12, 11, 10, 8, 7, 5, 4, 2, 1, 0]
def gens (k : Nat) : List Nat := (pows.take k).foldl (fun l p => l.set p 1) (List.replicate 33 0)
theorem gens_all : gens 15 = genl := by decide +kernel
theorem pows_lt : ∀ k, k < 15 → pows.getD k 0 < 33 := by decide +kernel
theorem gens_next : ∀ k, k < 15 → gens (k + 1) = (gens k).set (pows.getD k 0) 1 := by decide +kernel

def GenInv (w : World) (g gp k : Nat) (wr : World) : Prop :=
  IRow wr w.heap.size g 33 (gens k) ∧ (∀ j, j < 15 → wr.cell? ⟨gp, j, none⟩ = some (.int .i64 (pows.getD j 0 : Nat))) ∧ Below w.heap.size w wr ∧ g < gp

set_option maxRecDepth 100000 in
theorem generator_any (w : World) : Calls Try.prog 18 #[] w fun e w' => ∃ g, e = .returned (.slice (some ⟨g, 0, none⟩) 33 33) ∧ IRow w' w.heap.size g 33 genl ∧ Below w.heap.size w w' := by
  go_enter Try.func18, Try.ntmps18
  go_wp2_with (at_make; refine make_ints rfl _ _ rfl (base := w.heap.size) 33 rfl rfl rfl rfl (by omega) (Nat.le_refl _) ?_)
  intro w0 hown0 hg0
  have hb0 : Below w.heap.size w w0 := (Below.refl _ _).grown hg0 (Nat.le_refl _) (by simp)
  obtain ⟨pc, hpc⟩ : ∃ pc : Array Value, pc = (pows.map jv).toArray := ⟨_, rfl⟩
  have hI : GenInv w w.heap.size w0.heap.size 0 (w0.alloc (.cells (pows.map jv).toArray 3)) := by
    refine ⟨hown0.below ((Below.refl _ _).alloc (Nat.le_refl _) _), fun k hk => ?_, hb0.alloc hb0.size _, hown0.base.2⟩
    rw [cell_of_row _ _ k _ 3 (0, 0) (heap_alloc_new w0 _)]
    have hl : k < pows.length := hk
    simp [jv, List.getD_eq_getElem?_getD, List.getElem?_eq_getElem hl]
  have HI := Lib.hid hI
  clear hown0 hg0 hI hpc hb0 pc
  go_wp2_with fail
  go_loopw [3] (fun iv wr => ∃ k : Nat, k ≤ 15 ∧ iv = .int .i64 k ∧ Hid (GenInv w w.heap.size w0.heap.size k wr)) (fun iv _ => 15 - (intOf iv).toNat)
  case atStart => exact ⟨0, by omega, rfl, HI.out⟩
  case round =>
    obtain ⟨k, hk, rfl, HK⟩ := hrel
    clear HI
    by_cases hlt : k < 15
    · obtain ⟨q, hq, HQ, hcq⟩ : ∃ q, q < 33 ∧ Hid (q = pows.getD k 0) ∧ wr.cell? ⟨w0.heap.size, k, none⟩ = some (.int .i64 q) := ⟨_, pows_lt k hlt, rfl, HK.out.2.1 k hlt⟩
      obtain ⟨y, hy⟩ : ∃ y : Nat, wr.cell? ⟨w.heap.size, q, none⟩ = some (.int .i64 y) := ⟨_, HK.out.1.cell hq⟩
      have hz := HK.out.1.frozen q
      have hk0 : (0 : Int) ≤ k := by omega
      have hk1 : (k : Int) < 15 := by omega
      have hq0 : (0 : Int) ≤ q := by omega
      have hq1 : (q : Int) < 33 := by omega
      go_wp2_with fail
      go_roundw
      case rel =>
        refine ⟨k + 1, by omega, by go_num, HK.out.1.set q 1 rfl |> fun h => ?_⟩
        obtain ⟨h1, h2, h3, h4⟩ := HK.out
        refine ⟨by rw [gens_next k hlt, ← HQ.out]; exact h, fun j hj => ?_, h3.setCell (Nat.le_refl _) _, h4⟩
        exact (World.cell?_setCell_other wr ⟨w.heap.size, q, none⟩ ⟨w0.heap.size, j, none⟩ _ (fun e => by injection e with e; omega)).trans (h2 j hj)
      case measure => simp [intOf]; omega
    · obtain rfl : k = 15 := by omega
      have h := HK.out
      go_wp2_with fail
      go_ret
      exact ⟨w.heap.size, rfl, by rw [← gens_all]; exact h.1, h.2.2.1⟩
end Go.Proofs.Ytafkimnpopbofaa
