/-
  The reference's Split: what it keeps.
-/
import Derived.Test.YtikokimnhanloaaDoorFrSs
import Derived.Test.YtikokimnhanloaaDoorFrSp
namespace Go.Proofs.YtikokimnhanloaaDoor
open Go.ChangeShapes Go.WideShapes Go.ChangeAt Go.RowKit
set_option linter.unusedVariables false

theorem grown_cell1 (w : World) (a : Addr) (v : Value) : w.grownBy (w.setCell a v) (some a.block) :=
  ⟨rfl, rfl, rfl, by rw [World.size_setCell]; exact Nat.le_refl _, fun k hk hne => Below.heap_setCell w a v k (fun e => hne (by rw [e]))⟩
/-- What the reference's Split keeps: its result's cells, its own struct's, the two rows. -/
def Spl (B : Nat) (w wr : World) (vP vO : Value) (ks : List (List UInt8)) (os : List Nat) : Prop :=
  Arr wr 42 w.heap.size [.slice none 0 0, .slice none 0 0, .int .i64 0, .int .i64 0] ∧ Arr wr 42 (w.heap.size + 1) [vP, vO, .int .i64 0, .int .i64 0] ∧
    RowAll (w.heap.size + 2) B wr vP ks ∧ wr.ownsRow (w.heap.size + 2) 3 1 vO os.length (nvs os) ∧ Below w.heap.size w wr
section
variable {B : Nat} {w wr : World} {vP vO : Value} {ks : List (List UInt8)} {os : List Nat}
theorem Spl.size (h : Spl B w wr vP vO ks os) : w.heap.size + 2 ≤ wr.heap.size := h.2.1.lt
theorem Spl.alloc (h : Spl B w wr vP vO ks os) (hB : B ≤ w.heap.size) (o : Obj) : Spl B w (wr.alloc o) vP vO ks os := by
  have hb : Below wr.heap.size wr (wr.alloc o) := (Below.refl _ _).alloc (Nat.le_refl _) _
  refine ⟨h.1.alloc _, h.2.1.alloc _, h.2.2.1.later hb (by have := h.size; omega), ?_, h.2.2.2.2.alloc h.2.2.2.2.size _⟩
  have hg : wr.grownBy (wr.alloc o) none := ⟨rfl, rfl, rfl, by simp, fun k hk _ => hb.block k hk⟩
  exact ownsRow_kept h.2.2.2.1 hg (.inl rfl)
theorem Spl.putP (h : Spl B w wr vP vO ks os) (hB : B ≤ w.heap.size) {v5 : Value} {w5 : World} {ks' : List (List UInt8)} (h5 : RowAll (w.heap.size + 2) B w5 v5 ks') (b5 : Below (w.heap.size + 2) wr w5) (g5 : wr.grownBy w5 vP.ownBlock) :
    Spl B w (w5.setCell ⟨w.heap.size + 1, 0, none⟩ v5) v5 vO ks' os ∧ Arr w5 42 (w.heap.size + 1) [vP, vO, .int .i64 0, .int .i64 0] := by
  have hA := h.2.1.below b5 (by omega)
  have hs := grown_cell1 w5 ⟨w.heap.size + 1, 0, none⟩ v5
  have hsz := Nat.le_trans h.size b5.size
  have hO := ownsRow_kept h.2.2.2.1 g5 ((ownsRow_apart h.2.2.1.choose_spec.1 h.2.2.2.1 (by decide)).imp_left fun e => e)
  refine ⟨⟨(h.1.below b5 (by omega)).setCell (by simp) _, hA.set 0 v5, h5.kept hs (.inr fun e => ?_) (fun k e => ?_) (by omega), ownsRow_kept hO hs (.inr fun e => ?_), ?_⟩, hA⟩
  · have := ownsRow_block h5.choose_spec.1 e.symm; simp at this
  · simp only [Option.some.injEq] at e; omega
  · have := ownsRow_block hO e.symm; simp at this
  · exact (h.2.2.2.2.trans (b5.mono (by omega))).setCell (p := ⟨w.heap.size + 1, 0, none⟩) (by simp) _
theorem Spl.putO (h : Spl B w wr vP vO ks os) (hB : B ≤ w.heap.size) {v5 : Value} {w5 : World} {os' : List Nat} (h5 : w5.ownsRow (w.heap.size + 2) 3 1 v5 os'.length (nvs os')) (b5 : Below (w.heap.size + 2) wr w5) (g5 : wr.grownBy w5 vO.ownBlock) :
    Spl B w (w5.setCell ⟨w.heap.size + 1, 1, none⟩ v5) vP v5 ks os' ∧ Arr w5 42 (w.heap.size + 1) [vP, vO, .int .i64 0, .int .i64 0] := by
  have hA := h.2.1.below b5 (by omega)
  have hs := grown_cell1 w5 ⟨w.heap.size + 1, 1, none⟩ v5
  have hsz := Nat.le_trans h.size b5.size
  have hP := h.2.2.1.kept g5 (ownsRow_apart h.2.2.2.1 h.2.2.1.choose_spec.1 (by decide)) (fun k e => by have := ownsRow_block h.2.2.2.1 e; omega) (by have := h.size; omega)
  refine ⟨⟨(h.1.below b5 (by omega)).setCell (by simp) _, hA.set 1 v5, hP.kept hs (.inr fun e => ?_) (fun k e => ?_) (by omega), ownsRow_kept h5 hs (.inr fun e => ?_), ?_⟩, hA⟩
  · have := ownsRow_block hP.choose_spec.1 e.symm; simp at this
  · simp only [Option.some.injEq] at e; omega
  · have := ownsRow_block h5 e.symm; simp at this
  · exact (h.2.2.2.2.trans (b5.mono (by omega))).setCell (p := ⟨w.heap.size + 1, 1, none⟩) (by simp) _
end
end Go.Proofs.YtikokimnhanloaaDoor
