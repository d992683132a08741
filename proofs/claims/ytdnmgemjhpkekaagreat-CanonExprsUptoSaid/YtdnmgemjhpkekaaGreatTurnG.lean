/-
  Ranges over functions in a plain walk: turns of blocks that are no cells; the law with a break alone; a function that holds a range.
-/
import Derived.Test.YtdnmgemjhpkekaaGreatRound
import Derived.Test.YtdnmgemjhpkekaaGreatArr
import Derived.WalkKit
import Derived.RangeFuncNested
import Derived.RangeFuncBound
import Derived.RangeFuncCalls
import Derived.RangeFuncLeaves
namespace Go.Proofs.YtdnmgemjhpkekaaGreat
open Go.ChangeShapes Go.WideShapes Go.ChangeAt Go.RowKit
set_option linter.unusedVariables false

theorem cell_turn {W : World} {l : Nat} {o o' : Obj} {a : Addr} {v : Value} (h : W.heap[l]? = some o) (ho : o.isCells = false) (hc : W.cell? a = some v) : (W.putObj l o').cell? a = some v := by
  have hne : a.block ≠ l := by
    rintro rfl
    unfold World.cell? at hc
    rw [h] at hc
    cases o <;> simp_all [Obj.isCells]
  rw [World.cell?_of_block (World.putObj_heap_other hne)]
  exact hc
theorem arr_turn {W : World} {l : Nat} {o' : Obj} {t : TypeId} {g : Nat} {cs : List Value} (hg : g ≠ l) (hA : Arr W t g cs) : Arr (W.putObj l o') t g cs := (World.putObj_heap_other hg).trans hA
theorem SeqReads.later {α : Type} {F : Fence} {n : Nat} {P : Program} {g : Nat} {lb : Array Value} {encs : α → Array Value} {n₀ : Nat} {G : List α → α → World → Prop} {S Sp : List α → Prop} {N : Nat} {w w' : World}
    (h : SeqReads F n P g lb encs n₀ G S Sp N w) (hb : Below w.heap.size w w') : SeqReads F n P g lb encs n₀ G S Sp N w' :=
  fun l J Jx W hW hJ hJx hY h0 => h l J Jx W (hb.trans (hW.mono hb.size)) hJ hJx hY h0
/-- The law with the frame of a round as a function of the frame before. -/
theorem wp_range_put {P : Program} {α : Type} {g : Operand} {ps : Array Tmp} {assign body : Code} {Q : Exit → Act → World → Prop} {a : Act} {w : World}
    {gf : Nat} {lb : Array Value} (hg : a.eval g = .func (.func gf) #[] lb) (eg : ∀ args w, (callFunc gf args).run P w = .ok (.enter gf args) w)
    {encs : α → Array Value} {n₀ : Nat} {G : List α → α → World → Prop} {S Sp : List α → Prop} {N : Nat} (hseq : SeqReads Fence.wide 5 P gf lb encs n₀ G S Sp N w) (hn : n₀ ≤ w.heap.size) (hG : ∀ pre x, Turns w.heap.size (G pre x)) (hps : ∀ x, (encs x).size = ps.size)
    (I : List α → World → Prop) (Ix : Code → List α → World → Prop)
    (hI : ∀ s A B, I s A → Below A.heap.size A B → I s B) (hIx : ∀ c s A B, Ix c s A → Below A.heap.size A B → Ix c s B) (hIt : ∀ s, Turns w.heap.size (I s)) (hIxt : ∀ c s, Turns w.heap.size (Ix c s))
    (h0 : I [] w) (f : α → Array Value → Array Value)
    (hassign : ∀ (l : Nat) (x : α) (W : World) (K : Act → World → Prop), K { tmps := f x a.tmps, defers := [] } W →
      assign.wpIn (Fence.wide.inRound l) 4 P (Exit.then K (fun _ _ _ => False)) { tmps := (ps.zip (encs x)).foldl (fun t (p, v) => t.setIfInBounds p v) a.tmps, defers := [] } W)
    (hbody : ∀ (l : Nat) (pre : List α) (x : α) (W : World), I pre W → G pre x W → pre.length < N → body.wpIn (Fence.wide.inRound l) 4 P (ownPostK (Below n₀) I Ix (pre ++ [x]) W) { tmps := f x a.tmps, defers := [] } W)
    (hdone : ∀ (D : Nat) (xs : List α) (W : World), w.heap.size ≤ D → S xs → I xs W → W.heap[D]? = some (.deferred (some [])) → Q .normal { a with defers := { target := .collected D, args := #[] } :: a.defers } W)
    (hstop : ∀ (D : Nat) (c : Code) (pre : List α) (W : World), w.heap.size ≤ D → Sp pre → Ix c pre W → W.heap[D]? = some (.deferred (some [])) → c.wp P Q { a with defers := { target := .collected D, args := #[] } :: a.defers } W) :
    (Code.rangeFunc g ps assign body).wp P Q a w :=
  wp_range_read hg eg hseq hn hG hps I Ix hI hIx hIt hIxt h0 (fun x => { tmps := f x a.tmps, defers := [] }) hassign hbody hdone hstop
theorem keeps_of_below {W W' : World} (hb : Below W.heap.size W W') : KeepsOthers W W' := ⟨hb.size, fun k o hk _ => (hb.block k (Array.getElem?_eq_some_iff.1 hk).1).trans hk⟩
/-- The law of a range whose rounds leave it by a break alone: what follows is shown once. -/
theorem wp_block_range {P : Program} {α : Type} {id : Nat} {g : Operand} {ps : Array Tmp} {assign body : Code} {Q : Exit → Act → World → Prop} {a : Act} {w : World}
    {gf : Nat} {lb : Array Value} (hg : a.eval g = .func (.func gf) #[] lb) (eg : ∀ args w, (callFunc gf args).run P w = .ok (.enter gf args) w)
    {encs : α → Array Value} {n₀ : Nat} {G : List α → α → World → Prop} {S Sp : List α → Prop} {N : Nat} (hseq : SeqReads Fence.wide 5 P gf lb encs n₀ G S Sp N w) (hn : n₀ ≤ w.heap.size) (hG : ∀ pre x, Turns w.heap.size (G pre x)) (hps : ∀ x, (encs x).size = ps.size)
    (I Ix : List α → World → Prop)
    (hI : ∀ s A B, I s A → Below A.heap.size A B → I s B) (hIx : ∀ s A B, Ix s A → Below A.heap.size A B → Ix s B) (hIt : ∀ s, Turns w.heap.size (I s)) (hIxt : ∀ s, Turns w.heap.size (Ix s))
    (h0 : I [] w) (f : α → Array Value → Array Value)
    (hassign : ∀ (l : Nat) (x : α) (W : World) (K : Act → World → Prop), K { tmps := f x a.tmps, defers := [] } W →
      assign.wpIn (Fence.wide.inRound l) 4 P (Exit.then K (fun _ _ _ => False)) { tmps := (ps.zip (encs x)).foldl (fun t (p, v) => t.setIfInBounds p v) a.tmps, defers := [] } W)
    (hbody : ∀ (l : Nat) (pre : List α) (x : α) (W : World), I pre W → G pre x W → pre.length < N → body.wpIn (Fence.wide.inRound l) 4 P (ownPostK (Below n₀) I (fun c s W => c = .exit id ∧ Ix s W) (pre ++ [x]) W) { tmps := f x a.tmps, defers := [] } W)
    (hdone : ∀ (D : Nat) (xs : List α) (W : World), w.heap.size ≤ D → (S xs ∧ I xs W) ∨ Ix xs W → W.heap[D]? = some (.deferred (some [])) → Q .normal { a with defers := { target := .collected D, args := #[] } :: a.defers } W) :
    (Code.block id (Code.rangeFunc g ps assign body)).wp P Q a w := by
  refine wp_block (wp_range_put hg eg hseq hn hG hps I (fun c s W => c = .exit id ∧ Ix s W) hI (fun c s A B h hb => ⟨h.1, hIx s A B h.2 hb⟩) hIt (fun c s W l o o' hl h ho hx => ⟨hx.1, hIxt s W l o o' hl h ho hx.2⟩) h0 f hassign hbody ?_ ?_)
  · exact fun D xs W h1 h2 h3 h4 => hdone D xs W h1 (.inl ⟨h2, h3⟩) h4
  · rintro D c pre W h1 h2 ⟨rfl, h3⟩ h4
    refine wp_exit ?_
    simp only [Exit.inBlock, if_true]
    exact hdone D pre W h1 (.inr h3) h4
theorem calls_marks {P : Program} {f : FuncId} {fn : Func} {c : Code} {args : Array Value} {w : World} {R : Ending → World → Prop} (hf : P.funcs[f]? = some fn) (hb : fn.body = some c)
    (h : c.wp P (bodyPostM Fence.wide 6 P fn R) { tmps := args ++ Array.replicate (fn.ntmps - args.size) undef, defers := [] } w) : Calls P f args w R :=
  callsIn_wide.1 (callsIn_of_wp_marks (F := Fence.wide) (n := 6) hf hb trivial (wpIn_wide.2 h) rfl)
end Go.Proofs.YtdnmgemjhpkekaaGreat
