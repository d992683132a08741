/-
  What a turn of a block that is no cells leaves; the range law with the frame of a round as a function of the frame before.
-/
import Derived.Test.YtikokimnhanloaaDoorFrY
import Derived.Test.YtikokimnhanloaaDoorFrSr
namespace Go.Proofs.YtikokimnhanloaaDoor
open Go.ChangeShapes Go.WideShapes Go.ChangeAt Go.RowKit
set_option linter.unusedVariables false

theorem cell_turn {W : World} {l : Nat} {o o' : Obj} {a : Addr} {v : Value} (h : W.heap[l]? = some o) (ho : o.isCells = false) (hc : W.cell? a = some v) : (W.putObj l o').cell? a = some v := by
  have hne : a.block ≠ l := by
    rintro rfl
    unfold World.cell? at hc
    rw [h] at hc
    cases o <;> simp_all [Obj.isCells]
  rw [World.cell?_of_block (World.putObj_heap_other hne)]
  exact hc
theorem rd_turn {W : World} {l : Nat} {o o' : Obj} {v : Value} {k : List UInt8} (h : W.heap[l]? = some o) (ho : o.isCells = false) (hr : Rd W.heap.size W v k) : Rd (W.putObj l o').heap.size (W.putObj l o') v k := by
  rw [World.putObj_size]
  rcases hr with hr | ⟨b, off, cap, rfl, h1, h2, h3, hc⟩
  · exact .inl hr
  · exact .inr ⟨b, off, cap, rfl, h1, h2, h3, fun i hi => cell_turn h ho (hc i hi)⟩
theorem arr_turn {W : World} {l : Nat} {o' : Obj} {t : TypeId} {g : Nat} {cs : List Value} (hg : g ≠ l) (hA : Arr W t g cs) : Arr (W.putObj l o') t g cs := (World.putObj_heap_other hg).trans hA
theorem SeqReads.later {α : Type} {F : Fence} {n : Nat} {P : Program} {g : Nat} {lb : Array Value} {encs : α → Array Value} {n₀ : Nat} {G : List α → α → World → Prop} {S Sp : List α → Prop} {N : Nat} {w w' : World}
    (h : SeqReads F n P g lb encs n₀ G S Sp N w) (hb : Below w.heap.size w w') : SeqReads F n P g lb encs n₀ G S Sp N w' :=
  fun l J Jx W hW hJ hJx hY h0 => h l J Jx W (hb.trans (hW.mono hb.size)) hJ hJx hY h0
theorem good_turns (l : List UInt8) (B : Nat) (pre : List Out) (x : Out) : Turns B (GoodOut l pre x) := fun W k o o' _ h ho hx => ⟨rd_turn h ho hx.1, hx.2⟩
/-- The law with the frame of a round as a function of the frame before. -/
theorem wp_range_put {P : Program} {α : Type} {g : Operand} {ps : Array Tmp} {assign body : Code} {Q : Exit → Act → World → Prop} {a : Act} {w : World}
    {gf : Nat} {lb : Array Value} (hg : a.eval g = .func (.func gf) #[] lb) (eg : ∀ args w, (callFunc gf args).run P w = .ok (.enter gf args) w)
    {encs : α → Array Value} {n₀ : Nat} {G : List α → α → World → Prop} {S Sp : List α → Prop} {N : Nat} (hseq : SeqReads Fence.wide 5 P gf lb encs n₀ G S Sp N w) (hn : n₀ ≤ w.heap.size) (hG : ∀ pre x, Turns w.heap.size (G pre x)) (hps : ∀ x, (encs x).size = ps.size)
    (I : List α → World → Prop) (Ix : Code → List α → World → Prop)
    (hI : ∀ s A B, I s A → Below A.heap.size A B → I s B) (hIx : ∀ c s A B, Ix c s A → Below A.heap.size A B → Ix c s B) (hIt : ∀ s, Turns w.heap.size (I s)) (hIxt : ∀ c s, Turns w.heap.size (Ix c s))
    (h0 : I [] w) (f : α → Array Value → Array Value)
    (hassign : ∀ (l : Nat) (x : α) (W : World) (K : Act → World → Prop), K { tmps := f x a.tmps, defers := [] } W →
      assign.wpIn (Fence.wide.inRound l) 4 P (Exit.then K (fun _ _ _ => False)) { tmps := (ps.zip (encs x)).foldl (fun t (p, v) => t.setIfInBounds p v) a.tmps, defers := [] } W)
    (hbody : ∀ (l : Nat) (pre : List α) (x : α) (W : World), I pre W → G pre x W → pre.length < N → body.wpIn (Fence.wide.inRound l) 4 P (ownPostK (Below n₀) I Ix (pre ++ [x]) W) { tmps := f x a.tmps, defers := [] } W)
    (hdone : ∀ (D : Nat) (xs : List α) (W : World), w.heap.size ≤ D → S xs → I xs W → W.heap[D]? = some (.deferred (some [])) → Q .normal { a with defers := { target := .collected D, args := #[] } :: a.defers } W)
    (hstop : ∀ (D : Nat) (c : Code) (pre : List α) (W : World), w.heap.size ≤ D → Sp pre → Ix c pre W → W.heap[D]? = some (.deferred (some [])) → c.wp P Q { a with defers := { target := .collected D, args := #[] } :: a.defers } W) :
    (Code.rangeFunc g ps assign body).wp P Q a w :=
  wp_range_read hg eg hseq hn hG hps I Ix hI hIx hIt hIxt h0 (fun x => { tmps := f x a.tmps, defers := [] }) hassign hbody hdone hstop
theorem keeps_of_below {W W' : World} (hb : Below W.heap.size W W') : KeepsOthers W W' := ⟨hb.size, fun k o hk _ => (hb.block k (Array.getElem?_eq_some_iff.1 hk).1).trans hk⟩
/-- What the law's rounds keep: the two boxes; the marks of earlier ranges; all else that was there. -/
def SI (w7 : World) (p t ro : Nat) (Ds : List Nat) (pre : List Out) (W : World) : Prop := Arr W 3 t [.int .i64 (pre.length : Nat)] ∧ Arr W 3 p [.int .i64 (ro : Nat)] ∧ Below w7.heap.size w7 W ∧ ∀ D ∈ Ds, W.heap[D]? = some (.deferred (some []))
theorem SI.later {w7 : World} {p t ro : Nat} {Ds : List Nat} {pre : List Out} {A B : World} (h : SI w7 p t ro Ds pre A) (hb : Below A.heap.size A B) : SI w7 p t ro Ds pre B :=
  ⟨h.1.later hb, h.2.1.later hb, h.2.2.1.trans (hb.mono h.2.2.1.size), fun D hD => (hb.block D (Array.getElem?_eq_some_iff.1 (h.2.2.2 D hD)).1).trans (h.2.2.2 D hD)⟩
theorem SI.turns {w7 : World} {p t ro B : Nat} {Ds : List Nat} (pre : List Out) (h7 : w7.heap.size ≤ B) (hp : p < B) (ht : t < B) (hD : ∀ D ∈ Ds, D < B) : Turns B (SI w7 p t ro Ds pre) := fun W l o o' hl h ho hx =>
  ⟨arr_turn (by omega) hx.1, arr_turn (by omega) hx.2.1, hx.2.2.1.trans (below_put W l o' (by omega)), fun D hd => (World.putObj_heap_other (by have := hD D hd; omega)).trans (hx.2.2.2 D hd)⟩
theorem SI.put {w7 : World} {p t ro : Nat} {Ds : List Nat} {pre : List Out} {W : World} (h : SI w7 p t ro Ds pre W) (hpt : p ≠ t) (ht : w7.heap.size ≤ t) (x : Out) {m : Nat} (hm : m = pre.length) : SI w7 p t ro Ds (pre ++ [x]) (W.setCell ⟨t, 0, none⟩ (.int .i64 ((m : Int) + 1))) := by
  subst hm
  refine ⟨?_, h.2.1.setCell hpt _, h.2.2.1.setCell (p := ⟨t, 0, none⟩) ht _, fun D hD => (Below.heap_setCell W ⟨t, 0, none⟩ _ D ?_).trans (h.2.2.2 D hD)⟩
  · have := h.1.set 0 (.int .i64 ((pre.length : Int) + 1))
    rw [List.length_append, List.length_singleton, Int.natCast_add]
    exact this
  · rintro rfl
    have h1 := h.1
    have h2 := h.2.2.2 _ hD
    unfold Arr at h1
    rw [h1] at h2
    cases h2
/-- .. where a round has said 'no more'. -/
def SIx (w7 : World) (p t ro : Nat) (Ds : List Nat) (pre : List Out) (W : World) : Prop := ro = 0 ∧ SI w7 p t ro Ds pre W
/-- The law of a range whose rounds leave it by a break alone: what follows is shown once. -/
theorem wp_block_range {P : Program} {α : Type} {id : Nat} {g : Operand} {ps : Array Tmp} {assign body : Code} {Q : Exit → Act → World → Prop} {a : Act} {w : World}
    {gf : Nat} {lb : Array Value} (hg : a.eval g = .func (.func gf) #[] lb) (eg : ∀ args w, (callFunc gf args).run P w = .ok (.enter gf args) w)
    {encs : α → Array Value} {n₀ : Nat} {G : List α → α → World → Prop} {S Sp : List α → Prop} {N : Nat} (hseq : SeqReads Fence.wide 5 P gf lb encs n₀ G S Sp N w) (hn : n₀ ≤ w.heap.size) (hG : ∀ pre x, Turns w.heap.size (G pre x)) (hps : ∀ x, (encs x).size = ps.size)
    (I Ix : List α → World → Prop)
    (hI : ∀ s A B, I s A → Below A.heap.size A B → I s B) (hIx : ∀ s A B, Ix s A → Below A.heap.size A B → Ix s B) (hIt : ∀ s, Turns w.heap.size (I s)) (hIxt : ∀ s, Turns w.heap.size (Ix s))
    (h0 : I [] w) (f : α → Array Value → Array Value)
    (hassign : ∀ (l : Nat) (x : α) (W : World) (K : Act → World → Prop), K { tmps := f x a.tmps, defers := [] } W →
      assign.wpIn (Fence.wide.inRound l) 4 P (Exit.then K (fun _ _ _ => False)) { tmps := (ps.zip (encs x)).foldl (fun t (p, v) => t.setIfInBounds p v) a.tmps, defers := [] } W)
    (hbody : ∀ (l : Nat) (pre : List α) (x : α) (W : World), I pre W → G pre x W → pre.length < N → body.wpIn (Fence.wide.inRound l) 4 P (ownPostK (Below n₀) I (fun c s W => c = .exit id ∧ Ix s W) (pre ++ [x]) W) { tmps := f x a.tmps, defers := [] } W)
    (hdone : ∀ (D : Nat) (xs : List α) (W : World), w.heap.size ≤ D → (S xs ∧ I xs W) ∨ Ix xs W → W.heap[D]? = some (.deferred (some [])) → Q .normal { a with defers := { target := .collected D, args := #[] } :: a.defers } W) :
    (Code.block id (Code.rangeFunc g ps assign body)).wp P Q a w := by
  refine wp_block (wp_range_put hg eg hseq hn hG hps I (fun c s W => c = .exit id ∧ Ix s W) hI (fun c s A B h hb => ⟨h.1, hIx s A B h.2 hb⟩) hIt (fun c s W l o o' hl h ho hx => ⟨hx.1, hIxt s W l o o' hl h ho hx.2⟩) h0 f hassign hbody ?_ ?_)
  · exact fun D xs W h1 h2 h3 h4 => hdone D xs W h1 (.inl ⟨h2, h3⟩) h4
  · rintro D c pre W h1 h2 ⟨rfl, h3⟩ h4
    refine wp_exit ?_
    simp only [Exit.inBlock, if_true]
    exact hdone D pre W h1 (.inr h3) h4
end Go.Proofs.YtikokimnhanloaaDoor
