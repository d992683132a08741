/-
  A range over a function whose loop variable is put into a cell of its own in each round.
-/
import Derived.Test.YtijokgddfcfcbaaDoorTurnG
namespace Go.Proofs.YtijokgddfcfcbaaDoor
open Go.RowKit
set_option linter.unusedVariables false
section
variable {F : Fence} {n : Nat} {P : Program}
theorem wpIn_range_box {α : Type} {g : Operand} {ps : Array Tmp} {assign body : Code} {Q : Exit → Act → World → Prop} {a : Act} {w : World}
    (hro : F.round = none) (h1 : 1 ≤ n) {gf : Nat} {lb : Array Value} (hg : a.eval g = .func (.func gf) #[] lb) (hFg : F.fn gf) (eg : ∀ args w, (callFunc gf args).run P w = .ok (.enter gf args) w)
    {encs : α → Array Value} {n₀ : Nat} {G : List α → α → World → Prop} {S Sp : List α → Prop} {N : Nat} (hseq : SeqReads F (n - 1) P gf lb encs n₀ G S Sp N w) (hn : n₀ ≤ w.heap.size) (hG : ∀ pre x, Turns w.heap.size (G pre x)) (hps : ∀ x, (encs x).size = ps.size)
    (I : List α → World → Prop) (Ix : Code → List α → World → Prop)
    (hI : ∀ s A B, I s A → Below A.heap.size A B → I s B) (hIx : ∀ c s A B, Ix c s A → Below A.heap.size A B → Ix c s B) (hIt : ∀ s, Turns w.heap.size (I s)) (hIxt : ∀ c s, Turns w.heap.size (Ix c s))
    (h0 : I [] w) (Ax : α → Act → World → Prop) (hAx : ∀ x a1, Turns w.heap.size (Ax x a1))
    (hassign : ∀ (l : Nat) (pre : List α) (x : α) (W : World) (K : Act → World → Prop), I pre W → G pre x W → (∀ a1 W1, Ax x a1 W1 → KeepsOthers W W1 → Below n₀ W W1 → I pre W1 → G pre x W1 → K a1 W1) →
      assign.wpIn (F.inRound l) (n - 1 - 1) P (Exit.then K (fun _ _ _ => False)) { tmps := (ps.zip (encs x)).foldl (fun t (p, v) => t.setIfInBounds p v) a.tmps, defers := [] } W)
    (hbody : ∀ (l : Nat) (pre : List α) (x : α) (a1 : Act) (W : World), Ax x a1 W → I pre W → G pre x W → pre.length < N → body.wpIn (F.inRound l) (n - 1 - 1) P (ownPostK (Below n₀) I Ix (pre ++ [x]) W) a1 W)
    (hdone : ∀ (D : Nat) (xs : List α) (W : World), w.heap.size ≤ D → S xs → I xs W → W.heap[D]? = some (.deferred (some [])) → Q .normal { a with defers := { target := .collected D, args := #[] } :: a.defers } W)
    (hstop : ∀ (D : Nat) (c : Code) (pre : List α) (W : World), w.heap.size ≤ D → Sp pre → Ix c pre W → W.heap[D]? = some (.deferred (some [])) → c.wpIn F n P Q { a with defers := { target := .collected D, args := #[] } :: a.defers } W) :
    (Code.rangeFunc g ps assign body).wpIn F n P Q a w := by
  refine wpIn_rangeFunc fun fn hfn => ?_
  rw [hro]
  obtain ⟨R, hR⟩ : ∃ R : LoopState → Option Code → Loop, R = fun st pe => { state := st, pending := pe, fn, tmps := a.tmps, params := ps, assign, body, defers := w.heap.size } := ⟨_, rfl⟩
  obtain ⟨D, hD⟩ : ∃ D, D = w.heap.size := ⟨_, rfl⟩
  obtain ⟨W1, hW1⟩ : ∃ W1, W1 = (w.alloc (.deferred (some []))).alloc (.loop (R .ready none)) := ⟨_, rfl⟩
  have hb1 : Below w.heap.size w W1 := by rw [hW1]; exact ((Below.refl _ w).alloc (Nat.le_refl _) _).alloc (by simp) _
  -- where the record stands, and the block for the rounds' deferred calls
  let Bk : LoopState → Option Code → World → Prop := fun st pe W => W.heap[D + 1]? = some (.loop (R st pe)) ∧ W.heap[D]? = some (.deferred (some []))
  have bk1 : Bk .ready none W1 := by
    constructor
    · rw [hW1, hD]
      have := World.alloc_heap_new (w.alloc (.deferred (some []))) (.loop (R .ready none))
      rwa [World.size_alloc] at this
    · rw [hW1, hD]
      exact (Below.heap_alloc _ _ _ (by simp)).trans (World.alloc_heap_new w _)
  have bkB : ∀ {st pe A B}, Bk st pe A → Below A.heap.size A B → Bk st pe B := fun h hb =>
    ⟨(hb.block _ (Array.getElem?_eq_some_iff.1 h.1).1).trans h.1, (hb.block _ (Array.getElem?_eq_some_iff.1 h.2).1).trans h.2⟩
  have bkP : ∀ {st pe A st' pe'}, Bk st pe A → Bk st' pe' (A.putObj (D + 1) (.loop (R st' pe'))) := fun h =>
    ⟨World.putObj_heap_same (Array.getElem?_eq_some_iff.1 h.1).1, (World.putObj_heap_other (by omega)).trans h.2⟩
  have bkO : ∀ {st pe A B}, Bk st pe A → KeepsOthers A B → Bk st pe B := fun h hk => ⟨hk.same _ _ h.1 rfl, hk.same _ _ h.2 rfl⟩
  refine ⟨D + 1, [{ target := .collected D, args := #[] }], W1, { target := .fn (.func gf) lb, args := #[.func (.yield (D + 1)) #[] #[]] }, W1, gf, #[.func (.yield (D + 1)) #[] #[]] ++ lb, W1, ?_, ?_, ?_, ?_, fun _ => h1, ?_⟩
  · rw [hW1, hR, hD]; exact run_enterLoop_outer _ _ _ _ _
  · simp only [resolve, hg]
    simp [go_sem]
  · intro f' hf'; simp [Target.leads] at hf'; subst hf'; exact hFg
  · simp [invoke, go_sem, eg]
  refine (hseq (D + 1) (fun pre W => I pre W ∧ Bk .ready none W) (fun pre W => ∃ c, Ix c pre W ∧ Bk .done (some c) W) W1 hb1 (fun s A B h hb => ⟨hI s A B h.1 hb, bkB h.2 hb⟩)
    (fun s A B ⟨c, h1, h2⟩ hb => ⟨c, hIx c s A B h1 hb, bkB h2 hb⟩) ?round ⟨?start, bk1⟩).mono ?behind
  case start => exact hI _ _ _ h0 hb1
  case behind =>
    rintro e W2 ⟨⟨v, rfl⟩, (⟨xs, hS, hi, hk⟩ | ⟨pre, hSp, c, hi, hk⟩)⟩
    · refine ⟨none, W2.putObj (D + 1) (.loop (R .exhausted none)), ?_, hdone D xs _ (by omega) hS (hIt _ _ _ _ _ (by omega) hk.1 rfl hi) (bkP hk).2⟩
      have := run_endLoop (P := P) hk.1 (by rw [hR]; simp); rw [hR] at this ⊢; exact this
    · refine ⟨some c, W2.putObj (D + 1) (.loop (R .exhausted (some c))), ?_, hstop D c pre _ (by omega) hSp (hIxt _ _ _ _ _ _ (by omega) hk.1 rfl hi) (bkP hk).2⟩
      have := run_endLoop (P := P) hk.1 (by rw [hR]; simp); rw [hR] at this ⊢; exact this
  case round =>
    rintro pre x W ⟨hi, hk⟩ hGx hlen
    have hy := run_yield (P := P) (args := encs x) hk.1 (by rw [hR]; exact hps x)
    rw [hR] at hy
    refine ⟨fn, _, assign, body, hy, roundIn_of_wpIn hfn (hassign _ pre x W _ hi hGx fun a1 W1 hax hko hbn hi1 hg1 => ?_)⟩
    have hk1 : Bk .ready none W1 := bkO hk hko
    have hbeg := run_beginRound (P := P) hk1.1 (by rw [hR])
    rw [hR] at hbeg
    obtain ⟨Wb, hWb⟩ : ∃ Wb, Wb = W1.putObj (D + 1) (.loop (R .busy none)) := ⟨_, rfl⟩
    have hkb : Bk .busy none Wb := by rw [hWb]; exact bkP hk1
    have hbb : Below n₀ W Wb := hbn.trans (by rw [hWb]; exact below_put W1 _ _ (by omega))
    have hib : I pre Wb := by rw [hWb]; exact hIt _ _ _ _ _ (by omega) hk1.1 rfl hi1
    have hgb : G pre x Wb := by rw [hWb]; exact hG _ _ _ _ _ _ (by omega) hk1.1 rfl hg1
    have haxb : Ax x a1 Wb := by rw [hWb]; exact hAx _ _ _ _ _ _ (by omega) hk1.1 rfl hax
    refine ⟨Wb, by rw [hWb, hR]; exact hbeg, ?_⟩
    refine wpIn_mono (hbody _ pre x a1 _ haxb hib hgb hlen) ?_
    have fin : ∀ (jump : Option Code) (W3 : World), Bk .busy none W3 → (Instr.endRound (D + 1) jump).run P W3 = .ok (.bool jump.isNone) (W3.putObj (D + 1) (.loop (R (if jump.isNone then .ready else .done) jump))) := fun jump W3 h3 => by
      have := run_endRound (P := P) jump h3.1
      rw [hR] at this ⊢
      exact this
    have out : ∀ (c : Code) (W3 : World), KeepsOthers Wb W3 → Ix c (pre ++ [x]) W3 → ∃ v W4, (Instr.endRound (D + 1) (some c)).run P W3 = .ok v W4 ∧ v = .bool false ∧ ∃ c', Ix c' (pre ++ [x]) W4 ∧ Bk .done (some c') W4 := fun c W3 hk3 hi3 =>
      ⟨_, _, fin (some c) W3 (bkO hkb hk3), rfl, c, hIxt _ _ _ _ _ _ (by omega) (bkO hkb hk3).1 rfl hi3, bkP (bkO hkb hk3)⟩
    rintro e a3 W3 hp
    cases e with
    | normal =>
      obtain ⟨hk3, hb3, hi3⟩ := hp
      have h3 := bkO hkb hk3
      exact ⟨_, _, fin none W3 h3, .inl ⟨rfl, ⟨hIt _ _ _ _ _ (by omega) h3.1 rfl hi3, bkP h3⟩, (hbb.trans (hb3.mono (Nat.le_refl _))).trans (below_put W3 _ _ (by omega))⟩⟩
    | ret =>
      obtain ⟨v, W4, h1, rfl, h2⟩ := out .ret W3 hp.1 hp.2
      exact ⟨_, _, h1, .inr ⟨rfl, h2⟩⟩
    | exit id =>
      obtain ⟨v, W4, h1, rfl, h2⟩ := out (.exit id) W3 hp.1 hp.2
      exact ⟨_, _, h1, .inr ⟨rfl, h2⟩⟩
    | goto t =>
      obtain ⟨v, W4, h1, rfl, h2⟩ := out (.goto t) W3 hp.1 hp.2
      exact ⟨_, _, h1, .inr ⟨rfl, h2⟩⟩
    | panic ch => exact hp.elim
    | outgrown => exact hp.elim
end
section
variable {P : Program} {ops : Array Oper} {n l : Nat}
/-- The law of a range over a function, in a plain walk. -/
theorem wp_range_box {α : Type} {g : Operand} {ps : Array Tmp} {assign body : Code} {Q : Exit → Act → World → Prop} {a : Act} {w : World}
    {gf : Nat} {lb : Array Value} (hg : a.eval g = .func (.func gf) #[] lb) (eg : ∀ args w, (callFunc gf args).run P w = .ok (.enter gf args) w)
    {encs : α → Array Value} {n₀ : Nat} {G : List α → α → World → Prop} {S Sp : List α → Prop} {N : Nat} (hseq : SeqReads Fence.wide 5 P gf lb encs n₀ G S Sp N w) (hn : n₀ ≤ w.heap.size) (hG : ∀ pre x, Turns w.heap.size (G pre x)) (hps : ∀ x, (encs x).size = ps.size)
    (I : List α → World → Prop) (Ix : Code → List α → World → Prop)
    (hI : ∀ s A B, I s A → Below A.heap.size A B → I s B) (hIx : ∀ c s A B, Ix c s A → Below A.heap.size A B → Ix c s B) (hIt : ∀ s, Turns w.heap.size (I s)) (hIxt : ∀ c s, Turns w.heap.size (Ix c s))
    (h0 : I [] w) (Ax : α → Act → World → Prop) (hAx : ∀ x a1, Turns w.heap.size (Ax x a1))
    (hassign : ∀ (l : Nat) (pre : List α) (x : α) (W : World) (K : Act → World → Prop), I pre W → G pre x W → (∀ a1 W1, Ax x a1 W1 → KeepsOthers W W1 → Below n₀ W W1 → I pre W1 → G pre x W1 → K a1 W1) →
      assign.wpIn (Fence.wide.inRound l) 4 P (Exit.then K (fun _ _ _ => False)) { tmps := (ps.zip (encs x)).foldl (fun t (p, v) => t.setIfInBounds p v) a.tmps, defers := [] } W)
    (hbody : ∀ (l : Nat) (pre : List α) (x : α) (a1 : Act) (W : World), Ax x a1 W → I pre W → G pre x W → pre.length < N → body.wpIn (Fence.wide.inRound l) 4 P (ownPostK (Below n₀) I Ix (pre ++ [x]) W) a1 W)
    (hdone : ∀ (D : Nat) (xs : List α) (W : World), w.heap.size ≤ D → S xs → I xs W → W.heap[D]? = some (.deferred (some [])) → Q .normal { a with defers := { target := .collected D, args := #[] } :: a.defers } W)
    (hstop : ∀ (D : Nat) (c : Code) (pre : List α) (W : World), w.heap.size ≤ D → Sp pre → Ix c pre W → W.heap[D]? = some (.deferred (some [])) → c.wp P Q { a with defers := { target := .collected D, args := #[] } :: a.defers } W) :
    (Code.rangeFunc g ps assign body).wp P Q a w :=
  wpIn_wide.1 (wpIn_range_box (F := Fence.wide) (n := 6) rfl (by omega) hg trivial eg hseq hn hG hps I Ix hI hIx hIt hIxt h0 Ax hAx hassign hbody hdone (fun D c pre W h1 h2 h3 h4 => wpIn_wide.2 (hstop D c pre W h1 h2 h3 h4)))
end
/-- The law of a range whose rounds leave it by a break alone: what follows is shown once. -/
theorem wp_block_box {P : Program} {α : Type} {id : Nat} {g : Operand} {ps : Array Tmp} {assign body : Code} {Q : Exit → Act → World → Prop} {a : Act} {w : World}
    {gf : Nat} {lb : Array Value} (hg : a.eval g = .func (.func gf) #[] lb) (eg : ∀ args w, (callFunc gf args).run P w = .ok (.enter gf args) w)
    {encs : α → Array Value} {n₀ : Nat} {G : List α → α → World → Prop} {S Sp : List α → Prop} {N : Nat} (hseq : SeqReads Fence.wide 5 P gf lb encs n₀ G S Sp N w) (hn : n₀ ≤ w.heap.size) (hG : ∀ pre x, Turns w.heap.size (G pre x)) (hps : ∀ x, (encs x).size = ps.size)
    (I Ix : List α → World → Prop)
    (hI : ∀ s A B, I s A → Below A.heap.size A B → I s B) (hIx : ∀ s A B, Ix s A → Below A.heap.size A B → Ix s B) (hIt : ∀ s, Turns w.heap.size (I s)) (hIxt : ∀ s, Turns w.heap.size (Ix s))
    (h0 : I [] w) (Ax : α → Act → World → Prop) (hAx : ∀ x a1, Turns w.heap.size (Ax x a1))
    (hassign : ∀ (l : Nat) (pre : List α) (x : α) (W : World) (K : Act → World → Prop), I pre W → G pre x W → (∀ a1 W1, Ax x a1 W1 → KeepsOthers W W1 → Below n₀ W W1 → I pre W1 → G pre x W1 → K a1 W1) →
      assign.wpIn (Fence.wide.inRound l) 4 P (Exit.then K (fun _ _ _ => False)) { tmps := (ps.zip (encs x)).foldl (fun t (p, v) => t.setIfInBounds p v) a.tmps, defers := [] } W)
    (hbody : ∀ (l : Nat) (pre : List α) (x : α) (a1 : Act) (W : World), Ax x a1 W → I pre W → G pre x W → pre.length < N → body.wpIn (Fence.wide.inRound l) 4 P (ownPostK (Below n₀) I (fun c s W => c = .exit id ∧ Ix s W) (pre ++ [x]) W) a1 W)
    (hdone : ∀ (D : Nat) (xs : List α) (W : World), w.heap.size ≤ D → (S xs ∧ I xs W) ∨ Ix xs W → W.heap[D]? = some (.deferred (some [])) → Q .normal { a with defers := { target := .collected D, args := #[] } :: a.defers } W) :
    (Code.block id (Code.rangeFunc g ps assign body)).wp P Q a w := by
  refine wp_block (wp_range_box hg eg hseq hn hG hps I (fun c s W => c = .exit id ∧ Ix s W) hI (fun c s A B h hb => ⟨h.1, hIx s A B h.2 hb⟩) hIt (fun c s W l o o' hl h ho hx => ⟨hx.1, hIxt s W l o o' hl h ho hx.2⟩) h0 Ax hAx hassign hbody ?_ ?_)
  · exact fun D xs W h1 h2 h3 h4 => hdone D xs W h1 (.inl ⟨h2, h3⟩) h4
  · rintro D c pre W h1 h2 ⟨rfl, h3⟩ h4
    refine wp_exit ?_
    simp only [Exit.inBlock, if_true]
    exact hdone D pre W h1 (.inr h3) h4
/-- The law with the cell's number; the frame of a round as a function of the frame before. -/
theorem wp_block_put2 {P : Program} {α : Type} {id : Nat} {g : Operand} {ps : Array Tmp} {assign body : Code} {Q : Exit → Act → World → Prop} {a : Act} {w : World}
    {gf : Nat} {lb : Array Value} (hg : a.eval g = .func (.func gf) #[] lb) (eg : ∀ args w, (callFunc gf args).run P w = .ok (.enter gf args) w)
    {encs : α → Array Value} {n₀ : Nat} {G : List α → α → World → Prop} {S Sp : List α → Prop} {N : Nat} (hseq : SeqReads Fence.wide 5 P gf lb encs n₀ G S Sp N w) (hn : n₀ ≤ w.heap.size) (hG : ∀ pre x, Turns w.heap.size (G pre x)) (hps : ∀ x, (encs x).size = ps.size)
    (I Ix : List α → World → Prop)
    (hI : ∀ s A B, I s A → Below A.heap.size A B → I s B) (hIx : ∀ s A B, Ix s A → Below A.heap.size A B → Ix s B) (hIt : ∀ s, Turns w.heap.size (I s)) (hIxt : ∀ s, Turns w.heap.size (Ix s))
    (h0 : I [] w) (Bx : α → Nat → World → Prop) (hBx : ∀ x c W l o o', w.heap.size ≤ l → W.heap[l]? = some o → o.isCells = false → Bx x c W → Bx x c (W.putObj l o')) (f : α → Nat → Array Value → Array Value)
    (hassign : ∀ (l : Nat) (pre : List α) (x : α) (W : World) (K : Act → World → Prop), I pre W → G pre x W → (∀ c W1, Bx x c W1 → KeepsOthers W W1 → Below n₀ W W1 → I pre W1 → G pre x W1 → K { tmps := f x c a.tmps, defers := [] } W1) →
      assign.wpIn (Fence.wide.inRound l) 4 P (Exit.then K (fun _ _ _ => False)) { tmps := (ps.zip (encs x)).foldl (fun t (p, v) => t.setIfInBounds p v) a.tmps, defers := [] } W)
    (hbody : ∀ (l : Nat) (pre : List α) (x : α) (c : Nat) (W : World), Bx x c W → I pre W → G pre x W → pre.length < N → body.wpIn (Fence.wide.inRound l) 4 P (ownPostK (Below n₀) I (fun c s W => c = .exit id ∧ Ix s W) (pre ++ [x]) W) { tmps := f x c a.tmps, defers := [] } W)
    (hdone : ∀ (D : Nat) (xs : List α) (W : World), w.heap.size ≤ D → (S xs ∧ I xs W) ∨ Ix xs W → W.heap[D]? = some (.deferred (some [])) → Q .normal { a with defers := { target := .collected D, args := #[] } :: a.defers } W) :
    (Code.block id (Code.rangeFunc g ps assign body)).wp P Q a w :=
  wp_block_box hg eg hseq hn hG hps I Ix hI hIx hIt hIxt h0 (fun x a1 W => ∃ c, Bx x c W ∧ a1 = { tmps := f x c a.tmps, defers := [] })
    (fun x a1 W l o o' hl ho hc h => by obtain ⟨c, h1, h2⟩ := h; exact ⟨c, hBx x c W l o o' hl ho hc h1, h2⟩)
    (fun l pre x W K hi hg hk => hassign l pre x W K hi hg fun c W1 hb h1 h2 h3 h4 => hk _ W1 ⟨c, hb, rfl⟩ h1 h2 h3 h4)
    (fun l pre x a1 W hb hi hg hlen => by obtain ⟨c, h1, rfl⟩ := hb; exact hbody l pre x c W h1 hi hg hlen)
    hdone
end Go.Proofs.YtijokgddfcfcbaaDoor
