/-
  A range over a function whose body reads the memory behind what it is handed: the premise of a round may name the world.
-/
import Derived.RangeFuncFrom
namespace Go.Proofs.YtdnmgemjhpkekaaGreat
open Go.RowKit
set_option linter.unusedVariables false
variable {F : Fence} {n : Nat} {P : Program}

/-- An iterator that hands out things of which G holds, behind what has come, where it does, to whatever keeps what lay below n₀. -/
def SeqReads {α : Type} (F : Fence) (n : Nat) (P : Program) (g : Nat) (lb : Array Value) (encs : α → Array Value) (n₀ : Nat) (G : List α → α → World → Prop) (S Sp : List α → Prop) (N : Nat) (w : World) : Prop :=
  ∀ (l : Nat) (J Jx : List α → World → Prop) (W : World), Below w.heap.size w W → (∀ s A B, J s A → Below A.heap.size A B → J s B) → (∀ s A B, Jx s A → Below A.heap.size A B → Jx s B) →
    (∀ pre x W1, J pre W1 → G pre x W1 → pre.length < N → YieldAt F (n - 1) P l (encs x) W1 fun e W' =>
      (e = .returned (.bool true) ∧ J (pre ++ [x]) W' ∧ Below n₀ W1 W') ∨ (e = .returned (.bool false) ∧ Jx (pre ++ [x]) W')) →
    J [] W →
    CallsIn F n P g (#[.func (.yield l) #[] #[]] ++ lb) W fun e W' => (∃ v, e = .returned v) ∧ ((∃ xs, S xs ∧ J xs W') ∨ (∃ pre, Sp pre ∧ Jx pre W'))

/-- A turn of a block that is no cells, at B or beyond, is nothing to X. -/
def Turns (B : Nat) (X : World → Prop) : Prop := ∀ W l o o', B ≤ l → W.heap[l]? = some o → o.isCells = false → X W → X (W.putObj l o')

theorem below_put {B : Nat} (W : World) (l : Nat) (o : Obj) (h : B ≤ l) : Below B W (W.putObj l o) := ⟨rfl, rfl, rfl, by simp, fun k hk => World.putObj_heap_other (by omega)⟩

theorem wpIn_range_read {α : Type} {g : Operand} {ps : Array Tmp} {assign body : Code} {Q : Exit → Act → World → Prop} {a : Act} {w : World}
    (hro : F.round = none) (h1 : 1 ≤ n) {gf : Nat} {lb : Array Value} (hg : a.eval g = .func (.func gf) #[] lb) (hFg : F.fn gf) (eg : ∀ args w, (callFunc gf args).run P w = .ok (.enter gf args) w)
    {encs : α → Array Value} {n₀ : Nat} {G : List α → α → World → Prop} {S Sp : List α → Prop} {N : Nat} (hseq : SeqReads F (n - 1) P gf lb encs n₀ G S Sp N w) (hn : n₀ ≤ w.heap.size) (hG : ∀ pre x, Turns w.heap.size (G pre x)) (hps : ∀ x, (encs x).size = ps.size)
    (I : List α → World → Prop) (Ix : Code → List α → World → Prop)
    (hI : ∀ s A B, I s A → Below A.heap.size A B → I s B) (hIx : ∀ c s A B, Ix c s A → Below A.heap.size A B → Ix c s B) (hIt : ∀ s, Turns w.heap.size (I s)) (hIxt : ∀ c s, Turns w.heap.size (Ix c s))
    (h0 : I [] w) (a₁ : α → Act)
    (hassign : ∀ (l : Nat) (x : α) (W : World) (K : Act → World → Prop), K (a₁ x) W →
      assign.wpIn (F.inRound l) (n - 1 - 1) P (Exit.then K (fun _ _ _ => False)) { tmps := (ps.zip (encs x)).foldl (fun t (p, v) => t.setIfInBounds p v) a.tmps, defers := [] } W)
    (hbody : ∀ (l : Nat) (pre : List α) (x : α) (W : World), I pre W → G pre x W → pre.length < N → body.wpIn (F.inRound l) (n - 1 - 1) P (ownPostK (Below n₀) I Ix (pre ++ [x]) W) (a₁ x) W)
    (hdone : ∀ (D : Nat) (xs : List α) (W : World), w.heap.size ≤ D → S xs → I xs W → W.heap[D]? = some (.deferred (some [])) → Q .normal { a with defers := { target := .collected D, args := #[] } :: a.defers } W)
    (hstop : ∀ (D : Nat) (c : Code) (pre : List α) (W : World), w.heap.size ≤ D → Sp pre → Ix c pre W → W.heap[D]? = some (.deferred (some [])) → c.wpIn F n P Q { a with defers := { target := .collected D, args := #[] } :: a.defers } W) :
    (Code.rangeFunc g ps assign body).wpIn F n P Q a w := by
  refine wpIn_rangeFunc fun fn hfn => ?_
  rw [hro]
  obtain ⟨R, hR⟩ : ∃ R : LoopState → Option Code → Loop, R = fun st pe => { state := st, pending := pe, fn, tmps := a.tmps, params := ps, assign, body, defers := w.heap.size } := ⟨_, rfl⟩
  obtain ⟨D, hD⟩ : ∃ D, D = w.heap.size := ⟨_, rfl⟩
  obtain ⟨W1, hW1⟩ : ∃ W1, W1 = (w.alloc (.deferred (some []))).alloc (.loop (R .ready none)) := ⟨_, rfl⟩
  have hb1 : Below w.heap.size w W1 := by rw [hW1]; exact ((Below.refl _ w).alloc (Nat.le_refl _) _).alloc (by simp) _
  -- where the record stands, and the block for the rounds' deferred calls
  let Bk : LoopState → Option Code → World → Prop := fun st pe W => W.heap[D + 1]? = some (.loop (R st pe)) ∧ W.heap[D]? = some (.deferred (some []))
  have bk1 : Bk .ready none W1 := by
    constructor
    · rw [hW1, hD]
      have := World.alloc_heap_new (w.alloc (.deferred (some []))) (.loop (R .ready none))
      rwa [World.size_alloc] at this
    · rw [hW1, hD]
      exact (Below.heap_alloc _ _ _ (by simp)).trans (World.alloc_heap_new w _)
  have bkB : ∀ {st pe A B}, Bk st pe A → Below A.heap.size A B → Bk st pe B := fun h hb =>
    ⟨(hb.block _ (Array.getElem?_eq_some_iff.1 h.1).1).trans h.1, (hb.block _ (Array.getElem?_eq_some_iff.1 h.2).1).trans h.2⟩
  have bkP : ∀ {st pe A st' pe'}, Bk st pe A → Bk st' pe' (A.putObj (D + 1) (.loop (R st' pe'))) := fun h =>
    ⟨World.putObj_heap_same (Array.getElem?_eq_some_iff.1 h.1).1, (World.putObj_heap_other (by omega)).trans h.2⟩
  have bkO : ∀ {st pe A B}, Bk st pe A → KeepsOthers A B → Bk st pe B := fun h hk => ⟨hk.same _ _ h.1 rfl, hk.same _ _ h.2 rfl⟩
  refine ⟨D + 1, [{ target := .collected D, args := #[] }], W1, { target := .fn (.func gf) lb, args := #[.func (.yield (D + 1)) #[] #[]] }, W1, gf, #[.func (.yield (D + 1)) #[] #[]] ++ lb, W1, ?_, ?_, ?_, ?_, fun _ => h1, ?_⟩
  · rw [hW1, hR, hD]; exact run_enterLoop_outer _ _ _ _ _
  · simp only [resolve, hg]
    simp [go_sem]
  · intro f' hf'; simp [Target.leads] at hf'; subst hf'; exact hFg
  · simp [invoke, go_sem, eg]
  refine (hseq (D + 1) (fun pre W => I pre W ∧ Bk .ready none W) (fun pre W => ∃ c, Ix c pre W ∧ Bk .done (some c) W) W1 hb1 (fun s A B h hb => ⟨hI s A B h.1 hb, bkB h.2 hb⟩)
    (fun s A B ⟨c, h1, h2⟩ hb => ⟨c, hIx c s A B h1 hb, bkB h2 hb⟩) ?round ⟨?start, bk1⟩).mono ?behind
  case start => exact hI _ _ _ h0 hb1
  case behind =>
    rintro e W2 ⟨⟨v, rfl⟩, (⟨xs, hS, hi, hk⟩ | ⟨pre, hSp, c, hi, hk⟩)⟩
    · refine ⟨none, W2.putObj (D + 1) (.loop (R .exhausted none)), ?_, hdone D xs _ (by omega) hS (hIt _ _ _ _ _ (by omega) hk.1 rfl hi) (bkP hk).2⟩
      have := run_endLoop (P := P) hk.1 (by rw [hR]; simp); rw [hR] at this ⊢; exact this
    · refine ⟨some c, W2.putObj (D + 1) (.loop (R .exhausted (some c))), ?_, hstop D c pre _ (by omega) hSp (hIxt _ _ _ _ _ _ (by omega) hk.1 rfl hi) (bkP hk).2⟩
      have := run_endLoop (P := P) hk.1 (by rw [hR]; simp); rw [hR] at this ⊢; exact this
  case round =>
    rintro pre x W ⟨hi, hk⟩ hGx hlen
    have hy := run_yield (P := P) (args := encs x) hk.1 (by rw [hR]; exact hps x)
    have hbeg := run_beginRound (P := P) hk.1 (by rw [hR])
    rw [hR] at hy hbeg
    obtain ⟨Wb, hWb⟩ : ∃ Wb, Wb = W.putObj (D + 1) (.loop (R .busy none)) := ⟨_, rfl⟩
    have hkb : Bk .busy none Wb := by rw [hWb]; exact bkP hk
    have hbb : Below n₀ W Wb := by rw [hWb]; exact below_put W _ _ (by omega)
    have hib : I pre Wb := by rw [hWb]; exact hIt _ _ _ _ _ (by omega) hk.1 rfl hi
    have hgb : G pre x Wb := by rw [hWb]; exact hG _ _ _ _ _ _ (by omega) hk.1 rfl hGx
    refine ⟨fn, _, assign, body, hy, roundIn_of_wpIn hfn (hassign _ x W _ ⟨Wb, by rw [hWb, hR]; exact hbeg, ?_⟩)⟩
    refine wpIn_mono (hbody _ pre x _ hib hgb hlen) ?_
    have fin : ∀ (jump : Option Code) (W3 : World), Bk .busy none W3 → (Instr.endRound (D + 1) jump).run P W3 = .ok (.bool jump.isNone) (W3.putObj (D + 1) (.loop (R (if jump.isNone then .ready else .done) jump))) := fun jump W3 h3 => by
      have := run_endRound (P := P) jump h3.1
      rw [hR] at this ⊢
      exact this
    have out : ∀ (c : Code) (W3 : World), KeepsOthers Wb W3 → Ix c (pre ++ [x]) W3 → ∃ v W4, (Instr.endRound (D + 1) (some c)).run P W3 = .ok v W4 ∧ v = .bool false ∧ ∃ c', Ix c' (pre ++ [x]) W4 ∧ Bk .done (some c') W4 := fun c W3 hk3 hi3 =>
      ⟨_, _, fin (some c) W3 (bkO hkb hk3), rfl, c, hIxt _ _ _ _ _ _ (by omega) (bkO hkb hk3).1 rfl hi3, bkP (bkO hkb hk3)⟩
    rintro e a3 W3 hp
    cases e with
    | normal =>
      obtain ⟨hk3, hb3, hi3⟩ := hp
      have h3 := bkO hkb hk3
      exact ⟨_, _, fin none W3 h3, .inl ⟨rfl, ⟨hIt _ _ _ _ _ (by omega) h3.1 rfl hi3, bkP h3⟩, (hbb.trans (hb3.mono (Nat.le_refl _))).trans (below_put W3 _ _ (by omega))⟩⟩
    | ret =>
      obtain ⟨v, W4, h1, rfl, h2⟩ := out .ret W3 hp.1 hp.2
      exact ⟨_, _, h1, .inr ⟨rfl, h2⟩⟩
    | exit id =>
      obtain ⟨v, W4, h1, rfl, h2⟩ := out (.exit id) W3 hp.1 hp.2
      exact ⟨_, _, h1, .inr ⟨rfl, h2⟩⟩
    | goto t =>
      obtain ⟨v, W4, h1, rfl, h2⟩ := out (.goto t) W3 hp.1 hp.2
      exact ⟨_, _, h1, .inr ⟨rfl, h2⟩⟩
    | panic ch => exact hp.elim
    | outgrown => exact hp.elim
end Go.Proofs.YtdnmgemjhpkekaaGreat
