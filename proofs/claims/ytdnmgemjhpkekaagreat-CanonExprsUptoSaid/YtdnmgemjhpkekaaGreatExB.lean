/-
  Expressions in memory.
-/
import Derived.Test.YtdnmgemjhpkekaaGreatExA
namespace Go.Proofs.YtdnmgemjhpkekaaGreat
open Go.ChangeShapes Go.WideShapes Go.ChangeAt Go.RowKit
set_option linter.unusedVariables false

/-- The value of an expression whose kids lie at q. -/
def exv (e : Ex) (q : Option Addr) (c : Nat) : Value := .agg #[.int .i64 e.kind, .string (bstr e.via), .string (bstr e.nm), .slice q e.kids.length c]
mutual
/-- v reads as the expression; all that it leads to lies in blocks of P. -/
def RdE (P : Nat → Prop) (w : World) : Ex → Value → Prop
  | .mk k via nm ks, v => ∃ q c, v = .agg #[.int .i64 k, .string (bstr via), .string (bstr nm), .slice q ks.length c] ∧ ks.length ≤ c ∧ (0 < ks.length → ∃ b o, q = some ⟨b, o, none⟩ ∧ P b ∧ RdL P w ks b o)
/-- From the cell o of the block b on lie the expressions. -/
def RdL (P : Nat → Prop) (w : World) : List Ex → Nat → Nat → Prop
  | [], _, _ => True
  | e :: r, b, o => (∃ v0 v1 v2 v3, w.cell? ⟨b, o, none⟩ = some v0 ∧ w.cell? ⟨b, o + 1, none⟩ = some v1 ∧ w.cell? ⟨b, o + 2, none⟩ = some v2 ∧ w.cell? ⟨b, o + 3, none⟩ = some v3 ∧ RdE P w e (.agg #[v0, v1, v2, v3])) ∧ RdL P w r b (o + 4)
end
mutual
theorem RdE.keep {P : Nat → Prop} {w w' : World} (hk : ∀ b, P b → ∀ n, w'.cell? ⟨b, n, none⟩ = w.cell? ⟨b, n, none⟩) : ∀ {e : Ex} {v : Value}, RdE P w e v → RdE P w' e v
  | .mk k via nm ks, v, h => by
    unfold RdE at h ⊢
    obtain ⟨q, c, h1, h2, h3⟩ := h
    refine ⟨q, c, h1, h2, fun h0 => ?_⟩
    obtain ⟨b, o, h4, h5, h6⟩ := h3 h0
    exact ⟨b, o, h4, h5, RdL.keep hk h5 h6⟩
theorem RdL.keep {P : Nat → Prop} {w w' : World} (hk : ∀ b, P b → ∀ n, w'.cell? ⟨b, n, none⟩ = w.cell? ⟨b, n, none⟩) {b : Nat} (hb : P b) : ∀ {ks : List Ex} {o : Nat}, RdL P w ks b o → RdL P w' ks b o
  | [], _, _ => by unfold RdL; trivial
  | e :: r, o, h => by
    unfold RdL at h ⊢
    obtain ⟨⟨v0, v1, v2, v3, c0, c1, c2, c3, h1⟩, h2⟩ := h
    exact ⟨⟨v0, v1, v2, v3, (hk b hb _).trans c0, (hk b hb _).trans c1, (hk b hb _).trans c2, (hk b hb _).trans c3, RdE.keep hk h1⟩, RdL.keep hk hb h2⟩
end
mutual
theorem RdE.imp {P Q : Nat → Prop} {w : World} (hPQ : ∀ b, P b → Q b) : ∀ {e : Ex} {v : Value}, RdE P w e v → RdE Q w e v
  | .mk k via nm ks, v, h => by
    unfold RdE at h ⊢
    obtain ⟨q, c, h1, h2, h3⟩ := h
    refine ⟨q, c, h1, h2, fun h0 => ?_⟩
    obtain ⟨b, o, h4, h5, h6⟩ := h3 h0
    exact ⟨b, o, h4, hPQ b h5, RdL.imp hPQ h6⟩
theorem RdL.imp {P Q : Nat → Prop} {w : World} (hPQ : ∀ b, P b → Q b) {b : Nat} : ∀ {ks : List Ex} {o : Nat}, RdL P w ks b o → RdL Q w ks b o
  | [], _, _ => by unfold RdL; trivial
  | e :: r, o, h => by
    unfold RdL at h ⊢
    obtain ⟨⟨v0, v1, v2, v3, c0, c1, c2, c3, h1⟩, h2⟩ := h
    exact ⟨⟨v0, v1, v2, v3, c0, c1, c2, c3, RdE.imp hPQ h1⟩, RdL.imp hPQ h2⟩
end
theorem cells_below {C : Nat} {w w' : World} (hb : Below C w w') {P : Nat → Prop} (hP : ∀ b, P b → b < C) : ∀ b, P b → ∀ n, w'.cell? ⟨b, n, none⟩ = w.cell? ⟨b, n, none⟩ :=
  fun b h n => hb.cell (p := ⟨b, n, none⟩) (hP b h)
theorem RdE.below {P : Nat → Prop} {C : Nat} {w w' : World} {e : Ex} {v : Value} (h : RdE P w e v) (hb : Below C w w') (hP : ∀ b, P b → b < C) : RdE P w' e v := h.keep (cells_below hb hP)
/-- Blocks between two sizes of the heap. -/
def Bt (A B : Nat) : Nat → Prop := fun b => A ≤ b ∧ b < B
theorem RdE.form {P : Nat → Prop} {w : World} {e : Ex} {v : Value} (h : RdE P w e v) : ∃ q c, v = exv e q c ∧ e.kids.length ≤ c ∧ (0 < e.kids.length → ∃ b o, q = some ⟨b, o, none⟩ ∧ P b ∧ RdL P w e.kids b o) := by
  cases e with
  | mk k via nm ks => unfold RdE at h; exact h
theorem RdE.of {P : Nat → Prop} {w : World} {e : Ex} {q : Option Addr} {c : Nat} (h1 : e.kids.length ≤ c) (h2 : 0 < e.kids.length → ∃ b o, q = some ⟨b, o, none⟩ ∧ P b ∧ RdL P w e.kids b o) : RdE P w e (exv e q c) := by
  cases e with
  | mk k via nm ks => unfold RdE; exact ⟨q, c, rfl, h1, h2⟩
/-- One of them. -/
theorem RdL.at {P : Nat → Prop} {w : World} {b : Nat} : ∀ {ks : List Ex} {o i : Nat}, RdL P w ks b o → i < ks.length → ∃ q c, w.cell? ⟨b, o + i * 4, none⟩ = some (.int .i64 (ks.getD i ex0).kind) ∧ w.cell? ⟨b, o + i * 4 + 1, none⟩ = some (.string (bstr (ks.getD i ex0).via)) ∧
    w.cell? ⟨b, o + i * 4 + 2, none⟩ = some (.string (bstr (ks.getD i ex0).nm)) ∧ w.cell? ⟨b, o + i * 4 + 3, none⟩ = some (.slice q (ks.getD i ex0).kids.length c) ∧ RdE P w (ks.getD i ex0) (exv (ks.getD i ex0) q c)
  | [], _, _, _, h => by simp at h
  | e :: r, o, 0, h, _ => by
    unfold RdL at h
    obtain ⟨⟨v0, v1, v2, v3, c0, c1, c2, c3, h1⟩, _⟩ := h
    obtain ⟨q, c, h2, h3, h4⟩ := h1.form
    unfold exv at h2
    simp only [Value.agg.injEq, Array.mk.injEq, List.cons.injEq, and_true] at h2
    obtain ⟨rfl, rfl, rfl, rfl⟩ := h2
    simp only [Nat.zero_mul, Nat.add_zero]
    exact ⟨q, c, c0, c1, c2, c3, h1⟩
  | e :: r, o, i + 1, h, hi => by
    unfold RdL at h
    have := RdL.at (i := i) h.2 (by simpa using hi)
    rw [show o + 4 + i * 4 = o + (i + 1) * 4 by omega] at this
    exact this
end Go.Proofs.YtdnmgemjhpkekaaGreat
