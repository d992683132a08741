/-
  Rows of expressions of the call's own: appended to.
-/
import Derived.Test.YtdnmgemjhpkekaaGreatExD
import Derived.Maps.AppendAt
namespace Go.Proofs.YtdnmgemjhpkekaaGreat
open Go.ChangeShapes Go.WideShapes Go.ChangeAt Go.RowKit
set_option linter.unusedVariables false

def CellsL (P : Nat → Prop) (w : World) : List Ex → List Value → Prop
  | [], [] => True
  | e :: r, v0 :: v1 :: v2 :: v3 :: cs => RdE P w e (.agg #[v0, v1, v2, v3]) ∧ CellsL P w r cs
  | _, _ => False
theorem CellsL.keep {P : Nat → Prop} {w w' : World} (hk : ∀ b, P b → ∀ n, w'.cell? ⟨b, n, none⟩ = w.cell? ⟨b, n, none⟩) : ∀ {ks : List Ex} {cs : List Value}, CellsL P w ks cs → CellsL P w' ks cs
  | [], [], _ => trivial
  | e :: r, v0 :: v1 :: v2 :: v3 :: cs, h => ⟨RdE.keep hk h.1, CellsL.keep hk h.2⟩
  | [], _ :: _, h => h.elim
  | _ :: _, [], h => h.elim
  | _ :: _, [_], h => h.elim
  | _ :: _, [_, _], h => h.elim
  | _ :: _, [_, _, _], h => h.elim
theorem CellsL.imp {P Q : Nat → Prop} {w : World} (hPQ : ∀ b, P b → Q b) : ∀ {ks : List Ex} {cs : List Value}, CellsL P w ks cs → CellsL Q w ks cs
  | [], [], _ => trivial
  | e :: r, v0 :: v1 :: v2 :: v3 :: cs, h => ⟨RdE.imp hPQ h.1, CellsL.imp hPQ h.2⟩
  | [], _ :: _, h => h.elim
  | _ :: _, [], h => h.elim
  | _ :: _, [_], h => h.elim
  | _ :: _, [_, _], h => h.elim
  | _ :: _, [_, _, _], h => h.elim
theorem CellsL.snoc {P : Nat → Prop} {w : World} {e : Ex} {v0 v1 v2 v3 : Value} (he : RdE P w e (.agg #[v0, v1, v2, v3])) : ∀ {ks : List Ex} {cs : List Value}, CellsL P w ks cs → CellsL P w (ks ++ [e]) (cs ++ [v0, v1, v2, v3])
  | [], [], _ => ⟨he, trivial⟩
  | e :: r, v0 :: v1 :: v2 :: v3 :: cs, h => ⟨h.1, CellsL.snoc he h.2⟩
  | [], _ :: _, h => h.elim
  | _ :: _, [], h => h.elim
  | _ :: _, [_], h => h.elim
  | _ :: _, [_, _], h => h.elim
  | _ :: _, [_, _, _], h => h.elim
theorem CellsL.rdL {P : Nat → Prop} {w : World} {b : Nat} : ∀ {ks : List Ex} {cs : List Value} {o : Nat}, CellsL P w ks cs → (∀ j u, cs[j]? = some u → w.cell? ⟨b, o + j, none⟩ = some u) → RdL P w ks b o
  | [], _, _, _, _ => by unfold RdL; trivial
  | e :: r, v0 :: v1 :: v2 :: v3 :: cs, o, h, hc => by
    unfold RdL
    refine ⟨⟨v0, v1, v2, v3, hc 0 v0 rfl, hc 1 v1 rfl, hc 2 v2 rfl, hc 3 v3 rfl, h.1⟩, CellsL.rdL h.2 fun j u hj => ?_⟩
    rw [show o + 4 + j = o + (j + 4) by omega]
    exact hc (j + 4) u hj
  | _ :: _, [], _, h, _ => h.elim
  | _ :: _, [_], _, h, _ => h.elim
  | _ :: _, [_, _], _, h, _ => h.elim
  | _ :: _, [_, _, _], _, h, _ => h.elim
theorem CellsL.ones {P : Nat → Prop} {w : World} : ∀ {ks : List Ex} {cs : List Value}, CellsL P w ks cs → ∀ u ∈ cs, u.oneCell' = true
  | [], [], _, u, hu => by cases hu
  | e :: r, v0 :: v1 :: v2 :: v3 :: cs, h, u, hu => by
    obtain ⟨q, c, h2, _⟩ := h.1.form
    unfold exv at h2
    simp only [Value.agg.injEq, Array.mk.injEq, List.cons.injEq, and_true] at h2
    obtain ⟨rfl, rfl, rfl, rfl⟩ := h2
    rcases List.mem_cons.1 hu with rfl | hu
    · rfl
    rcases List.mem_cons.1 hu with rfl | hu
    · rfl
    rcases List.mem_cons.1 hu with rfl | hu
    · rfl
    rcases List.mem_cons.1 hu with rfl | hu
    · rfl
    exact CellsL.ones h.2 u hu
  | [], _ :: _, h, _, _ => h.elim
  | _ :: _, [], h, _, _ => h.elim
  | _ :: _, [_], h, _, _ => h.elim
  | _ :: _, [_, _], h, _, _ => h.elim
  | _ :: _, [_, _, _], h, _, _ => h.elim
/-- The blocks of what lies in a row, the row's own apart. -/
def Sub (base : Nat) (w : World) (v : Value) : Nat → Prop := fun b => base ≤ b ∧ b < w.heap.size ∧ some b ≠ v.ownBlock
/-- v is a slice of the call's own, from base on, of the expressions ks. -/
def ExRow (base : Nat) (w : World) (v : Value) (ks : List Ex) : Prop := ∃ cs, w.ownsRow base 24 4 v ks.length cs ∧ CellsL (Sub base w v) w ks cs
theorem ExRow.nil (base : Nat) (w : World) : ExRow base w (.slice none 0 0) [] := ⟨[], World.ownsRow_nil _ _ _ _, trivial⟩
theorem ExRow.form {base : Nat} {w : World} {v : Value} {ks : List Ex} (h : ExRow base w v ks) : ∃ q c, v = .slice q ks.length c := by
  obtain ⟨cs, h1, _⟩ := h
  rcases h1.2 with ⟨h, hn⟩ | ⟨g, cap, cur, hv, _⟩
  · exact ⟨none, 0, by rw [hn]; exact h⟩
  · exact ⟨_, _, hv⟩
theorem ExRow.blk {base : Nat} {w : World} {v : Value} {ks : List Ex} (h : ExRow base w v ks) {b : Nat} (hb : v.ownBlock = some b) : b < w.heap.size := by
  obtain ⟨cs, h1, _⟩ := h
  rcases h1.2 with ⟨h, _⟩ | ⟨g, cap, cur, hv, h0, hg, _⟩
  · rw [h] at hb; cases hb
  · rw [hv] at hb; cases hb; exact (Array.getElem?_eq_some_iff.1 hg).1
theorem ExRow.later {base : Nat} {w w' : World} {v : Value} {ks : List Ex} (h : ExRow base w v ks) (hb : Below w.heap.size w w') : ExRow base w' v ks := by
  obtain ⟨cs, h1, h2⟩ := h
  refine ⟨cs, ⟨h1.1, ?_⟩, (h2.keep (cells_below hb fun b hb => hb.2.1)).imp fun b h => ⟨h.1, Nat.lt_of_lt_of_le h.2.1 hb.size, h.2.2⟩⟩
  rcases h1.2 with h | ⟨g, cap, cur, rfl, h0, hg, r⟩
  · exact .inl h
  · exact .inr ⟨g, cap, cur, rfl, h0, (hb.block g (Array.getElem?_eq_some_iff.1 hg).1).trans hg, r⟩
/-- A store into a block under the row's base. -/
theorem ExRow.set {base : Nat} {w : World} {v : Value} {ks : List Ex} (h : ExRow base w v ks) {a : Addr} (ha : a.block < base) (x : Value) : ExRow base (w.setCell a x) v ks := by
  obtain ⟨cs, h1, h2⟩ := h
  have hs : (w.setCell a x).heap.size = w.heap.size := by simp [World.setCell]
  refine ⟨cs, ⟨h1.1, ?_⟩, ?_⟩
  · rcases h1.2 with h | ⟨g, cap, cur, rfl, h0, hg, r⟩
    · exact .inl h
    · exact .inr ⟨g, cap, cur, rfl, h0, (Below.heap_setCell w a x g (by omega)).trans hg, r⟩
  · refine (h2.keep fun b hb n => ?_).imp fun b h => ⟨h.1, by rw [hs]; exact h.2.1, h.2.2⟩
    exact World.cell?_of_block (Below.heap_setCell w a x b (by have := hb.1; omega))
/-- The expression whose kids are the row. -/
theorem ExRow.rd {base : Nat} {w : World} {q : Option Addr} {n c : Nat} {ks : List Ex} (h : ExRow base w (.slice q n c) ks) (k : Int) (via nm : List UInt8) : RdE (Bt base w.heap.size) w (.mk k via nm ks) (.agg #[.int .i64 k, .string (bstr via), .string (bstr nm), .slice q n c]) := by
  obtain ⟨cs, h1, h2⟩ := h
  unfold RdE
  rcases h1.2 with ⟨hv, hn⟩ | ⟨g, cap, cur, hv, h0, hg, hcap, _, hcz, htk⟩
  · simp only [Value.slice.injEq] at hv
    obtain ⟨rfl, rfl, rfl⟩ := hv
    exact ⟨none, 0, by rw [hn], by omega, fun h => by omega⟩
  · simp only [Value.slice.injEq] at hv
    obtain ⟨rfl, rfl, rfl⟩ := hv
    refine ⟨_, _, rfl, hcap, fun _ => ⟨g, 0, rfl, ⟨h0, (Array.getElem?_eq_some_iff.1 hg).1⟩, ?_⟩⟩
    refine (h2.rdL fun j u hj => ?_).imp fun b h => ⟨h.1, h.2.1⟩
    rw [Nat.zero_add]
    have hjl : j < cs.length := (List.getElem?_eq_some_iff.1 hj).1
    rw [cell_of_row w g _ cur _ (0, 0) hg, ← Array.getElem?_toList]
    rw [← htk, List.getElem?_take, if_pos (by rw [h1.1] at hjl; exact hjl)] at hj
    exact hj
theorem Tryz.infoEx : (Tryz.prog.info? 24).map (fun i => (i.zero, i.size, i.bytes)) = some (some (.agg #[.int .i64 0, .string ByteArray.empty, .string ByteArray.empty, .slice none 0 0]), 4, 64) := by kernel_rfl
theorem app_ex {ops : Array Oper} {rest : List Oper} {o : Oper} {a : Act} {Q : Exit → Act → World → Prop} {w : World} (hgd : o.guard = none) (s x : Operand) (ho : o.op = .call { callee := .builtin .append, args := #[s, x], argTypes := #[22, 22] })
    {base n : Nat} {v : Value} {ks : List Ex} {e : Ex} {v0 v1 v2 v3 : Value} (hs : a.eval s = v) (hown : ExRow base w v ks) (hx : a.eval x = .slice (some ⟨n, 0, none⟩) 1 1) (hc : Arr w 24 n [v0, v1, v2, v3])
    (he : RdE (Sub base w v) w e (.agg #[v0, v1, v2, v3])) (hlen : ks.length + 1 ≤ 1000000) (hbase : base ≤ w.heap.size)
    (h : ∀ v' w', ExRow base w' v' (ks ++ [e]) → Below base w w' → w.grownBy w' v.ownBlock → wpList Tryz.prog ops Q rest (a.put o.dst v') w') : wpList Tryz.prog ops Q (o :: rest) a w := by
  obtain ⟨i0, hi, hz0, hz1, hz2⟩ := info_parts Tryz.infoEx
  obtain ⟨cs, h1, h2⟩ := hown
  have hone : CellsL (Sub base w v) w [e] [v0, v1, v2, v3] := ⟨he, trivial⟩
  refine wpList_append_own_at w hgd s x 22 ho base 24 i0 _ 4 64 Tryz.underlying22 hi hz0 hz1 hz2 rfl (by decide) v ks.length cs hs h1 ⟨n, 0, none⟩ 1 1 [v0, v1, v2, v3] hx rfl ?_ hone.ones (by unfold maxLen; omega) (by omega) hbase ?_
  · intro j u hu
    have := hc.cell j
    rw [hu] at this
    cases j <;> simpa [Addr.add] using this
  · intro v' w' r1 r2 _ r4
    have hb : Below base w w' := (Below.refl _ _).grown r2 hbase (fun k hk => (h1.lt k hk).1)
    refine h v' w' ⟨cs ++ [v0, v1, v2, v3], by rw [List.length_append]; exact r1, ?_⟩ hb r2
    have hk : ∀ b, Sub base w v b → ∀ m, w'.cell? ⟨b, m, none⟩ = w.cell? ⟨b, m, none⟩ := fun b hb m => World.cell?_of_block (r2.block b hb.2.1 hb.2.2)
    have hS : ∀ b, Sub base w v b → Sub base w' v' b := fun b hb => ⟨hb.1, Nat.lt_of_lt_of_le hb.2.1 r2.size, by
      rcases r4 with r4 | r4
      · rw [r4]; exact hb.2.2
      · rw [r4]; intro e; have := Option.some.inj e; have := hb.2.1; omega⟩
    exact CellsL.snoc ((he.keep hk).imp hS) ((h2.keep hk).imp hS)
end Go.Proofs.YtdnmgemjhpkekaaGreat
