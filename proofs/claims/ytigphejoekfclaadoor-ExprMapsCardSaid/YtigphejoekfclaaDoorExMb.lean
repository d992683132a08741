/-
  vestryref10.Clone: the result lies in rows of its own, each at the head of its block and apart from what it leads to.
-/
import Derived.Test.YtigphejoekfclaaDoorExMa
namespace Go.Proofs.YtigphejoekfclaaDoor
open Go.ChangeShapes Go.WideShapes Go.ChangeAt Go.RowKit
set_option linter.unusedVariables false

mutual
def RdO : (Nat → Prop) → World → Ex → Value → Prop
  | P, w, .mk k via nm ks, v => ∃ q c, v = .agg #[.int .i64 k, .string (bstr via), .string (bstr nm), .slice q ks.length c] ∧ ks.length ≤ c ∧
      (0 < ks.length → ∃ b cur, q = some ⟨b, 0, none⟩ ∧ P b ∧ w.heap[b]? = some (.cells cur 24 (0, 0)) ∧ RdOL (fun x => P x ∧ x ≠ b) w ks cur.toList)
def RdOL : (Nat → Prop) → World → List Ex → List Value → Prop
  | _, _, [], _ => True
  | P, w, e :: r, v0 :: v1 :: v2 :: v3 :: cs => RdO P w e (.agg #[v0, v1, v2, v3]) ∧ RdOL P w r cs
  | _, _, _ :: _, [] => False
  | _, _, _ :: _, [_] => False
  | _, _, _ :: _, [_, _] => False
  | _, _, _ :: _, [_, _, _] => False
end
mutual
theorem RdO.keep : ∀ {e : Ex} {P : Nat → Prop} {w w' : World} {v : Value}, (∀ b, P b → w'.heap[b]? = w.heap[b]?) → RdO P w e v → RdO P w' e v
  | .mk k via nm ks, P, w, w', v, hk, h => by
    have hl := @RdOL.keep ks
    unfold RdO at h ⊢
    obtain ⟨q, c, h1, h2, h3⟩ := h
    refine ⟨q, c, h1, h2, fun h0 => ?_⟩
    obtain ⟨b, cur, g1, g2, g3, g4⟩ := h3 h0
    exact ⟨b, cur, g1, g2, (hk b g2).trans g3, hl (fun x hx => hk x hx.1) g4⟩
theorem RdOL.keep : ∀ {ks : List Ex} {P : Nat → Prop} {w w' : World} {cs : List Value}, (∀ b, P b → w'.heap[b]? = w.heap[b]?) → RdOL P w ks cs → RdOL P w' ks cs
  | [], _, _, _, _, _, _ => by unfold RdOL; trivial
  | e :: r, P, w, w', v0 :: v1 :: v2 :: v3 :: cs, hk, h => by
    have he := @RdO.keep e
    have hr := @RdOL.keep r
    unfold RdOL at h ⊢
    exact ⟨he hk h.1, hr hk h.2⟩
  | _ :: _, _, _, _, [], _, h => by unfold RdOL at h; exact h.elim
  | _ :: _, _, _, _, [_], _, h => by unfold RdOL at h; exact h.elim
  | _ :: _, _, _, _, [_, _], _, h => by unfold RdOL at h; exact h.elim
  | _ :: _, _, _, _, [_, _, _], _, h => by unfold RdOL at h; exact h.elim
end
mutual
theorem RdO.imp : ∀ {e : Ex} {P Q : Nat → Prop} {w : World} {v : Value}, (∀ b, P b → Q b) → RdO P w e v → RdO Q w e v
  | .mk k via nm ks, P, Q, w, v, hk, h => by
    have hl := @RdOL.imp ks
    unfold RdO at h ⊢
    obtain ⟨q, c, h1, h2, h3⟩ := h
    refine ⟨q, c, h1, h2, fun h0 => ?_⟩
    obtain ⟨b, cur, g1, g2, g3, g4⟩ := h3 h0
    exact ⟨b, cur, g1, hk b g2, g3, hl (fun x hx => ⟨hk x hx.1, hx.2⟩) g4⟩
theorem RdOL.imp : ∀ {ks : List Ex} {P Q : Nat → Prop} {w : World} {cs : List Value}, (∀ b, P b → Q b) → RdOL P w ks cs → RdOL Q w ks cs
  | [], _, _, _, _, _, _ => by unfold RdOL; trivial
  | e :: r, P, Q, w, v0 :: v1 :: v2 :: v3 :: cs, hk, h => by
    have he := @RdO.imp e
    have hr := @RdOL.imp r
    unfold RdOL at h ⊢
    exact ⟨he hk h.1, hr hk h.2⟩
  | _ :: _, _, _, _, [], _, h => by unfold RdOL at h; exact h.elim
  | _ :: _, _, _, _, [_], _, h => by unfold RdOL at h; exact h.elim
  | _ :: _, _, _, _, [_, _], _, h => by unfold RdOL at h; exact h.elim
  | _ :: _, _, _, _, [_, _, _], _, h => by unfold RdOL at h; exact h.elim
end
theorem RdO.below {P : Nat → Prop} {C : Nat} {w w' : World} {e : Ex} {v : Value} (h : RdO P w e v) (hb : Below C w w') (hP : ∀ b, P b → b < C) : RdO P w' e v := h.keep fun b h => hb.block b (hP b h)
theorem RdO.form {P : Nat → Prop} {w : World} {e : Ex} {v : Value} (h : RdO P w e v) : ∃ q c, v = exv e q c ∧ e.kids.length ≤ c ∧
    (0 < e.kids.length → ∃ b cur, q = some ⟨b, 0, none⟩ ∧ P b ∧ w.heap[b]? = some (.cells cur 24 (0, 0)) ∧ RdOL (fun x => P x ∧ x ≠ b) w e.kids cur.toList) := by
  cases e with
  | mk k via nm ks => unfold RdO at h; exact h
mutual
theorem RdO.rdE : ∀ {e : Ex} {P : Nat → Prop} {w : World} {v : Value}, RdO P w e v → RdE P w e v
  | .mk k via nm ks, P, w, v, h => by
    have hl := @RdOL.rdL ks
    unfold RdO at h
    unfold RdE
    obtain ⟨q, c, h1, h2, h3⟩ := h
    refine ⟨q, c, h1, h2, fun h0 => ?_⟩
    obtain ⟨b, cur, g1, g2, g3, g4⟩ := h3 h0
    refine ⟨b, 0, g1, g2, (hl (b := b) (o := 0) g4 fun j u hj => ?_).imp fun x hx => hx.1⟩
    rw [Nat.zero_add, cell_of_row w b j cur _ (0, 0) g3, ← Array.getElem?_toList]
    exact hj
theorem RdOL.rdL : ∀ {ks : List Ex} {P : Nat → Prop} {w : World} {cs : List Value} {b o : Nat}, RdOL P w ks cs → (∀ j u, cs[j]? = some u → w.cell? ⟨b, o + j, none⟩ = some u) → RdL P w ks b o
  | [], _, _, _, _, _, _, _ => by unfold RdL; trivial
  | e :: r, P, w, v0 :: v1 :: v2 :: v3 :: cs, b, o, h, hc => by
    have he := @RdO.rdE e
    have hr := @RdOL.rdL r
    unfold RdOL at h
    unfold RdL
    refine ⟨⟨v0, v1, v2, v3, hc 0 v0 rfl, hc 1 v1 rfl, hc 2 v2 rfl, hc 3 v3 rfl, he h.1⟩, hr h.2 fun j u hj => ?_⟩
    rw [show o + 4 + j = o + (j + 4) by omega]
    exact hc (j + 4) u hj
  | _ :: _, _, _, [], _, _, h, _ => by unfold RdOL at h; exact h.elim
  | _ :: _, _, _, [_], _, _, h, _ => by unfold RdOL at h; exact h.elim
  | _ :: _, _, _, [_, _], _, _, h, _ => by unfold RdOL at h; exact h.elim
  | _ :: _, _, _, [_, _, _], _, _, h, _ => by unfold RdOL at h; exact h.elim
end
def CellsO (P : Nat → Prop) (w : World) : List Ex → List Value → Prop
  | [], [] => True
  | e :: r, v0 :: v1 :: v2 :: v3 :: cs => RdO P w e (.agg #[v0, v1, v2, v3]) ∧ CellsO P w r cs
  | _, _ => False
theorem CellsO.keep {P : Nat → Prop} {w w' : World} (hk : ∀ b, P b → w'.heap[b]? = w.heap[b]?) : ∀ {ks : List Ex} {cs : List Value}, CellsO P w ks cs → CellsO P w' ks cs
  | [], [], _ => trivial
  | e :: r, v0 :: v1 :: v2 :: v3 :: cs, h => ⟨RdO.keep hk h.1, CellsO.keep hk h.2⟩
  | [], _ :: _, h => h.elim
  | _ :: _, [], h => h.elim
  | _ :: _, [_], h => h.elim
  | _ :: _, [_, _], h => h.elim
  | _ :: _, [_, _, _], h => h.elim
theorem CellsO.imp {P Q : Nat → Prop} {w : World} (hPQ : ∀ b, P b → Q b) : ∀ {ks : List Ex} {cs : List Value}, CellsO P w ks cs → CellsO Q w ks cs
  | [], [], _ => trivial
  | e :: r, v0 :: v1 :: v2 :: v3 :: cs, h => ⟨RdO.imp hPQ h.1, CellsO.imp hPQ h.2⟩
  | [], _ :: _, h => h.elim
  | _ :: _, [], h => h.elim
  | _ :: _, [_], h => h.elim
  | _ :: _, [_, _], h => h.elim
  | _ :: _, [_, _, _], h => h.elim
theorem CellsO.snoc {P : Nat → Prop} {w : World} {e : Ex} {v0 v1 v2 v3 : Value} (he : RdO P w e (.agg #[v0, v1, v2, v3])) : ∀ {ks : List Ex} {cs : List Value}, CellsO P w ks cs → CellsO P w (ks ++ [e]) (cs ++ [v0, v1, v2, v3])
  | [], [], _ => ⟨he, trivial⟩
  | e :: r, v0 :: v1 :: v2 :: v3 :: cs, h => ⟨h.1, CellsO.snoc he h.2⟩
  | [], _ :: _, h => h.elim
  | _ :: _, [], h => h.elim
  | _ :: _, [_], h => h.elim
  | _ :: _, [_, _], h => h.elim
  | _ :: _, [_, _, _], h => h.elim
theorem CellsO.rdOL {P : Nat → Prop} {w : World} : ∀ {ks : List Ex} {cs : List Value}, CellsO P w ks cs → ∀ rest, RdOL P w ks (cs ++ rest)
  | [], [], _, _ => by unfold RdOL; trivial
  | e :: r, v0 :: v1 :: v2 :: v3 :: cs, h, rest => by
    have := CellsO.rdOL h.2 rest
    simp only [List.cons_append]
    unfold RdOL
    exact ⟨h.1, this⟩
  | [], _ :: _, h, _ => h.elim
  | _ :: _, [], h, _ => h.elim
  | _ :: _, [_], h, _ => h.elim
  | _ :: _, [_, _], h, _ => h.elim
  | _ :: _, [_, _, _], h, _ => h.elim
theorem CellsO.ones {P : Nat → Prop} {w : World} : ∀ {ks : List Ex} {cs : List Value}, CellsO P w ks cs → ∀ u ∈ cs, u.oneCell' = true
  | [], [], _, u, hu => by cases hu
  | e :: r, v0 :: v1 :: v2 :: v3 :: cs, h, u, hu => by
    obtain ⟨q, c, h2, _⟩ := h.1.form
    unfold exv at h2
    simp only [Value.agg.injEq, Array.mk.injEq, List.cons.injEq, and_true] at h2
    obtain ⟨rfl, rfl, rfl, rfl⟩ := h2
    rcases List.mem_cons.1 hu with rfl | hu
    · rfl
    rcases List.mem_cons.1 hu with rfl | hu
    · rfl
    rcases List.mem_cons.1 hu with rfl | hu
    · rfl
    rcases List.mem_cons.1 hu with rfl | hu
    · rfl
    exact CellsO.ones h.2 u hu
  | [], _ :: _, h, _, _ => h.elim
  | _ :: _, [], h, _, _ => h.elim
  | _ :: _, [_], h, _, _ => h.elim
  | _ :: _, [_, _], h, _, _ => h.elim
  | _ :: _, [_, _, _], h, _, _ => h.elim
/-- v is a slice of the call's own, of expressions in rows of their own. -/
def ORow (base : Nat) (w : World) (v : Value) (ks : List Ex) : Prop := ∃ cs, w.ownsRow base 24 4 v ks.length cs ∧ CellsO (Sub base w v) w ks cs
theorem ORow.nil (base : Nat) (w : World) : ORow base w (.slice none 0 0) [] := ⟨[], World.ownsRow_nil _ _ _ _, trivial⟩
theorem ORow.form {base : Nat} {w : World} {v : Value} {ks : List Ex} (h : ORow base w v ks) : ∃ q c, v = .slice q ks.length c := by
  obtain ⟨cs, h1, _⟩ := h
  rcases h1.2 with ⟨h, hn⟩ | ⟨g, cap, cur, hv, _⟩
  · exact ⟨none, 0, by rw [hn]; exact h⟩
  · exact ⟨_, _, hv⟩
theorem ORow.blk {base : Nat} {w : World} {v : Value} {ks : List Ex} (h : ORow base w v ks) {b : Nat} (hb : v.ownBlock = some b) : b < w.heap.size := by
  obtain ⟨cs, h1, _⟩ := h
  rcases h1.2 with ⟨h, _⟩ | ⟨g, cap, cur, hv, h0, hg, _⟩
  · rw [h] at hb; cases hb
  · rw [hv] at hb; cases hb; exact (Array.getElem?_eq_some_iff.1 hg).1
theorem ORow.later {base : Nat} {w w' : World} {v : Value} {ks : List Ex} (h : ORow base w v ks) (hb : Below w.heap.size w w') : ORow base w' v ks := by
  obtain ⟨cs, h1, h2⟩ := h
  refine ⟨cs, ⟨h1.1, ?_⟩, (h2.keep (fun b hx => hb.block b hx.2.1)).imp fun b h => ⟨h.1, Nat.lt_of_lt_of_le h.2.1 hb.size, h.2.2⟩⟩
  rcases h1.2 with h | ⟨g, cap, cur, rfl, h0, hg, r⟩
  · exact .inl h
  · exact .inr ⟨g, cap, cur, rfl, h0, (hb.block g (Array.getElem?_eq_some_iff.1 hg).1).trans hg, r⟩
theorem ORow.set {base : Nat} {w : World} {v : Value} {ks : List Ex} (h : ORow base w v ks) {a : Addr} (ha : a.block < base) (x : Value) : ORow base (w.setCell a x) v ks := by
  obtain ⟨cs, h1, h2⟩ := h
  have hs : (w.setCell a x).heap.size = w.heap.size := by simp [World.setCell]
  refine ⟨cs, ⟨h1.1, ?_⟩, ?_⟩
  · rcases h1.2 with h | ⟨g, cap, cur, rfl, h0, hg, r⟩
    · exact .inl h
    · exact .inr ⟨g, cap, cur, rfl, h0, (Below.heap_setCell w a x g (by omega)).trans hg, r⟩
  · refine (h2.keep fun b hb => ?_).imp fun b h => ⟨h.1, by rw [hs]; exact h.2.1, h.2.2⟩
    exact Below.heap_setCell w a x b (by have := hb.1; omega)
theorem ORow.set4 {base : Nat} {w : World} {v : Value} {ks : List Ex} (h : ORow base w v ks) {g : Nat} (hg : g < base) (x0 x1 x2 x3 : Value) : ORow base ((((w.setCell ⟨g, 0, none⟩ x0).setCell ⟨g, 1, none⟩ x1).setCell ⟨g, 2, none⟩ x2).setCell ⟨g, 3, none⟩ x3) v ks :=
  (((h.set hg x0).set hg x1).set hg x2).set hg x3
theorem ORow.rd {base : Nat} {w : World} {q : Option Addr} {n c : Nat} {ks : List Ex} (h : ORow base w (.slice q n c) ks) (k : Int) (via nm : List UInt8) : RdO (Bt base w.heap.size) w (.mk k via nm ks) (.agg #[.int .i64 k, .string (bstr via), .string (bstr nm), .slice q n c]) := by
  obtain ⟨cs, h1, h2⟩ := h
  unfold RdO
  rcases h1.2 with ⟨hv, hn⟩ | ⟨g, cap, cur, hv, h0, hg, hcap, _, hcz, htk⟩
  · simp only [Value.slice.injEq] at hv
    obtain ⟨rfl, rfl, rfl⟩ := hv
    exact ⟨none, 0, by rw [hn], by omega, fun h => by omega⟩
  · simp only [Value.slice.injEq] at hv
    obtain ⟨rfl, rfl, rfl⟩ := hv
    refine ⟨_, _, rfl, hcap, fun _ => ⟨g, cur, rfl, ⟨h0, (Array.getElem?_eq_some_iff.1 hg).1⟩, hg, ?_⟩⟩
    have := h2.rdOL (cur.toList.drop (ks.length * 4))
    rw [← htk, List.take_append_drop] at this
    exact this.imp fun b h => ⟨⟨h.1, h.2.1⟩, fun e => h.2.2 (by rw [e]; rfl)⟩
def ClO (e : Ex) (w : World) (r : Ending) (w' : World) : Prop := ∃ v', r = .returned v' ∧ RdO (Bt w.heap.size w'.heap.size) w' e v' ∧ Below w.heap.size w w'
theorem step_exO {ops : Array Oper} {o : Oper} {a : Act} {w : World} {K : Act → World → Prop} {Q : Exit → Act → World → Prop} {E : Prop} (hgd : o.guard = none) (s x : Operand) (ho : o.op = .call { callee := .builtin .append, args := #[s, x], argTypes := #[22, 22] })
    {base n : Nat} {v : Value} {ks : List Ex} {e : Ex} {v0 v1 v2 v3 : Value} (hs : a.eval s = v) (hown : ORow base w v ks) (hx : a.eval x = .slice (some ⟨n, 0, none⟩) 1 1) (hc : Arr w 24 n [v0, v1, v2, v3])
    (he : RdO (Sub base w v) w e (.agg #[v0, v1, v2, v3])) (hlen : ks.length + 1 ≤ 1000000) (hbase : base ≤ w.heap.size)
    (hK : ∀ v' w', ORow base w' v' (ks ++ [e]) → Below base w w' → K (a.put o.dst v') w') : if Region.wanted o (yielded ops a.tmps) = true then Oper.wp Tryd.prog o a w K Q else E := by
  have hw : Region.wanted o (yielded ops a.tmps) = true := by simp [Region.wanted, hgd]
  rw [if_pos hw]
  obtain ⟨i0, hi, hz0, hz1, hz2⟩ := info_parts Tryd.infoEx
  obtain ⟨cs, h1, h2⟩ := hown
  have hone : CellsO (Sub base w v) w [e] [v0, v1, v2, v3] := ⟨he, trivial⟩
  obtain ⟨v', w', hrun, r1, r2, _, r4⟩ := run_append_own_at (P := Tryd.prog) w base 22 o.type 24 i0 _ 4 64 Tryd.underlying22 hi hz0 hz1 hz2 rfl (by decide) v ks.length cs h1 ⟨n, 0, none⟩ 1 1 [v0, v1, v2, v3] rfl
    (fun j u hu => by
      have := hc.cell j
      rw [hu] at this
      cases j <;> simpa [Addr.add] using this) hone.ones (by unfold maxLen; omega) (by omega) hbase
  unfold Oper.wp
  simp [execOp, ho, resolve, invoke, builtin, hs, hx, hrun, Result.andThen]
  have hb : Below base w w' := (Below.refl _ _).grown r2 hbase (fun k hk => (h1.lt k hk).1)
  refine hK v' w' ⟨cs ++ [v0, v1, v2, v3], by rw [List.length_append]; exact r1, ?_⟩ hb
  have hk : ∀ b, Sub base w v b → w'.heap[b]? = w.heap[b]? := fun b hb => r2.block b hb.2.1 hb.2.2
  have hS : ∀ b, Sub base w v b → Sub base w' v' b := fun b hb => ⟨hb.1, Nat.lt_of_lt_of_le hb.2.1 r2.size, by
    rcases r4 with r4 | r4
    · rw [r4]; exact hb.2.2
    · rw [r4]; intro e; have := Option.some.inj e; have := hb.2.1; omega⟩
  exact CellsO.snoc ((he.keep hk).imp hS) ((h2.keep hk).imp hS)
/-- What the reference's Clone keeps: the parameter, the result's cell, the clone's cell with the row of its kids. -/
def CRO (w : World) (A : List Value) (a b c : Value) (v : Value) (ks : List Ex) (W : World) : Prop :=
  Arr W 24 w.heap.size A ∧ Arr W 24 (w.heap.size + 1) [.int .i64 0, .string ByteArray.empty, .string ByteArray.empty, .slice none 0 0] ∧ Arr W 24 (w.heap.size + 2) [a, b, c, v] ∧ ORow (w.heap.size + 3) W v ks ∧ Below w.heap.size w W ∧ w.heap.size + 3 ≤ W.heap.size
theorem CRO.later {w W W' : World} {A : List Value} {a b c v : Value} {ks : List Ex} (h : CRO w A a b c v ks W) (hb : Below W.heap.size W W') : CRO w A a b c v ks W' :=
  ⟨h.1.later hb, h.2.1.later hb, h.2.2.1.later hb, h.2.2.2.1.later hb, h.2.2.2.2.1.trans (hb.mono h.2.2.2.2.1.size), Nat.le_trans h.2.2.2.2.2 hb.size⟩
theorem CRO.row {w W W' : World} {A : List Value} {a b c v v' : Value} {ks ks' : List Ex} (h : CRO w A a b c v ks W) (hT : ORow (w.heap.size + 3) W' v' ks') (hb : Below (w.heap.size + 3) W W') : CRO w A a b c v' ks' (W'.setCell ⟨w.heap.size + 2, 3, none⟩ v') :=
  ⟨(h.1.below hb (by omega)).setCell (by simp) _, (h.2.1.below hb (by omega)).setCell (by simp) _, (h.2.2.1.below hb (by omega)).set 3 v', hT.set (by simp) _, (h.2.2.2.2.1.trans (hb.mono (by omega))).setCell (p := ⟨w.heap.size + 2, 3, none⟩) (by simp) _, by simpa [World.setCell] using Nat.le_trans h.2.2.2.2.2 hb.size⟩
set_option maxRecDepth 100000 in
set_option maxHeartbeats 4000000 in
theorem rcloneO_any : ∀ (n : Nat) (e : Ex) (v : Value) (P : Nat → Prop) (w : World), sizeE e ≤ n → sizeE e ≤ 900000 → RdE P w e v → (∀ b, P b → b < w.heap.size) → Calls Tryd.prog 21 #[v] w (ClO e w) := by
  intro n
  induction n with
  | zero => intro e v P w h; have := sizeE_pos e; omega
  | succ n ih =>
    intro e v P w hn hm h hP
    obtain ⟨q, c, rfl, hc, hk⟩ := h.form
    obtain ⟨k, xv, xn, ks⟩ := e
    unfold exv
    show Calls _ _ #[.agg #[.int .i64 k, .string (bstr xv), .string (bstr xn), .slice q ks.length c]] _ _
    have HK : Hid (0 < ks.length → ∃ b o, q = some ⟨b, o, none⟩ ∧ P b ∧ RdL P w ks b o) := hk
    have hks : sizeL ks ≤ n := by unfold sizeE at hn; omega
    have hkm : sizeL ks ≤ 900000 := by unfold sizeE at hm; omega
    have hlen := sizeL_len ks
    have HIH := Lib.hid ih
    have H0 : Hid (CRO w [.int .i64 k, .string (bstr xv), .string (bstr xn), .slice q ks.length c] (.int .i64 k) (.string (bstr xv)) (.string (bstr xn)) (.slice none 0 0) [] (((w.alloc (.cells #[.int .i64 k, .string (bstr xv), .string (bstr xn), .slice q ks.length c] 24)).alloc (.cells #[.int .i64 0, .string ByteArray.empty, .string ByteArray.empty, .slice none 0 0] 24)).alloc (.cells #[.int .i64 k, .string (bstr xv), .string (bstr xn), .slice none 0 0] 24))) :=
      ⟨((Arr.new' w _ _ _ rfl).alloc _).alloc _, (Arr.new2 w _ _ _ _ rfl).alloc _, Arr.new3 w _ _ _ _ _ rfl, ORow.nil _ _, (((Below.refl _ _).alloc (Nat.le_refl _) _).alloc (by simp) _).alloc (by simp; omega) _, by simp⟩
    clear h ih hc hk hn hm
    go_enter Tryd.func21, Tryd.ntmps21
    go_wp2_with fail
    go_loopw [4] (fun iv wr => ∃ (i : Nat) (v : Value), i ≤ ks.length ∧ iv = .int .i64 i ∧ Hid (CRO w [.int .i64 k, .string (bstr xv), .string (bstr xn), .slice q ks.length c] (.int .i64 k) (.string (bstr xv)) (.string (bstr xn)) v (ks.take i) wr)) (fun iv _ => ks.length - (intOf iv).toNat)
    case atStart => exact ⟨0, _, Nat.zero_le _, rfl, H0.out⟩
    case round =>
      obtain ⟨i, v, hi, rfl, HC⟩ := hrel
      have hi0 : (0 : Int) ≤ i := by omega
      have HI := Lib.hid HC.out.2.2.2.2.1
      obtain ⟨qv, cv, rfl⟩ := HC.out.2.2.2.1.form
      have htl : (ks.take i).length = i := by rw [List.length_take]; omega
      rw [htl] at HC
      have hq3 := HC.out.1.cell 3
      have ho0 := HC.out.2.2.1.cell 0
      have ho1 := HC.out.2.2.1.cell 1
      have ho2 := HC.out.2.2.1.cell 2
      have ho3 := HC.out.2.2.1.cell 3
      simp only [List.getElem?_cons_zero, List.getElem?_cons_succ] at hq3 ho0 ho1 ho2 ho3
      by_cases hlt : i < ks.length
      · have hi1 : (i : Int) < ks.length := by omega
        obtain ⟨ba, oa, rfl, hba, hl⟩ := HK.out (by omega)
        obtain ⟨x, hx⟩ : ∃ x, x = ks.getD i ex0 := ⟨_, rfl⟩
        obtain ⟨q2, c2, x0, x1, x2, x3, hr⟩ := hl.at hlt
        have hxs := sizeL_get ks i hlt
        have hxd := depthL_get ks i hlt
        rw [← hx] at x0 x1 x2 x3 hr hxs hxd
        have HX := Lib.hid hx
        obtain ⟨xk, xv2, xn2, xs⟩ := x
        have cc : ∀ n, wr.cell? ⟨ba, n, none⟩ = w.cell? ⟨ba, n, none⟩ := fun n => (HI.out).cell (p := ⟨ba, n, none⟩) (hP _ hba)
        have X0 : wr.cell? ⟨ba, oa + i * 4, none⟩ = some (.int .i64 xk) := (cc _).trans x0
        have X1 : wr.cell? ⟨ba, oa + i * 4 + 1, none⟩ = some (.string (bstr xv2)) := (cc _).trans x1
        have X2 : wr.cell? ⟨ba, oa + i * 4 + 2, none⟩ = some (.string (bstr xn2)) := (cc _).trans x2
        have X3 : wr.cell? ⟨ba, oa + i * 4 + 3, none⟩ = some (.slice q2 xs.length c2) := (cc _).trans x3
        clear x0 x1 x2 x3 cc hx
        have HBd : Hid (Below wr.heap.size wr wr.drew) := (Below.refl _ _).drew
        have HR : Hid (RdE P wr.drew (.mk xk xv2 xn2 xs) (.agg #[.int .i64 xk, .string (bstr xv2), .string (bstr xn2), .slice q2 xs.length c2])) := (hr.below HI.out hP).below HBd.out (fun b hb => Nat.lt_of_lt_of_le (hP b hb) HI.out.size)
        have HIC : Hid (Calls Tryd.prog 21 #[.agg #[.int .i64 xk, .string (bstr xv2), .string (bstr xn2), .slice q2 xs.length c2]] wr.drew fun r w' => ∃ q5 c5, r = .returned (.agg #[.int .i64 xk, .string (bstr xv2), .string (bstr xn2), .slice q5 xs.length c5]) ∧ RdO (Bt wr.drew.heap.size w'.heap.size) w' (.mk xk xv2 xn2 xs) (.agg #[.int .i64 xk, .string (bstr xv2), .string (bstr xn2), .slice q5 xs.length c5]) ∧ Below wr.drew.heap.size wr.drew w') :=
          (HIH.out (.mk xk xv2 xn2 xs) _ P wr.drew (by omega) (by omega) HR.out (fun b hb => Nat.lt_of_lt_of_le (hP b hb) (Nat.le_trans HI.out.size HBd.out.size))).mono fun r w' ⟨v5, h1, h2, h3⟩ => by
            obtain ⟨q5, c5, rfl, _⟩ := h2.form
            exact ⟨q5, c5, h1, h2, h3⟩
        have HC4 := Lib.hid (HC.out.later HBd.out)
        have HAC : Hid ((ks.take i).length + 1 ≤ 1000000) := by show _ ≤ _; omega
        have HTK : Hid (ks.take (i + 1) = ks.take i ++ [.mk xk xv2 xn2 xs]) := by show _ = _; rw [take_snocE hlt, ← HX.out]
        have HTL := Lib.hid htl
        clear hl hr hxs hxd htl
        go_wp2_with fail
        go_region_law (first
          | (refine step_exO rfl (.tmp 20) (.tmp 27) rfl rfl HTR.out rfl HAB.out HRE.out HAC.out HBS.out ?_; intro v6 w6 h6 b6; obtain ⟨q6, c6, hv6⟩ := h6.form; rw [List.length_append, List.length_singleton, HTL.out] at hv6; subst hv6; have HF := Lib.hid (HC6.out.row h6 b6); have z3 := (HC6.out.2.2.1.below b6 (by omega)).cell 3; have z4 := (HC6.out.2.2.1.below b6 (by omega)).free 3; simp only [List.getElem?_cons_zero, List.getElem?_cons_succ] at z3; clear h6 b6)
          | (go_simp; go_at_call 21; (with_reducible refine HIC.out.mono ?_); rintro r w5 ⟨q5, c5, rfl, r5, b5⟩; (try simp only []); have HC5 := Lib.hid (HC4.out.later b5); have HR5 : Hid (RdO (Sub (w.heap.size + 3) w5 (.slice qv i cv)) w5 (.mk xk xv2 xn2 xs) (.agg #[.int .i64 xk, .string (bstr xv2), .string (bstr xn2), .slice q5 xs.length c5])) := (r5.imp fun b hb => ⟨Nat.le_trans HC4.out.2.2.2.2.2 hb.1, hb.2, fun e => by (have h1 := HC4.out.2.2.2.1.blk e.symm); (have h2 := hb.1); omega⟩); have HB6 : Hid (Below w5.heap.size w5 (w5.alloc (.cells #[.int .i64 xk, .string (bstr xv2), .string (bstr xn2), .slice q5 xs.length c5] 24))) := ((Below.refl _ _).alloc (Nat.le_refl _) _); have HC6 := Lib.hid (HC5.out.later HB6.out); have HTR := Lib.hid HC6.out.2.2.2.1; have HAB : Hid (Arr (w5.alloc (.cells #[.int .i64 xk, .string (bstr xv2), .string (bstr xn2), .slice q5 xs.length c5] 24)) 24 w5.heap.size [.int .i64 xk, .string (bstr xv2), .string (bstr xn2), .slice q5 xs.length c5]) := (Arr.new' _ _ _ _ rfl); have HRE : Hid (RdO (Sub (w.heap.size + 3) (w5.alloc (.cells #[.int .i64 xk, .string (bstr xv2), .string (bstr xn2), .slice q5 xs.length c5] 24)) (.slice qv i cv)) (w5.alloc (.cells #[.int .i64 xk, .string (bstr xv2), .string (bstr xn2), .slice q5 xs.length c5] 24)) (.mk xk xv2 xn2 xs) (.agg #[.int .i64 xk, .string (bstr xv2), .string (bstr xn2), .slice q5 xs.length c5])) := ((HR5.out.below HB6.out fun b hb => hb.2.1).imp fun b hb => ⟨hb.1, Nat.lt_of_lt_of_le hb.2.1 HB6.out.size, hb.2.2⟩); have HBS : Hid (w.heap.size + 3 ≤ (w5.alloc (.cells #[.int .i64 xk, .string (bstr xv2), .string (bstr xn2), .slice q5 xs.length c5] 24)).heap.size) := HC6.out.2.2.2.2.2; have y3 := HC5.out.2.2.1.cell 3; have y6 := HC6.out.2.2.1.cell 3; simp only [List.getElem?_cons_zero, List.getElem?_cons_succ] at y3 y6; clear r5 b5))
        all_goals
          go_wp2_with fail
          go_roundw
          case rel => exact ⟨i + 1, _, by omega, by go_num, by rw [HTK.out]; exact HF.out⟩
          case measure => simp [intOf]; omega
      · have hi1 : ¬ (i : Int) < ks.length := by omega
        have HK2 : Hid (ks.take i = ks) := List.take_of_length_le (by omega)
        obtain rfl : i = ks.length := by omega
        have HC2 := HC.out
        rw [HK2.out] at HC2
        have HC3 := Lib.hid HC2
        have hr0 := HC2.2.1.cell 0
        have hr1 := HC2.2.1.cell 1
        have hr2 := HC2.2.1.cell 2
        have hr3 := HC2.2.1.cell 3
        have hp0 := HC2.2.1.free 0
        have hp1 := HC2.2.1.free 1
        have hp2 := HC2.2.1.free 2
        have hp3 := HC2.2.1.free 3
        simp only [List.getElem?_cons_zero, List.getElem?_cons_succ] at hr0 hr1 hr2 hr3
        clear HC2 htl HC
        go_wp2_with fail
        have hA := HC3.out.2.1.set4 (.int .i64 k) (.string (bstr xv)) (.string (bstr xn)) (.slice qv ks.length cv)
        have hB := below_set4 (g := w.heap.size + 1) HC3.out.2.2.2.2.1 (by omega) (.int .i64 k) (.string (bstr xv)) (.string (bstr xn)) (.slice qv ks.length cv)
        have hE := ORow.set4 (g := w.heap.size + 1) HC3.out.2.2.2.1 (by omega) (.int .i64 k) (.string (bstr xv)) (.string (bstr xn)) (.slice qv ks.length cv)
        refine bodyPost_ret (resE rfl hA rfl) rfl ⟨_, rfl, ?_, hB⟩
        exact (hE.rd k xv xn).imp fun b hb => ⟨by have := hb.1; omega, hb.2⟩
end Go.Proofs.YtigphejoekfclaaDoor
