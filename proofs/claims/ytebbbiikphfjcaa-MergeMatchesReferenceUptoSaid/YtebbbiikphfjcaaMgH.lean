/-
  The queue of lists: Push and Pop.
-/
import Derived.Test.YtebbbiikphfjcaaMgG
namespace Go.Proofs.Ytebbbiikphfjcaa
open Go.ChangeShapes Go.WideShapes Go.ChangeAt Go.RowKit
set_option linter.unusedVariables false

theorem infoTL_ : (Try.prog.info? 24).map (fun i => (i.zero, i.size, i.bytes)) = some (some (.slice none 0 0), 1, 24) := by kernel_rfl
theorem info_parts3 {P : Program} {t : TypeId} {z : Value} {s b : Nat} (h : (P.info? t).map (fun i => (i.zero, i.size, i.bytes)) = some (some z, s, b)) : ∃ i, P.info? t = some i ∧ i.zero = some z ∧ i.size = s ∧ i.bytes = b := by
  cases hi : P.info? t with
  | none => rw [hi] at h; cases h
  | some i =>
    rw [hi] at h
    simp only [Option.map_some, Option.some.injEq, Prod.mk.injEq] at h
    exact ⟨i, rfl, h.1, h.2.1, h.2.2⟩
theorem appL {ops : Array Oper} {rest : List Oper} {o : Oper} {a : Act} {Q : Exit → Act → World → Prop} {w : World} (hgd : o.guard = none) (s x : Operand) (ho : o.op = .call { callee := .builtin .append, args := #[s, x], argTypes := #[52, 52] })
    {base n m : Nat} {v u : Value} {xs : List Value} (hs : a.eval s = v) (hown : w.ownsRow base 24 1 v n xs) (hx : a.eval x = .slice (some ⟨m, 0, none⟩) 1 1) (hc : Arr w 24 m [u]) (hu : u.oneCell' = true)
    (hlen : n + 1 ≤ 1000000) (hbase : base ≤ w.heap.size)
    (h : ∀ v' w', w'.ownsRow base 24 1 v' (n + 1) (xs ++ [u]) → w.grownBy w' v.ownBlock → (v'.ownBlock = v.ownBlock ∨ v'.ownBlock = some w.heap.size) → wpList Try.prog ops Q rest (a.put o.dst v') w') : wpList Try.prog ops Q (o :: rest) a w := by
  obtain ⟨i0, hi, hz0, hz1, hz2⟩ := info_parts3 infoTL_
  refine wpList_append_own_at w hgd s x 52 ho base 24 i0 _ 1 24 Try.underlying52 hi hz0 hz1 hz2 rfl (by decide) v n xs hs hown ⟨m, 0, none⟩ 1 1 [u] hx rfl ?_ ?_ (by unfold maxLen; omega) (by omega) hbase ?_
  · intro j y hy
    have := hc.cell j
    rw [hy] at this
    cases j <;> simpa [Addr.add] using this
  · intro y hy
    rw [List.mem_singleton] at hy
    exact hy ▸ hu
  · intro v' w' r1 r2 _ r4
    exact h v' w' r1 r2 r4
theorem QS.apart {F : List (Nat × Obj)} {w0 w : World} {g c : Nat} {p : Option Addr} {ls : List (List Tu)} (h : QS F w0 g p c ls w) : ∀ k, (Value.slice p ls.length c).ownBlock = some k → w0.heap.size ≤ k ∧ k < w.heap.size ∧ k ≠ g := by
  obtain ⟨h1, h2, h3, vs, h4, h5, h6⟩ := h
  intro k hk
  refine ⟨(h4.lt k hk).1, (h4.lt k hk).2, ?_⟩
  rcases h4.2 with ⟨hv, _⟩ | ⟨gr, cap, cur, hv, hb, hg, _⟩
  · rw [hv] at hk; cases hk
  · rw [hv] at hk
    cases hk
    intro e
    change gr = g at e
    subst e
    have := h3.symm.trans hg
    simp only [Option.some.injEq, Obj.cells.injEq] at this
    exact absurd this.2.1 (by decide)
theorem own_formL {w : World} {base e size n : Nat} {v : Value} {xs : List Value} (h : w.ownsRow base e size v n xs) : ∃ q c, v = .slice q n c := by
  rcases h.2 with ⟨h1, h2⟩ | ⟨g, cap, cur, h1, _⟩
  · exact ⟨none, 0, by rw [h1, h2]⟩
  · exact ⟨_, _, h1⟩
theorem own_setq {w : World} {base e size n gq : Nat} {v : Value} {xs : List Value} (h : w.ownsRow base e size v n xs) (hne : ∀ k, v.ownBlock = some k → k ≠ gq) (u : Value) : (w.setCell ⟨gq, 0, none⟩ u).ownsRow base e size v n xs := by
  refine ⟨h.1, ?_⟩
  rcases h.2 with h0 | ⟨gr, cap, cur, hv, hb, hg, r⟩
  · exact .inl h0
  · exact .inr ⟨gr, cap, cur, hv, hb, (Below.heap_setCell w ⟨gq, 0, none⟩ u gr (hne gr (by rw [hv]; rfl))).trans hg, r⟩
set_option maxRecDepth 100000 in
set_option maxHeartbeats 4000000 in
theorem qpush_any {F : List (Nat × Obj)} {w0 w : World} {g c : Nat} {p : Option Addr} {ls : List (List Tu)} {v : Value} {l : List Tu} (h : QS F w0 g p c ls w) (hv : TuSl w0 v l) (hn : ls.length ≤ 10000) :
    Calls Try.prog 85 #[.pointer (some ⟨g, 0, none⟩), .iface 24 v] w fun e w' => e = .returned (.tuple #[]) ∧ ∃ p' c', QS F w0 g p' c' (ls ++ [l]) w' := by
  obtain ⟨q, m, rfl, _⟩ := hv.src
  have hta : ∀ w, (Instr.typeAssert (.iface 24 (.slice q l.length m)) 20 24 true).run Try.prog w = .ok (.tuple #[.slice q l.length m, .bool true]) w := fun _ => by kernel_rfl
  have hbx := h.box
  have hfr := h.free
  have HQ := Lib.hid h
  have HV := Lib.hid hv
  have HN := Lib.hid hn
  have hap := h.apart
  have HAP := Lib.hid hap
  obtain ⟨h1, h2, h3, vs, h4, h5, h6⟩ := h
  have ba : Below w.heap.size w (w.alloc (.cells #[.slice q l.length m] 24)) := (Below.refl _ _).alloc (Nat.le_refl _) _
  have HO := Lib.hid (own_keepG h4 ba)
  have HE : Hid (Arr (w.alloc (.cells #[.slice q l.length m] 24)) 24 w.heap.size [.slice q l.length m]) := Arr.new' _ _ _ _ rfl
  have HB := Lib.hid (h1.trans (ba.mono h1.size))
  have HG := Lib.hid (h3.later ba)
  have H5 := Lib.hid h5
  have H6 := Lib.hid h6
  have H2 := Lib.hid h2
  have HSZ := Lib.hid h1.size
  clear hv h1 h2 h3 h4 h5 h6 ba hap hn
  go_enter Try.func85, Try.ntmps85
  go_wp2_with (at_builtin; refine appL rfl _ _ rfl rfl HO.out rfl HE.out rfl (by have := HN.out; omega) (by have := HB.out.size; omega) ?_)
  intro v4 w4 r4 g4 k4
  have HB4 : Hid (Below w0.heap.size w0 w4) := HB.out.trans ((Below.refl _ _).grown g4 (by have := HB.out.size; omega) (fun k hk => (HAP.out k hk).1))
  have HG4 : Hid (Arr w4 54 g [.slice p ls.length c]) := (g4.block _ HG.out.lt (fun e => absurd rfl ((HAP.out _ e.symm).2.2))).trans HG.out
  obtain ⟨q4, c4, rfl⟩ := own_formL r4
  have HR4 := Lib.hid r4
  have HF4 : Hid (Frm F g q4 w4) := fun x hx => by
    obtain ⟨f1, f2, f3⟩ := H6.out x hx
    have fl := (Array.getElem?_eq_some_iff.1 f1).1
    refine ⟨(g4.block _ (by simp [World.size_alloc]; omega) (fun e => ?_)).trans ((Below.heap_alloc w _ x.1 fl).trans f1), f2, fun a ha => ?_⟩
    · cases hp : p with
      | none => rw [hp] at e; cases e
      | some a => rw [hp] at e; exact f3 a hp (Option.some.inj e)
    · subst ha
      rcases k4 with k4 | k4
      · cases hp : p with
        | none => rw [hp] at k4; cases k4
        | some b => rw [hp] at k4; have := Option.some.inj k4; rw [this]; exact f3 b hp
      · have := Option.some.inj k4
        rw [this]
        (try simp only [World.size_alloc]); omega
  have hb4 := HG4.out.cell 0
  have hf4 := HG4.out.free 0
  simp only [List.getElem?_cons_zero] at hb4
  clear r4 g4 k4 HO HE HB HG hbx hfr
  go_wp2_with fail
  go_end0
  refine ⟨rfl, q4, c4, HB4.out.setCell (p := ⟨g, 0, none⟩) H2.out _, H2.out, ?_, vs ++ [.slice q l.length m], ?_, ⟨by simp [H5.out.1], fun i v hi => ?_⟩, fun x hx => ?_⟩
  · rw [List.length_append]; exact HG4.out.set 0 _
  · rw [List.length_append]
    refine own_setq HR4.out ?_ _
    intro k hk e
    subst e
    rcases HR4.out.2 with ⟨hv, _⟩ | ⟨gr, cap, cur, hv, hb, hg, _⟩
    · rw [hv] at hk; cases hk
    · rw [hv] at hk
      cases hk
      have := HG4.out.symm.trans hg
      simp only [Option.some.injEq, Obj.cells.injEq] at this
      exact absurd this.2.1 (by decide)
  · have hl := H5.out.1
    by_cases e : i < vs.length
    · rw [List.getElem?_append_left e] at hi
      rw [List.getD_eq_getElem?_getD, List.getElem?_append_left (by omega), ← List.getD_eq_getElem?_getD]
      exact H5.out.2 i v hi
    · rw [List.getElem?_append_right (by omega)] at hi
      have e2 : i - vs.length = 0 := by
        have := (List.getElem?_eq_some_iff.1 hi).1
        simp at this; omega
      rw [e2] at hi
      simp only [List.getElem?_cons_zero, Option.some.injEq] at hi
      subst hi
      rw [List.getD_eq_getElem?_getD, List.getElem?_append_right (by omega), show i - ls.length = 0 by omega]
      exact HV.out
  · obtain ⟨f1, f2, f3⟩ := HF4.out x hx
    exact ⟨(Below.heap_setCell _ ⟨g, 0, none⟩ _ x.1 f2).trans f1, f2, f3⟩
set_option maxRecDepth 100000 in
set_option maxHeartbeats 4000000 in
theorem qpop_any {F : List (Nat × Obj)} {w0 w : World} {g c n : Nat} {p : Option Addr} {ls : List (List Tu)} (h : QS F w0 g p c ls w) (hn : ls.length = n + 1) (hm : n ≤ 100000) :
    Calls Try.prog 84 #[.pointer (some ⟨g, 0, none⟩)] w fun e w' => ∃ v, e = .returned (.iface 24 v) ∧ TuSl w0 v (ls.getD n []) ∧ QS F w0 g p c (ls.take n) w' := by
  obtain ⟨gr, v, rfl, hgb, hgl, hgn, ci, _, ti⟩ := h.at (i := n) (by omega)
  obtain ⟨q, m, rfl, _⟩ := ti.src
  have HTI := Lib.hid ti
  have hbx := h.box
  have hfr := h.free
  obtain ⟨h1, h2, h3, vs, h4, h5, h6⟩ := h
  have hnl : (n : Int) < ls.length := by omega
  have HP : Hid ((w.setCell ⟨g, 0, none⟩ (.slice (some ⟨gr, 0, none⟩) n c)).ownsRow w0.heap.size 24 1 (.slice (some ⟨gr, 0, none⟩) n c) n (vs.take n)) := by
    have hl : vs.length = n + 1 := by rw [h5.1, hn]
    rw [hn] at h4
    refine own_setq (ownsRow_pop (xs := vs.take n) (last := vs.drop n) (by rw [List.length_take, hl]; omega) (by rw [List.take_append_drop]; exact h4)) ?_ _
    intro k hk
    cases hk
    exact hgn
  have HB : Hid (Below w0.heap.size w0 (w.setCell ⟨g, 0, none⟩ (.slice (some ⟨gr, 0, none⟩) n c))) := h1.setCell (p := ⟨g, 0, none⟩) h2 _
  have HG : Hid (Arr (w.setCell ⟨g, 0, none⟩ (.slice (some ⟨gr, 0, none⟩) n c)) 54 g [.slice (some ⟨gr, 0, none⟩) n c]) := h3.set 0 _
  have H2 := Lib.hid h2
  have H5 := Lib.hid h5
  have H6 : Hid (Frm F g (some ⟨gr, 0, none⟩) (w.setCell ⟨g, 0, none⟩ (.slice (some ⟨gr, 0, none⟩) n c))) := fun x hx => by
    obtain ⟨f1, f2, f3⟩ := h6 x hx
    exact ⟨(Below.heap_setCell _ ⟨g, 0, none⟩ _ x.1 f2).trans f1, f2, f3⟩
  have hle : n + 1 ≤ c := by
    rcases h4.2 with ⟨hv, _⟩ | ⟨gr', cap, cur, hv, _, _, hc, _⟩
    · cases hv
    · cases hv; omega
  obtain ⟨L, hL⟩ : ∃ L, L = (ls.getD n []).length := ⟨_, rfl⟩
  rw [← hL] at HTI ci
  have HLN := Lib.hid hn
  rw [hn] at hbx
  clear h1 h2 h3 h4 h5 h6 ti hgb hgl hgn hnl hn hL
  have hw1 : wrap64 (((n + 1 : Nat) : Int) - 1) = (n : Int) := by unfold wrap64; omega
  go_enter Try.func84, Try.ntmps84
  go_wp2_with fail
  go_ret
  refine ⟨_, rfl, HTI.out, HB.out, H2.out, ?_, vs.take n, ?_, ⟨?_, fun i v hi => ?_⟩, H6.out⟩
  · rw [List.length_take, show min n ls.length = n by have := HLN.out; omega]; exact HG.out
  · rw [List.length_take, show min n ls.length = n by have := HLN.out; omega]; exact HP.out
  · rw [List.length_take, List.length_take, H5.out.1]
  · have hin : i < n := by have := (List.getElem?_eq_some_iff.1 hi).1; rw [List.length_take] at this; omega
    rw [List.getElem?_take_of_lt hin] at hi
    rw [List.getD_eq_getElem?_getD, List.getElem?_take_of_lt hin, ← List.getD_eq_getElem?_getD]
    exact H5.out.2 i v hi
end Go.Proofs.Ytebbbiikphfjcaa
