/-
  A slice of tokens among the arguments: what it reads as, and how long its texts are.
-/
import Derived.Test.YtnhfcggecmncmaaDoorLexR
import Derived.Deep.Slices
import Derived.Deep.Fields
import Derived.ChangeSame
import Derived.SizedLaws
import Derived.HandedShaped
import Derived.OpenShut
namespace Go.Proofs.YtnhfcggecmncmaaDoor
open Go.ChangeShapes Go.WideShapes Go.ChangeAt Go.RowKit Go.Deep
set_option linter.unusedVariables false

section
variable {H : Type} {enc : TypeId × Value → H} {P : Program} {w : World} {base : Nat} {spare : Nat → Bool} {held : Bool}
theorem open_slice_fields {t e : TypeId} {fs : Array Field} {fuel : Nat} {cs : List Value} {x : DataW H × List MemPlace} (ht : P.underlying t = some (.slice e)) (he : P.underlying e = some (.struct fs))
    (hone : oneCellFields P fs = true) (hC : P.cellsOf e = fs.size) (h : DataW.trod enc P w base spare held fuel t cs = some x) :
    (cs = [.slice none 0 0] ∧ x = (.nil, [])) ∨
    ∃ (a : Addr) (len cap m : Nat) (D : Nat → DataW H) (Pl : Nat → List MemPlace), cs = [.slice (some a) len cap] ∧ base ≤ a.block ∧ len ≤ cap ∧ cap ≤ maxLen ∧ m = (if spare a.block then cap else len) ∧
      x = (.slice ((List.range len).map D) ((List.range (m - len)).map fun j => D (len + j)), MemPlace.row a (m * fs.size) ++ (List.range m).flatMap Pl) ∧
      ∀ i, i < m → ∃ (ys : List (DataW H × List MemPlace)) (n : Nat), D i = .agg (ys.map (·.1)) ∧ Pl i = ys.flatMap (·.2) ∧ ys.length = fs.size ∧
        ∀ (j : Nat) (f : Field), fs[j]? = some f → ∃ (v : Value) (y : DataW H × List MemPlace), w.cell? (a.add (i * fs.size + j)) = some v ∧ ys[j]? = some y ∧ DataW.trod enc P w base spare held n f.type [v] = some y := by
  rcases open_slice ht h with h0 | ⟨a, len, cap, m, n, D, Pl, hcs, hb, hl, hm, hmm, hx, hi⟩
  · exact .inl h0
  · refine .inr ⟨a, len, cap, m, D, Pl, hcs, hb, hl, hm, hmm, by rw [hC] at hx; exact hx, fun i him => ?_⟩
    obtain ⟨cs', hc, ht'⟩ := hi i him
    rw [hC] at hc
    obtain ⟨ys, n', hn', hy, hlen, hyl, hf⟩ := DataW.trod_struct he ht'
    obtain ⟨_, hcl, hat⟩ := World.cells?_some hc
    simp only [Prod.mk.injEq] at hy
    refine ⟨ys, n', hy.1, hy.2, hyl, fun j f hj => ?_⟩
    obtain ⟨ho, hk⟩ := hone_of hone j f hj
    have hjl : j < fs.size := (Array.getElem?_eq_some_iff.1 hj).1
    have hcell := hat j hjl
    have hv : cs'[j]? = some (cs'[j]'(by omega)) := List.getElem?_eq_getElem (by omega)
    have h1 := hf j f hj
    rw [ho, hk] at h1
    have hone' : (cs'.drop j).take 1 = [cs'[j]'(by omega)] := by
      rw [List.drop_eq_getElem_cons (by omega)]
      rfl
    rw [hone'] at h1
    have hys : ys[j]? = some (ys[j]'(by omega)) := List.getElem?_eq_getElem (by omega)
    refine ⟨_, _, ?_, hys, h1.trans hys⟩
    rw [← Go.Deep.add_add, hcell, hv]
end
section
variable {H : Type} {enc : TypeId × Value → H}
theorem weightsAll_mem {P : Program} {e : TypeId} : ∀ {l : List (DataW H)} {d : DataW H}, d ∈ l → ∀ n ∈ d.weights P e, n ∈ DataW.weightsAll P e l
  | [], _, h, _, _ => by cases h
  | d0 :: l, d, h, n, hn => by
    simp only [DataW.weightsAll, List.mem_append]
    rcases List.mem_cons.1 h with rfl | h
    · exact .inl hn
    · exact .inr (weightsAll_mem h n hn)
theorem tok_weights (k i : Lit) (b : List UInt8) : b.length ∈ DataW.weights Tryd.prog 37 (.agg [.lit k, .lit (.string b), .lit i] : DataW H) := by
  unfold DataW.weights
  rw [Tryd.underlying37]
  simp [DataW.weightsEach, DataW.weights]
theorem rdT_open {w : World} {v : Value} {d : DataW H} {p : List MemPlace} {fuel : Nat} (hf : DataW.trod enc Tryd.prog w 0 (fun _ => true) true fuel 28 [v] = some (d, p)) :
    ∃ ts : List Tok, RdT w.heap.size w v ts ∧ ((∀ n ∈ d.weights Tryd.prog 28, n ≤ reachBytes) → ∀ i, i < ts.length → (ts.getD i (0, [], 0)).2.1.length ≤ 140737488355328) := by
  rcases open_slice_fields Tryd.underlying28 Tryd.underlying37 (by kernel_rfl) (by kernel_rfl) hf with ⟨hcs, hx⟩ | ⟨a, len, cap, m, D, Pl, hcs, _, hlc, hcm, hm, hx, hi⟩
  · obtain rfl : v = .slice none 0 0 := by simpa using hcs
    exact ⟨[], ⟨none, 0, rfl, by simp, fun h => absurd h (by simp)⟩, fun _ i hi => absurd hi (by simp)⟩
  · obtain rfl : v = .slice (some a) len cap := by simpa using hcs
    simp only [if_true] at hm
    subst hm
    have key : ∀ i, ∃ t : Tok, i < len → (∀ j, j < 3 → w.cell? (a.add (i * 3 + j)) = (tkv t)[j]?) ∧ ∃ x y, D i = .agg [.lit x, .lit (.string t.2.1), .lit y] := by
      intro i
      by_cases hil : i < len
      · obtain ⟨ys, n, hD, _, hyl, hc⟩ := hi i (by omega)
        obtain ⟨v0, y0, c0, s0, t0⟩ := hc 0 _ rfl
        obtain ⟨v1, y1, c1, s1, t1⟩ := hc 1 _ rfl
        obtain ⟨v2, y2, c2, s2, t2⟩ := hc 2 _ rfl
        obtain ⟨k, e0, rfl, _⟩ := DataW.trod_int Tryd.underlying3 t0
        obtain ⟨s, e1, rfl, _⟩ := DataW.trod_string Tryd.underlying9 t1
        obtain ⟨o, e2, rfl, _⟩ := DataW.trod_int Tryd.underlying3 t2
        obtain rfl : v0 = .int .i64 k := by simpa using e0
        obtain rfl : v1 = .string s := by simpa using e1
        obtain rfl : v2 = .int .i64 o := by simpa using e2
        refine ⟨(k, s.data.toList, o), fun _ => ⟨fun j hj => ?_, .int .i64 k, .int .i64 o, ?_⟩⟩
        · unfold tkv
          rw [bstr_back]
          match j, hj with
          | 0, _ => exact c0
          | 1, _ => exact c1
          | 2, _ => exact c2
        · rw [hD]
          match ys, hyl with
          | [z0, z1, z2], _ =>
            simp only [List.getElem?_cons_zero, List.getElem?_cons_succ, Option.some.injEq] at s0 s1 s2
            subst s0; subst s1; subst s2
            rfl
      · exact ⟨(0, [], 0), fun h => absurd h hil⟩
    obtain ⟨f, hf2⟩ := Classical.axiomOfChoice key
    have hlen : ((List.range len).map f).length = len := by simp
    have hget : ∀ i, i < len → ((List.range len).map f).getD i (0, [], 0) = f i := fun i h => by
      rw [List.getD_eq_getElem?_getD, List.getElem?_map, List.getElem?_range h]; rfl
    refine ⟨(List.range len).map f, ⟨some a, m, by rw [hlen], by rw [hlen]; omega, fun h0 => ?_⟩, fun hw i h => ?_⟩
    · rw [hlen] at h0
      obtain ⟨b, off, spot⟩ := a
      have hc := (hf2 0 h0).1 0 (by omega)
      have hc' : w.cell? (Addr.add ⟨b, off, spot⟩ 0) = some (.int .i64 (f 0).1) := hc
      have hspot : spot = none := by simpa [Addr.add] using World.cell?_spot hc'
      subst hspot
      have hb := World.block_lt_of_cell? w _ hc'
      refine ⟨b, off, rfl, by simpa [Addr.add] using hb, fun i hi2 j hj => ?_⟩
      rw [hlen] at hi2
      rw [hget i hi2, ← (hf2 i hi2).1 j hj]
      have e : (⟨b, off, none⟩ : Addr).add (i * 3 + j) = ⟨b, off + (3 * i + j), none⟩ := by
        rw [show i * 3 + j = 3 * i + j by omega]
        unfold Addr.add; split <;> simp_all
      rw [e]
    · rw [hlen] at h
      rw [hget i h]
      obtain ⟨x, y, hD⟩ := (hf2 i h).2
      obtain ⟨rfl, _⟩ := Prod.mk.inj hx
      have h1 := hw (f i).2.1.length (by
        unfold DataW.weights
        rw [Tryd.underlying28]
        simp only [List.mem_cons, List.mem_append]
        refine .inr (.inl (weightsAll_mem (d := D i) (List.mem_map.2 ⟨i, List.mem_range.2 h, rfl⟩) _ ?_))
        rw [hD]
        exact tok_weights x y _)
      have h2 := reachBytes_lt
      omega
theorem wrap_sized {a : Assume} {C : Checked} {os : Os} {f : FuncId} {fn : Func} {s : ChangeSpec} {conds : List PathCond} {apart fresh handsOn again : Bool} {X : World → Array Value → Prop}
    (hX : ∀ (w w' : World) (args : Array Value), w.heap = w'.heap → X w args → X w' args)
    (own : ownKnob C.prog.godebug = none) (started : os.Started) (noInit : C.prog.inits.idxOf? f = none) (hfn : C.prog.funcs[f]? = some fn)
    (witness : ∃ (w : World) (tape : Tape) (i : Input), w.os = os ∧ (w.forCall tape i).Shaped C.prog ∧ i.vars = [] ∧ Input.okWide C.prog (w.forCall tape i) .any w.heap.size f i ∧
      ((s.pre enc C.prog fn conds apart (w.forCall tape i).memory i.args ∧ X (w.forCall tape i).memory i.args) ∧ sizedMet enc C.prog fn (OpenSpec.ofChange s) apart (w.forCall tape i).memory i.args) ∧ a.holds C.prog (lone (Frame.enter C.prog f i.args .normal) [] (w.forCall tape i)))
    (contract : ∀ (W : World) (base : Nat) (args : Array Value) (ds gs : List (DataW H)) (before : List MemPlace),
      (∀ (j : Nat) t v, fn.params[j]? = some t → args[j]? = some v → Value.okWide C.prog W .any base t v) →
      DataW.Whole enc C.prog fn.params.toList s.vars apart W args.toList ds gs before →
      W.ShapedOpen C.prog → X W args →
      (DataW.weightsEach C.prog (fn.params.toList ++ (OpenSpec.ofChange s).bare.plain.varTypes C.prog) (ds ++ gs)).all (· ≤ reachBytes) = true →
      Calls C.prog f args W fun e W' => ∃ v, e = .returned v ∧ s.post enc C.prog fn apart fresh handsOn again W args v W') :
    ReturnsInHanded a C os f .any (fun w args => (s.pre enc C.prog fn conds apart w args ∧ X w args) ∧ sizedMet enc C.prog fn (OpenSpec.ofChange s) apart w args) (s.post enc C.prog fn apart fresh handsOn again) := by
  refine returnsInHanded_of_calls own started noInit witness ?_
  intro w tape i _ hsh _ hok hpre _
  obtain ⟨_, _, _, fn', hfn', _, _, _, _, hval⟩ := hok
  have e : fn' = fn := Option.some.inj (hfn'.symm.trans hfn)
  subst e
  obtain ⟨⟨⟨ds, gs, before, hw, _⟩, hx⟩, hz⟩ := hpre
  have hw' := DataW.Whole.of_heap (w' := w.forCall tape i) (by rfl) hw
  refine (contract (w.forCall tape i) w.heap.size i.args ds gs before hval hw' hsh (hX _ _ _ (by rfl) hx) (hz.weights hw)).mono fun e W' ⟨v, he, hp⟩ => ?_
  subst he
  exact ChangeSpec.post_blind hp
end
end Go.Proofs.YtnhfcggecmncmaaDoor
