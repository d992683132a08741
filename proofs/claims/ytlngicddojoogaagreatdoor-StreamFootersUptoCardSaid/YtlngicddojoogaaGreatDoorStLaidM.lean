/-
  What the rows' condition on package-level variables gives the walks, and that a world meets it.
-/
import Derived.Test.YtlngicddojoogaaGreatDoorMt1
import Derived.Test.YtlngicddojoogaaGreatDoorRows
import Derived.ProofKit
import Derived.LaidMore
import Derived.LaidHandle
import Derived.OpenShut
import Derived.Stop.Joined
import Derived.HandedShaped
import Derived.ChangeMaps
namespace Go.Proofs.YtlngicddojoogaaGreatDoor
open Go.ChangeShapes Go.WideShapes Go.ChangeAt Go.RowKit
set_option linter.unusedVariables false

def laidP : List (String × DataW Unit) := [("vestry/sha.constants", Rows.laid_vestry_sha_constants), ("vestry/sha.start", Rows.laid_vestry_sha_start), ("vestry/name.reserved", Rows.laid_vestry_name_reserved)]
def laidL : List (String × DataW Unit) := [("vestry/sha.constants", Rows.laid_vestry_sha_constants), ("vestry/sha.start", Rows.laid_vestry_sha_start), ("errors.errorType", Rows.laid_errors_errorType), ("vestry/name.reserved", Rows.laid_vestry_name_reserved)]
theorem own : ownKnob Tryz.prog.godebug = none := by kernel_rfl
theorem laidOut : laidOutB Tryz.prog = true := by kernel_rfl
theorem gErr : Tryz.prog.globalNamed "errors.errorType" = some 1 := by kernel_rfl
theorem rtyp : (Tryz.prog.cutTypes.find? (·.1 == "internal/reflectlite.rtype")).map (·.2) = some 180 := by kernel_rfl
theorem nTypes : ∃ n, Tryz.prog.types.size = n ∧ ((List.range n).filter fun t => Tryz.prog.rowNamed t [101, 114, 114, 111, 114]) = [33] := ⟨_, rfl, by kernel_rfl⟩
theorem errHandle : typeHandle Tryz.prog 33 = .pointer (some ⟨5, 33, none⟩) := by kernel_rfl
theorem gCon : Tryz.prog.globalNamed "vestry/sha.constants" = some 2 := by kernel_rfl
theorem gSta : Tryz.prog.globalNamed "vestry/sha.start" = some 0 := by kernel_rfl
theorem tCon : (Tryz.prog.globals[2]?).map (·.type) = some 103 := by kernel_rfl
theorem tSta : (Tryz.prog.globals[0]?).map (·.type) = some 97 := by kernel_rfl
theorem cellsW : Tryz.prog.cellsOf 96 = 1 := by kernel_rfl
theorem cells64 : Tryz.prog.cellsOf 103 = 64 := by kernel_rfl
theorem cells8w : Tryz.prog.cellsOf 97 = 8 := by kernel_rfl
def wlits (l : List UInt32) : List (DataW Unit) := l.map fun x => .lit (.int .u32 x.toNat)
theorem conIs : (Rows.laid_vestry_sha_constants : DataW Unit) = .agg (wlits kk) := by kernel_rfl
theorem staIs : (Rows.laid_vestry_sha_start : DataW Unit) = .agg (wlits st0.list) := by kernel_rfl

/-- The heap that the door's own run leaves meets the condition. -/
theorem door_met (os : Os) (args : Array Value) : laidMetH Tryz.prog laidL ((World.doorLaid Tryz.prog 400 os).forCall (fun _ _ => 0) ⟨#[], args, []⟩).memory :=
  laidMetH_of_parts3 (fuel := 8) (laidMet_of_run' 8 (by kernel_rfl) (by kernel_rfl)) (by kernel_rfl) (by kernel_rfl)

theorem words_of_trod {W : World} {fuel n : Nat} {t : TypeId} {cs : Array Value} {p : List MemPlace} {l : List UInt32} (ht : Tryz.prog.underlying t = some (.array n 96)) (hc : Tryz.prog.cellsOf t = n) (hl : l.length = n)
    (h : DataW.trod (fun _ => ()) Tryz.prog W 0 (fun _ => true) false fuel t cs.toList = some (.agg (wlits l), p)) : cs.toList = wvs l := by
  obtain ⟨xs, m, rfl, hx, hlen, hn, hel⟩ := DataW.trod_array ht h
  rw [hc] at hlen
  rw [cellsW] at hel
  simp only [Prod.mk.injEq, DataW.agg.injEq] at hx
  apply List.ext_getElem
  · rw [hlen, wvs_length, hl]
  · intro i h1 h2
    have hi : i < n := by rw [hlen] at h1; exact h1
    have he := hel i hi
    rw [List.getElem?_eq_getElem (by omega)] at he
    obtain ⟨z, hz1, hz2, _⟩ := DataW.trod_int Tryz.underlying96 he
    have hxi : (xs[i]'(by omega)).1 = .lit (.int .u32 (l[i]'(by omega)).toNat) := by
      have e : (xs.map (·.1))[i]? = (wlits l)[i]? := by rw [hx.1]
      rw [List.getElem?_map, List.getElem?_eq_getElem (by omega)] at e
      simp only [wlits, List.getElem?_map, List.getElem?_eq_getElem (show i < l.length by omega), Option.map_some, Option.some.injEq] at e
      exact e
    rw [hz2] at hxi
    simp only [DataW.lit.injEq, Lit.int.injEq, true_and] at hxi
    rw [Nat.mul_one] at hz1
    have hd : (cs.toList.drop i).take 1 = [cs.toList[i]] := by rw [List.drop_eq_getElem_cons h1]; rfl
    rw [hd] at hz1
    have hz3 := List.head_eq_of_cons_eq hz1
    rw [hz3, hxi]
    simp [wvs, wv]
theorem arr_of_laid {W : World} {name : String} {g : Nat} {cs : Array Value} {l : List UInt32} (hg : Tryz.prog.globalNamed name = some g) (hv : W.var? Tryz.prog name = some cs) (hf : ∃ c t, W.heap[g]? = some (.cells c t (0, 0))) (hc : cs.toList = wvs l) : ∃ t, Arr W t g (wvs l) := by
  obtain ⟨c, t, hh⟩ := hf
  simp only [World.var?, hg, Option.bind_some, hh, Option.some.injEq] at hv
  subst hv
  refine ⟨t, ?_⟩
  show W.heap[g]? = _
  rw [hh, ← hc]
set_option maxRecDepth 100000 in
theorem sha_of_laid {W : World} (h : laidMet Tryz.prog laidP W) : Env W := by
  have h' : laidMet Tryz.prog laidP W := h
  obtain ⟨ps, ⟨g1, t1, cs1, f1, p1, q1, hg1, ht1, hv1, hd1, ⟨g0, t0, cs0, f0, p0, q0, hg0, ht0, hv0, hd0, ⟨g2, t2, cs2, f2, p2, q2, hg2, ht2, hv2, hd2, _, hq2⟩, hq1⟩, hps⟩, _, hcell⟩ := h'
  obtain rfl := Option.some.inj (gCon.symm.trans hg1)
  obtain rfl := Option.some.inj (tCon.symm.trans ht1)
  obtain rfl := Option.some.inj (gSta.symm.trans hg0)
  obtain rfl := Option.some.inj (tSta.symm.trans ht0)
  rw [conIs] at hd1
  rw [staIs] at hd0
  have e1 := words_of_trod Tryz.underlying103 cells64 (by rfl) hd1
  have e0 := words_of_trod Tryz.underlying97 cells8w (by rfl) hd0
  have n1 : cs1.size = 64 := by rw [← Array.length_toList, e1, wvs_length]; rfl
  have n0 : cs0.size = 8 := by rw [← Array.length_toList, e0, wvs_length]; rfl
  refine ⟨arr_of_laid gSta hv0 (hcell 0 0 ?_).1 e0, arr_of_laid gCon hv1 (hcell 2 0 ?_).1 e1⟩
  · rw [hps, hq1, n0]; simp [MemPlace.row]
  · rw [hps, n1]; simp [MemPlace.row]
set_option maxRecDepth 100000 in
theorem env_of_laid {W : World} (h : laidMetH Tryz.prog laidL W) : errAs.ErrT W ∧ Env W := by
  have h' : laidMet Tryz.prog laidP W ∧ handlesMet Tryz.prog [("errors.errorType", Rows.laid_errors_errorType)] W := h
  obtain ⟨h1, h2⟩ := h'
  refine ⟨?_, sha_of_laid h1⟩
  obtain ⟨name, u, ty, k1, k2, k3, k4, k5⟩ := h2 _ (List.mem_singleton.2 rfl)
  have en : name = [101, 114, 114, 111, 114] := (Option.some.inj k1).symm
  subst en
  obtain rfl := Option.some.inj (rtyp.symm.trans k2)
  obtain ⟨n, hn, hone⟩ := nTypes
  have hm : ty ∈ (List.range n).filter fun t => Tryz.prog.rowNamed t [101, 114, 114, 111, 114] := List.mem_filter.2 ⟨List.mem_range.2 (by rw [← hn]; exact k3), k4⟩
  rw [hone] at hm
  obtain rfl := List.mem_singleton.1 hm
  rw [errHandle] at k5
  have k6 := World.var?_cell gErr k5 0
  show errAs.ErrT W
  unfold errAs.ErrT
  simpa using k6

section
variable {H : Type} {enc : TypeId × Value → H}
/-- The wrap of a row with a condition on memory, the world's shape kept. -/
theorem wrap_and {a : Assume} {C : Checked} {os : Os} {f : FuncId} {fn : Func} {s : ChangeSpec} {conds : List PathCond} {apart fresh handsOn again : Bool} {X : World → Array Value → Prop}
    (hX : ∀ (w w' : World) (args : Array Value), w.heap = w'.heap → X w args → X w' args)
    (own : ownKnob C.prog.godebug = none) (started : os.Started) (noInit : C.prog.inits.idxOf? f = none) (hfn : C.prog.funcs[f]? = some fn)
    (witness : ∃ (w : World) (tape : Tape) (i : Input), w.os = os ∧ (w.forCall tape i).Shaped C.prog ∧ i.vars = [] ∧ Input.okWide C.prog (w.forCall tape i) .any w.heap.size f i ∧
      ((s.pre enc C.prog fn conds apart (w.forCall tape i).memory i.args ∧ X (w.forCall tape i).memory i.args) ∧ sizedMet enc C.prog fn (OpenSpec.ofChange s) apart (w.forCall tape i).memory i.args) ∧ a.holds C.prog (lone (Frame.enter C.prog f i.args .normal) [] (w.forCall tape i)))
    (contract : ∀ (W : World) (base : Nat) (args : Array Value) (ds gs : List (DataW H)) (before : List MemPlace),
      (∀ (j : Nat) t v, fn.params[j]? = some t → args[j]? = some v → Value.okWide C.prog W .any base t v) →
      DataW.Whole enc C.prog fn.params.toList s.vars apart W args.toList ds gs before →
      W.ShapedOpen C.prog → X W args →
      Calls C.prog f args W fun e W' => ∃ v, e = .returned v ∧ s.post enc C.prog fn apart fresh handsOn again W args v W') :
    ReturnsInHanded a C os f .any (fun w args => (s.pre enc C.prog fn conds apart w args ∧ X w args) ∧ sizedMet enc C.prog fn (OpenSpec.ofChange s) apart w args) (s.post enc C.prog fn apart fresh handsOn again) := by
  refine returnsInHanded_of_calls own started noInit witness ?_
  intro w tape i _ hsh _ hok hpre _
  obtain ⟨_, _, _, fn', hfn', _, _, _, _, hval⟩ := hok
  have e : fn' = fn := Option.some.inj (hfn'.symm.trans hfn)
  subst e
  obtain ⟨⟨⟨ds, gs, before, hw, _⟩, hx⟩, _⟩ := hpre
  have hw' := DataW.Whole.of_heap (w' := w.forCall tape i) (by rfl) hw
  refine (contract (w.forCall tape i) w.heap.size i.args ds gs before hval hw' hsh (hX _ _ _ (by rfl) hx)).mono fun e W' ⟨v, he, hp⟩ => ?_
  subst he
  exact ChangeSpec.post_blind hp
end
end Go.Proofs.YtlngicddojoogaaGreatDoor
