/-
  What the rows' condition on package-level variables gives the walks, and that a world meets it.
-/
import Derived.Test.YtnbeeahfohfgoaaDoorFltQ
import Derived.Lib.LaidTab
import Derived.Deep.Strs
import Derived.Lib.SmallJoins
import Derived.Test.YtnbeeahfohfgoaaDoorRows
import Derived.ProofKit
import Derived.LaidMore
import Derived.LaidHandle
import Derived.OpenShut
import Derived.Stop.Joined
import Derived.HandedShaped
import Derived.ChangeMaps
namespace Go.Proofs.YtnbeeahfohfgoaaDoor
open Go.ChangeShapes Go.WideShapes Go.ChangeAt Go.RowKit
set_option linter.unusedVariables false

def laidL : List (String × DataW Unit) := [("math/bits.deBruijn32tab", Rows.laid_math_bits_deBruijn32tab), ("math/bits.deBruijn64tab", Rows.laid_math_bits_deBruijn64tab), ("internal/strconv.uint64pow10", Rows.laid_internal_strconv_uint64pow10), ("errors.errorType", Rows.laid_errors_errorType), ("vestry/fault.names", Rows.laid_vestry_fault_names)]

theorem own : ownKnob Tryd.prog.godebug = none := by kernel_rfl
theorem laidOut : laidOutB Tryd.prog = true := by kernel_rfl
theorem gErr : Tryd.prog.globalNamed "errors.errorType" = some 1 := by kernel_rfl
theorem gNam : Tryd.prog.globalNamed "vestry/fault.names" = some 0 := by kernel_rfl
theorem tNam : (Tryd.prog.globals[0]?).map (·.type) = some 60 := by kernel_rfl
theorem gPow : Tryd.prog.globalNamed "internal/strconv.uint64pow10" = some 2 := by kernel_rfl
theorem tPow : (Tryd.prog.globals[2]?).map (·.type) = some 98 := by kernel_rfl
theorem cellsU : Tryd.prog.cellsOf 90 = 1 := by kernel_rfl
theorem cellsP : Tryd.prog.cellsOf 98 = 20 := by kernel_rfl
theorem rtyp : (Tryd.prog.cutTypes.find? (·.1 == "internal/reflectlite.rtype")).map (·.2) = some 65 := by kernel_rfl
theorem nTypes : ∃ n, Tryd.prog.types.size = n ∧ ((List.range n).filter fun t => Tryd.prog.rowNamed t [101, 114, 114, 111, 114]) = [28] := ⟨_, rfl, by kernel_rfl⟩
theorem errHandle : typeHandle Tryd.prog 28 = .pointer (some ⟨5, 28, none⟩) := by kernel_rfl
theorem cells9 : Tryd.prog.cellsOf 9 = 1 := by kernel_rfl

/-- The heap that the door's own run leaves meets the condition. -/
theorem door_met (os : Os) (args : Array Value) : laidMetH Tryd.prog laidL ((World.doorLaid Tryd.prog 400 os).forCall (fun _ _ => 0) ⟨#[], args, []⟩).memory :=
  laidMetH_of_parts3 (fuel := 8) (laidMet_of_run' 8 (by kernel_rfl) (by kernel_rfl)) (by kernel_rfl) (by kernel_rfl)

def names17 : List (List UInt8) := [[], [115, 104, 111, 114, 116], [108, 111, 110, 103], [109, 105, 110, 105, 109, 97, 108], [99, 104, 101, 99, 107, 115, 117, 109], [110, 97, 109, 101], [115, 121, 110, 116, 97, 120], [100, 101, 112, 116, 104], [117, 110, 107, 110, 111, 119, 110], [116, 121, 112, 101], [100, 117, 112, 108, 105, 99, 97, 116, 101], [111, 114, 100, 101, 114], [116, 97, 103], [118, 101, 114, 115, 105, 111, 110], [115, 116, 97, 116, 101], [108, 105, 109, 105, 116], [116, 114, 97, 105, 108, 105, 110, 103]]
theorem cell_of_name {H : Type} {enc : TypeId × Value → H} {P : Program} {w : World} {base : Nat} {sp : Nat → Bool} {held : Bool} {fuel : Nat} {t e : TypeId} {n : Nat} {cs : List Value} {zs : List (List UInt8)} {p : List MemPlace}
    (ht : P.underlying t = some (.array n e)) (he : P.underlying e = some .string) (hce : P.cellsOf e = 1)
    (h : DataW.trod enc P w base sp held fuel t cs = some (.agg (zs.map fun z => .lit (.string z)), p)) (i : Nat) (hi : i < n) (z : List UInt8) (hz : zs[i]? = some z) : cs[i]? = some (.string ⟨z.toArray⟩) := by
  obtain ⟨xs, m, _, hx, hl, hlen, hel⟩ := DataW.trod_array ht h
  have h1 := hel i hi
  rw [hce, Nat.mul_one] at h1
  have hb : xs[i]? = some xs[i] := List.getElem?_eq_getElem (by omega)
  rw [hb] at h1
  obtain ⟨s, hc, hb', _⟩ := DataW.trod_string he h1
  have h3 : xs.map (·.1) = zs.map fun z => (DataW.lit (.string z) : DataW H) := by
    have := congrArg Prod.fst hx
    simp only [DataW.agg.injEq] at this
    exact this.symm
  have h2 : (xs.map (·.1))[i]? = some (xs[i]).1 := by rw [List.getElem?_map, hb]; rfl
  rw [h3, List.getElem?_map, hz, hb'] at h2
  simp only [Option.map_some, Option.some.injEq, DataW.lit.injEq, Lit.string.injEq] at h2
  have h4 : cs[i]? = some (.string s) := by
    have := congrArg (·[0]?) hc
    simpa [List.getElem?_take, List.getElem?_drop] using this
  rw [h4, h2]

set_option maxRecDepth 100000 in
theorem env_of_laid {W : World} (h : laidMetH Tryd.prog laidL W) : EnvF W := by
  have h' : laidMet Tryd.prog [("math/bits.deBruijn32tab", Rows.laid_math_bits_deBruijn32tab), ("math/bits.deBruijn64tab", Rows.laid_math_bits_deBruijn64tab), ("internal/strconv.uint64pow10", Rows.laid_internal_strconv_uint64pow10), ("vestry/fault.names", Rows.laid_vestry_fault_names)] W ∧ handlesMet Tryd.prog [("errors.errorType", Rows.laid_errors_errorType)] W := h
  obtain ⟨⟨ps, ⟨g1, t1, cs1, f1, p1, q1, _, _, _, _, ⟨g2, t2, cs2, f2, p2, q2, _, _, _, _, ⟨g3, t3, cs3, f3, p3, q3, hg3, ht3, hv3, hd3, ⟨g4, t4, cs4, f4, p4, q4, hg4, ht4, hv4, hd4, _, _⟩, _⟩, _⟩, _⟩, _⟩, h2⟩ := h'
  refine ⟨?_, ?_, ?_⟩
  · obtain ⟨name, u, ty, k1, k2, k3, k4, k5⟩ := h2 _ (List.mem_singleton.2 rfl)
    have en : name = [101, 114, 114, 111, 114] := (Option.some.inj k1).symm
    subst en
    obtain rfl := Option.some.inj (rtyp.symm.trans k2)
    obtain ⟨n, hn, hone⟩ := nTypes
    have hm : ty ∈ (List.range n).filter fun t => Tryd.prog.rowNamed t [101, 114, 114, 111, 114] := List.mem_filter.2 ⟨List.mem_range.2 (by rw [← hn]; exact k3), k4⟩
    rw [hone] at hm
    obtain rfl := List.mem_singleton.1 hm
    rw [errHandle] at k5
    have k6 := World.var?_cell gErr k5 0
    show errAs.ErrT W
    unfold errAs.ErrT
    simpa using k6
  · obtain rfl := Option.some.inj (gNam.symm.trans hg4)
    obtain rfl := Option.some.inj (tNam.symm.trans ht4)
    have hd' : DataW.trod (fun _ => ()) Tryd.prog W 0 (fun _ => true) false f4 60 cs4.toList = some (.agg (names17.map fun z => .lit (.string z)), p4) := hd4
    have e7 := cell_of_name Tryd.underlying60 Tryd.underlying9 cells9 hd' 7 (by decide) [100, 101, 112, 116, 104] rfl
    have e12 := cell_of_name Tryd.underlying60 Tryd.underlying9 cells9 hd' 12 (by decide) [116, 97, 103] rfl
    have v7 := World.var?_cell hg4 hv4 7
    have v12 := World.var?_cell hg4 hv4 12
    rw [Array.getElem?_toList] at e7 e12
    exact ⟨v7.trans e7, v12.trans e12⟩
  · obtain rfl := Option.some.inj (gPow.symm.trans hg3)
    obtain rfl := Option.some.inj (tPow.symm.trans ht3)
    have hd' : DataW.trod (fun _ => ()) Tryd.prog W 0 (fun _ => true) false f3 98 cs3.toList = some (Lib.tabData .u64 Lib.pow10Tab, p3) := by
      have e : (Rows.laid_internal_strconv_uint64pow10 : DataW Unit) = Lib.tabData .u64 Lib.pow10Tab := by kernel_rfl
      rw [← e]; exact hd3
    show Lib.TabIs _ _ _ _ _
    unfold Lib.TabIs
    rw [hv3, ← Lib.cells_of_tab Tryd.underlying98 Tryd.underlying90 cellsU cellsP hd']

section
variable {H : Type} {enc : TypeId × Value → H}
/-- The wrap of a row with a condition on memory, the world's shape kept. -/
theorem wrap_and {a : Assume} {C : Checked} {os : Os} {f : FuncId} {fn : Func} {s : ChangeSpec} {conds : List PathCond} {apart fresh handsOn again : Bool} {X : World → Array Value → Prop}
    (hX : ∀ (w w' : World) (args : Array Value), w.heap = w'.heap → X w args → X w' args)
    (own : ownKnob C.prog.godebug = none) (started : os.Started) (noInit : C.prog.inits.idxOf? f = none) (hfn : C.prog.funcs[f]? = some fn)
    (witness : ∃ (w : World) (tape : Tape) (i : Input), w.os = os ∧ (w.forCall tape i).Shaped C.prog ∧ i.vars = [] ∧ Input.okWide C.prog (w.forCall tape i) .any w.heap.size f i ∧
      ((s.pre enc C.prog fn conds apart (w.forCall tape i).memory i.args ∧ X (w.forCall tape i).memory i.args) ∧ sizedMet enc C.prog fn (OpenSpec.ofChange s) apart (w.forCall tape i).memory i.args) ∧ a.holds C.prog (lone (Frame.enter C.prog f i.args .normal) [] (w.forCall tape i)))
    (contract : ∀ (W : World) (base : Nat) (args : Array Value) (ds gs : List (DataW H)) (before : List MemPlace),
      (∀ (j : Nat) t v, fn.params[j]? = some t → args[j]? = some v → Value.okWide C.prog W .any base t v) →
      DataW.Whole enc C.prog fn.params.toList s.vars apart W args.toList ds gs before →
      W.ShapedOpen C.prog → X W args →
      Calls C.prog f args W fun e W' => ∃ v, e = .returned v ∧ s.post enc C.prog fn apart fresh handsOn again W args v W') :
    ReturnsInHanded a C os f .any (fun w args => (s.pre enc C.prog fn conds apart w args ∧ X w args) ∧ sizedMet enc C.prog fn (OpenSpec.ofChange s) apart w args) (s.post enc C.prog fn apart fresh handsOn again) := by
  refine returnsInHanded_of_calls own started noInit witness ?_
  intro w tape i _ hsh _ hok hpre _
  obtain ⟨_, _, _, fn', hfn', _, _, _, _, hval⟩ := hok
  have e : fn' = fn := Option.some.inj (hfn'.symm.trans hfn)
  subst e
  obtain ⟨⟨⟨ds, gs, before, hw, _⟩, hx⟩, _⟩ := hpre
  have hw' := DataW.Whole.of_heap (w' := w.forCall tape i) (by rfl) hw
  refine (contract (w.forCall tape i) w.heap.size i.args ds gs before hval hw' hsh (hX _ _ _ (by rfl) hx)).mono fun e W' ⟨v, he, hp⟩ => ?_
  subst he
  exact ChangeSpec.post_blind hp
end
theorem array5 {α : Type} {cs : Array α} (h : cs.size = 5) : ∃ c0 c1 c2 c3 c4, cs = #[c0, c1, c2, c3, c4] := by
  obtain ⟨l⟩ := cs
  match l, h with
  | [c0, c1, c2, c3, c4], _ => exact ⟨c0, c1, c2, c3, c4, rfl⟩
def DescOk (W : World) (sl : Value) (l : List ByteArray) (c : Int) : Prop := Strs W sl l ∧ l.length ≤ 9223372036854775807 ∧ -9223372036854775808 ≤ c ∧ c ≤ 9223372036854775807
theorem desc_cells : Tryd.prog.cellsOf 24 = 5 := by kernel_rfl
theorem desc_strs {H : Type} {enc : TypeId × Value → H} {W : World} {n : Nat} {v : Value} {x : DataW H × List MemPlace} (h : DataW.trod enc Tryd.prog W 0 (fun _ => true) true n 22 [v] = some x) :
    ∃ l : List ByteArray, Strs W v l ∧ l.length ≤ 9223372036854775807 := by
  rcases Deep.open_strs Tryd.underlying22 Tryd.underlying9 cells9 h with ⟨hv, _⟩ | ⟨a, len, cap, m, Sx, hv, _, hl, hm, hmm, _, hc⟩
  · obtain rfl : v = .slice none 0 0 := by simpa using hv
    exact ⟨[], .inl ⟨_, rfl, rfl⟩, by simp⟩
  · obtain rfl : v = .slice (some a) len cap := by simpa using hv
    have hmc : m = cap := by rw [hmm]; simp
    subst hmc
    have hmax : maxLen ≤ 9223372036854775807 := by decide
    refine ⟨(List.range len).map Sx, ?_, by simp; omega⟩
    by_cases h0 : m = 0
    · subst h0
      obtain rfl : len = 0 := by omega
      exact .inl ⟨_, rfl, rfl⟩
    · obtain ⟨b, off, spot⟩ := a
      have hc0 := (hc 0 (by omega)).1
      have hspot : spot = none := by simpa [Addr.add] using World.cell?_spot hc0
      subst hspot
      have hb := World.block_lt_of_cell? W _ hc0
      refine .inr ⟨b, off, m, by simp, by simpa [Addr.add] using hb, fun j hj => ?_⟩
      have hj' : j < len := by simpa using hj
      have := (hc j (by omega)).1
      by_cases hz : j = 0
      · subst hz; simpa [Addr.add] using this
      · simpa [Addr.add, hz] using this
theorem i64_of {n : Int} (h : (Lit.int .i64 n).wf = true) : -9223372036854775808 ≤ n ∧ n ≤ 9223372036854775807 := by simpa [Lit.wf, IntKind.min, IntKind.max, IntKind.signed, IntKind.bits] using h
theorem i32_of {n : Int} (h : (Lit.int .i32 n).wf = true) : -2147483648 ≤ n ∧ n ≤ 2147483647 := by simpa [Lit.wf, IntKind.min, IntKind.max, IntKind.signed, IntKind.bits] using h
set_option maxRecDepth 100000 in
theorem open_desc {H : Type} {enc : TypeId × Value → H} {W : World} {base : Nat} {v : Value} {d : DataW H} {p : List MemPlace} (hv : Value.okWide Tryd.prog W .any base 24 v) (h : DataW.Trod enc Tryd.prog W 0 (fun _ => true) true 24 v d p) :
    ∃ (nl : Bool) (sl : Value) (l : List ByteArray) (c a : Int) (f : Bool), v = errD nl sl c a f ∧ DescOk W sl l c := by
  obtain ⟨cs, rfl, hsz⟩ := okWide_struct Tryd.underlying24 hv
  obtain ⟨c0, c1, c2, c3, c4, rfl⟩ := array5 (hsz.trans desc_cells)
  obtain ⟨fuel, hf⟩ := h
  obtain ⟨xs, n, _, _, _, hlen, hel⟩ := DataW.trod_struct Tryd.underlying24 hf
  have hlen' : xs.length = 5 := hlen
  have at' : ∀ i (hi : i < 5), ∃ x, xs[i]? = some x := fun i hi => ⟨xs[i], List.getElem?_eq_getElem (by omega)⟩
  have k0 := hel 0 _ rfl
  have k1 := hel 1 _ rfl
  have k2 := hel 2 _ rfl
  have k3 := hel 3 _ rfl
  have k4 := hel 4 _ rfl
  obtain ⟨x0, e0⟩ := at' 0 (by omega)
  obtain ⟨x1, e1⟩ := at' 1 (by omega)
  obtain ⟨x2, e2⟩ := at' 2 (by omega)
  obtain ⟨x3, e3⟩ := at' 3 (by omega)
  obtain ⟨x4, e4⟩ := at' 4 (by omega)
  rw [e0] at k0
  rw [e1] at k1
  rw [e2] at k2
  rw [e3] at k3
  rw [e4] at k4
  obtain ⟨nl, h0, _⟩ := DataW.trod_bool Tryd.underlying4 (show DataW.trod enc Tryd.prog W 0 (fun _ => true) true n 4 [c0] = some x0 from k0)
  obtain ⟨l, h1, hl⟩ := desc_strs (show DataW.trod enc Tryd.prog W 0 (fun _ => true) true n 22 [c1] = some x1 from k1)
  obtain ⟨c, h2, _, wc⟩ := DataW.trod_int Tryd.underlying3 (show DataW.trod enc Tryd.prog W 0 (fun _ => true) true n 3 [c2] = some x2 from k2)
  obtain ⟨a, h3, _, wa⟩ := DataW.trod_int Tryd.underlying3 (show DataW.trod enc Tryd.prog W 0 (fun _ => true) true n 3 [c3] = some x3 from k3)
  obtain ⟨f, h4, _⟩ := DataW.trod_bool Tryd.underlying4 (show DataW.trod enc Tryd.prog W 0 (fun _ => true) true n 4 [c4] = some x4 from k4)
  obtain rfl : c0 = .bool nl := by simpa using h0
  obtain rfl : c2 = .int .i64 c := by simpa using h2
  obtain rfl : c3 = .int .i64 a := by simpa using h3
  obtain rfl : c4 = .bool f := by simpa using h4
  exact ⟨nl, c1, l, c, a, f, rfl, h1, hl, i64_of wc⟩
end Go.Proofs.YtnbeeahfohfgoaaDoor
