/-
  An api.Member and an api.Allowed among the arguments, opened.
-/
import Derived.Test.YtijokgddfcfcbaaDoorScI
import Derived.Test.YtijokgddfcfcbaaDoorExV
import Derived.Deep.Slices
import Derived.Deep.Fields
import Derived.ChangeSame
import Derived.SizedLaws
import Derived.HandedShaped
import Derived.OpenShut
namespace Go.Proofs.YtijokgddfcfcbaaDoor
open Go.ChangeShapes Go.WideShapes Go.ChangeAt Go.RowKit Go.Deep
set_option linter.unusedVariables false
section
variable {H : Type} {enc : TypeId × Value → H}
theorem cellsMem : Tryd.prog.cellsOf 27 = 7 := by kernel_rfl
theorem cellsAl : Tryd.prog.cellsOf 29 = 2 := by kernel_rfl
theorem list7 {α : Type} {l : List α} (h : l.length = 7) : ∃ a b c d e f g, l = [a, b, c, d, e, f, g] := by
  match l, h with
  | [a, b, c, d, e, f, g], _ => exact ⟨a, b, c, d, e, f, g, rfl⟩
theorem list2 {α : Type} {l : List α} (h : l.length = 2) : ∃ a b, l = [a, b] := by
  match l, h with
  | [a, b], _ => exact ⟨a, b, rfl⟩
set_option maxRecDepth 100000 in
/-- The row of types behind a slice. -/
theorem rdP_open {w : World} {fuel : Nat} {c2 : Value} {x : DataW H × List MemPlace} (h : DataW.trod enc Tryd.prog w 0 (fun _ => true) true fuel 22 [c2] = some x) :
    ∃ (q : Option Addr) (ts : List Al) (c : Nat), c2 = .slice q ts.length c ∧ RdP w q ts.length ts := by
  rcases DataW.trod_slice Tryd.underlying22 h with ⟨hc, hx3⟩ | ⟨a, len, cap, elems, rest, m, hnm, hc, hx3, _, hlc, hel, hel3, hat, _, _⟩
  · obtain rfl : c2 = .slice none 0 0 := by simpa using hc
    exact ⟨none, [], 0, rfl, rfl, fun h => absurd h (by simp)⟩
  · obtain rfl : c2 = .slice (some a) len cap := by simpa using hc
    have key : ∀ i, ∃ t : Al, i < len → w.cell? ((a.add (i * 2)).add 0) = some (.string t.1) ∧ w.cell? ((a.add (i * 2)).add 1) = some (.string t.2) := by
      intro i
      by_cases hil : i < len
      · have h1 := hat i hil
        have hy : elems[i]? = some (elems[i]'(by omega)) := List.getElem?_eq_getElem (by omega)
        rw [hy, cellsAl] at h1
        obtain ⟨cs', hc1, hc2⟩ := Option.bind_eq_some_iff.1 h1
        obtain ⟨_, hcl4, hcat⟩ := World.cells?_some hc1
        obtain ⟨v0, v1, rfl⟩ := list2 hcl4
        obtain ⟨xs, n, _, _, _, hlen, hf⟩ := DataW.trod_struct Tryd.underlying29 hc2
        obtain ⟨x0, x1, rfl⟩ := list2 (show xs.length = 2 from hlen)
        have k0 := hf 0 _ rfl
        have k1 := hf 1 _ rfl
        obtain ⟨s1, e1, y1, _⟩ := DataW.trod_string Tryd.underlying9 (show DataW.trod enc Tryd.prog w 0 (fun _ => true) true n 9 [v0] = some x0 from k0)
        obtain ⟨s2, e2, y2, _⟩ := DataW.trod_string Tryd.underlying9 (show DataW.trod enc Tryd.prog w 0 (fun _ => true) true n 9 [v1] = some x1 from k1)
        obtain rfl : v0 = .string s1 := by simpa using e1
        obtain rfl : v1 = .string s2 := by simpa using e2
        exact ⟨(s1, s2), fun _ => ⟨hcat 0 (by omega), hcat 1 (by omega)⟩⟩
      · exact ⟨al0, fun h => absurd h hil⟩
    obtain ⟨f, hf2⟩ := Classical.axiomOfChoice key
    have hlenf : ((List.range len).map f).length = len := by simp
    have hget : ∀ i, i < len → ((List.range len).map f).getD i al0 = f i := fun i h => by
      rw [List.getD_eq_getElem?_getD, List.getElem?_map, List.getElem?_range h]; rfl
    refine ⟨some a, (List.range len).map f, cap, by rw [hlenf], rfl, fun h0 => ?_⟩
    rw [hlenf] at h0
    obtain ⟨b, off, spot⟩ := a
    have hc0 := (hf2 0 h0).1
    have hspot : spot = none := by simpa [Addr.add] using World.cell?_spot hc0
    subst hspot
    have hb := World.block_lt_of_cell? w _ hc0
    refine ⟨b, off, rfl, by simpa [Addr.add] using hb, fun i hi => ?_⟩
    rw [hlenf] at hi
    rw [hget i hi]
    obtain ⟨g0, g1⟩ := hf2 i hi
    have ea : ∀ j, (((⟨b, off, none⟩ : Addr).add (i * 2)).add j) = ⟨b, off + i * 2 + j, none⟩ := fun j => by
      unfold Addr.add; split <;> split <;> simp_all
    rw [ea] at g0 g1
    exact ⟨g0, g1⟩
set_option maxRecDepth 100000 in
theorem member_open {w : World} {base : Nat} {v : Value} {d : DataW H} {p : List MemPlace} (hv : Value.okWide Tryd.prog w .any base 27 v) (h : DataW.Trod enc Tryd.prog w 0 (fun _ => true) true 27 v d p) :
    ∃ (nm : ByteArray) (k : Int) (q : Option Addr) (ts : List Al) (c : Nat) (ek : Int) (ev en : ByteArray) (eq : Option Addr) (en2 ec : Nat), v = .agg #[.string nm, .int .i64 k, .slice q ts.length c, .int .i64 ek, .string ev, .string en, .slice eq en2 ec] ∧ RdP w q ts.length ts := by
  obtain ⟨cs, rfl, hsz⟩ := okWide_struct Tryd.underlying27 hv
  obtain ⟨fuel, hf⟩ := h
  have hf' : DataW.trod enc Tryd.prog w 0 (fun _ => true) true fuel 27 cs.toList = some (d, p) := hf
  obtain ⟨xs, n, _, _, _, hlen, hel⟩ := DataW.trod_struct Tryd.underlying27 hf'
  rw [cellsMem] at hsz
  obtain ⟨c0, c1, c2, c3, c4, c5, c6, hcs⟩ := list7 (show cs.toList.length = 7 by simpa using hsz)
  rw [hcs] at hel
  obtain ⟨x0, x1, x2, x3, rfl⟩ := list4 (show xs.length = 4 from hlen)
  have k0 := hel 0 _ rfl
  have k1 := hel 1 _ rfl
  have k2 := hel 2 _ rfl
  have k3 := hel 3 _ rfl
  obtain ⟨nm, e0, _, _⟩ := DataW.trod_string Tryd.underlying9 (show DataW.trod enc Tryd.prog w 0 (fun _ => true) true n 9 [c0] = some x0 from k0)
  obtain ⟨k, e1, _, _⟩ := DataW.trod_int Tryd.underlying3 (show DataW.trod enc Tryd.prog w 0 (fun _ => true) true n 3 [c1] = some x1 from k1)
  obtain ⟨q, ts, c, rfl, hr⟩ := rdP_open (show DataW.trod enc Tryd.prog w 0 (fun _ => true) true n 22 [c2] = some x2 from k2)
  obtain ⟨e, he, _⟩ := rdE_open n [c3, c4, c5, c6] x3.1 x3.2 (show DataW.trod enc Tryd.prog w 0 (fun _ => true) true n 25 [c3, c4, c5, c6] = some (x3.1, x3.2) from k3)
  obtain ⟨eq, ec, hv4, _⟩ := he.form
  obtain ⟨ek, ev, en, ks⟩ := e
  unfold exv at hv4
  simp only [Ex.kind, Ex.via, Ex.nm, Ex.kids, Value.agg.injEq, Array.mk.injEq, List.cons.injEq, and_true] at hv4
  obtain ⟨rfl, rfl, rfl, rfl⟩ := hv4
  obtain rfl : c0 = .string nm := by simpa using e0
  obtain rfl : c1 = .int .i64 k := by simpa using e1
  exact ⟨nm, k, q, ts, c, ek, _, _, eq, _, ec, congrArg Value.agg (Array.toList_inj.1 hcs), hr⟩
set_option maxRecDepth 100000 in
theorem allowed_open {w : World} {base : Nat} {v : Value} {d : DataW H} {p : List MemPlace} (hv : Value.okWide Tryd.prog w .any base 29 v) (h : DataW.Trod enc Tryd.prog w 0 (fun _ => true) true 29 v d p) :
    ∃ (x1 x2 : ByteArray), v = .agg #[.string x1, .string x2] := by
  obtain ⟨cs, rfl, hsz⟩ := okWide_struct Tryd.underlying29 hv
  obtain ⟨fuel, hf⟩ := h
  have hf' : DataW.trod enc Tryd.prog w 0 (fun _ => true) true fuel 29 cs.toList = some (d, p) := hf
  obtain ⟨xs, n, _, _, _, hlen, hel⟩ := DataW.trod_struct Tryd.underlying29 hf'
  rw [cellsAl] at hsz
  obtain ⟨c0, c1, hcs⟩ := list2 (show cs.toList.length = 2 by simpa using hsz)
  rw [hcs] at hel
  obtain ⟨x0, x1, rfl⟩ := list2 (show xs.length = 2 from hlen)
  have k0 := hel 0 _ rfl
  have k1 := hel 1 _ rfl
  obtain ⟨s0, e0, _, _⟩ := DataW.trod_string Tryd.underlying9 (show DataW.trod enc Tryd.prog w 0 (fun _ => true) true n 9 [c0] = some x0 from k0)
  obtain ⟨s1, e1, _, _⟩ := DataW.trod_string Tryd.underlying9 (show DataW.trod enc Tryd.prog w 0 (fun _ => true) true n 9 [c1] = some x1 from k1)
  obtain rfl : c0 = .string s0 := by simpa using e0
  obtain rfl : c1 = .string s1 := by simpa using e1
  exact ⟨s0, s1, congrArg Value.agg (Array.toList_inj.1 hcs)⟩
end
end Go.Proofs.YtijokgddfcfcbaaDoor
