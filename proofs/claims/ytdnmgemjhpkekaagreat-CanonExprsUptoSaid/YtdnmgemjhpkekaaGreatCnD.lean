/-
  Expressions as the elements of a row: what is read of each, and what the row holds.
-/
import Derived.Test.YtdnmgemjhpkekaaGreatCnA
import Derived.Test.YtdnmgemjhpkekaaGreatCnB
import Derived.Test.YtdnmgemjhpkekaaGreatExE
import Derived.Test.YtdnmgemjhpkekaaGreatExX
import Derived.Test.YtdnmgemjhpkekaaGreatCaB
import Derived.Test.YtdnmgemjhpkekaaGreatShfE
import Derived.Shelf.SlSortCmp.WholeK
import Derived.Shelf.SlicesE.Clone
namespace Go.Proofs.YtdnmgemjhpkekaaGreat
open Go.ChangeShapes Go.WideShapes Go.ChangeAt Go.RowKit Go.Lib Go.Sort
set_option linter.unusedVariables false
set_option linter.unusedSectionVars false
set_option linter.unusedSimpArgs false

section
variable {α : Type} [Inhabited α] {enc : α → List Value} {k : Nat}
theorem flatG_len (hk : ∀ x, (enc x).length = k) : ∀ (l : List α), (l.flatMap enc).length = l.length * k
  | [] => by simp
  | x :: l => by rw [List.flatMap_cons, List.length_append, flatG_len hk l, hk, List.length_cons, Nat.succ_mul]; omega
theorem flat_getG (hk : ∀ x, (enc x).length = k) (hpos : 0 < k) : ∀ (l : List α) (t : Nat), (l.flatMap enc)[t]? = (l[t / k]?).bind fun x => (enc x)[t % k]?
  | [], t => by simp
  | x :: l, t => by
    rw [List.flatMap_cons]
    by_cases h : t < k
    · rw [List.getElem?_append_left (by rw [hk]; exact h), Nat.div_eq_of_lt h, Nat.mod_eq_of_lt h]; rfl
    · have h' : k ≤ t := Nat.le_of_not_lt h
      rw [List.getElem?_append_right (by rw [hk]; exact h'), hk, flat_getG hk hpos l (t - k), Nat.div_eq_sub_div hpos h', Nat.mod_eq_sub_mod h']; rfl
theorem flatK_listG (hk : ∀ x, (enc x).length = k) (hpos : 0 < k) (l : List α) : Go.Sort.flatK enc k l.toArray = (l.flatMap enc).toArray := by
  apply Array.ext_getElem?
  intro t
  rw [show ((l.flatMap enc).toArray)[t]? = (l.flatMap enc)[t]? from List.getElem?_toArray, flat_getG hk hpos]
  by_cases h : t < l.length * k
  · have h6 : t / k < l.length := Nat.div_lt_of_lt_mul (by rw [Nat.mul_comm]; exact h)
    have hm : t % k < (enc l[t / k]).length := by rw [hk]; exact Nat.mod_lt _ hpos
    rw [List.getElem?_eq_getElem h6, Option.bind_some, List.getElem?_eq_getElem hm, Go.Sort.flatK, Array.getElem?_map]
    rw [Array.getElem?_eq_getElem (by simpa using h), Option.map_some, Array.getElem_range]
    rw [show (l.toArray[t / k]! : α) = l[t / k] by simp [h6], List.getElem!_eq_getElem?_getD, List.getElem?_eq_getElem hm]; rfl
  · have h6 : l.length ≤ t / k := (Nat.le_div_iff_mul_le hpos).2 (by omega)
    rw [Array.getElem?_eq_none (by simpa using h), List.getElem?_eq_none h6]; rfl
theorem holds_of_rowG (hk : ∀ x, (enc x).length = k) (hpos : 0 < k) {w : World} {g : Nat} {cur : Array Value} {e : TypeId} {l : List α} (hb : w.heap[g]? = some (.cells cur e (0, 0))) (ht : cur.toList.take (l.length * k) = l.flatMap enc) : HoldsK enc k w g 0 l.toArray := by
  intro j hj
  have hj' : j < l.length * k := by simpa using hj
  refine ⟨?_, by simp [World.frozen?, hb]⟩
  have h1 : (cur.toList.take (l.length * k))[j]? = (l.flatMap enc)[j]? := by rw [ht]
  rw [List.getElem?_take_of_lt hj'] at h1
  simp only [World.cell?, hb, Nat.zero_add]
  simp only [Option.isSome_none, Bool.false_eq_true, if_false]
  rw [← Array.getElem?_toList, h1, flatK_listG hk hpos]
  have hlt : j < (l.flatMap enc).length := by rw [flatG_len hk]; exact hj'
  rw [List.getElem?_eq_getElem hlt]
  simp
  rw [List.getElem?_eq_getElem hlt]; rfl
theorem row_of_holdsG (hk : ∀ x, (enc x).length = k) (hpos : 0 < k) {w : World} {g : Nat} {l : List α} {d : Array α} (h : HoldsK enc k w g 0 d) (hl : l.length ≤ d.size) (he : ∀ i, i < l.length → l[i]? = some d[i]!) : w.rangeAt g 0 (l.flatMap enc) := fun j v hv => by
  have hj : j < l.length * k := by rw [← flatG_len hk]; exact (List.getElem?_eq_some_iff.1 hv).1
  have h6 : j / k < l.length := Nat.div_lt_of_lt_mul (by rw [Nat.mul_comm]; exact hj)
  have hm : j % k < k := Nat.mod_lt _ hpos
  rw [flat_getG hk hpos, he _ h6, Option.bind_some] at hv
  have h2 := (HoldsK.cell h (show j / k < d.size by omega) hm).1
  have := Nat.div_add_mod j k
  rw [Nat.mul_comm] at this
  rw [show 0 + j = 0 + j / k * k + j % k by omega, h2, List.getElem!_eq_getElem?_getD, hv]; rfl
theorem grownBy_sortG {w : World} {g n : Nat} {os : Array Obj} (d : Array α) : w.grownBy (sortWorldK enc k w g 0 n d os) (some g) := by
  refine ⟨rfl, rfl, rfl, by simp [sortWorldK, putRowK, putRow, mapBlock, Sort.ahead], fun k hk hne => ?_⟩
  unfold sortWorldK
  rw [heap_grow_old _ _ (by simpa [putRowK, putRow, mapBlock, Sort.ahead] using hk)]
  have : g ≠ k := fun e => hne (by rw [e])
  simp [putRowK, putRow, mapBlock, Sort.ahead, Array.getElem?_modify, this]
theorem swoG {β : Type} {o : β → β → Int} (H : OrdL o) (key : α → β) : SWO (ltOf fun x y => o (key x) (key y)) where
  irrefl x := by simp [ltOf, H.self]
  trans x y z h1 h2 := by
    simp only [ltOf, decide_eq_true_eq] at *
    exact H.up h1 h2
  ntrans x y z h1 h2 := by
    simp only [ltOf, decide_eq_false_iff_not] at *
    have f1 := H.flip (key x) (key y); have f2 := H.flip (key y) (key z); have f3 := H.flip (key x) (key z)
    have := H.le (a := key z) (b := key y) (c := key x) (by omega) (by omega)
    omega
end
theorem ordX : OrdL cmpE := ⟨fun _ _ h => cmpE_eq h, cmpE_self, cmpE_flip, fun _ _ _ h1 h2 => cmpE_up h1 h2⟩
instance : DecidableEq Ex := fun a b => if h : cmpE a b = 0 then .isTrue (cmpE_eq h) else .isFalse fun e => h (by rw [e]; exact cmpE_self b)
/-- An expression with the place of its kids. -/
abbrev Xr := Ex × Option Addr × Nat
def xcs (x : Xr) : List Value := [.int .i64 x.1.kind, .string (bstr x.1.via), .string (bstr x.1.nm), .slice x.2.1 x.1.kids.length x.2.2]
theorem xcs_exv (x : Xr) : Value.agg (xcs x).toArray = exv x.1 x.2.1 x.2.2 := rfl
/-- .. that is read. -/
structure Xs (P : Nat → Prop) (w : World) where
  x : Xr
  ok : RdE P w x.1 (exv x.1 x.2.1 x.2.2) ∧ sizeE x.1 ≤ 900000
def xenc {P : Nat → Prop} {w : World} (x : Xs P w) : List Value := xcs x.1
def xkey {P : Nat → Prop} {w : World} (x : Xs P w) : Ex := x.1.1
def x0 (P : Nat → Prop) (w : World) : Xs P w := ⟨(.mk 0 [] [] [], none, 0), by unfold RdE exv; exact ⟨none, 0, rfl, Nat.le_refl _, fun h => absurd h (by decide)⟩, by unfold sizeE sizeL; decide⟩
instance (P : Nat → Prop) (w : World) : Inhabited (Xs P w) := ⟨x0 P w⟩
theorem xenc_len {P : Nat → Prop} {w : World} (x : Xs P w) : (xenc x).length = 4 := rfl
theorem xenc_one {P : Nat → Prop} {w : World} (x : Xs P w) : ∀ v ∈ xenc x, v.oneCell' = true := fun v hv => by
  simp only [xenc, xcs, List.mem_cons, List.not_mem_nil, or_false] at hv
  rcases hv with rfl | rfl | rfl | rfl <;> rfl
theorem xs_of_cells {P : Nat → Prop} {w : World} : ∀ {ks : List Ex} {cs : List Value}, CellsL P w ks cs → sizeL ks ≤ 900000 → ∃ d : List (Xs P w), d.map xkey = ks ∧ d.flatMap xenc = cs
  | [], [], _, _ => ⟨[], rfl, rfl⟩
  | e :: r, v0 :: v1 :: v2 :: v3 :: cs, h, hs => by
    unfold sizeL at hs
    obtain ⟨q, c, e1, _⟩ := h.1.form
    have h1 := h.1
    rw [e1] at h1
    obtain ⟨d, h2, h3⟩ := xs_of_cells h.2 (by omega)
    refine ⟨⟨(e, q, c), h1, by show sizeE e ≤ _; omega⟩ :: d, by rw [List.map_cons, h2]; rfl, ?_⟩
    rw [List.flatMap_cons, h3]
    unfold exv at e1
    simp only [Value.agg.injEq, Array.mk.injEq, List.cons.injEq, and_true] at e1
    obtain ⟨rfl, rfl, rfl, rfl⟩ := e1
    rfl
  | [], _ :: _, h, _ => h.elim
  | _ :: _, [], h, _ => h.elim
  | _ :: _, [_], h, _ => h.elim
  | _ :: _, [_, _], h, _ => h.elim
  | _ :: _, [_, _, _], h, _ => h.elim
theorem cells_of_xs {P Q : Nat → Prop} {w w' : World} (hr : ∀ (e : Ex) (v : Value), RdE P w e v → RdE Q w' e v) : ∀ (d : List (Xs P w)), CellsL Q w' (d.map xkey) (d.flatMap xenc)
  | [] => trivial
  | x :: r => ⟨hr _ _ x.2.1, cells_of_xs hr r⟩
theorem grown_rd {P : Nat → Prop} {w w' : World} {g : Nat} (hg : w.grownBy w' (some g)) (hP : ∀ b, P b → b < w.heap.size ∧ b ≠ g) {e : Ex} {v : Value} (h : RdE P w e v) : RdE P w' e v :=
  h.keep fun b hb n => World.cell?_of_block (hg.block b (hP b hb).1 fun e => (hP b hb).2 (Option.some.inj e))
theorem cmpX {P : Nat → Prop} {w : World} {g size : Nat} (hP : ∀ b, P b → b < w.heap.size ∧ b ≠ g) : CmpLays Tryz.prog 34 #[] (xenc (P := P) (w := w)) 4 (fun x y => cmpE (xkey x) (xkey y)) g 0 size w := fun m os dk _ x y => by
  have hg : w.grownBy (sortWorldK xenc 4 w g 0 m dk os) (some g) := grownBy_sortG dk
  refine (ecompare_gw 900000 (Nat.le_refl _) x.1.1 y.1.1 _ _ P P _ x.2.2 y.2.2 (grown_rd hg hP x.2.1) (grown_rd hg hP y.2.1) (fun b hb => Nat.lt_of_lt_of_le (hP b hb).1 hg.size) (fun b hb => Nat.lt_of_lt_of_le (hP b hb).1 hg.size)).mono ?_
  rintro e w' ⟨rfl, hb, hd⟩
  exact ⟨rfl, exact_of hb hd⟩
end Go.Proofs.YtdnmgemjhpkekaaGreat
