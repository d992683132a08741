/-
  A slice of structs among the arguments, opened, for any kind of element.
-/
import Derived.Test.YtebbbiikphfjcaaArr
import Derived.Deep.Slices
import Derived.Deep.Fields
import Derived.ChangeSame
import Derived.SizedLaws
import Derived.HandedShaped
import Derived.OpenShut
namespace Go.Proofs.Ytebbbiikphfjcaa
open Go.ChangeShapes Go.WideShapes Go.ChangeAt Go.RowKit Go.Deep
set_option linter.unusedVariables false

theorem flat_lenK {α : Type} {c : α → List Value} {k : Nat} (hc : ∀ t, (c t).length = k) : ∀ (l : List α), (l.flatMap c).length = l.length * k
  | [] => by simp
  | x :: l => by rw [List.flatMap_cons, List.length_append, flat_lenK hc l, List.length_cons, hc x, Nat.succ_mul]; omega
theorem flat_getK {α : Type} {c : α → List Value} {k : Nat} (hc : ∀ t, (c t).length = k) (hk : 0 < k) : ∀ (l : List α) (t : Nat), (l.flatMap c)[t]? = (l[t / k]?).bind fun x => (c x)[t % k]?
  | [], t => by simp
  | x :: l, t => by
    rw [List.flatMap_cons]
    by_cases h : t < k
    · rw [List.getElem?_append_left (by rw [hc]; exact h), Nat.div_eq_of_lt h, Nat.mod_eq_of_lt h]; rfl
    · have h2 : k ≤ t := Nat.le_of_not_lt h
      rw [List.getElem?_append_right (by rw [hc]; exact h2), hc, flat_getK hc hk l (t - k), Nat.div_eq_sub_div hk h2, Nat.mod_eq_sub_mod h2]; rfl
/-- The value v is a slice whose elements l lie as their cells c say; an empty one may point anywhere. -/
def RdS {α : Type} (c : α → List Value) (w : World) (v : Value) (l : List α) : Prop :=
  (v = .slice none 0 0 ∧ l = []) ∨ ∃ (a : Addr) (cap : Nat), v = .slice (some a) l.length cap ∧ l.length ≤ cap ∧ (0 < l.length → ∃ b off, a = ⟨b, off, none⟩ ∧ b < w.heap.size ∧ w.rangeAt b off (l.flatMap c))
theorem RdS.below {α : Type} {c : α → List Value} {w w' : World} {v : Value} {l : List α} (h : RdS c w v l) (hb : Below w.heap.size w w') : RdS c w' v l := by
  rcases h with h | ⟨a, cap, h1, h2, h3⟩
  · exact .inl h
  · refine .inr ⟨a, cap, h1, h2, fun h0 => ?_⟩
    obtain ⟨b, off, e, hlt, hr⟩ := h3 h0
    refine ⟨b, off, e, Nat.lt_of_lt_of_le hlt hb.size, fun j u hu => ?_⟩
    have := hr j u hu
    unfold World.cell? at this ⊢
    rw [hb.block b hlt]
    exact this
theorem flat_rowK {α : Type} {c : α → List Value} {k : Nat} (hc : ∀ t, (c t).length = k) (hk : 0 < k) {w : World} {b off : Nat} {l : List α} (h : w.rangeAt b off (l.flatMap c)) {i : Nat} (hi : i < l.length) : w.rangeAt b (off + i * k) (c l[i]) := fun j v hv => by
  have hj : j < k := by rw [← hc l[i]]; exact (List.getElem?_eq_some_iff.1 hv).1
  have h1 : (i * k + j) / k = i := by rw [Nat.mul_comm, Nat.mul_add_div hk, Nat.div_eq_of_lt hj, Nat.add_zero]
  have h2 : (i * k + j) % k = j := by rw [Nat.mul_comm, Nat.mul_add_mod, Nat.mod_eq_of_lt hj]
  have := h (i * k + j) v (by rw [flat_getK hc hk, h1, h2, List.getElem?_eq_getElem hi]; exact hv)
  rwa [← Nat.add_assoc] at this
/-- What a walk needs of a slice that is read: where its elements lie. -/
theorem RdS.form {α : Type} {c : α → List Value} {k : Nat} (hc : ∀ t, (c t).length = k) (hk : 0 < k) {w : World} {v : Value} {l : List α} (h : RdS c w v l) :
    ∃ p cap, v = .slice p l.length cap ∧ ∀ i, (hi : i < l.length) → ∃ b off, p = some ⟨b, off, none⟩ ∧ b < w.heap.size ∧ w.rangeAt b (off + i * k) (c l[i]) := by
  rcases h with ⟨h1, h2⟩ | ⟨a, cap, h1, h2, h3⟩
  · subst h1 h2
    exact ⟨none, 0, rfl, fun i hi => absurd hi (by simp)⟩
  · refine ⟨some a, cap, h1, fun i hi => ?_⟩
    obtain ⟨b, off, e, hlt, hr⟩ := h3 (by omega)
    exact ⟨b, off, by rw [e], hlt, flat_rowK hc hk hr hi⟩
section
variable {H : Type} {enc : TypeId × Value → H}
theorem wAll_mem {P : Program} {e : TypeId} : ∀ {l : List (DataW H)} {d : DataW H}, d ∈ l → ∀ n ∈ d.weights P e, n ∈ DataW.weightsAll P e l
  | [], _, h, _, _ => by cases h
  | d0 :: l, d, h, n, hn => by
    simp only [DataW.weightsAll, List.mem_append]
    rcases List.mem_cons.1 h with rfl | h
    · exact .inl hn
    · exact .inr (wAll_mem h n hn)
theorem sl_open {α : Type} (inh : α) {T E : TypeId} {k : Nat} (c : α → List Value) (hc : ∀ t, (c t).length = k) (hk : 0 < k) (R Sz : α → Prop) {w : World} (hT : Try.prog.underlying T = some (.slice E)) (hC : Try.prog.cellsOf E = k) (hB : 1 ≤ Try.prog.bytesOf E)
    (hE : ∀ (fuel : Nat) (cs : List Value) (d : DataW H) (p : List MemPlace), cs.length = k → DataW.trod enc Try.prog w 0 (fun _ => true) true fuel E cs = some (d, p) → ∃ t, cs = c t ∧ R t ∧ ((∀ n ∈ d.weights Try.prog E, n ≤ reachBytes) → Sz t))
    {v : Value} {d : DataW H} {p : List MemPlace} {fuel : Nat} (hf : DataW.trod enc Try.prog w 0 (fun _ => true) true fuel T [v] = some (d, p)) :
    ∃ l : List α, RdS c w v l ∧ (∀ t ∈ l, R t) ∧ ((∀ n ∈ d.weights Try.prog T, n ≤ reachBytes) → l.length ≤ 140737488355328 ∧ ∀ t ∈ l, Sz t) := by
  rcases open_slice hT hf with ⟨hcs, hx⟩ | ⟨a, len, cap, m, n, D, Pl, hcs, _, hlc, hcm, hm, hx, hi⟩
  · obtain rfl : v = .slice none 0 0 := by simpa using hcs
    exact ⟨[], .inl ⟨rfl, rfl⟩, fun t ht => absurd ht List.not_mem_nil, fun _ => ⟨by simp, fun t ht => absurd ht List.not_mem_nil⟩⟩
  · obtain rfl : v = .slice (some a) len cap := by simpa using hcs
    simp only [if_true] at hm
    subst hm
    have key : ∀ i, ∃ t : α, i < len → w.cells? 0 (a.add (i * k)) k = some (c t) ∧ R t ∧ ((∀ n ∈ (D i).weights Try.prog E, n ≤ reachBytes) → Sz t) := by
      intro i
      by_cases hil : i < len
      · obtain ⟨cs', h1, h2⟩ := hi i (by omega)
        rw [hC] at h1
        obtain ⟨t, rfl, hr, hs⟩ := hE _ _ _ _ (World.cells?_some h1).2.1 h2
        exact ⟨t, fun _ => ⟨h1, hr, hs⟩⟩
      · exact ⟨inh, fun h => absurd h hil⟩
    obtain ⟨f, hf2⟩ := Classical.axiomOfChoice key
    have hlen : ((List.range len).map f).length = len := by simp
    refine ⟨(List.range len).map f, .inr ⟨a, m, by rw [hlen], by rw [hlen]; omega, fun h0 => ?_⟩, fun t ht => ?_, fun hw => ⟨?_, fun t ht => ?_⟩⟩
    · rw [hlen] at h0
      obtain ⟨b, off, spot⟩ := a
      have hat0 := (World.cells?_some (hf2 0 h0).1).2.2 0 hk
      have hc0 : w.cell? (Addr.add ⟨b, off, spot⟩ 0) = (c (f 0))[0]? := by
        rw [← hat0, Go.Deep.add_add, Nat.zero_mul]
      rw [List.getElem?_eq_getElem (by rw [hc]; exact hk)] at hc0
      have hspot : spot = none := by simpa [Addr.add] using World.cell?_spot hc0
      subst hspot
      have hb := World.block_lt_of_cell? w _ hc0
      refine ⟨b, off, rfl, by simpa [Addr.add] using hb, fun j u hu => ?_⟩
      rw [flat_getK hc hk] at hu
      obtain ⟨x, hx1, hx2⟩ := Option.bind_eq_some_iff.1 hu
      have hlt : j / k < len := by rw [← hlen]; exact (List.getElem?_eq_some_iff.1 hx1).1
      rw [List.getElem?_map, List.getElem?_range hlt] at hx1
      obtain rfl : f (j / k) = x := by simpa using hx1
      have hat := (World.cells?_some (hf2 _ hlt).1).2.2 (j % k) (Nat.mod_lt _ hk)
      rw [hx2] at hat
      have hj : j / k * k + j % k = j := by rw [Nat.mul_comm]; exact Nat.div_add_mod j k
      rw [← hat, Go.Deep.add_add, hj, show (Addr.add ⟨b, off, none⟩ j) = ⟨b, off + j, none⟩ by cases j <;> simp [Addr.add]]
    · obtain ⟨i, hi1, rfl⟩ := List.mem_map.1 ht
      exact (hf2 i (List.mem_range.1 hi1)).2.1
    · obtain ⟨rfl, _⟩ := Prod.mk.inj hx
      have h1 := hw (((List.range len).map D).length + ((List.range (m - len)).map fun j => D (len + j)).length |>.mul (Try.prog.bytesOf E)) (by
        unfold DataW.weights
        rw [hT]
        exact List.mem_cons_self)
      have h2 := reachBytes_lt
      have h3 : ((List.range len).map D).length + ((List.range (m - len)).map fun j => D (len + j)).length ≤ (((List.range len).map D).length + ((List.range (m - len)).map fun j => D (len + j)).length) * Try.prog.bytesOf E := Nat.le_mul_of_pos_right _ hB
      have h4 : (((List.range len).map D).length + ((List.range (m - len)).map fun j => D (len + j)).length) * Try.prog.bytesOf E ≤ reachBytes := h1
      rw [hlen]
      simp only [List.length_map, List.length_range] at h3 h4
      omega
    · obtain ⟨i, hi1, rfl⟩ := List.mem_map.1 ht
      obtain ⟨rfl, _⟩ := Prod.mk.inj hx
      refine (hf2 i (List.mem_range.1 hi1)).2.2 fun n hn => hw n ?_
      unfold DataW.weights
      rw [hT]
      simp only [List.mem_cons, List.mem_append]
      exact .inr (.inl (wAll_mem (d := D i) (List.mem_map.2 ⟨i, hi1, rfl⟩) n hn))
end
end Go.Proofs.Ytebbbiikphfjcaa
