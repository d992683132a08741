/-
  Rows of strings of the call's own; strings.Join of them.
-/
import Derived.Test.YtigphejoekfclaaDoorBstr
import Derived.Test.YtigphejoekfclaaDoorArr
import Derived.Test.YtigphejoekfclaaDoorShelf
import Derived.Maps.AppendAt
import Derived.Lib.Join
namespace Go.Proofs.YtigphejoekfclaaDoor
open Go.ChangeShapes Go.WideShapes Go.ChangeAt Go.RowKit
set_option linter.unusedVariables false

theorem join_snoc1 (x : List UInt8) (sep : List UInt8) : Lib.join ([] ++ [x]) sep = x := Lib.join_one x sep
theorem join_snoc {xs : List (List UInt8)} (h : xs ≠ []) (x sep : List UInt8) : Lib.join (xs ++ [x]) sep = (Lib.join xs sep ++ sep) ++ x := by
  cases xs with
  | nil => exact absurd rfl h
  | cons y r => rw [List.cons_append, Lib.join_cons, Lib.join_cons]; simp [Lib.joinTail]
/-- A slice of the call's own, of strings. -/
def StrRow (base : Nat) (w : World) (v : Value) (xs : List (List UInt8)) : Prop := w.ownsRow base 9 1 v xs.length (xs.map fun x => .string (bstr x))
theorem Tryd.infoStr : (Tryd.prog.info? 9).map (fun i => (i.zero, i.size, i.bytes)) = some (some (.string ByteArray.empty), 1, 16) := by kernel_rfl
theorem app_str {ops : Array Oper} {rest : List Oper} {o : Oper} {a : Act} {Q : Exit → Act → World → Prop} {w : World} (hgd : o.guard = none) (s x : Operand) (ho : o.op = .call { callee := .builtin .append, args := #[s, x], argTypes := #[42, 42] })
    {base n : Nat} {v : Value} {xs : List (List UInt8)} {t : List UInt8} (hs : a.eval s = v) (hown : StrRow base w v xs) (hx : a.eval x = .slice (some ⟨n, 0, none⟩) 1 1) (hc : Arr w 9 n [.string (bstr t)])
    (hlen : xs.length + 1 ≤ 1000000) (hbase : base ≤ w.heap.size)
    (h : ∀ v' w', StrRow base w' v' (xs ++ [t]) → Below base w w' → wpList Tryd.prog ops Q rest (a.put o.dst v') w') : wpList Tryd.prog ops Q (o :: rest) a w := by
  obtain ⟨i0, hi, hz0, hz1, hz2⟩ := info_parts Tryd.infoStr
  refine wpList_append_own w hgd s x 42 ho base 9 i0 _ 1 16 Tryd.underlying42 hi hz0 hz1 hz2 rfl (by decide) v xs.length _ hs hown ⟨n, 0, none⟩ 1 1 [.string (bstr t)] hx rfl ?_ (fun u hu => by obtain rfl := List.mem_singleton.1 hu; rfl) (by unfold maxLen; omega) (by omega) hbase ?_
  · intro j u hu
    have := hc.cell j
    rw [hu] at this
    cases j <;> simpa [Addr.add] using this
  · intro v' w' r1 r2 _
    refine h v' w' ?_ ((Below.refl _ _).grown r2 hbase (fun k hk => (hown.lt k hk).1))
    show w'.ownsRow base 9 1 v' (xs ++ [t]).length ((xs ++ [t]).map fun x => .string (bstr x))
    rw [List.length_append, List.map_append]
    exact r1
theorem StrRow.later {base : Nat} {w w' : World} {v : Value} {xs : List (List UInt8)} (h : StrRow base w v xs) (hb : Below w.heap.size w w') : StrRow base w' v xs := by
  refine ⟨h.1, ?_⟩
  rcases h.2 with h | ⟨g, cap, cur, rfl, h0, h1, r⟩
  · exact .inl h
  · exact .inr ⟨g, cap, cur, rfl, h0, (hb.block g (Array.getElem?_eq_some_iff.1 h1).1).trans h1, r⟩
theorem StrRow.join {base : Nat} {w : World} {v : Value} {xs : List (List UInt8)} (sep : List UInt8) (h : StrRow base w v xs) (hl : (Lib.join xs sep).length ≤ 1000000000) (hx : xs.length ≤ 1000000) :
    Calls Tryd.prog 45 #[v, .string (bstr sep)] w fun e w' => e = .returned (.string (bstr (Lib.join xs sep))) ∧ Below w.heap.size w w' := by
  rcases h.2 with ⟨rfl, hn⟩ | ⟨g, cap, cur, rfl, h0, h1, h2, h3, h4, h5⟩
  · obtain rfl : xs = [] := List.eq_nil_of_length_eq_zero hn
    exact (Tryd.strings_Join_none none 0 (bstr sep) w).mono fun e w' ⟨h1, h2⟩ => ⟨by rw [h1]; rfl, h2 ▸ Below.refl _ _⟩
  · have hm : (xs.map bstr).map (·.data.toList) = xs := by rw [List.map_map]; exact (List.map_congr_left fun a _ => rfl).trans (List.map_id xs)
    have hj := Tryd.strings_Join g 0 cap (xs.map bstr) (bstr sep) w (fun j x hx => by
      rw [Nat.zero_add, cell_of_row w g j cur _ (0, 0) h1, ← Array.getElem?_toList]
      have h6 : (xs.map fun x => Value.string (bstr x))[j]? = some (.string x) := by
        rw [List.getElem?_map] at hx ⊢
        cases hxj : xs[j]? with
        | none => rw [hxj] at hx; cases hx
        | some y => rw [hxj] at hx; simp at hx; simp [hx]
      have h7 := (List.getElem?_eq_some_iff.1 hx).1
      rw [← h6, ← h5, List.getElem?_take, if_pos (by simp at h7; omega)]) (Array.getElem?_eq_some_iff.1 h1).1 (by simp; omega) (by simp; omega) (by rw [hm, bstr_data]; exact Nat.le_trans hl (by omega))
    rw [hm, List.length_map, bstr_data] at hj
    exact hj
theorem StrRow.form {base : Nat} {w : World} {v : Value} {xs : List (List UInt8)} (h : StrRow base w v xs) : ∃ q c, v = .slice q xs.length c := by
  rcases h.2 with ⟨h, hn⟩ | ⟨g, cap, cur, hv, _⟩
  · exact ⟨none, 0, by rw [hn]; exact h⟩
  · exact ⟨_, _, hv⟩
end Go.Proofs.YtigphejoekfclaaDoor
