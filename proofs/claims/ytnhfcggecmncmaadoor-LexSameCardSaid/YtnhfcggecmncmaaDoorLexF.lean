/-
  Join of both packages; the law's back.
-/
import Derived.Test.YtnhfcggecmncmaaDoorLexE
namespace Go.Proofs.YtnhfcggecmncmaaDoor
open Go.ChangeShapes Go.WideShapes Go.ChangeAt Go.RowKit
set_option linter.unusedVariables false

def txts (ts : List Tok) : List (List UInt8) := (ts.filter fun t => decide (t.1 ≠ 3)).map (·.2.1)
def joinT (ts : List Tok) : List UInt8 := Lib.join (txts ts) [32]
theorem txts_end (ts : List Tok) (t : Tok) (h : t.1 = 3) : txts (ts ++ [t]) = txts ts := by simp [txts, h]
theorem txts_more (ts : List Tok) (t : Tok) (h : t.1 ≠ 3) : txts (ts ++ [t]) = txts ts ++ [t.2.1] := by simp [txts, h]
theorem take_snoc' {ts : List Tok} {k : Nat} (hk : k < ts.length) : ts.take (k + 1) = ts.take k ++ [ts.getD k (0, [], 0)] := by
  rw [List.take_succ_eq_append_getElem hk]
  simp [List.getD_eq_getElem?_getD, hk]
theorem join_snoc1 (x : List UInt8) (sep : List UInt8) : Lib.join ([] ++ [x]) sep = x := Lib.join_one x sep
theorem join_snoc {xs : List (List UInt8)} (h : xs ≠ []) (x sep : List UInt8) : Lib.join (xs ++ [x]) sep = (Lib.join xs sep ++ sep) ++ x := by
  cases xs with
  | nil => exact absurd rfl h
  | cons y r => rw [List.cons_append, Lib.join_cons, Lib.join_cons]; simp [Lib.joinTail]
theorem joinT_len (ts : List Tok) : ∀ k, k ≤ ts.length → (joinT (ts.take k)).length ≤ ((ts.take k).map fun t => t.2.1.length + 1).sum
  | 0, _ => by simp [joinT, txts, Lib.join_nil]
  | k + 1, h => by
    have ih := joinT_len ts k (by omega)
    rw [take_snoc' (by omega), List.map_append, List.sum_append]
    simp only [List.map_cons, List.map_nil, List.sum_cons, List.sum_nil]
    by_cases h3 : (ts.getD k (0, [], 0)).1 = 3
    · have e : joinT (ts.take k ++ [ts.getD k (0, [], 0)]) = joinT (ts.take k) := by unfold joinT; rw [txts_end _ _ h3]
      rw [e]; omega
    · unfold joinT at ih ⊢
      rw [txts_more _ _ h3]
      by_cases hn : txts (ts.take k) = []
      · rw [hn, join_snoc1]; omega
      · rw [join_snoc hn, List.length_append, List.length_append]; simp only [List.length_cons, List.length_nil]; omega
theorem sum_take_le (f : Tok → Nat) (ts : List Tok) (k : Nat) : ((ts.take k).map f).sum ≤ (ts.map f).sum := by
  have h : (ts.map f).sum = ((ts.take k).map f).sum + ((ts.drop k).map f).sum := by
    rw [← List.sum_append, ← List.map_append, List.take_append_drop]
  omega
/-- All the texts together are at most m. -/
def Fits (ts : List Tok) (m : Nat) : Prop := (ts.map fun t => t.2.1.length + 1).sum ≤ m
theorem Fits.join {ts : List Tok} {m : Nat} (h : Fits ts m) (k : Nat) (hk : k ≤ ts.length) : (joinT (ts.take k)).length ≤ m := Nat.le_trans (joinT_len ts k hk) (Nat.le_trans (sum_take_le _ ts k) h)
theorem Fits.text {ts : List Tok} {m : Nat} (h : Fits ts m) {k : Nat} (hk : k < ts.length) : (ts.getD k (0, [], 0)).2.1.length ≤ m := by
  have h1 := sum_take_le (fun t => t.2.1.length + 1) ts (k + 1)
  rw [take_snoc' hk, List.map_append, List.sum_append] at h1
  simp only [List.map_cons, List.map_nil, List.sum_cons, List.sum_nil] at h1
  unfold Fits at h
  omega
theorem bstr_app (a b : List UInt8) : bstr a ++ bstr b = bstr (a ++ b) := by
  apply bytes_inj
  show (bstr a ++ bstr b).data.toList = (bstr (a ++ b)).data.toList
  rw [ByteArray.data_append, Array.toList_append]; rfl
/-- A slice of the call's own, of strings. -/
def StrRow (base : Nat) (w : World) (v : Value) (xs : List (List UInt8)) : Prop := w.ownsRow base 9 1 v xs.length (xs.map fun x => .string (bstr x))
theorem Tryd.infoStr : (Tryd.prog.info? 9).map (fun i => (i.zero, i.size, i.bytes)) = some (some (.string ByteArray.empty), 1, 16) := by kernel_rfl
theorem app_str {ops : Array Oper} {rest : List Oper} {o : Oper} {a : Act} {Q : Exit → Act → World → Prop} {w : World} (hgd : o.guard = none) (s x : Operand) (ho : o.op = .call { callee := .builtin .append, args := #[s, x], argTypes := #[57, 57] })
    {base n : Nat} {v : Value} {xs : List (List UInt8)} {t : List UInt8} (hs : a.eval s = v) (hown : StrRow base w v xs) (hx : a.eval x = .slice (some ⟨n, 0, none⟩) 1 1) (hc : Arr w 9 n [.string (bstr t)])
    (hlen : xs.length + 1 ≤ 1000000) (hbase : base ≤ w.heap.size)
    (h : ∀ v' w', StrRow base w' v' (xs ++ [t]) → Below base w w' → wpList Tryd.prog ops Q rest (a.put o.dst v') w') : wpList Tryd.prog ops Q (o :: rest) a w := by
  obtain ⟨i0, hi, hz0, hz1, hz2⟩ := info_parts Tryd.infoStr
  refine wpList_append_own w hgd s x 57 ho base 9 i0 _ 1 16 Tryd.underlying57 hi hz0 hz1 hz2 rfl (by decide) v xs.length _ hs hown ⟨n, 0, none⟩ 1 1 [.string (bstr t)] hx rfl ?_ (fun u hu => by obtain rfl := List.mem_singleton.1 hu; rfl) (by unfold maxLen; omega) (by omega) hbase ?_
  · intro j u hu
    have := hc.cell j
    rw [hu] at this
    cases j <;> simpa [Addr.add] using this
  · intro v' w' r1 r2 _
    refine h v' w' ?_ ((Below.refl _ _).grown r2 hbase (fun k hk => (hown.lt k hk).1))
    show w'.ownsRow base 9 1 v' (xs ++ [t]).length ((xs ++ [t]).map fun x => .string (bstr x))
    rw [List.length_append, List.map_append]
    exact r1
theorem StrRow.later {base : Nat} {w w' : World} {v : Value} {xs : List (List UInt8)} (h : StrRow base w v xs) (hb : Below w.heap.size w w') : StrRow base w' v xs := by
  refine ⟨h.1, ?_⟩
  rcases h.2 with h | ⟨g, cap, cur, rfl, h0, h1, r⟩
  · exact .inl h
  · exact .inr ⟨g, cap, cur, rfl, h0, (hb.block g (Array.getElem?_eq_some_iff.1 h1).1).trans h1, r⟩
theorem StrRow.join {base : Nat} {w : World} {v : Value} {xs : List (List UInt8)} (h : StrRow base w v xs) (hl : (Lib.join xs [32]).length ≤ 1000000) (hx : xs.length ≤ 1000000) :
    Calls Tryd.prog 33 #[v, .string ⟨#[32]⟩] w fun e w' => e = .returned (.string (bstr (Lib.join xs [32]))) ∧ Below w.heap.size w w' := by
  rcases h.2 with ⟨rfl, hn⟩ | ⟨g, cap, cur, rfl, h0, h1, h2, h3, h4, h5⟩
  · obtain rfl : xs = [] := List.eq_nil_of_length_eq_zero hn
    exact (Tryd.strings_Join_none none 0 ⟨#[32]⟩ w).mono fun e w' ⟨h1, h2⟩ => ⟨by rw [h1]; rfl, h2 ▸ Below.refl _ _⟩
  · have hm : (xs.map bstr).map (·.data.toList) = xs := by rw [List.map_map]; exact (List.map_congr_left fun a _ => rfl).trans (List.map_id xs)
    have hj := Tryd.strings_Join g 0 cap (xs.map bstr) ⟨#[32]⟩ w (fun j x hx => by
      rw [Nat.zero_add, cell_of_row w g j cur _ (0, 0) h1, ← Array.getElem?_toList]
      have h6 : (xs.map fun x => Value.string (bstr x))[j]? = some (.string x) := by
        rw [List.getElem?_map] at hx ⊢
        cases hxj : xs[j]? with
        | none => rw [hxj] at hx; cases hx
        | some y => rw [hxj] at hx; simp at hx; simp [hx]
      have h7 := (List.getElem?_eq_some_iff.1 hx).1
      rw [← h6, ← h5, List.getElem?_take, if_pos (by simp at h7; omega)]) (Array.getElem?_eq_some_iff.1 h1).1 (by simp; omega) (by simp; omega) (by rw [hm]; exact Nat.le_trans hl (by omega))
    rw [hm, List.length_map] at hj
    exact hj

set_option maxRecDepth 100000 in
set_option maxHeartbeats 2000000 in
theorem back_any {B : Nat} {w : World} {va : Value} {ts : List Tok} (ha : RdT B w va ts) (hB : B ≤ w.heap.size) (hl : ts.length ≤ 900000) :
    Calls Tryd.prog 13 #[va] w fun e w' => ∃ v, e = .returned v ∧ TokRow w.heap.size 37 w' v ts ∧ Below w.heap.size w w' := by
  obtain ⟨qa, ca, rfl, _, ha⟩ := ha
  go_enter Tryd.func13, Tryd.ntmps13
  go_wp2_with fail
  go_loopw [3, 4] (fun v iv wr => ∃ k : Nat, k ≤ ts.length ∧ iv = .int .i64 k ∧ Hid (TokRow w.heap.size 37 wr v (ts.take k) ∧ Below w.heap.size w wr)) (fun _ iv _ => ts.length - (intOf iv).toNat)
  case atStart => exact ⟨0, Nat.zero_le _, rfl, TokRow.nil _ _ _, Below.refl _ _⟩
  case round =>
    obtain ⟨k, hk, rfl, HI⟩ := hrel
    obtain ⟨qv, cv, rfl, _⟩ := HI.out.1.form
    have hi0 : (0 : Int) ≤ k := by omega
    have htl : (ts.take k).length = k := by rw [List.length_take]; omega
    rw [htl]
    by_cases hlt : k < ts.length
    · have hi1 : (k : Int) < ts.length := by omega
      obtain ⟨ba, oa, rfl, hba, hca⟩ := ha (by omega)
      obtain ⟨x, hx⟩ : ∃ x, x = ts.getD k (0, [], 0) := ⟨_, rfl⟩
      obtain ⟨xk, xt, xo⟩ := x
      have x0 := hca k hlt 0 (by omega)
      have x1 := hca k hlt 1 (by omega)
      have x2 := hca k hlt 2 (by omega)
      rw [← hx] at x0 x1 x2
      have X0 : wr.cell? ⟨ba, oa + k * 3, none⟩ = some (.int .i64 xk) := by rw [show oa + k * 3 = oa + (3 * k + 0) by omega]; exact (HI.out.2.cell (by show ba < w.heap.size; omega)).trans x0
      have X1 : wr.cell? ⟨ba, oa + k * 3 + 1, none⟩ = some (.string (bstr xt)) := by rw [show oa + k * 3 + 1 = oa + (3 * k + 1) by omega]; exact (HI.out.2.cell (by show ba < w.heap.size; omega)).trans x1
      have X2 : wr.cell? ⟨ba, oa + k * 3 + 2, none⟩ = some (.int .i64 xo) := by rw [show oa + k * 3 + 2 = oa + (3 * k + 2) by omega]; exact (HI.out.2.cell (by show ba < w.heap.size; omega)).trans x2
      have HX := Lib.hid hx
      have HTK := Lib.hid htl
      have HAB : Hid (Arr (wr.alloc (.cells #[.int .i64 xk, .string (bstr xt), .int .i64 xo] 37)) 37 wr.heap.size (tkv (xk, xt, xo))) := Arr.new' _ _ _ _ rfl
      have HBA : Hid (Below wr.heap.size wr (wr.alloc (.cells #[.int .i64 xk, .string (bstr xt), .int .i64 xo] 37))) := (Below.refl _ _).alloc (Nat.le_refl _) _
      have HTR := HI.out.1.later HBA.out
      rw [htl] at HTR
      have HTR := Lib.hid HTR
      have HAC : Hid ((ts.take k).length + 1 ≤ 1000000) := by show _ ≤ _; omega
      have HBS : Hid (w.heap.size ≤ (wr.alloc (.cells #[.int .i64 xk, .string (bstr xt), .int .i64 xo] 37)).heap.size) := Nat.le_trans HI.out.2.size HBA.out.size
      clear hx hca x0 x1 x2 ha htl
      go_wp2_with (at_builtin; refine app_tokR rfl _ _ rfl rfl HTR.out rfl HAB.out HAC.out HBS.out ?_; intro v5 w5 h5 b5 g5)
      go_roundw
      case rel => exact ⟨k + 1, by omega, by go_num, by rw [take_snoc' hlt, ← HX.out]; exact h5, HI.out.2.trans ((HBA.out.mono HI.out.2.size).trans b5)⟩
      case measure => simp [intOf]; omega
    · have hi1 : ¬ (k : Int) < ts.length := by omega
      have HK : Hid (ts.take k = ts) := List.take_of_length_le (by omega)
      have HI2 := HI.out.1
      rw [HK.out] at HI2
      have HKL : Hid (k = ts.length) := by show _ = _; omega
      have HI3 := Lib.hid HI2
      clear ha htl HI2
      go_wp2_with fail
      go_ret
      exact ⟨_, rfl, by rw [HKL.out]; exact HI3.out, HI.out.2⟩
end Go.Proofs.YtnhfcggecmncmaaDoor
