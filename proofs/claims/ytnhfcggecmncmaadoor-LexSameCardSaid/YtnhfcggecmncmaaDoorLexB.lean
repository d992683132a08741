/-
  Rows of tokens: appended to, read; lex.sign.
-/
import Derived.Test.YtnhfcggecmncmaaDoorLexA
import Derived.Test.YtnhfcggecmncmaaDoorArr
import Derived.Test.YtnhfcggecmncmaaDoorTold
import Derived.Deep.RegionHeld3
namespace Go.Proofs.YtnhfcggecmncmaaDoor
open Go.ChangeShapes Go.WideShapes Go.ChangeAt Go.RowKit
open errAs (ErrT)
set_option linter.unusedVariables false

def tkv (t : Tok) : List Value := [.int .i64 t.1, .string (bstr t.2.1), .int .i64 t.2.2]
def tks (ts : List Tok) : List Value := ts.flatMap tkv
theorem tks_length (ts : List Tok) : (tks ts).length = ts.length * 3 := by
  induction ts with
  | nil => rfl
  | cons t r ih => unfold tks at ih ⊢; rw [List.flatMap_cons, List.length_append, ih]; simp [tkv]; omega
theorem tks_snoc (ts : List Tok) (t : Tok) : tks (ts ++ [t]) = tks ts ++ tkv t := by unfold tks; simp
theorem tks_one (ts : List Tok) : ∀ u ∈ tks ts, u.oneCell' = true := by
  intro u hu
  obtain ⟨t, _, h⟩ := List.mem_flatMap.1 hu
  simp only [tkv, List.mem_cons, List.not_mem_nil, or_false] at h
  rcases h with rfl | rfl | rfl <;> rfl
theorem tks_at : ∀ (ts : List Tok) (i j : Nat), i < ts.length → j < 3 → (tks ts)[3 * i + j]? = (tkv (ts.getD i (0, [], 0)))[j]?
  | [], i, j, h, _ => by simp at h
  | t :: r, 0, j, h, hj => by
    unfold tks
    rw [List.flatMap_cons, List.getElem?_append_left (by simp [tkv]; omega)]
    simp
  | t :: r, i + 1, j, h, hj => by
    unfold tks
    rw [List.flatMap_cons, List.getElem?_append_right (by simp [tkv]; omega)]
    have h2 := tks_at r i j (by simpa using h) hj
    unfold tks at h2
    rw [show 3 * (i + 1) + j - (tkv t).length = 3 * i + j by simp [tkv]; omega, h2]
    simp
/-- v is a slice of the call's own, from base on, of the tokens ts. -/
def TokRow (base : Nat) (e : TypeId) (w : World) (v : Value) (ts : List Tok) : Prop := w.ownsRow base e 3 v ts.length (tks ts)
theorem TokRow.nil (base : Nat) (e : TypeId) (w : World) : TokRow base e w (.slice none 0 0) [] := World.ownsRow_nil _ _ _ _
theorem TokRow.later {base : Nat} {e : TypeId} {w w' : World} {v : Value} {ts : List Tok} (h : TokRow base e w v ts) (hb : Below w.heap.size w w') : TokRow base e w' v ts := by
  refine ⟨h.1, ?_⟩
  rcases h.2 with h | ⟨g, cap, cur, rfl, h0, h1, r⟩
  · exact .inl h
  · exact .inr ⟨g, cap, cur, rfl, h0, (hb.block g (Array.getElem?_eq_some_iff.1 h1).1).trans h1, r⟩
theorem TokRow.form {base : Nat} {e : TypeId} {w : World} {v : Value} {ts : List Tok} (h : TokRow base e w v ts) : ∃ q c, v = .slice q ts.length c ∧ (ts.length : Int) ≤ c := by
  rcases h.2 with ⟨h, hn⟩ | ⟨g, cap, cur, hv, _, _, hc, _⟩
  · exact ⟨none, 0, by rw [hn]; exact h, by omega⟩
  · exact ⟨_, _, hv, by omega⟩
theorem TokRow.blk {base : Nat} {e : TypeId} {w : World} {v : Value} {ts : List Tok} (h : TokRow base e w v ts) {b : Nat} (hb : v.ownBlock = some b) : b < w.heap.size := by
  rcases h.2 with ⟨h, _⟩ | ⟨g, cap, cur, hv, h0, hg, _⟩
  · rw [h] at hb; cases hb
  · rw [hv] at hb; cases hb; exact (Array.getElem?_eq_some_iff.1 hg).1
theorem TokRow.kept {base : Nat} {e : TypeId} {w w' : World} {v : Value} {ts : List Tok} {row : Option Nat} (h : TokRow base e w v ts) (hg : w.grownBy w' row) (hne : row = none ∨ row ≠ v.ownBlock) : TokRow base e w' v ts := by
  refine ⟨h.1, ?_⟩
  rcases h.2 with h | ⟨g, cap, cur, rfl, h0, h1, r⟩
  · exact .inl h
  · refine .inr ⟨g, cap, cur, rfl, h0, (hg.block g (Array.getElem?_eq_some_iff.1 h1).1 ?_).trans h1, r⟩
    rcases hne with rfl | hne
    · simp
    · exact fun e => hne e.symm
theorem TokRow.set {base : Nat} {e : TypeId} {w : World} {v : Value} {ts : List Tok} (h : TokRow base e w v ts) {a : Addr} (ha : a.block < base) (x : Value) : TokRow base e (w.setCell a x) v ts := by
  refine ⟨h.1, ?_⟩
  rcases h.2 with h | ⟨g, cap, cur, rfl, h0, h1, r⟩
  · exact .inl h
  · exact .inr ⟨g, cap, cur, rfl, h0, (Below.heap_setCell w a x g (by omega)).trans h1, r⟩
/-- v reads as the tokens ts. -/
def RdT (B : Nat) (w : World) (v : Value) (ts : List Tok) : Prop :=
  ∃ q c, v = .slice q ts.length c ∧ (ts.length : Int) ≤ c ∧ (0 < ts.length → ∃ b o, q = some ⟨b, o, none⟩ ∧ b < B ∧ ∀ i, i < ts.length → ∀ j, j < 3 → w.cell? ⟨b, o + (3 * i + j), none⟩ = (tkv (ts.getD i (0, [], 0)))[j]?)
theorem RdT.below {B C : Nat} {w w' : World} {v : Value} {ts : List Tok} (h : RdT B w v ts) (hb : Below C w w') (hC : B ≤ C) : RdT B w' v ts := by
  obtain ⟨q, c, h1, h2, h3⟩ := h
  refine ⟨q, c, h1, h2, fun h0 => ?_⟩
  obtain ⟨b, o, h4, h5, h6⟩ := h3 h0
  exact ⟨b, o, h4, h5, fun i hi j hj => (hb.cell (p := ⟨b, o + (3 * i + j), none⟩) (by show b < C; omega)).trans (h6 i hi j hj)⟩
theorem RdT.mono {B C : Nat} {w : World} {v : Value} {ts : List Tok} (h : RdT B w v ts) (hC : B ≤ C) : RdT C w v ts := by
  obtain ⟨q, c, h1, h2, h3⟩ := h
  refine ⟨q, c, h1, h2, fun h0 => ?_⟩
  obtain ⟨b, o, h4, h5, h6⟩ := h3 h0
  exact ⟨b, o, h4, by omega, h6⟩
theorem TokRow.rd {base : Nat} {e : TypeId} {w : World} {v : Value} {ts : List Tok} (h : TokRow base e w v ts) : RdT w.heap.size w v ts := by
  rcases h.2 with ⟨h, hn⟩ | ⟨g, cap, cur, hv, h0, hg, hc, h1, h2, h3⟩
  · exact ⟨none, 0, by rw [hn]; exact h, by omega, fun h => by omega⟩
  · refine ⟨_, cap, hv, by omega, fun h0 => ⟨g, 0, rfl, (Array.getElem?_eq_some_iff.1 hg).1, fun i hi j hj => ?_⟩⟩
    rw [Nat.zero_add, cell_of_row w g _ cur _ (0, 0) hg, ← tks_at ts i j hi hj, ← h3, List.getElem?_take, if_pos (by omega), Array.getElem?_toList]
theorem Tryd.infoTL : (Tryd.prog.info? 36).map (fun i => (i.zero, i.size, i.bytes)) = some (some (.agg #[.int .i64 0, .string ByteArray.empty, .int .i64 0]), 3, 32) := by kernel_rfl
theorem app_tokL {ops : Array Oper} {rest : List Oper} {o : Oper} {a : Act} {Q : Exit → Act → World → Prop} {w : World} (hgd : o.guard = none) (s x : Operand) (ho : o.op = .call { callee := .builtin .append, args := #[s, x], argTypes := #[23, 23] })
    {base n : Nat} {v : Value} {ts : List Tok} {t : Tok} (hs : a.eval s = v) (hown : TokRow base 36 w v ts) (hx : a.eval x = .slice (some ⟨n, 0, none⟩) 1 1) (hc : Arr w 36 n (tkv t))
    (hlen : ts.length + 1 ≤ 1000000) (hbase : base ≤ w.heap.size)
    (h : ∀ v' w', TokRow base 36 w' v' (ts ++ [t]) → Below base w w' → w.grownBy w' v.ownBlock → wpList Tryd.prog ops Q rest (a.put o.dst v') w') : wpList Tryd.prog ops Q (o :: rest) a w := by
  obtain ⟨i0, hi, hz0, hz1, hz2⟩ := info_parts Tryd.infoTL
  refine wpList_append_own w hgd s x 23 ho base 36 i0 _ 3 32 Tryd.underlying23 hi hz0 hz1 hz2 rfl (by decide) v ts.length (tks ts) hs hown ⟨n, 0, none⟩ 1 1 (tkv t) hx rfl ?_ (fun u hu => tks_one [t] u (by simpa [tks] using hu)) (by unfold maxLen; omega) (by omega) hbase ?_
  · intro j u hu
    have := hc.cell j
    rw [hu] at this
    cases j <;> simpa [Addr.add] using this
  · intro v' w' r1 r2 _
    refine h v' w' ?_ ((Below.refl _ _).grown r2 hbase (fun k hk => (hown.lt k hk).1)) r2
    show w'.ownsRow base 36 3 v' (ts ++ [t]).length (tks (ts ++ [t]))
    rw [tks_snoc, List.length_append]
    exact r1
theorem Tryd.infoTR : (Tryd.prog.info? 37).map (fun i => (i.zero, i.size, i.bytes)) = some (some (.agg #[.int .i64 0, .string ByteArray.empty, .int .i64 0]), 3, 32) := by kernel_rfl
theorem app_tokR {ops : Array Oper} {rest : List Oper} {o : Oper} {a : Act} {Q : Exit → Act → World → Prop} {w : World} (hgd : o.guard = none) (s x : Operand) (ho : o.op = .call { callee := .builtin .append, args := #[s, x], argTypes := #[28, 28] })
    {base n : Nat} {v : Value} {ts : List Tok} {t : Tok} (hs : a.eval s = v) (hown : TokRow base 37 w v ts) (hx : a.eval x = .slice (some ⟨n, 0, none⟩) 1 1) (hc : Arr w 37 n (tkv t))
    (hlen : ts.length + 1 ≤ 1000000) (hbase : base ≤ w.heap.size)
    (h : ∀ v' w', TokRow base 37 w' v' (ts ++ [t]) → Below base w w' → w.grownBy w' v.ownBlock → wpList Tryd.prog ops Q rest (a.put o.dst v') w') : wpList Tryd.prog ops Q (o :: rest) a w := by
  obtain ⟨i0, hi, hz0, hz1, hz2⟩ := info_parts Tryd.infoTR
  refine wpList_append_own w hgd s x 28 ho base 37 i0 _ 3 32 Tryd.underlying28 hi hz0 hz1 hz2 rfl (by decide) v ts.length (tks ts) hs hown ⟨n, 0, none⟩ 1 1 (tkv t) hx rfl ?_ (fun u hu => tks_one [t] u (by simpa [tks] using hu)) (by unfold maxLen; omega) (by omega) hbase ?_
  · intro j u hu
    have := hc.cell j
    rw [hu] at this
    cases j <;> simpa [Addr.add] using this
  · intro v' w' r1 r2 _
    refine h v' w' ?_ ((Below.refl _ _).grown r2 hbase (fun k hk => (hown.lt k hk).1)) r2
    show w'.ownsRow base 37 3 v' (ts ++ [t]).length (tks (ts ++ [t]))
    rw [tks_snoc, List.length_append]
    exact r1

/-- The sign with which bytes begin; nothing, if they begin with none. -/
def signF (l : List UInt8) : List UInt8 := if Lib.hasPrefix l [45, 62] = true then [45, 62] else if sgB (l.getD 0 0) = true then [l.getD 0 0] else []
set_option maxRecDepth 100000 in
theorem sign_any (s : ByteArray) (hs : s.size ≤ 1000000) (h0 : 0 < s.size) (w : World) : Calls Tryd.prog 27 #[.string s] w fun e w' => e = .returned (.string (bstr (signF s.data.toList))) ∧ w = w' := by
  have HC := Lib.hid (fun w => Tryd.strings_HasPrefix s ⟨#[45, 62]⟩ w)
  have HD := Lib.hid (fun (c : UInt8) w => Tryd.strings_IndexByte ⟨#[123, 125, 40, 41, 58, 59, 61, 124, 35, 43, 38, 45]⟩ (c.toNat : Int) w)
  have HX := Lib.hid (get_getD s 0 h0)
  have hs' : (s.size : Int) ≤ 1000000 := by omega
  have h0' : (0 : Int) < s.size := by omega
  have h1' : (1 : Int) ≤ s.size := by omega
  cases hp : Lib.hasPrefix s.data.toList [45, 62] with
  | true =>
    have H : Hid (bstr (signF s.data.toList) = ⟨#[45, 62]⟩) := by show bstr _ = _; unfold signF; rw [if_pos hp]; rfl
    have HP := Lib.hid hp
    clear hp
    go_enter Tryd.func27, Tryd.ntmps27
    go_wp2_with fail
    refine (HC.out _).mono ?_
    rintro e w2 ⟨rfl, hw⟩
    subst hw
    rw [show Lib.hasPrefix s.data.toList (⟨#[45, 62]⟩ : ByteArray).data.toList = true from HP.out]
    go_wp2_with fail
    go_ret
    exact ⟨by rw [H.out]; rfl, rfl⟩
  | false =>
    have HP := Lib.hid hp
    cases hg : sgB s[0] with
    | true =>
      have H : Hid (bstr (signF s.data.toList) = s.extract 0 1) := by
        show bstr _ = _
        unfold signF
        rw [if_neg (by rw [hp]; simp), ← HX.out, if_pos hg, ext_data]
        congr 1
        rw [HX.out]
        have h2 : s.data.toList ≠ [] := by intro e; have := size_len s; rw [e] at this; simp at this; omega
        cases hl : s.data.toList with
        | nil => exact absurd hl h2
        | cons c r => simp
      have HG := Lib.hid hg
      clear hp hg
      go_enter Tryd.func27, Tryd.ntmps27
      go_wp2_with fail
      refine (HC.out _).mono ?_
      rintro e w2 ⟨rfl, hw⟩
      subst hw
      rw [show Lib.hasPrefix s.data.toList (⟨#[45, 62]⟩ : ByteArray).data.toList = false from HP.out]
      go_wp2_with fail
      refine (HD.out s[0] _).mono ?_
      rintro e w2 ⟨rfl, hw⟩
      subst hw
      rw [ixc]
      have hq : (0 : Int) ≤ Lib.indexByte (⟨#[123, 125, 40, 41, 58, 59, 61, 124, 35, 43, 38, 45]⟩ : ByteArray).data.toList s[0] := of_decide_eq_true ((sg_ix s[0]).trans HG.out)
      go_wp2_with fail
      go_ret
      exact ⟨by rw [H.out]; rfl, rfl⟩
    | false =>
      have H : Hid (bstr (signF s.data.toList) = ⟨#[]⟩) := by
        show bstr _ = _
        unfold signF
        rw [if_neg (by rw [hp]; simp), ← HX.out, if_neg (by rw [hg]; simp)]; rfl
      have HG := Lib.hid hg
      clear hp hg
      go_enter Tryd.func27, Tryd.ntmps27
      go_wp2_with fail
      refine (HC.out _).mono ?_
      rintro e w2 ⟨rfl, hw⟩
      subst hw
      rw [show Lib.hasPrefix s.data.toList (⟨#[45, 62]⟩ : ByteArray).data.toList = false from HP.out]
      go_wp2_with fail
      refine (HD.out s[0] _).mono ?_
      rintro e w2 ⟨rfl, hw⟩
      subst hw
      rw [ixc]
      have hq : ¬ (0 : Int) ≤ Lib.indexByte (⟨#[123, 125, 40, 41, 58, 59, 61, 124, 35, 43, 38, 45]⟩ : ByteArray).data.toList s[0] := of_decide_eq_false ((sg_ix s[0]).trans HG.out)
      go_wp2_with fail
      go_ret
      exact ⟨by rw [H.out]; rfl, rfl⟩
end Go.Proofs.YtnhfcggecmncmaaDoor
