/-
  Rows of tokens: appended to, read; lex.sign.
-/
import Derived.Test.YteieimchleioaaaGreatDoorMp2
import Derived.Test.YteieimchleioaaaGreatDoorMp0
import Derived.Deep.RegionHeld3
import Derived.WalkMore
import Derived.StillTailTactics
import Derived.Deep.Cut
import Derived.WalkLawsBesides
import Derived.Maps.AppendAt
import Derived.Laws.OwnMore
import Derived.Maps.RangeWalk
import Derived.Maps.OwnOps
namespace Go.Proofs.YteieimchleioaaaGreatDoor
open Go.ChangeShapes Go.WideShapes Go.ChangeAt Go.RowKit
open errAs (ErrT)
set_option linter.unusedVariables false

def tkv (t : Tok) : List Value := [.int .i64 t.1, .string (bstr t.2.1), .int .i64 t.2.2]
def tks (ts : List Tok) : List Value := ts.flatMap tkv
theorem tks_length (ts : List Tok) : (tks ts).length = ts.length * 3 := by
 induction ts with
 | nil => rfl
 | cons t r ih => unfold tks at ih ⊢; rw [List.flatMap_cons, List.length_append, ih]; simp [tkv]; omega
theorem tks_snoc (ts : List Tok) (t : Tok) : tks (ts ++ [t]) = tks ts ++ tkv t := by unfold tks; simp
theorem tks_one (ts : List Tok) : ∀ u ∈ tks ts, u.oneCell' = true := by
 intro u hu
 obtain ⟨t, _, h⟩ := List.mem_flatMap.1 hu
 simp only [tkv, List.mem_cons, List.not_mem_nil, or_false] at h
 rcases h with rfl | rfl | rfl <;> rfl
theorem tks_at : ∀ (ts : List Tok) (i j : Nat), i < ts.length → j < 3 → (tks ts)[3 * i + j]? = (tkv (ts.getD i (0, [], 0)))[j]?
 | [], i, j, h, _ => by simp at h
 | t :: r, 0, j, h, hj => by
  unfold tks
  rw [List.flatMap_cons, List.getElem?_append_left (by simp [tkv]; omega)]
  simp
 | t :: r, i + 1, j, h, hj => by
  unfold tks
  rw [List.flatMap_cons, List.getElem?_append_right (by simp [tkv]; omega)]
  have h2 := tks_at r i j (by simpa using h) hj
  unfold tks at h2
  rw [show 3 * (i + 1) + j - (tkv t).length = 3 * i + j by simp [tkv]; omega, h2]
  simp
/-- v is a slice of the call's own, from base on, of the tokens ts. -/
def TokRow (base : Nat) (e : TypeId) (w : World) (v : Value) (ts : List Tok) : Prop := w.ownsRow base e 3 v ts.length (tks ts)
theorem TokRow.nil (base : Nat) (e : TypeId) (w : World) : TokRow base e w (.slice none 0 0) [] := World.ownsRow_nil _ _ _ _
theorem TokRow.later {base : Nat} {e : TypeId} {w w' : World} {v : Value} {ts : List Tok} (h : TokRow base e w v ts) (hb : Below w.heap.size w w') : TokRow base e w' v ts := by
 refine ⟨h.1, ?_⟩
 rcases h.2 with h | ⟨g, cap, cur, rfl, h0, h1, r⟩
 ·exact .inl h
 ·exact .inr ⟨g, cap, cur, rfl, h0, (hb.block g (Array.getElem?_eq_some_iff.1 h1).1).trans h1, r⟩
theorem TokRow.form {base : Nat} {e : TypeId} {w : World} {v : Value} {ts : List Tok} (h : TokRow base e w v ts) : ∃ q c, v = .slice q ts.length c ∧ (ts.length : Int) ≤ c := by
 rcases h.2 with ⟨h, hn⟩ | ⟨g, cap, cur, hv, _, _, hc, _⟩
 ·exact ⟨none, 0, by rw [hn]; exact h, by omega⟩
 ·exact ⟨_, _, hv, by omega⟩
theorem TokRow.blk {base : Nat} {e : TypeId} {w : World} {v : Value} {ts : List Tok} (h : TokRow base e w v ts) {b : Nat} (hb : v.ownBlock = some b) : b < w.heap.size := by
 rcases h.2 with ⟨h, _⟩ | ⟨g, cap, cur, hv, h0, hg, _⟩
 ·rw [h] at hb; cases hb
 ·rw [hv] at hb; cases hb; exact (Array.getElem?_eq_some_iff.1 hg).1
theorem TokRow.kept {base : Nat} {e : TypeId} {w w' : World} {v : Value} {ts : List Tok} {row : Option Nat} (h : TokRow base e w v ts) (hg : w.grownBy w' row) (hne : row = none ∨ row ≠ v.ownBlock) : TokRow base e w' v ts := by
 refine ⟨h.1, ?_⟩
 rcases h.2 with h | ⟨g, cap, cur, rfl, h0, h1, r⟩
 ·exact .inl h
 ·refine .inr ⟨g, cap, cur, rfl, h0, (hg.block g (Array.getElem?_eq_some_iff.1 h1).1 ?_).trans h1, r⟩
  rcases hne with rfl | hne
  ·simp
  ·exact fun e => hne e.symm
theorem TokRow.set {base : Nat} {e : TypeId} {w : World} {v : Value} {ts : List Tok} (h : TokRow base e w v ts) {a : Addr} (ha : a.block < base) (x : Value) : TokRow base e (w.setCell a x) v ts := by
 refine ⟨h.1, ?_⟩
 rcases h.2 with h | ⟨g, cap, cur, rfl, h0, h1, r⟩
 ·exact .inl h
 ·exact .inr ⟨g, cap, cur, rfl, h0, (Below.heap_setCell w a x g (by omega)).trans h1, r⟩
/-- v reads as the tokens ts. -/
def RdT (B : Nat) (w : World) (v : Value) (ts : List Tok) : Prop :=
 ∃ q c, v = .slice q ts.length c ∧ (ts.length : Int) ≤ c ∧ (0 < ts.length → ∃ b o, q = some ⟨b, o, none⟩ ∧ b < B ∧ ∀ i, i < ts.length → ∀ j, j < 3 → w.cell? ⟨b, o + (3 * i + j), none⟩ = (tkv (ts.getD i (0, [], 0)))[j]?)
theorem RdT.below {B C : Nat} {w w' : World} {v : Value} {ts : List Tok} (h : RdT B w v ts) (hb : Below C w w') (hC : B ≤ C) : RdT B w' v ts := by
 obtain ⟨q, c, h1, h2, h3⟩ := h
 refine ⟨q, c, h1, h2, fun h0 => ?_⟩
 obtain ⟨b, o, h4, h5, h6⟩ := h3 h0
 exact ⟨b, o, h4, h5, fun i hi j hj => (hb.cell (p := ⟨b, o + (3 * i + j), none⟩) (by show b < C; omega)).trans (h6 i hi j hj)⟩
theorem RdT.mono {B C : Nat} {w : World} {v : Value} {ts : List Tok} (h : RdT B w v ts) (hC : B ≤ C) : RdT C w v ts := by
 obtain ⟨q, c, h1, h2, h3⟩ := h
 refine ⟨q, c, h1, h2, fun h0 => ?_⟩
 obtain ⟨b, o, h4, h5, h6⟩ := h3 h0
 exact ⟨b, o, h4, by omega, h6⟩
theorem TokRow.rd {base : Nat} {e : TypeId} {w : World} {v : Value} {ts : List Tok} (h : TokRow base e w v ts) : RdT w.heap.size w v ts := by
 rcases h.2 with ⟨h, hn⟩ | ⟨g, cap, cur, hv, h0, hg, hc, h1, h2, h3⟩
 ·exact ⟨none, 0, by rw [hn]; exact h, by omega, fun h => by omega⟩
 ·refine ⟨_, cap, hv, by omega, fun h0 => ⟨g, 0, rfl, (Array.getElem?_eq_some_iff.1 hg).1, fun i hi j hj => ?_⟩⟩
  rw [Nat.zero_add, cell_of_row w g _ cur _ (0, 0) hg, ← tks_at ts i j hi hj, ← h3, List.getElem?_take, if_pos (by omega), Array.getElem?_toList]
theorem Tryz.infoTL : (Tryz.prog.info? 87).map (fun i => (i.zero, i.size, i.bytes)) = some (some (.agg #[.int .i64 0, .string ByteArray.empty, .int .i64 0]), 3, 32) := by kernel_rfl
theorem app_tokL {ops : Array Oper} {rest : List Oper} {o : Oper} {a : Act} {Q : Exit → Act → World → Prop} {w : World} (hgd : o.guard = none) (s x : Operand) (ho : o.op = .call { callee := .builtin .append, args := #[s, x], argTypes := #[77, 77] })
  {base n : Nat} {v : Value} {ts : List Tok} {t : Tok} (hs : a.eval s = v) (hown : TokRow base 87 w v ts) (hx : a.eval x = .slice (some ⟨n, 0, none⟩) 1 1) (hc : Arr w 87 n (tkv t))
  (hlen : ts.length + 1 ≤ 1000000) (hbase : base ≤ w.heap.size)
  (h : ∀ v' w', TokRow base 87 w' v' (ts ++ [t]) → Below base w w' → w.grownBy w' v.ownBlock → wpList Tryz.prog ops Q rest (a.put o.dst v') w') : wpList Tryz.prog ops Q (o :: rest) a w := by
 obtain ⟨i0, hi, hz0, hz1, hz2⟩ := info_parts Tryz.infoTL
 refine wpList_append_own w hgd s x 77 ho base 87 i0 _ 3 32 Tryz.underlying77 hi hz0 hz1 hz2 rfl (by decide) v ts.length (tks ts) hs hown ⟨n, 0, none⟩ 1 1 (tkv t) hx rfl ?_ (fun u hu => tks_one [t] u (by simpa [tks] using hu)) (by unfold maxLen; omega) (by omega) hbase ?_
 ·intro j u hu
  have := hc.cell j
  rw [hu] at this
  cases j <;> simpa [Addr.add] using this
 ·intro v' w' r1 r2 _
  refine h v' w' ?_ ((Below.refl _ _).grown r2 hbase (fun k hk => (hown.lt k hk).1)) r2
  show w'.ownsRow base 87 3 v' (ts ++ [t]).length (tks (ts ++ [t]))
  rw [tks_snoc, List.length_append]
  exact r1
theorem Tryz.infoTR : (Tryz.prog.info? 91).map (fun i => (i.zero, i.size, i.bytes)) = some (some (.agg #[.int .i64 0, .string ByteArray.empty, .int .i64 0]), 3, 32) := by kernel_rfl
theorem app_tokR {ops : Array Oper} {rest : List Oper} {o : Oper} {a : Act} {Q : Exit → Act → World → Prop} {w : World} (hgd : o.guard = none) (s x : Operand) (ho : o.op = .call { callee := .builtin .append, args := #[s, x], argTypes := #[49, 49] })
  {base n : Nat} {v : Value} {ts : List Tok} {t : Tok} (hs : a.eval s = v) (hown : TokRow base 91 w v ts) (hx : a.eval x = .slice (some ⟨n, 0, none⟩) 1 1) (hc : Arr w 91 n (tkv t))
  (hlen : ts.length + 1 ≤ 1000000) (hbase : base ≤ w.heap.size)
  (h : ∀ v' w', TokRow base 91 w' v' (ts ++ [t]) → Below base w w' → w.grownBy w' v.ownBlock → wpList Tryz.prog ops Q rest (a.put o.dst v') w') : wpList Tryz.prog ops Q (o :: rest) a w := by
 obtain ⟨i0, hi, hz0, hz1, hz2⟩ := info_parts Tryz.infoTR
 refine wpList_append_own w hgd s x 49 ho base 91 i0 _ 3 32 Tryz.underlying49 hi hz0 hz1 hz2 rfl (by decide) v ts.length (tks ts) hs hown ⟨n, 0, none⟩ 1 1 (tkv t) hx rfl ?_ (fun u hu => tks_one [t] u (by simpa [tks] using hu)) (by unfold maxLen; omega) (by omega) hbase ?_
 ·intro j u hu
  have := hc.cell j
  rw [hu] at this
  cases j <;> simpa [Addr.add] using this
 ·intro v' w' r1 r2 _
  refine h v' w' ?_ ((Below.refl _ _).grown r2 hbase (fun k hk => (hown.lt k hk).1)) r2
  show w'.ownsRow base 91 3 v' (ts ++ [t]).length (tks (ts ++ [t]))
  rw [tks_snoc, List.length_append]
  exact r1

/-- The sign with which bytes begin; nothing, if they begin with none. -/
def signF (l : List UInt8) : List UInt8 := if Lib.hasPrefix l [45, 62] = true then [45, 62] else if sgB (l.getD 0 0) = true then [l.getD 0 0] else []
set_option maxRecDepth 100000 in
theorem sign_any (s : ByteArray) (hs : s.size ≤ 1000000) (h0 : 0 < s.size) (w : World) : Calls Tryz.prog 63 #[.string s] w fun e w' => e = .returned (.string (bstr (signF s.data.toList))) ∧ w = w' := by
 have HC := Lib.hid (fun w => Tryz.strings_HasPrefix s ⟨#[45, 62]⟩ w)
 have HD := Lib.hid (fun (c : UInt8) w => Tryz.strings_IndexByte ⟨#[123, 125, 40, 41, 58, 59, 61, 124, 35, 43, 38, 45]⟩ (c.toNat : Int) w)
 have HX := Lib.hid (get_getD s 0 h0)
 have hs' : (s.size : Int) ≤ 1000000 := by omega
 have h0' : (0 : Int) < s.size := by omega
 have h1' : (1 : Int) ≤ s.size := by omega
 cases hp : Lib.hasPrefix s.data.toList [45, 62] with
 | true =>
  have H : Hid (bstr (signF s.data.toList) = ⟨#[45, 62]⟩) := by show bstr _ = _; unfold signF; rw [if_pos hp]; rfl
  have HP := Lib.hid hp
  clear hp
  go_enter Tryz.func63, Tryz.ntmps63
  go_wp2_with fail
  refine (HC.out _).mono ?_
  rintro e w2 ⟨rfl, hw⟩
  subst hw
  rw [show Lib.hasPrefix s.data.toList (⟨#[45, 62]⟩ : ByteArray).data.toList = true from HP.out]
  go_wp2_with fail
  go_ret
  exact ⟨by rw [H.out]; rfl, rfl⟩
 | false =>
  have HP := Lib.hid hp
  cases hg : sgB s[0] with
  | true =>
   have H : Hid (bstr (signF s.data.toList) = s.extract 0 1) := by
    show bstr _ = _
    unfold signF
    rw [if_neg (by rw [hp]; simp), ← HX.out, if_pos hg, ext_data]
    congr 1
    rw [HX.out]
    have h2 : s.data.toList ≠ [] := by intro e; have := size_len s; rw [e] at this; simp at this; omega
    cases hl : s.data.toList with
    | nil => exact absurd hl h2
    | cons c r => simp
   have HG := Lib.hid hg
   clear hp hg
   go_enter Tryz.func63, Tryz.ntmps63
   go_wp2_with fail
   refine (HC.out _).mono ?_
   rintro e w2 ⟨rfl, hw⟩
   subst hw
   rw [show Lib.hasPrefix s.data.toList (⟨#[45, 62]⟩ : ByteArray).data.toList = false from HP.out]
   go_wp2_with fail
   refine (HD.out s[0] _).mono ?_
   rintro e w2 ⟨rfl, hw⟩
   subst hw
   rw [ixc]
   have hq : (0 : Int) ≤ Lib.indexByte (⟨#[123, 125, 40, 41, 58, 59, 61, 124, 35, 43, 38, 45]⟩ : ByteArray).data.toList s[0] := of_decide_eq_true ((sg_ix s[0]).trans HG.out)
   go_wp2_with fail
   go_ret
   exact ⟨by rw [H.out]; rfl, rfl⟩
  | false =>
   have H : Hid (bstr (signF s.data.toList) = ⟨#[]⟩) := by
    show bstr _ = _
    unfold signF
    rw [if_neg (by rw [hp]; simp), ← HX.out, if_neg (by rw [hg]; simp)]; rfl
   have HG := Lib.hid hg
   clear hp hg
   go_enter Tryz.func63, Tryz.ntmps63
   go_wp2_with fail
   refine (HC.out _).mono ?_
   rintro e w2 ⟨rfl, hw⟩
   subst hw
   rw [show Lib.hasPrefix s.data.toList (⟨#[45, 62]⟩ : ByteArray).data.toList = false from HP.out]
   go_wp2_with fail
   refine (HD.out s[0] _).mono ?_
   rintro e w2 ⟨rfl, hw⟩
   subst hw
   rw [ixc]
   have hq : ¬ (0 : Int) ≤ Lib.indexByte (⟨#[123, 125, 40, 41, 58, 59, 61, 124, 35, 43, 38, 45]⟩ : ByteArray).data.toList s[0] := of_decide_eq_false ((sg_ix s[0]).trans HG.out)
   go_wp2_with fail
   go_ret
   exact ⟨by rw [H.out]; rfl, rfl⟩
end Go.Proofs.YteieimchleioaaaGreatDoor
/-
  lex.Tokens.
-/
namespace Go.Proofs.YteieimchleioaaaGreatDoor
open Go.ChangeShapes Go.WideShapes Go.ChangeAt Go.RowKit
set_option linter.unusedVariables false

theorem pre2 {l : List UInt8} {i : Nat} (hi : i < l.length) (x y : UInt8) : Lib.hasPrefix (l.drop i) [x, y] = decide (l.getD i 0 = x ∧ i + 1 < l.length ∧ l.getD (i + 1) 0 = y) := by
 unfold Lib.hasPrefix
 rw [drop_cons' hi, Bool.eq_iff_iff, decide_eq_true_eq]
 by_cases h : i + 1 < l.length
 ·rw [drop_cons' h]
  simp only [List.isPrefixOf, Bool.and_true, Bool.and_eq_true, beq_iff_eq]
  constructor
  ·rintro ⟨rfl, rfl⟩; exact ⟨rfl, h, rfl⟩
  ·rintro ⟨rfl, _, rfl⟩; exact ⟨rfl, rfl⟩
 ·rw [List.drop_eq_nil_of_le (by omega)]
  simp [List.isPrefixOf, h]
theorem pre_t {l : List UInt8} {i : Nat} (hi : i < l.length) {x y : UInt8} (h : Lib.hasPrefix (l.drop i) [x, y] = true) : l.getD i 0 = x ∧ i + 1 < l.length ∧ l.getD (i + 1) 0 = y := by
 rw [pre2 hi] at h; exact of_decide_eq_true h
theorem pre_f {l : List UInt8} {i : Nat} (hi : i < l.length) {x y : UInt8} (h : Lib.hasPrefix (l.drop i) [x, y] = false) : notNext l i x y := by
 rw [pre2 hi] at h
 have := of_decide_eq_false h
 intro h1 h2 h3
 exact this ⟨h1, h2, h3⟩
theorem ext_list (s : ByteArray) (i : Nat) (hi : i ≤ s.size) : (s.extract i s.size).data.toList = s.data.toList.drop i := by
 rw [ext_data, bstr_data, List.take_of_length_le (by rw [List.length_drop, size_len]; exact Nat.le_refl _)]
theorem Arr.grown {w w' : World} {t : TypeId} {g : Nat} {cs : List Value} {row : Option Nat} (h : Arr w t g cs) (hg : w.grownBy w' row) (hne : ∀ b, row = some b → b ≠ g) : Arr w' t g cs :=
 (hg.block g h.lt (fun e => hne g e.symm rfl)).trans h
/-- What lex.Tokens keeps. -/
def LX (w : World) (s : ByteArray) (i : Nat) (acc : List Tok) (v : Value) (W : World) : Prop :=
 Arr W 9 w.heap.size [.string s] ∧ Arr W 3 (w.heap.size + 1) [.int .i64 (i : Nat)] ∧ TokRow (w.heap.size + 2) 87 W v acc ∧ Below w.heap.size w W ∧ ResT W ∧ w.heap.size + 2 ≤ W.heap.size
theorem LX.later {w W W' : World} {s : ByteArray} {i : Nat} {acc : List Tok} {v : Value} (h : LX w s i acc v W) (hb : Below W.heap.size W W') : LX w s i acc v W' :=
 ⟨h.1.later hb, h.2.1.later hb, h.2.2.1.later hb, h.2.2.2.1.trans (hb.mono h.2.2.2.1.size), h.2.2.2.2.1.below hb h.2.2.2.2.1.lt, Nat.le_trans h.2.2.2.2.2 hb.size⟩
theorem LX.put {w W : World} {s : ByteArray} {i : Nat} {acc : List Tok} {v : Value} (h : LX w s i acc v W) (hr : ResT w) {j : Nat} {x : Int} (hx : x = (j : Nat)) : LX w s j acc v (W.setCell ⟨w.heap.size + 1, 0, none⟩ (.int .i64 x)) := by
 subst hx
 have hb := h.2.2.2.1.setCell (p := ⟨w.heap.size + 1, 0, none⟩) (by simp) (.int .i64 (j : Nat))
 exact ⟨h.1.setCell (by simp) _, h.2.1.set 0 _, h.2.2.1.set (by simp) _, hb, hr.below hb hr.lt, by simpa [World.setCell] using h.2.2.2.2.2⟩
theorem LX.row {w W W' : World} {s : ByteArray} {i : Nat} {acc acc' : List Tok} {v v' : Value} (h : LX w s i acc v W) (hr : ResT w) (hT : TokRow (w.heap.size + 2) 87 W' v' acc') (hb : Below (w.heap.size + 2) W W') : LX w s i acc' v' W' :=
 have hb' := h.2.2.2.1.trans (hb.mono (by omega))
 ⟨h.1.below hb (by omega), h.2.1.below hb (by omega), hT, hb', hr.below hb' hr.lt, Nat.le_trans h.2.2.2.2.2 hb.size⟩
def LexPost (w : World) (R : Toks) (e : Ending) (w' : World) : Prop := ∃ v, e = .returned (.tuple #[v, errF R.2.1 R.2.2]) ∧ TokRow w.heap.size 87 w' v R.1 ∧ Below w.heap.size w w'
theorem TokRow.le {b b' : Nat} {e : TypeId} {w : World} {v : Value} {ts : List Tok} (h : TokRow b e w v ts) (hb : b' ≤ b) : TokRow b' e w v ts := Joins.ownsRow_le h hb

set_option maxRecDepth 100000 in
set_option maxHeartbeats 8000000 in
theorem lex_any (s : ByteArray) (hs : s.size ≤ 65536) (w : World) (hr : ResT w) : Calls Tryz.prog 30 #[.string s] w (LexPost w (tokS s.data.toList)) := by
 obtain ⟨R, hR⟩ : ∃ R, R = tokS s.data.toList := ⟨_, rfl⟩
 have HST : Hid (LexAt s.data.toList R 0 []) := by show LexAt _ _ _ _; rw [hR]; exact lx_start _
 rw [← hR]
 obtain ⟨l, hl⟩ : ∃ l, l = s.data.toList := ⟨_, rfl⟩
 rw [← hl] at HST
 have HL := Lib.hid hl
 have HSZ : Hid (l.length = s.size) := by show _ = _; rw [hl]; exact size_len s
 have HR := Lib.hid hr
 have hs1 : ¬ (65536 : Int) < s.size := by omega
 have hs2 : (s.size : Int) ≤ 100000 := by omega
 have HS := Lib.hid hs
 clear hR hl hr hs
 go_enter Tryz.func30, Tryz.ntmps30
 go_wp2_with fail
 have hb0 : Below w.heap.size w ((w.alloc (.cells #[.string s] 9)).alloc (.cells #[.int .i64 0] 3)) := ((Below.refl _ _).alloc (Nat.le_refl _) _).alloc (by simp) _
 have H0 : Hid (LX w s 0 [] (.slice none 0 0) ((w.alloc (.cells #[.string s] 9)).alloc (.cells #[.int .i64 0] 3))) :=
  ⟨(Arr.new' w _ _ _ rfl).alloc _, Arr.new2 w _ _ _ _ rfl, TokRow.nil _ _ _, hb0, HR.out.below hb0 HR.out.lt, by simp⟩
 clear hb0
 go_step3
 go_wp2_with fail
 go_step3
 go_wp2_with fail
 generalize (w.alloc (.cells #[.string s] 9)).alloc (.cells #[.int .i64 0] 3) = w0 at H0 ⊢
 go_loopw [4] (fun v wr => ∃ (i : Nat) (acc : List Tok), Hid (LexAt l R i acc ∧ LX w s i acc v wr)) (fun _ wr => s.size - (intOf ((wr.cell? ⟨w.heap.size + 1, 0, none⟩).getD undef)).toNat)
 case atStart => exact ⟨0, [], HST.out, H0.out⟩
 case round =>
  obtain ⟨i, acc, HI⟩ := hrel
  clear HST H0
  obtain ⟨qv, cv, rfl, _⟩ := HI.out.2.2.2.1.form
  have hil : i ≤ s.size := by have := HI.out.1.1; have := HSZ.out; omega
  have i0 : (0 : Int) ≤ i := by omega
  have c1 := HI.out.2.2.1.cell 0
  have cS := HI.out.2.1.cell 0
  simp only [List.getElem?_cons_zero] at c1 cS
  by_cases hi : i < s.size
  ·have i1 : (i : Int) < s.size := by omega
   have hil2 : i < l.length := by have := HSZ.out; omega
   have HX : Hid (s[i] = l.getD i 0) := by show _ = _; rw [HL.out]; exact get_getD s i hi
   have HTB0 : wr.heap.size = wr.heap.size := rfl
   have HT0 : Hid (Arr (wr.alloc (.cells #[.int .i64 0, .string ⟨#[]⟩, .int .i64 i] 87)) 87 wr.heap.size [.int .i64 0, .string ⟨#[]⟩, .int .i64 i]) := Arr.new' wr _ _ _ rfl
   have HBT : Hid (Below wr.heap.size wr (wr.alloc (.cells #[.int .i64 0, .string ⟨#[]⟩, .int .i64 i] 87))) := (Below.refl _ _).alloc (Nat.le_refl _) _
   have HI1 := Lib.hid (HI.out.2.later HBT.out)
   have HLX := Lib.hid HI.out.1
   have HTS : Hid (w.heap.size + 2 ≤ wr.heap.size) := HI.out.2.2.2.2.2.2
   have HC0 := Lib.hid c1
   clear HTB0
   go_upto_region 11 with (fail)
   generalize wr.alloc (.cells #[.int .i64 0, .string ⟨#[]⟩, .int .i64 i] 87) = w1 at HT0 HBT HI1 ⊢
   obtain ⟨TB, hTB⟩ : ∃ TB, TB = wr.heap.size := ⟨_, rfl⟩
   rw [← hTB] at HT0 HTS ⊢
   have HTB := Lib.hid hTB
   clear hTB c1 cS
   have c1 := HI1.out.2.1.cell 0
   have cS := HI1.out.1.cell 0
   have f1 := HI1.out.2.1.free 0
   simp only [List.getElem?_cons_zero] at c1 cS
   cases hsp : spB s[i] with
   | true =>
    have HSP := Lib.hid hsp
    have HN1 : Hid (1 ≤ runL spB l i) := runL_pos hil2 (by rw [← HX.out]; exact hsp)
    have HNX := Lib.hid (lx_spaces (runL spB l i) HLX.out (runL_le spB l i (by omega)) (fun j h1 h2 => runL_all spB (by omega) j h1 h2))
    clear hsp
    have HRUN := Lib.hid (fun W h1 h2 => runSp s i (w.heap.size + 1) w.heap.size (by omega) (by omega) W h1 h2)
    rw [← HL.out] at HRUN
    obtain ⟨k, hk⟩ : ∃ k, k = runL spB l i := ⟨_, rfl⟩
    have HLE : Hid (i + k ≤ s.size) := by have := runL_le spB l i (by omega); have := HSZ.out; show _ ≤ _; omega
    rw [← hk] at HRUN HN1 HNX
    have HTX : Hid (s.extract i (i + k) = bstr ((l.drop i).take k)) := by show _ = _; rw [ext_data, ← HL.out]; congr 2; omega
    have HTZ : Hid ((s.extract i (i + k)).size = k) := by
     show _ = _
     rw [ByteArray.size_extract]; have := HLE.out; omega
    obtain ⟨t, ht⟩ : ∃ t, t = s.extract i (i + k) := ⟨_, rfl⟩
    rw [← ht] at HRUN HTZ HTX
    have tb : (t.size : Int) ≤ 100000 := by have := HTZ.out; have := HLE.out; omega
    have tb0 : (0 : Int) ≤ t.size := by omega
    clear ht hk
    go_wp2_with fail
    refine (isSpace_any s[i] _).mono ?_
    rintro e w2 ⟨rfl, rfl⟩
    rw [HSP.out]
    go_wp2_with fail
    refine region_tail 5 (by kernel_rfl) (by kernel_rfl) ?_
    simp only [List.take_succ_cons, List.take_zero, List.drop_succ_cons, List.drop_zero]
    still_step
    still_step
    refine wpStill_step (fun K hK => ?_)
    go_simp
    refine ⟨_, (HRUN.out w1.drew c1 cS).mono fun _ _ ⟨h1, h2⟩ => ⟨h1, h2.symm⟩, hK _ ?_⟩
    clear hK K
    still_step
    still_step
    refine wpStill_nil ?_
    try change wpList _ _ _ _ _ w1.drew
    have HI2 := Lib.hid (HI1.out.later (Below.refl _ _).drew)
    clear c1 cS f1 HI1 HRUN HT0
    generalize w1.drew = w2 at HI2 ⊢
    have c1 := HI2.out.2.1.cell 0
    have f1 := HI2.out.2.1.free 0
    simp only [List.getElem?_cons_zero] at c1
    have HC1 := Lib.hid c1
    go_wp2_with fail
    go_roundw
    case rel => exact ⟨i + k, acc, HNX.out, HI2.out.put HR.out (by rw [HTZ.out]; omega)⟩
    case measure => rw [World.cell?_setCell_same _ _ _ HC1.out, HC0.out]; simp [intOf]; have := HTZ.out; have := HN1.out; omega
   | false =>
    have HSP := Lib.hid hsp
    clear hsp
    have HPC : Hid (∀ W, Calls Tryz.prog 59 #[.string (s.extract i s.size), .string ⟨#[47, 47]⟩] W fun e w' => e = .returned (.bool (Lib.hasPrefix (l.drop i) [47, 47])) ∧ W = w') := fun W => by
     have h := Tryz.strings_HasPrefix (s.extract i s.size) ⟨#[47, 47]⟩ W
     rw [ext_list s i (by omega), ← HL.out] at h
     exact h.mono fun _ _ ⟨h1, h2⟩ => ⟨h1, h2.symm⟩
    have i2 : (i : Int) ≤ s.size := by omega
    cases hcm : Lib.hasPrefix (l.drop i) [47, 47] with
    | true =>
     have hpt := pre_t hil2 hcm
     have HNN := Lib.hid (lx_comment HLX.out hpt.2.1 hpt.1 hpt.2.2)
     have HN1 : Hid (1 ≤ runL lnB l i) := by show _ ≤ _; have := HNN.out.2; omega
     have HNX := Lib.hid HNN.out.1
     rw [hcm] at HPC
     clear hcm hpt HNN
     have HRUN := Lib.hid (fun W h1 h2 => runLn s i (w.heap.size + 1) w.heap.size (by omega) (by omega) W h1 h2)
     rw [← HL.out] at HRUN
     obtain ⟨k, hk⟩ : ∃ k, k = runL lnB l i := ⟨_, rfl⟩
     have HLE : Hid (i + k ≤ s.size) := by have := runL_le lnB l i (by omega); have := HSZ.out; show _ ≤ _; omega
     rw [← hk] at HRUN HN1 HNX
     have HTX : Hid (s.extract i (i + k) = bstr ((l.drop i).take k)) := by show _ = _; rw [ext_data, ← HL.out]; congr 2; omega
     have HTZ : Hid ((s.extract i (i + k)).size = k) := by
      show _ = _
      rw [ByteArray.size_extract]; have := HLE.out; omega
     obtain ⟨t, ht⟩ : ∃ t, t = s.extract i (i + k) := ⟨_, rfl⟩
     rw [← ht] at HRUN HTZ HTX
     have tb : (t.size : Int) ≤ 100000 := by have := HTZ.out; have := HLE.out; omega
     have tb0 : (0 : Int) ≤ t.size := by omega
     clear ht hk
     go_wp2_with fail
     refine (isSpace_any s[i] _).mono ?_
     rintro e w2 ⟨rfl, rfl⟩
     rw [HSP.out]
     go_wp2_with fail
     refine (HPC.out _).mono ?_
     rintro e w2 ⟨rfl, rfl⟩
     go_wp2_with fail
     refine region_tail 5 (by kernel_rfl) (by kernel_rfl) ?_
     simp only [List.take_succ_cons, List.take_zero, List.drop_succ_cons, List.drop_zero]
     still_step
     still_step
     refine wpStill_step (fun K hK => ?_)
     go_simp
     refine ⟨_, (HRUN.out w1.drew c1 cS).mono fun _ _ ⟨h1, h2⟩ => ⟨h1, h2.symm⟩, hK _ ?_⟩
     clear hK K
     still_step
     still_step
     refine wpStill_nil ?_
     try change wpList _ _ _ _ _ w1.drew
     have HI2 := Lib.hid (HI1.out.later (Below.refl _ _).drew)
     clear c1 cS f1 HI1 HRUN HT0
     generalize w1.drew = w2 at HI2 ⊢
     have c1 := HI2.out.2.1.cell 0
     have f1 := HI2.out.2.1.free 0
     simp only [List.getElem?_cons_zero] at c1
     have HC1 := Lib.hid c1
     go_wp2_with fail
     go_roundw
     case rel => exact ⟨i + k, acc, HNX.out, HI2.out.put HR.out (by rw [HTZ.out]; omega)⟩
     case measure => rw [World.cell?_setCell_same _ _ _ HC1.out, HC0.out]; simp [intOf]; have := HTZ.out; have := HN1.out; omega
    | false =>
     have HNT := Lib.hid (pre_f hil2 hcm)
     rw [hcm] at HPC
     clear hcm
     have ft0 := HT0.out.free 0
     have ft1 := HT0.out.free 1
     have ct0 := HT0.out.cell 0
     have ct1 := HT0.out.cell 1
     have ct2 := HT0.out.cell 2
     simp only [List.getElem?_cons_zero, List.getElem?_cons_succ] at ct0 ct1 ct2
     cases hwd : wdB s[i] with
     | true =>
      have HWD := Lib.hid hwd
      have HN1 : Hid (1 ≤ runL wdB l i) := runL_pos hil2 (by rw [← HX.out]; exact hwd)
      have HOK := Lib.hid (fun h => (lx_word HLX.out hil2 (by rw [← HX.out]; exact hwd) h).1)
      have HER := Lib.hid (fun h => lx_word_err HLX.out hil2 (by rw [← HX.out]; exact hwd) h)
      clear hwd
      have HRUN := Lib.hid (fun W h1 h2 => runWd s i (w.heap.size + 1) w.heap.size (by omega) (by omega) W h1 h2)
      rw [← HL.out] at HRUN
      obtain ⟨k, hk⟩ : ∃ k, k = runL wdB l i := ⟨_, rfl⟩
      have HLE : Hid (i + k ≤ s.size) := by have := runL_le wdB l i (by omega); have := HSZ.out; show _ ≤ _; omega
      rw [← hk] at HRUN HN1 HOK HER
      have HTX : Hid (s.extract i (i + k) = bstr ((l.drop i).take k)) := by show _ = _; rw [ext_data, ← HL.out]; congr 2; omega
      have HTZ : Hid ((s.extract i (i + k)).size = k) := by
       show _ = _
       rw [ByteArray.size_extract]; have := HLE.out; omega
      obtain ⟨t, ht⟩ : ∃ t, t = s.extract i (i + k) := ⟨_, rfl⟩
      rw [← ht] at HRUN HTZ HTX
      have tb : (t.size : Int) ≤ 100000 := by have := HTZ.out; have := HLE.out; omega
      have tb0 : (0 : Int) ≤ t.size := by omega
      clear ht hk
      have HOKW : Hid (okW ((l.drop i).take k) = (isName t || resB t)) := by show _ = _; unfold okW; rw [← HTX.out]
      go_wp2_with fail
      refine (isSpace_any s[i] _).mono ?_
      rintro e w2 ⟨rfl, rfl⟩
      rw [HSP.out]
      go_wp2_with fail
      refine (HPC.out _).mono ?_
      rintro e w2 ⟨rfl, rfl⟩
      go_wp2_with fail
      refine (isWord_any s[i] _).mono ?_
      rintro e w3 ⟨rfl, rfl⟩
      rw [HWD.out]
      go_wp2_with fail
      refine (HRUN.out _ c1 cS).mono ?_
      rintro e w3 ⟨rfl, rfl⟩
      go_wp2_with fail
      have HBW0 : Hid (Below wr.heap.size wr ((w1.setCell ⟨TB, 0, none⟩ (.int .i64 1)).setCell ⟨TB, 1, none⟩ (.string t))) :=
       (HBT.out.setCell (p := ⟨TB, 0, none⟩) (by rw [HTB.out]; exact Nat.le_refl _) _).setCell (p := ⟨TB, 1, none⟩) (by rw [HTB.out]; exact Nat.le_refl _) _
      have HTW0 : Hid (Arr ((w1.setCell ⟨TB, 0, none⟩ (.int .i64 1)).setCell ⟨TB, 1, none⟩ (.string t)) 87 TB [.int .i64 1, .string t, .int .i64 i]) := (HT0.out.set 0 _).set 1 _
      generalize (w1.setCell ⟨TB, 0, none⟩ (.int .i64 1)).setCell ⟨TB, 1, none⟩ (.string t) = w4 at HBW0 HTW0 ⊢
      have HR4 : Hid (ResT w4) := (HI.out.2.later HBW0.out).2.2.2.2.1
      clear ft0 ft1 ct0 ct1 ct2 c1 cS f1 HT0 HBT HI1 HRUN HPC
      refine (isName_any t w4 HR4.out).mono ?_
      rintro e w5 ⟨rfl, b5⟩
      have HBW := Lib.hid (HBW0.out.trans (b5.mono HBW0.out.size))
      have HTW := Lib.hid (HTW0.out.later b5)
      have HR5 := Lib.hid (HR4.out.below b5 HR4.out.lt)
      clear b5 HBW0 HTW0 HR4
      have g1 := HTW.out.cell 1
      simp only [List.getElem?_cons_zero, List.getElem?_cons_succ] at g1
      cases hnm : isName t with
      | true =>
       have HGO : Hid (okW ((l.drop i).take k) = true) := by show _ = _; rw [HOKW.out, hnm]; rfl
       clear hnm g1
       have HIW := Lib.hid (HI.out.2.later HBW.out)
       have HAB : Hid (Arr (w5.alloc (.cells #[.int .i64 1, .string t, .int .i64 i] 87)) 87 w5.heap.size (tkv (mkT 1 ((l.drop i).take k) i))) := by
        show Arr _ _ _ [.int .i64 1, .string (bstr ((l.drop i).take k)), .int .i64 i]
        rw [← HTX.out]; exact Arr.new' _ _ _ _ rfl
       have HBA : Hid (Below w5.heap.size w5 (w5.alloc (.cells #[.int .i64 1, .string t, .int .i64 i] 87))) := (Below.refl _ _).alloc (Nat.le_refl _) _
       have HIA := Lib.hid (HIW.out.later HBA.out)
       have HTA := Lib.hid (HTW.out.later HBA.out)
       have HOB : Hid (∀ b, (Value.slice qv acc.length cv).ownBlock = some b → b ≠ TB) := fun b hb => by have := HI.out.2.2.2.1.blk hb; have := HTB.out; omega
       have HAC : Hid (acc.length + 1 ≤ 1000000) := by have := HLX.out.2.1; have := HS.out; show _ ≤ _; omega
       have m0 := HTW.out.cell 0
       have m1 := HTW.out.cell 1
       have m2 := HTW.out.cell 2
       simp only [List.getElem?_cons_zero, List.getElem?_cons_succ] at m0 m1 m2
       clear HBA HIW
       go_wp2_with (at_builtin; refine app_tokL rfl _ _ rfl rfl HIA.out.2.2.1 rfl HAB.out HAC.out HIA.out.2.2.2.2.2 ?_; intro v5 w6 h5 b5 g5; have HI6 := Lib.hid (HIA.out.row HR.out h5 b5); have HT6 := Lib.hid (HTA.out.grown g5 HOB.out); have c1 := HI6.out.2.1.cell 0; have f1 := HI6.out.2.1.free 0; have n1 := HT6.out.cell 1; simp only [List.getElem?_cons_zero, List.getElem?_cons_succ] at c1 n1; have HC1 := Lib.hid c1; clear h5 b5 g5 m0 m1 m2)
       go_roundw
       case rel => exact ⟨_, _, HOK.out HGO.out, HI6.out.put HR.out (by rw [HTZ.out]; omega)⟩
       case measure => rw [World.cell?_setCell_same _ _ _ HC1.out, HC0.out]; simp [intOf]; have := HTZ.out; have := HN1.out; have := HLE.out; omega
      | false =>
       go_wp2_with fail
       refine (res_any t w5 HR5.out).mono ?_
       rintro e w6 ⟨rfl, rfl⟩
       cases hrs : resB t with
       | true =>
        have HGO : Hid (okW ((l.drop i).take k) = true) := by show _ = _; rw [HOKW.out, hnm, hrs]; rfl
        clear hnm hrs g1
        have HIW := Lib.hid (HI.out.2.later HBW.out)
        have HAB : Hid (Arr (w5.alloc (.cells #[.int .i64 1, .string t, .int .i64 i] 87)) 87 w5.heap.size (tkv (mkT 1 ((l.drop i).take k) i))) := by
         show Arr _ _ _ [.int .i64 1, .string (bstr ((l.drop i).take k)), .int .i64 i]
         rw [← HTX.out]; exact Arr.new' _ _ _ _ rfl
        have HBA : Hid (Below w5.heap.size w5 (w5.alloc (.cells #[.int .i64 1, .string t, .int .i64 i] 87))) := (Below.refl _ _).alloc (Nat.le_refl _) _
        have HIA := Lib.hid (HIW.out.later HBA.out)
        have HTA := Lib.hid (HTW.out.later HBA.out)
        have HOB : Hid (∀ b, (Value.slice qv acc.length cv).ownBlock = some b → b ≠ TB) := fun b hb => by have := HI.out.2.2.2.1.blk hb; have := HTB.out; omega
        have HAC : Hid (acc.length + 1 ≤ 1000000) := by have := HLX.out.2.1; have := HS.out; show _ ≤ _; omega
        have m0 := HTW.out.cell 0
        have m1 := HTW.out.cell 1
        have m2 := HTW.out.cell 2
        simp only [List.getElem?_cons_zero, List.getElem?_cons_succ] at m0 m1 m2
        clear HBA HIW
        go_wp2_with (at_builtin; refine app_tokL rfl _ _ rfl rfl HIA.out.2.2.1 rfl HAB.out HAC.out HIA.out.2.2.2.2.2 ?_; intro v5 w6 h5 b5 g5; have HI6 := Lib.hid (HIA.out.row HR.out h5 b5); have HT6 := Lib.hid (HTA.out.grown g5 HOB.out); have c1 := HI6.out.2.1.cell 0; have f1 := HI6.out.2.1.free 0; have n1 := HT6.out.cell 1; simp only [List.getElem?_cons_zero, List.getElem?_cons_succ] at c1 n1; have HC1 := Lib.hid c1; clear h5 b5 g5 m0 m1 m2)
        go_roundw
        case rel => exact ⟨_, _, HOK.out HGO.out, HI6.out.put HR.out (by rw [HTZ.out]; omega)⟩
        case measure => rw [World.cell?_setCell_same _ _ _ HC1.out, HC0.out]; simp [intOf]; have := HTZ.out; have := HN1.out; have := HLE.out; omega
       | false =>
        have HRR := Lib.hid (HER.out (by rw [HOKW.out, hnm, hrs]; rfl))
        have HIW := Lib.hid (HI.out.2.later HBW.out)
        have c1 := HIW.out.2.1.cell 0
        simp only [List.getElem?_cons_zero] at c1
        clear hnm hrs g1
        go_wp2_with fail
        refine (fnew_any _ _ _).mono ?_
        rintro e w6 ⟨rfl, rfl⟩
        go_wp2_with fail
        try rw [Exit.noGoto_ret]
        refine bodyPost_ret (results_tmp2 rfl _ _ _) rfl ?_
        rw [HRR.out]
        exact ⟨_, rfl, TokRow.nil _ _ _, HIW.out.2.2.2.1⟩
     | false =>
      have HWD := Lib.hid hwd
      have HSG : Hid (∀ W, Calls Tryz.prog 63 #[.string (s.extract i s.size)] W fun e w' => e = .returned (.string (bstr (signF (l.drop i)))) ∧ W = w') := fun W => by
       have h := sign_any (s.extract i s.size) (by rw [ByteArray.size_extract]; omega) (by rw [ByteArray.size_extract]; omega) W
       rw [ext_list s i (by omega), ← HL.out] at h
       exact h
      have hwd' : wdB (l.getD i 0) = false := by rw [← HX.out]; exact hwd
      have hsp' : spB (l.getD i 0) = false := by rw [← HX.out]; exact HSP.out
      obtain ⟨t, ht⟩ : ∃ t, t = bstr (signF (l.drop i)) := ⟨_, rfl⟩
      rw [← ht] at HSG
      have HTT := Lib.hid ht
      clear hwd ht
      go_wp2_with fail
      refine (isSpace_any s[i] _).mono ?_
      rintro e w2 ⟨rfl, rfl⟩
      rw [HSP.out]
      go_wp2_with fail
      refine (HPC.out _).mono ?_
      rintro e w2 ⟨rfl, rfl⟩
      go_wp2_with fail
      refine (isWord_any s[i] _).mono ?_
      rintro e w3 ⟨rfl, rfl⟩
      rw [HWD.out]
      go_wp2_with fail
      refine (HSG.out _).mono ?_
      rintro e w3 ⟨rfl, rfl⟩
      have HBW : Hid (Below wr.heap.size wr ((w1.setCell ⟨TB, 0, none⟩ (.int .i64 2)).setCell ⟨TB, 1, none⟩ (.string t))) :=
       (HBT.out.setCell (p := ⟨TB, 0, none⟩) (by rw [HTB.out]; exact Nat.le_refl _) _).setCell (p := ⟨TB, 1, none⟩) (by rw [HTB.out]; exact Nat.le_refl _) _
      have HTW : Hid (Arr ((w1.setCell ⟨TB, 0, none⟩ (.int .i64 2)).setCell ⟨TB, 1, none⟩ (.string t)) 87 TB [.int .i64 2, .string t, .int .i64 i]) := (HT0.out.set 0 _).set 1 _
      go_upto_region 9 with (fail)
      generalize (w1.setCell ⟨TB, 0, none⟩ (.int .i64 2)).setCell ⟨TB, 1, none⟩ (.string t) = w5 at HBW HTW ⊢
      clear ft0 ft1 ct0 ct1 ct2 c1 cS f1 HT0 HBT HI1 HPC HSG
      have ht := HTT.out
      cases har : Lib.hasPrefix (l.drop i) [45, 62] with
      | true =>
       have hpt := pre_t hil2 har
       have HNX := Lib.hid (lx_arrow HLX.out hpt.2.1 hpt.1 hpt.2.2)
       have HLE : Hid (i + 2 ≤ s.size) := by show _ ≤ _; have := HSZ.out; omega
       have ht2 : t = bstr [45, 62] := by rw [ht]; unfold signF; rw [if_pos har]
       clear har hpt ht hwd' hsp'
       have HTX : Hid (t = bstr [45, 62]) := ht2
       have HTZ : Hid (t.size = 2) := by show _ = _; rw [ht2, bstr_size]; rfl
       have HN1 : Hid (1 ≤ 2) := by show _ ≤ _; omega
       have tb : (t.size : Int) ≤ 100000 := by have := HTZ.out; omega
       have tb0 : (0 : Int) ≤ t.size := by omega
       have tb1 : (0 : Int) < t.size := by have := HTZ.out; omega
       have hne : ¬ t.data.toList = [] := by rw [ht2, bstr_data]; simp
       have he2 : ¬ t.toList = [] := by rw [toList_data]; exact hne
       have he1 : t.toList.isEmpty = false := by rw [toList_data, ht2, bstr_data]; rfl
       have he0 : t.data.toList.isEmpty = false := by rw [ht2, bstr_data]; rfl
       have he3 : (t.toList == []) = false := by rw [beq_eq_false_iff_ne]; exact he2
       clear ht2
       have HIW := Lib.hid (HI.out.2.later HBW.out)
       have HAB : Hid (Arr (w5.alloc (.cells #[.int .i64 2, .string t, .int .i64 i] 87)) 87 w5.heap.size (tkv (mkT 2 ([45, 62]) i))) := by
        show Arr _ _ _ [.int .i64 2, .string (bstr ([45, 62])), .int .i64 i]
        rw [← HTX.out]; exact Arr.new' _ _ _ _ rfl
       have HBA : Hid (Below w5.heap.size w5 (w5.alloc (.cells #[.int .i64 2, .string t, .int .i64 i] 87))) := (Below.refl _ _).alloc (Nat.le_refl _) _
       have HIA := Lib.hid (HIW.out.later HBA.out)
       have HTA := Lib.hid (HTW.out.later HBA.out)
       have HOB : Hid (∀ b, (Value.slice qv acc.length cv).ownBlock = some b → b ≠ TB) := fun b hb => by have := HI.out.2.2.2.1.blk hb; have := HTB.out; omega
       have HAC : Hid (acc.length + 1 ≤ 1000000) := by have := HLX.out.2.1; have := HS.out; show _ ≤ _; omega
       have m0 := HTW.out.cell 0
       have m1 := HTW.out.cell 1
       have m2 := HTW.out.cell 2
       simp only [List.getElem?_cons_zero, List.getElem?_cons_succ] at m0 m1 m2
       clear HBA HIW
       go_wp2_with (at_builtin; refine app_tokL rfl _ _ rfl rfl HIA.out.2.2.1 rfl HAB.out HAC.out HIA.out.2.2.2.2.2 ?_; intro v5 w6 h5 b5 g5; have HI6 := Lib.hid (HIA.out.row HR.out h5 b5); have HT6 := Lib.hid (HTA.out.grown g5 HOB.out); have c1 := HI6.out.2.1.cell 0; have f1 := HI6.out.2.1.free 0; have n1 := HT6.out.cell 1; simp only [List.getElem?_cons_zero, List.getElem?_cons_succ] at c1 n1; have HC1 := Lib.hid c1; clear h5 b5 g5 m0 m1 m2)
       go_roundw
       case rel => exact ⟨_, _, HNX.out, HI6.out.put HR.out (by rw [HTZ.out]; omega)⟩
       case measure => rw [World.cell?_setCell_same _ _ _ HC1.out, HC0.out]; simp [intOf]; have := HTZ.out; have := HN1.out; have := HLE.out; omega
      | false =>
       have hpt := pre_f hil2 har
       cases hsg : sgB (l.getD i 0) with
       | true =>
        have HNX := Lib.hid (lx_sign HLX.out hil2 hwd' hsp' HNT.out hpt hsg)
        have HLE : Hid (i + 1 ≤ s.size) := by show _ ≤ _; omega
        have hgd : (l.drop i).getD 0 0 = l.getD i 0 := by rw [drop_cons' hil2]; rfl
        have ht2 : t = bstr [l.getD i 0] := by rw [ht]; unfold signF; rw [if_neg (by rw [har]; simp), hgd, if_pos hsg]
        clear har hpt ht hwd' hsp' hsg hgd
        have HTX : Hid (t = bstr [l.getD i 0]) := ht2
        have HTZ : Hid (t.size = 1) := by show _ = _; rw [ht2, bstr_size]; rfl
        have HN1 : Hid (1 ≤ 1) := by show _ ≤ _; omega
        have tb : (t.size : Int) ≤ 100000 := by have := HTZ.out; omega
        have tb0 : (0 : Int) ≤ t.size := by omega
        have tb1 : (0 : Int) < t.size := by have := HTZ.out; omega
        have hne : ¬ t.data.toList = [] := by rw [ht2, bstr_data]; simp
        have he2 : ¬ t.toList = [] := by rw [toList_data]; exact hne
        have he1 : t.toList.isEmpty = false := by rw [toList_data, ht2, bstr_data]; rfl
        have he0 : t.data.toList.isEmpty = false := by rw [ht2, bstr_data]; rfl
        have he3 : (t.toList == []) = false := by rw [beq_eq_false_iff_ne]; exact he2
        clear ht2
        have HIW := Lib.hid (HI.out.2.later HBW.out)
        have HAB : Hid (Arr (w5.alloc (.cells #[.int .i64 2, .string t, .int .i64 i] 87)) 87 w5.heap.size (tkv (mkT 2 [l.getD i 0] i))) := by
         show Arr _ _ _ [.int .i64 2, .string (bstr ([l.getD i 0])), .int .i64 i]
         rw [← HTX.out]; exact Arr.new' _ _ _ _ rfl
        have HBA : Hid (Below w5.heap.size w5 (w5.alloc (.cells #[.int .i64 2, .string t, .int .i64 i] 87))) := (Below.refl _ _).alloc (Nat.le_refl _) _
        have HIA := Lib.hid (HIW.out.later HBA.out)
        have HTA := Lib.hid (HTW.out.later HBA.out)
        have HOB : Hid (∀ b, (Value.slice qv acc.length cv).ownBlock = some b → b ≠ TB) := fun b hb => by have := HI.out.2.2.2.1.blk hb; have := HTB.out; omega
        have HAC : Hid (acc.length + 1 ≤ 1000000) := by have := HLX.out.2.1; have := HS.out; show _ ≤ _; omega
        have m0 := HTW.out.cell 0
        have m1 := HTW.out.cell 1
        have m2 := HTW.out.cell 2
        simp only [List.getElem?_cons_zero, List.getElem?_cons_succ] at m0 m1 m2
        clear HBA HIW
        go_wp2_with (at_builtin; refine app_tokL rfl _ _ rfl rfl HIA.out.2.2.1 rfl HAB.out HAC.out HIA.out.2.2.2.2.2 ?_; intro v5 w6 h5 b5 g5; have HI6 := Lib.hid (HIA.out.row HR.out h5 b5); have HT6 := Lib.hid (HTA.out.grown g5 HOB.out); have c1 := HI6.out.2.1.cell 0; have f1 := HI6.out.2.1.free 0; have n1 := HT6.out.cell 1; simp only [List.getElem?_cons_zero, List.getElem?_cons_succ] at c1 n1; have HC1 := Lib.hid c1; clear h5 b5 g5 m0 m1 m2)
        go_roundw
        case rel => exact ⟨_, _, HNX.out, HI6.out.put HR.out (by rw [HTZ.out]; omega)⟩
        case measure => rw [World.cell?_setCell_same _ _ _ HC1.out, HC0.out]; simp [intOf]; have := HTZ.out; have := HN1.out; have := HLE.out; omega
       | false =>
        have HRR := Lib.hid (lx_sign_err HLX.out hil2 hwd' hsp' HNT.out hpt hsg)
        have hgd : (l.drop i).getD 0 0 = l.getD i 0 := by rw [drop_cons' hil2]; rfl
        obtain rfl : t = ⟨#[]⟩ := by rw [ht]; unfold signF; rw [if_neg (by rw [har]; simp), hgd, if_neg (by rw [hsg]; simp)]; rfl
        have HIW := Lib.hid (HI.out.2.later HBW.out)
        have c1 := HIW.out.2.1.cell 0
        have m1 := HTW.out.cell 1
        simp only [List.getElem?_cons_zero, List.getElem?_cons_succ] at c1 m1
        clear har hpt ht hwd' hsp' hsg hgd
        go_wp2_with fail
        refine (fnew_any _ _ _).mono ?_
        rintro e w6 ⟨rfl, rfl⟩
        go_wp2_with fail
        try rw [Exit.noGoto_ret]
        refine bodyPost_ret (results_tmp2 rfl _ _ _) rfl ?_
        rw [HRR.out]
        exact ⟨_, rfl, TokRow.nil _ _ _, HIW.out.2.2.2.1⟩
  ·obtain ⟨hRR, hie⟩ := lx_end HI.out.1 (by have := HSZ.out; omega)
   have i1 : ¬ (i : Int) < s.size := by omega
   have HRR : Hid (R = (acc ++ [mkT 3 [] s.size], 0, 0)) := by show _ = _; rw [hRR, HSZ.out]
   have HAR : Hid (Arr (wr.alloc (.cells #[.int .i64 3, .string ⟨#[]⟩, .int .i64 s.size] 87)) 87 wr.heap.size (tkv (mkT 3 [] s.size))) := Arr.new' wr _ _ _ rfl
   have HBA : Hid (Below wr.heap.size wr (wr.alloc (.cells #[.int .i64 3, .string ⟨#[]⟩, .int .i64 s.size] 87))) := (Below.refl _ _).alloc (Nat.le_refl _) _
   have HTR := Lib.hid (HI.out.2.2.2.1.later HBA.out)
   have HAC : Hid (acc.length + 1 ≤ 1000000) := by have := HI.out.1.2.1; have := HS.out; show _ ≤ _; omega
   have HBS : Hid (w.heap.size + 2 ≤ (wr.alloc (.cells #[.int .i64 3, .string ⟨#[]⟩, .int .i64 s.size] 87)).heap.size) := Nat.le_trans HI.out.2.2.2.2.2.2 HBA.out.size
   have HB1 : Hid (Below w.heap.size w (wr.alloc (.cells #[.int .i64 3, .string ⟨#[]⟩, .int .i64 s.size] 87))) := HI.out.2.2.2.2.1.trans (HBA.out.mono HI.out.2.2.2.2.1.size)
   clear hRR hie HI
   go_wp2_with (at_builtin; refine app_tokL rfl _ _ rfl rfl HTR.out rfl HAR.out HAC.out HBS.out ?_; intro v5 w5 h5 b5 g5)
   try rw [Exit.noGoto_ret]
   refine bodyPost_ret (results_tmp2 rfl _ _ _) rfl ?_
   rw [HRR.out]
   exact ⟨_, rfl, h5.le (by omega), HB1.out.trans (b5.mono (by omega))⟩
end Go.Proofs.YteieimchleioaaaGreatDoor
/-
  parse's parser in memory; next, is, need, skip, want, needName, name.
-/
namespace Go.Proofs.YteieimchleioaaaGreatDoor
open Go.ChangeShapes Go.WideShapes Go.ChangeAt Go.RowKit
set_option linter.unusedVariables false

/-- What a call keeps that writes into the parser alone. -/
def Kp (pb : Nat) (W W' : World) : Prop := W'.os = W.os ∧ W'.tape = W.tape ∧ W'.output = W.output ∧ W.heap.size ≤ W'.heap.size ∧ ∀ k, k < W.heap.size → k ≠ pb → W'.heap[k]? = W.heap[k]?
theorem Kp.of {pb : Nat} {W W' : World} (h : Below W.heap.size W W') : Kp pb W W' := ⟨h.os, h.tape, h.output, h.size, fun k hk _ => h.block k hk⟩
theorem Kp.trans {pb : Nat} {W W' W2 : World} (h : Kp pb W W') (g : Kp pb W' W2) : Kp pb W W2 := ⟨g.1.trans h.1, g.2.1.trans h.2.1, g.2.2.1.trans h.2.2.1, Nat.le_trans h.2.2.2.1 g.2.2.2.1, fun k hk hn => (g.2.2.2.2 k (Nat.lt_of_lt_of_le hk h.2.2.2.1) hn).trans (h.2.2.2.2 k hk hn)⟩
theorem Kp.set {pb : Nat} {W W' : World} (h : Kp pb W W') (i : Nat) (v : Value) : Kp pb W (W'.setCell ⟨pb, i, none⟩ v) := h.trans ⟨rfl, rfl, rfl, by simp [World.setCell], fun k hk hn => Below.heap_setCell W' ⟨pb, i, none⟩ v k hn⟩
theorem Kp.below {pb B : Nat} {W W' : World} (h : Kp pb W W') (h1 : B ≤ pb) (h2 : B ≤ W.heap.size) : Below B W W' := ⟨h.1, h.2.1, h.2.2.1, h.2.2.2.1, fun k hk => h.2.2.2.2 k (Nat.lt_of_lt_of_le hk h2) (by omega)⟩
theorem Kp.arr {pb : Nat} {W W' : World} (h : Kp pb W W') {t : TypeId} {g : Nat} {cs : List Value} (hA : Arr W t g cs) (hg : g ≠ pb) : Arr W' t g cs := (h.2.2.2.2 g hA.lt hg).trans hA
/-- The parser in memory: its tokens and its place. -/
def PP (W : World) (pb tb c : Nat) (ts : List Tok) (s : PS) : Prop :=
 Arr W 84 pb [.slice (some ⟨tb, 0, none⟩) ts.length c, .int .i64 (s.i : Nat), .int .i64 (s.o : Nat), .int .i64 (s.l : Nat)] ∧ tb < pb ∧ (∀ i, i < ts.length → ∀ j, j < 3 → W.cell? ⟨tb, i * 3 + j, none⟩ = (tkv (ts.getD i tok0))[j]?) ∧ ts.length ≤ 100000 ∧ ResT W ∧ 0 < pb
theorem PP.later {W W' : World} {pb tb c : Nat} {ts : List Tok} {s : PS} (h : PP W pb tb c ts s) (hb : Below W.heap.size W W') : PP W' pb tb c ts s :=
 ⟨h.1.later hb, h.2.1, fun i hi j hj => (hb.cell (p := ⟨tb, i * 3 + j, none⟩) (Nat.lt_trans h.2.1 h.1.lt)).trans (h.2.2.1 i hi j hj), h.2.2.2.1, h.2.2.2.2.1.below hb h.2.2.2.2.1.lt, h.2.2.2.2.2⟩
theorem PP.set {W : World} {pb tb c : Nat} {ts : List Tok} {s s' : PS} {i : Nat} {v : Value} (h : PP W pb tb c ts s)
  (he : ([.slice (some ⟨tb, 0, none⟩) ts.length c, .int .i64 (s.i : Nat), .int .i64 (s.o : Nat), .int .i64 (s.l : Nat)] : List Value).set i v = [.slice (some ⟨tb, 0, none⟩) ts.length c, .int .i64 (s'.i : Nat), .int .i64 (s'.o : Nat), .int .i64 (s'.l : Nat)]) : PP (W.setCell ⟨pb, i, none⟩ v) pb tb c ts s' := by
 refine ⟨he ▸ h.1.set i v, h.2.1, fun k hk j hj => ?_, h.2.2.2.1, h.2.2.2.2.1.below ((Below.refl pb W).setCell (p := ⟨pb, i, none⟩) (Nat.le_refl _) v) h.2.2.2.2.2, h.2.2.2.2.2⟩
 exact (World.cell?_of_block (Below.heap_setCell W ⟨pb, i, none⟩ v tb (by have := h.2.1; simp only [ne_eq]; omega))).trans (h.2.2.1 k hk j hj)
def offs (ts : List Tok) (i : Nat) : Int := (ts.getD i tok0).2.2
def flt (k : Nat) (n : Int) : Value := .iface 81 (.agg #[.int .i64 (k : Nat), .int .i64 n])
/-- What a rule's call gives. -/
def QR {α : Type} (pb tb c : Nat) (ts : List Tok) (w : World) (r : PR α) (val : α → World → Value → Prop) (e : Ending) (w' : World) : Prop :=
 (∃ x s' v, r = .ok x s' ∧ e = .returned v ∧ val x w' v ∧ PP w' pb tb c ts s' ∧ Kp pb w w') ∨ (∃ k i, r = .bad k i ∧ e = .panicked [{ v := flt k (offs ts i), recovered := false }] ∧ Kp pb w w')
section
variable {W : World} {pb tb c : Nat} {ts : List Tok} {s : PS}
/-- What next's region keeps. -/
def SN (W : World) (pb tb c : Nat) (ts : List Tok) (s : PS) (W' : World) : Prop := PP W' pb tb c ts s ∧ (∃ a b d, Arr W' 87 W.heap.size [a, b, d]) ∧ Below W.heap.size W W'
theorem SN.later {W W' W2 : World} {pb tb c : Nat} {ts : List Tok} {s : PS} (h : SN W pb tb c ts s W') (hb : Below W'.heap.size W' W2) : SN W pb tb c ts s W2 := by
 obtain ⟨h1, ⟨a, b, d, h2⟩, h3⟩ := h
 exact ⟨h1.later hb, ⟨a, b, d, h2.later hb⟩, h3.trans (hb.mono h3.size)⟩
theorem fieldT0 (x y : Int) (b : ByteArray) (w : World) : (Instr.field 87 (.agg #[.int .i64 x, .string b, .int .i64 y]) 0).run Tryz.prog w = .ok (.int .i64 x) w := by kernel_rfl
theorem fieldT1 (x y : Int) (b : ByteArray) (w : World) : (Instr.field 87 (.agg #[.int .i64 x, .string b, .int .i64 y]) 1).run Tryz.prog w = .ok (.string b) w := by kernel_rfl
theorem fieldT2 (x y : Int) (b : ByteArray) (w : World) : (Instr.field 87 (.agg #[.int .i64 x, .string b, .int .i64 y]) 2).run Tryz.prog w = .ok (.int .i64 y) w := by kernel_rfl
set_option maxRecDepth 100000 in
set_option maxHeartbeats 2000000 in
theorem next_any (h : PP W pb tb c ts s) (hi : s.i < ts.length) : Calls Tryz.prog 33 #[.pointer (some ⟨pb, 0, none⟩)] W fun e w' => e = .returned (.agg #[.int .i64 (ts.getD s.i tok0).1, .string (bstr (txt ts s.i)), .int .i64 (offs ts s.i)]) ∧ Below W.heap.size W w' := by
 have HB0 : Hid (Below W.heap.size W (W.alloc (.cells #[.int .i64 0, .string ⟨#[]⟩, .int .i64 0] 87))) := (Below.refl _ _).alloc (Nat.le_refl _) _
 have HA0 : Hid (Arr (W.alloc (.cells #[.int .i64 0, .string ⟨#[]⟩, .int .i64 0] 87)) 87 W.heap.size [.int .i64 0, .string ⟨#[]⟩, .int .i64 0]) := Arr.new' _ _ _ _ rfl
 have HP0 : Hid (PP (W.alloc (.cells #[.int .i64 0, .string ⟨#[]⟩, .int .i64 0] 87)) pb tb c ts s) := h.later HB0.out
 have a0 := HP0.out.1.cell 0
 have a1 := HP0.out.1.cell 1
 simp only [List.getElem?_cons_zero, List.getElem?_cons_succ] at a0 a1
 have t0 := HP0.out.2.2.1 s.i hi 0 (by decide)
 have t1 := HP0.out.2.2.1 s.i hi 1 (by decide)
 have t2 := HP0.out.2.2.1 s.i hi 2 (by decide)
 obtain ⟨si, hsi⟩ : ∃ k, k = s.i := ⟨_, rfl⟩
 obtain ⟨k0, hk0⟩ : ∃ k, k = (ts.getD s.i tok0).1 := ⟨_, rfl⟩
 obtain ⟨k1, hk1⟩ : ∃ k, k = bstr (txt ts s.i) := ⟨_, rfl⟩
 obtain ⟨k2, hk2⟩ : ∃ k, k = offs ts s.i := ⟨_, rfl⟩
 have t0 : (W.alloc (.cells #[.int .i64 0, .string ⟨#[]⟩, .int .i64 0] 87)).cell? ⟨tb, s.i * 3 + 0, none⟩ = some (.int .i64 (ts.getD s.i tok0).1) := t0
 have t1 : (W.alloc (.cells #[.int .i64 0, .string ⟨#[]⟩, .int .i64 0] 87)).cell? ⟨tb, s.i * 3 + 1, none⟩ = some (.string (bstr (txt ts s.i))) := t1
 have t2 : (W.alloc (.cells #[.int .i64 0, .string ⟨#[]⟩, .int .i64 0] 87)).cell? ⟨tb, s.i * 3 + 2, none⟩ = some (.int .i64 (offs ts s.i)) := t2
 rw [← hsi] at a1 t0 t1 t2
 rw [← hsi] at hk0 hk1 hk2
 rw [← hsi]
 rw [← hk0] at t0
 rw [← hk1] at t1
 rw [← hk2] at t2
 rw [← hk0, ← hk1, ← hk2]
 have hi0 : (0 : Int) ≤ (si : Int) := by omega
 have hi1 : (si : Int) < ts.length := by omega
 rw [Nat.add_zero] at t0
 have HSI : Hid (si = s.i) := hsi
 have HT : Hid (∀ w', PP w' pb tb c ts s → w'.cell? ⟨tb, si * 3, none⟩ = some (.int .i64 k0) ∧ w'.cell? ⟨tb, si * 3 + 1, none⟩ = some (.string k1) ∧ w'.cell? ⟨tb, si * 3 + 2, none⟩ = some (.int .i64 k2)) := fun w' hp => by
  rw [hk0, hk1, hk2, hsi]
  exact ⟨hp.2.2.1 s.i hi 0 (by decide), hp.2.2.1 s.i hi 1 (by decide), hp.2.2.1 s.i hi 2 (by decide)⟩
 have HPW := Lib.hid h
 have HS : Hid (SN W pb tb c ts s (W.alloc (.cells #[.int .i64 0, .string ⟨#[]⟩, .int .i64 0] 87))) := ⟨HP0.out, ⟨_, _, _, HA0.out⟩, HB0.out⟩
 clear h hi hk0 hk1 hk2 hsi a0 a1 t0 t1 t2
 go_enter Tryz.func33, Tryz.ntmps33
 go_wp2_with fail
 go_upto_region 1 with (fail)
 refine wp_region_noPanic ?_
 refine wp_region_held_drew (S := SN W pb tb c ts s) (by kernel_rfl) (HS.out.later (Below.refl _ _).drew) (fun hHeld => ?_)
 try simp only [Act.put]
 generalize (W.alloc (.cells #[.int .i64 0, .string ⟨#[]⟩, .int .i64 0] 87)).drew = w1 at hHeld ⊢
 clear HS
 refine wpAnyH_take (i := 0) (oi := ⟨some 3, _, _, _, _, _⟩) (v := .pointer (some ⟨pb, 0, none⟩)) rfl (by kernel_rfl) (by kernel_rfl) (by kernel_rfl) (fun _ _ _ h => h) (.inl ⟨by rfl, fun w' hSw => ?_⟩) hHeld ?_
 focus (skip; clear hHeld; go_simp)
 try simp only [Act.put, List.setIfInBounds_toArray, List.set_cons_zero, List.set_cons_succ]
 refine wpAnyH_take (i := 1) (oi := ⟨some 4, _, _, _, _, _⟩) (v := .pointer (some ⟨pb, 0, none⟩)) rfl (by kernel_rfl) (by kernel_rfl) (by kernel_rfl) (fun _ _ _ h => h) (.inl ⟨by rfl, fun w' hSw => ?_⟩) hHeld ?_
 focus (skip; clear hHeld; go_simp)
 try simp only [Act.put, List.setIfInBounds_toArray, List.set_cons_zero, List.set_cons_succ]
 refine wpAnyH_take (i := 2) (oi := ⟨some 5, _, _, _, _, _⟩) (v := .pointer (some ⟨pb, 0, none⟩)) rfl (by kernel_rfl) (by kernel_rfl) (by kernel_rfl) (fun _ _ _ h => h) (.inl ⟨by rfl, fun w' hSw => ?_⟩) hHeld ?_
 focus (skip; clear hHeld; go_simp)
 try simp only [Act.put, List.setIfInBounds_toArray, List.set_cons_zero, List.set_cons_succ]
 refine wpAnyH_take (i := 3) (oi := ⟨some 6, _, _, _, _, _⟩) (v := .slice (some ⟨tb, 0, none⟩) ts.length c) rfl (by kernel_rfl) (by kernel_rfl) (by kernel_rfl) (fun _ _ _ h => h) (.inl ⟨by rfl, fun w' hSw => ?_⟩) hHeld ?_
 focus (have q0 := hSw.1.1.cell 0; simp only [List.getElem?_cons_zero] at q0; clear hHeld; go_simp)
 try simp only [Act.put, List.setIfInBounds_toArray, List.set_cons_zero, List.set_cons_succ]
 refine wpAnyH_take (i := 4) (oi := ⟨some 7, _, _, _, _, _⟩) (v := .pointer (some ⟨pb, 0, none⟩)) rfl (by kernel_rfl) (by kernel_rfl) (by kernel_rfl) (fun _ _ _ h => h) (.inl ⟨by rfl, fun w' hSw => ?_⟩) hHeld ?_
 focus (skip; clear hHeld; go_simp)
 try simp only [Act.put, List.setIfInBounds_toArray, List.set_cons_zero, List.set_cons_succ]
 refine wpAnyH_take (i := 5) (oi := ⟨some 8, _, _, _, _, _⟩) (v := .pointer (some ⟨pb, 0, none⟩)) rfl (by kernel_rfl) (by kernel_rfl) (by kernel_rfl) (fun _ _ _ h => h) (.inl ⟨by rfl, fun w' hSw => ?_⟩) hHeld ?_
 focus (skip; clear hHeld; go_simp)
 try simp only [Act.put, List.setIfInBounds_toArray, List.set_cons_zero, List.set_cons_succ]
 refine wpAnyH_take (i := 6) (oi := ⟨some 9, _, _, _, _, _⟩) (v := .pointer (some ⟨pb, 1, none⟩)) rfl (by kernel_rfl) (by kernel_rfl) (by kernel_rfl) (fun _ _ _ h => h) (.inl ⟨by rfl, fun w' hSw => ?_⟩) hHeld ?_
 focus (skip; clear hHeld; go_simp)
 try simp only [Act.put, List.setIfInBounds_toArray, List.set_cons_zero, List.set_cons_succ]
 refine wpAnyH_take (i := 7) (oi := ⟨some 10, _, _, _, _, _⟩) (v := .int .i64 (si : Nat)) rfl (by kernel_rfl) (by kernel_rfl) (by kernel_rfl) (fun _ _ _ h => h) (.inl ⟨by rfl, fun w' hSw => ?_⟩) hHeld ?_
 focus (have q1 := hSw.1.1.cell 1; simp only [List.getElem?_cons_zero, List.getElem?_cons_succ] at q1; rw [← HSI.out] at q1; clear hHeld; go_simp)
 try simp only [Act.put, List.setIfInBounds_toArray, List.set_cons_zero, List.set_cons_succ]
 refine wpAnyH_take (i := 8) (oi := ⟨some 11, _, _, _, _, _⟩) (v := .pointer (some ⟨tb, si * 3, none⟩)) rfl (by kernel_rfl) (by kernel_rfl) (by kernel_rfl) (fun _ _ _ h => h) (.inl ⟨by rfl, fun w' hSw => ?_⟩) hHeld ?_
 focus (skip; clear hHeld; go_simp)
 try simp only [Act.put, List.setIfInBounds_toArray, List.set_cons_zero, List.set_cons_succ]
 refine wpAnyH_take (i := 9) (oi := ⟨some 12, _, _, _, _, _⟩) (v := .agg #[.int .i64 k0, .string k1, .int .i64 k2]) rfl (by kernel_rfl) (by kernel_rfl) (by kernel_rfl) (fun _ _ _ h => h) (.inl ⟨by rfl, fun w' hSw => ?_⟩) hHeld ?_
 focus (obtain ⟨t0, t1, t2⟩ := HT.out w' hSw.1; clear hHeld; go_simp)
 try simp only [Act.put, List.setIfInBounds_toArray, List.set_cons_zero, List.set_cons_succ]
 refine wpAnyH_ready (rs := [10]) (by kernel_rfl) (by simp) ?_
 refine AllReadyH.cons (o := ⟨none, _, _, _, _, _⟩) rfl (fun K' hK' => ?_) AllReadyH.nil
 obtain ⟨hp, ⟨z0, z1, z2, hz⟩, hb⟩ := hHeld
 have HZ := Lib.hid hz
 have HP1 := Lib.hid hp
 have b0 := hz.cell 0
 have b1 := hz.cell 1
 have b2 := hz.cell 2
 have f0 := hz.free 0
 have f1 := hz.free 1
 have f2 := hz.free 2
 simp only [List.getElem?_cons_zero, List.getElem?_cons_succ] at b0 b1 b2
 have HB2 : Hid (Below W.heap.size W (((w1.setCell ⟨W.heap.size, 0, none⟩ (.int .i64 k0)).setCell ⟨W.heap.size, 1, none⟩ (.string k1)).setCell ⟨W.heap.size, 2, none⟩ (.int .i64 k2))) := ((hb.setCell (p := ⟨W.heap.size, 0, none⟩) (Nat.le_refl _) (.int .i64 k0)).setCell (p := ⟨W.heap.size, 1, none⟩) (Nat.le_refl _) (.string k1)).setCell (p := ⟨W.heap.size, 2, none⟩) (Nat.le_refl _) (.int .i64 k2)
 have hA := ((hz.set 0 (.int .i64 k0)).set 1 (.string k1)).set 2 (.int .i64 k2)
 have hA2 := hA
 simp only [List.set_cons_zero, List.set_cons_succ] at hA2
 have HA2 := Lib.hid hA2
 have HP2 : Hid (PP (((w1.setCell ⟨W.heap.size, 0, none⟩ (.int .i64 k0)).setCell ⟨W.heap.size, 1, none⟩ (.string k1)).setCell ⟨W.heap.size, 2, none⟩ (.int .i64 k2)) pb tb c ts s) := (HPW.out.later HB2.out)
 clear hp hz hb hA hA2
 go_simp
 refine hK'.out _ _ ⟨HP2.out, ⟨_, _, _, HA2.out⟩, HB2.out⟩ (fun _ => ?_)
 clear hK' K' b0 b1 b2 f0 f1 f2
 try simp only [Act.put, List.setIfInBounds_toArray, List.set_cons_zero, List.set_cons_succ]
 refine wpAnyH_done (by kernel_rfl) ?_ _
 refine NoPanic.normal ?_
 have hA := HA2.out
 have hB := HB2.out
 go_wp2_with fail
 have c0 := hA.cell 0
 have c1 := hA.cell 1
 have c2 := hA.cell 2
 refine bodyPost_ret (v := .agg #[.int .i64 k0, .string k1, .int .i64 k2]) ?_ rfl ⟨rfl, hB⟩
 simp only [List.getElem?_cons_zero, List.getElem?_cons_succ] at c0 c1 c2
 simp [results, Tryz.results33, go_sem, c0, c1, c2]
set_option maxRecDepth 100000 in
set_option maxHeartbeats 2000000 in
theorem is_any (h : PP W pb tb c ts s) (hi : s.i < ts.length) (b : ByteArray) (t : List UInt8) (hb : b.data.toList = t) : Calls Tryz.prog 34 #[.pointer (some ⟨pb, 0, none⟩), .string b] W fun e w' => e = .returned (.bool (decide (txt ts s.i = t))) ∧ Below W.heap.size W w' := by
 have HN := Lib.hid (next_any h hi)
 have hfl := fieldT1
 obtain ⟨d, hd⟩ : ∃ d, d = decide (txt ts s.i = t) := ⟨_, rfl⟩
 have HD := Lib.hid hd
 obtain ⟨k1, hk1⟩ : ∃ k, k = bstr (txt ts s.i) := ⟨_, rfl⟩
 have he : (k1.toList == b.toList) = d := by
  rw [hk1, toList_data, toList_data, bstr_data, hb, hd, Bool.eq_iff_iff, beq_iff_eq, decide_eq_true_iff]
 rw [← hk1] at HN
 rw [← hd]
 clear hd hk1 h hi hb
 go_enter Tryz.func34, Tryz.ntmps34
 go_wp2_with fail
 refine HN.out.mono ?_
 rintro r w1 ⟨rfl, b1⟩
 have HB := Lib.hid b1
 clear b1
 go_wp2_with fail
 go_ret
 exact ⟨rfl, HB.out⟩
set_option maxRecDepth 100000 in
set_option maxHeartbeats 2000000 in
theorem need_t (k : Int) : Calls Tryz.prog 32 #[.pointer (some ⟨pb, 0, none⟩), .bool true, .int .i64 k] W fun e w' => e = .returned (.tuple #[]) ∧ w' = W := by
 go_enter Tryz.func32, Tryz.ntmps32
 go_wp2_with fail
 go_end0
 exact ⟨rfl, rfl⟩
set_option maxRecDepth 100000 in
set_option maxHeartbeats 2000000 in
theorem need_f (h : PP W pb tb c ts s) (hi : s.i < ts.length) (k : Nat) : Calls Tryz.prog 32 #[.pointer (some ⟨pb, 0, none⟩), .bool false, .int .i64 k] W fun e w' => e = .panicked [{ v := flt k (offs ts s.i), recovered := false }] ∧ Below W.heap.size W w' := by
 have HN := Lib.hid (next_any h hi)
 have HF := Lib.hid (fnew_any (k : Nat) (offs ts s.i))
 have hfl := fieldT2
 unfold flt
 clear h hi
 go_enter Tryz.func32, Tryz.ntmps32
 go_wp2_with fail
 refine HN.out.mono ?_
 rintro r w1 ⟨rfl, b1⟩
 have HB := Lib.hid b1
 clear b1
 go_wp2_with fail
 refine (HF.out _).mono ?_
 rintro r w2 ⟨rfl, rfl⟩
 go_wp2_with fail
 exact ⟨rfl, rfl, HB.out⟩
set_option maxRecDepth 100000 in
set_option maxHeartbeats 2000000 in
theorem skip_any (h : PP W pb tb c ts s) (hi : s.i < ts.length) (b : ByteArray) (t : List UInt8) (hb : b.data.toList = t) : Calls Tryz.prog 86 #[.pointer (some ⟨pb, 0, none⟩), .string b] W fun e w' => ∃ d, d = decide (txt ts s.i = t) ∧ e = .returned (.bool d) ∧ PP w' pb tb c ts (if d = true then s.up else s) ∧ Kp pb W w' := by
 have HI := Lib.hid (is_any h hi b t hb)
 obtain ⟨d, hd⟩ : ∃ d, d = decide (txt ts s.i = t) := ⟨_, rfl⟩
 have HD := Lib.hid hd
 have HP := Lib.hid h
 have hz : (s.i : Int) ≤ 100000 := by have := h.2.2.2.1; omega
 have hz0 : (0 : Int) ≤ s.i := by omega
 rw [← hd] at HI
 clear h hi hd hb
 go_enter Tryz.func86, Tryz.ntmps86
 go_wp2_with fail
 refine HI.out.mono ?_
 rintro r w1 ⟨rfl, b1⟩
 have HP1 := Lib.hid (HP.out.later b1)
 have HK := Lib.hid (Kp.of (pb := pb) b1)
 have a0 := HP1.out.1.cell 0
 have a1 := HP1.out.1.cell 1
 have f1 := HP1.out.1.free 1
 simp only [List.getElem?_cons_zero, List.getElem?_cons_succ] at a0 a1
 clear b1 HI
 cases d with
 | true =>
  go_wp2_with fail
  go_ret
  exact ⟨true, HD.out, rfl, HP1.out.set (by simp [PS.up]), HK.out.set _ _⟩
 | false =>
  go_wp2_with fail
  go_ret
  exact ⟨false, HD.out, rfl, HP1.out, HK.out⟩
set_option maxRecDepth 100000 in
set_option maxHeartbeats 2000000 in
theorem want_any (h : PP W pb tb c ts s) (hi : s.i < ts.length) (b : ByteArray) (t : List UInt8) (hb : b.data.toList = t) : Calls Tryz.prog 64 #[.pointer (some ⟨pb, 0, none⟩), .string b] W (QR pb tb c ts W (wantF ts t s) fun _ _ v => v = .tuple #[]) := by
 have HI := Lib.hid (is_any h hi b t hb)
 obtain ⟨d, hd⟩ : ∃ d, d = decide (txt ts s.i = t) := ⟨_, rfl⟩
 have HD := Lib.hid hd
 have HP := Lib.hid h
 have HH := Lib.hid hi
 have hz : (s.i : Int) ≤ 100000 := by have := h.2.2.2.1; omega
 have hz0 : (0 : Int) ≤ s.i := by omega
 rw [← hd] at HI
 clear h hi hd hb
 go_enter Tryz.func64, Tryz.ntmps64
 go_wp2_with fail
 refine HI.out.mono ?_
 rintro r w1 ⟨rfl, b1⟩
 have HP1 := Lib.hid (HP.out.later b1)
 have HK := Lib.hid (Kp.of (pb := pb) b1)
 have a0 := HP1.out.1.cell 0
 have a1 := HP1.out.1.cell 1
 have f1 := HP1.out.1.free 1
 simp only [List.getElem?_cons_zero, List.getElem?_cons_succ] at a0 a1
 clear b1 HI
 cases d with
 | true =>
  have HW : Hid (wantF ts t s = .ok () s.up) := if_pos (of_decide_eq_true HD.out.symm)
  go_wp2_with fail
  refine (need_t 6).mono ?_
  rintro r w2 ⟨rfl, rfl⟩
  go_wp2_with fail
  go_end0
  exact .inl ⟨(), s.up, _, HW.out, rfl, rfl, HP1.out.set (by simp [PS.up]), HK.out.set _ _⟩
 | false =>
  have HW : Hid (wantF ts t s = .bad 6 s.i) := if_neg (of_decide_eq_false HD.out.symm)
  go_wp2_with fail
  refine (need_f HP1.out HH.out 6).mono ?_
  rintro r w2 ⟨rfl, b2⟩
  have HK2 := Lib.hid (HK.out.trans (Kp.of (pb := pb) b2))
  clear b2
  go_wp2_with fail
  exact ⟨rfl, .inr ⟨6, s.i, HW.out, rfl, HK2.out⟩⟩
set_option maxRecDepth 100000 in
set_option maxHeartbeats 2000000 in
theorem needName_any (h : PP W pb tb c ts s) (hi : s.i < ts.length) : Calls Tryz.prog 89 #[.pointer (some ⟨pb, 0, none⟩)] W fun e w' => Below W.heap.size W w' ∧ ((isName (bstr (txt ts s.i)) = true ∧ e = .returned (.tuple #[])) ∨ (isName (bstr (txt ts s.i)) = false ∧ e = .panicked [{ v := flt 6 (offs ts s.i), recovered := false }])) := by
 have HN := Lib.hid (next_any h hi)
 have HP := Lib.hid h
 have HH := Lib.hid hi
 have hfl := fieldT1
 obtain ⟨d, hd⟩ : ∃ d, d = isName (bstr (txt ts s.i)) := ⟨_, rfl⟩
 have HD := Lib.hid hd
 clear h hi hd
 go_enter Tryz.func89, Tryz.ntmps89
 go_wp2_with fail
 refine HN.out.mono ?_
 rintro r w1 ⟨rfl, b1⟩
 have HP1 := Lib.hid (HP.out.later b1)
 have HB1 := Lib.hid b1
 have HIS := Lib.hid (isName_any (bstr (txt ts s.i)) w1 HP1.out.2.2.2.2.1)
 rw [← HD.out] at HIS
 clear b1 HN
 go_wp2_with fail
 refine HIS.out.mono ?_
 rintro r w2 ⟨rfl, b2⟩
 have HP2 := Lib.hid (HP1.out.later b2)
 have HB2 := Lib.hid (HB1.out.trans (b2.mono HB1.out.size))
 clear b2 HIS
 cases d with
 | true =>
  go_wp2_with fail
  refine (need_t 6).mono ?_
  rintro r w3 ⟨rfl, rfl⟩
  go_wp2_with fail
  go_end0
  exact ⟨HB2.out, .inl ⟨HD.out.symm, rfl⟩⟩
 | false =>
  go_wp2_with fail
  refine (need_f HP2.out HH.out 6).mono ?_
  rintro r w3 ⟨rfl, b3⟩
  have HB3 := Lib.hid (HB2.out.trans (b3.mono HB2.out.size))
  clear b3
  go_wp2_with fail
  exact ⟨rfl, HB3.out, .inr ⟨HD.out.symm, rfl⟩⟩
set_option maxRecDepth 100000 in
set_option maxHeartbeats 2000000 in
theorem name_any (h : PP W pb tb c ts s) (hi : s.i < ts.length) : Calls Tryz.prog 65 #[.pointer (some ⟨pb, 0, none⟩)] W (QR pb tb c ts W (nameF ts s) fun x _ v => v = .string (bstr x)) := by
 have HN := Lib.hid (needName_any h hi)
 have HP := Lib.hid h
 have HH := Lib.hid hi
 have hfl := fieldT1
 have hz : (s.i : Int) ≤ 100000 := by have := h.2.2.2.1; omega
 have hz0 : (0 : Int) ≤ s.i := by omega
 clear h hi
 go_enter Tryz.func65, Tryz.ntmps65
 go_wp2_with fail
 refine HN.out.mono ?_
 rintro r w1 ⟨b1, (⟨hn, rfl⟩ | ⟨hn, rfl⟩)⟩
 ·have HP1 := Lib.hid (HP.out.later b1)
  have HB1 := Lib.hid b1
  have HW : Hid (nameF ts s = .ok (txt ts s.i) s.up) := if_pos hn
  have HX := Lib.hid (next_any HP1.out HH.out)
  clear b1 hn HN
  go_wp2_with fail
  refine HX.out.mono ?_
  rintro r w2 ⟨rfl, b2⟩
  have HP2 := Lib.hid (HP1.out.later b2)
  have HB2 := Lib.hid (HB1.out.trans (b2.mono HB1.out.size))
  clear b2 HX
  have a0 := HP2.out.1.cell 0
  have a1 := HP2.out.1.cell 1
  have f1 := HP2.out.1.free 1
  simp only [List.getElem?_cons_zero, List.getElem?_cons_succ] at a0 a1
  go_wp2_with fail
  go_ret
  exact .inl ⟨_, s.up, _, HW.out, rfl, rfl, HP2.out.set (by simp [PS.up]), (Kp.of HB2.out).set _ _⟩
 ·have HB1 := Lib.hid b1
  have HW : Hid (nameF ts s = .bad 6 s.i) := if_neg (by rw [hn]; simp)
  clear b1 hn HN
  go_wp2_with fail
  exact ⟨rfl, .inr ⟨6, s.i, HW.out, rfl, Kp.of HB1.out⟩⟩
end
end Go.Proofs.YteieimchleioaaaGreatDoor
/-
  parse's allowed and types.
-/
namespace Go.Proofs.YteieimchleioaaaGreatDoor
open Go.ChangeShapes Go.WideShapes Go.ChangeAt Go.RowKit
set_option linter.unusedVariables false

theorem PP.below {B : Nat} {W W' : World} {pb tb c : Nat} {ts : List Tok} {s : PS} (h : PP W pb tb c ts s) (hb : Below B W W') (hB : pb < B) : PP W' pb tb c ts s :=
 ⟨h.1.below hb hB, h.2.1, fun i hi j hj => (hb.cell (p := ⟨tb, i * 3 + j, none⟩) (Nat.lt_trans h.2.1 hB)).trans (h.2.2.1 i hi j hj), h.2.2.2.1, h.2.2.2.2.1.below hb (Nat.lt_trans h.2.2.2.2.2 hB), h.2.2.2.2.2⟩
theorem PP.box {W : World} {pb tb c : Nat} {ts : List Tok} {s : PS} (h : PP W pb tb c ts s) {g : Nat} (hg : pb < g) (i : Nat) (v : Value) : PP (W.setCell ⟨g, i, none⟩ v) pb tb c ts s := h.below ((Below.refl g W).setCell (p := ⟨g, i, none⟩) (Nat.le_refl _) v) hg
theorem Kp.box {pb : Nat} {W W' : World} (h : Kp pb W W') {g : Nat} (hg : W.heap.size ≤ g) (i : Nat) (v : Value) : Kp pb W (W'.setCell ⟨g, i, none⟩ v) :=
 ⟨h.1, h.2.1, h.2.2.1, by simpa [World.setCell] using h.2.2.2.1, fun k hk hn => (Below.heap_setCell W' ⟨g, i, none⟩ v k (by simp only [ne_eq]; omega)).trans (h.2.2.2.2 k hk hn)⟩
section
variable {W : World} {pb tb c : Nat} {ts : List Tok} {s : PS}
set_option maxRecDepth 100000 in
set_option maxHeartbeats 2000000 in
theorem allowed_any (ho : OkTs ts) (h : PP W pb tb c ts s) (hi : s.i < ts.length) : Calls Tryz.prog 106 #[.pointer (some ⟨pb, 0, none⟩)] W (QR pb tb c ts W (allowedF ts s) fun x _ v => v = .agg #[.string (bstr x.1), .string (bstr x.2)]) := by
 have hb0 : Below W.heap.size W (W.alloc (.cells #[.string ⟨#[]⟩, .string ⟨#[]⟩] 105)) := (Below.refl _ _).alloc (Nat.le_refl _) _
 have HP0 := Lib.hid (h.later hb0)
 have HK0 := Lib.hid (Kp.of (pb := pb) hb0)
 have HA0 : Hid (Arr (W.alloc (.cells #[.string ⟨#[]⟩, .string ⟨#[]⟩] 105)) 105 W.heap.size [.string ⟨#[]⟩, .string ⟨#[]⟩]) := Arr.new' _ _ _ _ rfl
 have HN := Lib.hid (name_any HP0.out hi)
 have HLT : Hid (pb < W.heap.size) := h.1.lt
 have HH := Lib.hid hi
 have HO := Lib.hid ho
 clear h hi hb0 ho
 go_enter Tryz.func106, Tryz.ntmps106
 go_wp2_with fail
 refine HN.out.mono ?_
 rintro r w1 (⟨a, s1, v, e1, rfl, rfl, p1, k1⟩ | ⟨k, i, e1, rfl, k1⟩)
 ·have HE1 := Lib.hid e1
  have HS1 : Hid (s1.i < ts.length) := (keeps_name HO.out s a s1 HH.out e1).1
  have HA1 := Lib.hid (k1.arr HA0.out (by have := HLT.out; omega))
  have HK1 := Lib.hid (HK0.out.trans k1)
  obtain ⟨sa, hsa⟩ : ∃ x, x = bstr a := ⟨_, rfl⟩
  have HSA := Lib.hid hsa
  rw [← hsa]
  have HP2 : Hid (PP (w1.setCell ⟨W.heap.size, 0, none⟩ (.string sa)) pb tb c ts s1) := p1.box HLT.out _ _
  have HK2 : Hid (Kp pb W (w1.setCell ⟨W.heap.size, 0, none⟩ (.string sa))) := HK1.out.box (Nat.le_refl _) _ _
  have HA2 : Hid (Arr (w1.setCell ⟨W.heap.size, 0, none⟩ (.string sa)) 105 W.heap.size [.string sa, .string ⟨#[]⟩]) := HA1.out.set 0 _
  have HSK := Lib.hid (skip_any HP2.out HS1.out ⟨#[35]⟩ [35] rfl)
  have x0 := HA1.out.cell 0
  have x1 := HA1.out.cell 1
  have xf0 := HA1.out.free 0
  have xf1 := HA1.out.free 1
  simp only [List.getElem?_cons_zero, List.getElem?_cons_succ] at x0 x1
  clear e1 p1 k1 HN hsa
  go_wp2_with fail
  clear x0 x1 xf0 xf1
  refine HSK.out.mono ?_
  rintro r w3 ⟨d, hd, rfl, p3, k3⟩
  have HD := Lib.hid hd
  have HA3 := Lib.hid (k3.arr HA2.out (by have := HLT.out; omega))
  have HK3 := Lib.hid (HK2.out.trans k3)
  have x0 := HA3.out.cell 0
  have x1 := HA3.out.cell 1
  have xf0 := HA3.out.free 0
  have xf1 := HA3.out.free 1
  simp only [List.getElem?_cons_zero, List.getElem?_cons_succ] at x0 x1
  cases d with
  | true =>
   have ht := of_decide_eq_true hd.symm
   have HS2 : Hid (s1.up.i < ts.length) := HO.out.step (by rw [ht]; simp)
   have HP3 : Hid (PP w3 pb tb c ts s1.up) := p3
   have HN2 := Lib.hid (name_any HP3.out HS2.out)
   have HT := Lib.hid ht
   clear hd p3 k3 HSK ht
   go_wp2_with fail
   refine HN2.out.mono ?_
   rintro r w4 (⟨b, s2, v, e2, rfl, rfl, p4, k4⟩ | ⟨k, i, e2, rfl, k4⟩)
   ·have HA4 := Lib.hid (k4.arr HA3.out (by have := HLT.out; omega))
    have HK4 := Lib.hid (HK3.out.trans k4)
    have HP4 := Lib.hid p4
    have HE2 : Hid (allowedF ts s = .ok (a, b) s2) := by
     show _ = _
     unfold allowedF
     rw [HE1.out, PR.then_ok, if_pos HT.out, e2]; rfl
    obtain ⟨sb, hsb⟩ : ∃ x, x = bstr b := ⟨_, rfl⟩
    have HSB := Lib.hid hsb
    rw [← hsb]
    clear x0 x1 xf0 xf1 e2 p4 k4 HN2 hsb
    have HA5 : Hid (Arr (w4.setCell ⟨W.heap.size, 1, none⟩ (.string sb)) 105 W.heap.size [.string sa, .string sb]) := HA4.out.set 1 _
    have HP5 : Hid (PP (w4.setCell ⟨W.heap.size, 1, none⟩ (.string sb)) pb tb c ts s2) := HP4.out.box HLT.out _ _
    have HK5 : Hid (Kp pb W (w4.setCell ⟨W.heap.size, 1, none⟩ (.string sb))) := HK4.out.box (Nat.le_refl _) _ _
    have x0 := HA4.out.cell 0
    have x1 := HA4.out.cell 1
    have xf0 := HA4.out.free 0
    have xf1 := HA4.out.free 1
    simp only [List.getElem?_cons_zero, List.getElem?_cons_succ] at x0 x1
    go_upto_region 4 with (fail)
    clear x0 x1 xf0 xf1
    have x0 := HA5.out.cell 0
    have x1 := HA5.out.cell 1
    have xf0 := HA5.out.free 0
    have xf1 := HA5.out.free 1
    simp only [List.getElem?_cons_zero, List.getElem?_cons_succ] at x0 x1
    generalize w4.setCell ⟨W.heap.size, 1, none⟩ (.string sb) = w5 at HA5 HP5 HK5 x0 x1 xf0 xf1 ⊢
    go_wp2_with fail
    have hA := ((HA5.out.set 0 (.string sa)).set 1 (.string sb))
    simp only [List.set_cons_zero, List.set_cons_succ] at hA
    have c0 := hA.cell 0
    have c1 := hA.cell 1
    simp only [List.getElem?_cons_zero, List.getElem?_cons_succ] at c0 c1
    refine bodyPost_ret (v := .agg #[.string sa, .string sb]) ?_ rfl (.inl ⟨(a, b), s2, _, HE2.out, rfl, by rw [HSA.out, HSB.out], (HP5.out.box HLT.out _ _).box HLT.out _ _, (HK5.out.box (Nat.le_refl _) _ _).box (Nat.le_refl _) _ _⟩)
    simp [results, Tryz.results106, go_sem, c0, c1]
   ·have HK4 := Lib.hid (HK3.out.trans k4)
    have HE2 : Hid (allowedF ts s = .bad k i) := by
     show _ = _
     unfold allowedF
     rw [HE1.out, PR.then_ok, if_pos HT.out, e2]; rfl
    clear e2 k4 HN2
    go_wp2_with fail
    exact ⟨rfl, .inr ⟨k, i, HE2.out, rfl, HK4.out⟩⟩
  | false =>
   have HT := Lib.hid (of_decide_eq_false hd.symm)
   have HP3 : Hid (PP w3 pb tb c ts s1) := p3
   have HE2 : Hid (allowedF ts s = .ok (a, []) s1) := by
    show _ = _
    unfold allowedF
    rw [HE1.out, PR.then_ok, if_neg HT.out]
   clear hd p3 k3 HSK
   go_wp2_with fail
   have hA := ((HA3.out.set 0 (.string sa)).set 1 (.string ⟨#[]⟩))
   simp only [List.set_cons_zero, List.set_cons_succ] at hA
   have c0 := hA.cell 0
   have c1 := hA.cell 1
   simp only [List.getElem?_cons_zero, List.getElem?_cons_succ] at c0 c1
   refine bodyPost_ret (v := .agg #[.string sa, .string ⟨#[]⟩]) ?_ rfl (.inl ⟨(a, []), s1, _, HE2.out, rfl, by rw [HSA.out]; rfl, (HP3.out.box HLT.out _ _).box HLT.out _ _, (HK3.out.box (Nat.le_refl _) _ _).box (Nat.le_refl _) _ _⟩)
   simp [results, Tryz.results106, go_sem, c0, c1]
 ·have HK1 := Lib.hid (HK0.out.trans k1)
  have HE2 : Hid (allowedF ts s = .bad k i) := by
   show _ = _
   unfold allowedF
   rw [e1]; rfl
  clear e1 k1 HN
  go_wp2_with fail
  exact ⟨rfl, .inr ⟨k, i, HE2.out, rfl, HK1.out⟩⟩
end
end Go.Proofs.YteieimchleioaaaGreatDoor
/-
  parse's types.
-/
namespace Go.Proofs.YteieimchleioaaaGreatDoor
open Go.ChangeShapes Go.WideShapes Go.ChangeAt Go.RowKit
set_option linter.unusedVariables false

def alv (a : AlB) : List Value := [.string (bstr a.1), .string (bstr a.2)]
def als (l : List AlB) : List Value := l.flatMap alv
theorem als_snoc (l : List AlB) (a : AlB) : als (l ++ [a]) = als l ++ alv a := by unfold als; rw [List.flatMap_append]; simp
theorem als_length (l : List AlB) : (als l).length = l.length * 2 := by
 induction l with
 | nil => rfl
 | cons t r ih => unfold als at ih ⊢; rw [List.flatMap_cons, List.length_append, ih]; simp [alv]; omega
/-- A row of types of the call's own. -/
def AlRow (base : Nat) (w : World) (v : Value) (l : List AlB) : Prop := w.ownsRow base 105 2 v l.length (als l)
theorem AlRow.form {base : Nat} {w : World} {v : Value} {l : List AlB} (h : AlRow base w v l) : ∃ q c, v = .slice q l.length c := by
 rcases h.2 with ⟨rfl, hn⟩ | ⟨g, cap, cur, rfl, _⟩
 ·exact ⟨none, 0, by rw [hn]⟩
 ·exact ⟨_, _, rfl⟩
theorem AlRow.kp {base pb : Nat} {w w' : World} {v : Value} {l : List AlB} (h : AlRow base w v l) (hk : Kp pb w w') (hb : pb < base) : AlRow base w' v l := by
 refine ⟨h.1, ?_⟩
 rcases h.2 with h | ⟨g, cap, cur, rfl, h0, h1, r⟩
 ·exact .inl h
 ·exact .inr ⟨g, cap, cur, rfl, h0, (hk.2.2.2.2 g (Array.getElem?_eq_some_iff.1 h1).1 (by omega)).trans h1, r⟩
theorem Kp.grown {pb : Nat} {W w w' : World} {row : Option Nat} (h : Kp pb W w) (hg : w.grownBy w' row) (hr : ∀ k, row = some k → W.heap.size ≤ k) : Kp pb W w' :=
 ⟨hg.os.trans h.1, hg.tape.trans h.2.1, hg.output.trans h.2.2.1, Nat.le_trans h.2.2.2.1 hg.size, fun k hk hn => (hg.block k (Nat.lt_of_lt_of_le hk h.2.2.2.1) (fun e => by have := hr k e.symm; omega)).trans (h.2.2.2.2 k hk hn)⟩
theorem Tryz.infoAl : (Tryz.prog.info? 105).map (fun i => (i.zero, i.size, i.bytes)) = some (some (.agg #[.string ByteArray.empty, .string ByteArray.empty]), 2, 32) := by kernel_rfl
theorem app_al {ops : Array Oper} {rest : List Oper} {o : Oper} {a : Act} {Q : Exit → Act → World → Prop} {w : World} (hgd : o.guard = none) (s x : Operand) (ho : o.op = .call { callee := .builtin .append, args := #[s, x], argTypes := #[70, 70] })
  {base n : Nat} {v : Value} {l : List AlB} {e : AlB} (hs : a.eval s = v) (hown : AlRow base w v l) (hx : a.eval x = .slice (some ⟨n, 0, none⟩) 1 1) (hc : Arr w 105 n [.string (bstr e.1), .string (bstr e.2)])
  (hlen : l.length + 1 ≤ 1000000) (hbase : base ≤ w.heap.size)
  (h : ∀ v' w', AlRow base w' v' (l ++ [e]) → w.grownBy w' v.ownBlock → (∀ k, v.ownBlock = some k → base ≤ k) → wpList Tryz.prog ops Q rest (a.put o.dst v') w') : wpList Tryz.prog ops Q (o :: rest) a w := by
 obtain ⟨i0, hi, hz0, hz1, hz2⟩ := info_parts Tryz.infoAl
 refine wpList_append_own_at w hgd s x 70 ho base 105 i0 _ 2 32 Tryz.underlying70 hi hz0 hz1 hz2 rfl (by decide) v l.length (als l) hs hown ⟨n, 0, none⟩ 1 1 (alv e) hx rfl ?_ ?_ (by unfold maxLen; omega) (by omega) hbase ?_
 ·intro j u hu
  have := hc.cell j
  rw [show ([.string (bstr e.1), .string (bstr e.2)] : List Value) = alv e from rfl, hu] at this
  cases j <;> simpa [Addr.add] using this
 ·intro u hu
  simp only [alv, List.mem_cons, List.not_mem_nil, or_false] at hu
  rcases hu with rfl | rfl <;> rfl
 ·intro v' w' r1 r2 _ _
  refine h v' w' ?_ r2 fun k hk => (hown.lt k hk).1
  unfold AlRow
  rw [als_snoc, List.length_append]
  exact r1
/-- The rule from its loop's head on. -/
def tlF (ts : List Tok) (n : Nat) (acc : List AlB) (s : PS) : PR (List AlB) := if txt ts s.i = [124] then typesF ts n acc s.up else .ok acc s
theorem typesF_step (ts : List Tok) (n : Nat) (acc : List AlB) (s : PS) (h : acc.length ≠ 32) : typesF ts (n + 1) acc s = (allowedF ts s).then fun a s1 => tlF ts n (acc ++ [a]) s1 := by
 rw [typesF, if_neg h]; rfl
section
variable {W : World} {pb tb c : Nat} {ts : List Tok} {s : PS}
set_option maxRecDepth 100000 in
set_option maxHeartbeats 2000000 in
theorem types_any (ho : OkTs ts) (h : PP W pb tb c ts s) (hi : s.i < ts.length) : Calls Tryz.prog 90 #[.pointer (some ⟨pb, 0, none⟩)] W (QR pb tb c ts W (typesR ts s) fun l w' v => AlRow W.heap.size w' v l) := by
 have HN := Lib.hid (allowed_any ho h hi)
 have HLT : Hid (pb < W.heap.size) := h.1.lt
 have HO := Lib.hid ho
 have HH := Lib.hid hi
 clear h hi ho
 go_enter Tryz.func90, Tryz.ntmps90
 go_wp2_with fail
 refine HN.out.mono ?_
 rintro r w1 (⟨⟨x1, x2⟩, s1, v, e1, rfl, rfl, p1, k1⟩ | ⟨k, i, e1, rfl, k1⟩)
 ·have HS1 : Hid (s1.i < ts.length) := (keeps_allowed HO.out s (x1, x2) s1 HH.out e1).1
  have HE1 : Hid (typesR ts s = tlF ts 32 [(x1, x2)] s1) := by
   show _ = _
   unfold typesR
   rw [typesF_step ts 32 [] s (by simp), e1]; rfl
  obtain ⟨a1, ha1⟩ : ∃ x, x = bstr x1 := ⟨_, rfl⟩
  obtain ⟨a2, ha2⟩ : ∃ x, x = bstr x2 := ⟨_, rfl⟩
  have hb2 : Below w1.heap.size w1 (w1.alloc (.cells #[.string a1, .string a2] 105)) := (Below.refl _ _).alloc (Nat.le_refl _) _
  have HP2 := Lib.hid (p1.later hb2)
  have HK2 := Lib.hid (k1.trans (Kp.of (pb := pb) hb2))
  have HR2 : Hid (AlRow W.heap.size (w1.alloc (.cells #[.string a1, .string a2] 105)) (.slice (some ⟨w1.heap.size, 0, none⟩) 1 1) [(x1, x2)]) := by
   have := World.ownsRow_lit (base := W.heap.size) (e := 105) (size := 2) w1 #[.string a1, .string a2] 1 k1.2.2.2.1 (by decide) rfl
   rw [ha1, ha2] at this ⊢
   exact this
  rw [← ha1, ← ha2]
  clear e1 p1 k1 hb2 HN ha1 ha2
  go_wp2_with fail
  go_loopw [3] (fun lv wr => ∃ (n : Nat) (acc : List AlB) (s2 : PS), acc.length + n = 33 ∧ 1 ≤ acc.length ∧ acc.length ≤ 32 ∧ Hid (AlRow W.heap.size wr lv acc) ∧ Hid (PP wr pb tb c ts s2) ∧ Hid (s2.i < ts.length) ∧ Hid (Kp pb W wr) ∧ Hid (typesR ts s = tlF ts n acc s2)) (fun lv _ => 33 - (match lv with | .slice _ n _ => n | _ => 0))
  case atStart => exact ⟨32, [(x1, x2)], s1, rfl, by simp, by simp, HR2.out, HP2.out, HS1.out, HK2.out, HE1.out⟩
  case round =>
   obtain ⟨n, acc, s2, hn, h1, h32, HR, HP, HS, HK, HE⟩ := hrel
   obtain ⟨q, cc, rfl⟩ := HR.out.form
   have HSK := Lib.hid (skip_any HP.out HS.out ⟨#[124]⟩ [124] rfl)
   go_wp2_with fail
   refine HSK.out.mono ?_
   rintro r w3 ⟨d, hd, rfl, p3, k3⟩
   have HR3 := Lib.hid (HR.out.kp k3 HLT.out)
   have HK3 := Lib.hid (HK.out.trans k3)
   cases d with
   | true =>
    have ht := of_decide_eq_true hd.symm
    have HS3 : Hid (s2.up.i < ts.length) := HO.out.step (by rw [ht]; simp)
    have HP3 : Hid (PP w3 pb tb c ts s2.up) := p3
    have HE3 : Hid (typesR ts s = typesF ts n acc s2.up) := by
     show _ = _
     rw [HE.out]; exact if_pos ht
    clear hd p3 k3 HSK ht
    by_cases hl : acc.length < 32
    ·have hl1 : (acc.length : Int) < 32 := by omega
     obtain ⟨n, rfl⟩ : ∃ m, n = m + 1 := ⟨n - 1, by omega⟩
     have HAL := Lib.hid (allowed_any HO.out HP3.out HS3.out)
     go_wp2_with fail
     refine (need_t 15).mono ?_
     rintro r w4 ⟨rfl, rfl⟩
     go_wp2_with fail
     refine HAL.out.mono ?_
     rintro r w5 (⟨⟨y1, y2⟩, s3, v, e3, rfl, rfl, p5, k5⟩ | ⟨k, i, e3, rfl, k5⟩)
     ·have HS5 : Hid (s3.i < ts.length) := (keeps_allowed HO.out _ (y1, y2) s3 HS3.out e3).1
      have HE5 : Hid (typesR ts s = tlF ts n (acc ++ [(y1, y2)]) s3) := by
       show _ = _
       rw [HE3.out, typesF_step ts n acc s2.up (by omega), e3]; rfl
      have hb6 : Below w5.heap.size w5 (w5.alloc (.cells #[.string (bstr y1), .string (bstr y2)] 105)) := (Below.refl _ _).alloc (Nat.le_refl _) _
      have HP6 := Lib.hid (p5.later hb6)
      have HK6 := Lib.hid ((HK3.out.trans k5).trans (Kp.of (pb := pb) hb6))
      have HR6 := Lib.hid ((HR3.out.kp k5 HLT.out).kp (Kp.of (pb := pb) hb6) HLT.out)
      have HA6 : Hid (Arr (w5.alloc (.cells #[.string (bstr y1), .string (bstr y2)] 105)) 105 w5.heap.size [.string (bstr (y1, y2).1), .string (bstr (y1, y2).2)]) := Arr.new' _ _ _ _ rfl
      have HL6 : Hid (acc.length + 1 ≤ 1000000) := by show _ ≤ _; omega
      clear e3 p5 k5 hb6 HAL
      go_wp2_with (at_builtin; refine app_al (e := (y1, y2)) rfl _ _ rfl rfl HR6.out rfl HA6.out HL6.out HK6.out.2.2.2.1 ?_)
      intro v7 w7 r7 g7 o7
      have HK7 := Lib.hid (HK6.out.grown g7 o7)
      have HP7 : Hid (PP w7 pb tb c ts s3) := HP6.out.below (B := W.heap.size) ((Below.refl _ _).grown g7 HK6.out.2.2.2.1 o7) HLT.out
      have HR7 := Lib.hid r7
      obtain ⟨q7, c7, rfl⟩ := r7.form
      clear r7 g7 o7
      go_wp2_with fail
      go_roundw
      case rel => exact ⟨n, acc ++ [(y1, y2)], s3, by rw [List.length_append]; simp; omega, by rw [List.length_append]; simp, by rw [List.length_append]; simp; omega, HR7.out, HP7.out, HS5.out, HK7.out, HE5.out⟩
      case measure => simp; omega
     ·have HK5 := Lib.hid (HK3.out.trans k5)
      have HE5 : Hid (typesR ts s = .bad k i) := by
       show _ = _
       rw [HE3.out, typesF_step ts n acc s2.up (by omega), e3]; rfl
      clear e3 k5 HAL
      go_wp2_with fail
      exact ⟨rfl, .inr ⟨k, i, HE5.out, rfl, HK5.out⟩⟩
    ·have hl1 : ¬ (acc.length : Int) < 32 := by omega
     have HE5 : Hid (typesR ts s = .bad 15 s2.up.i) := by
      show _ = _
      obtain ⟨m, rfl⟩ : ∃ m, n = m + 1 := ⟨n - 1, by omega⟩
      rw [HE3.out, typesF, if_pos (by omega)]
     go_wp2_with fail
     rw [show decide ((acc.length : Int) < 32) = false from decide_eq_false (by omega)]
     refine (need_f HP3.out HS3.out 15).mono ?_
     rintro r w4 ⟨rfl, b4⟩
     have HK5 := Lib.hid (HK3.out.trans (Kp.of (pb := pb) b4))
     clear b4
     go_wp2_with fail
     exact ⟨rfl, .inr ⟨15, s2.up.i, HE5.out, rfl, HK5.out⟩⟩
   | false =>
    have HE3 : Hid (typesR ts s = .ok acc s2) := by
     show _ = _
     rw [HE.out]; exact if_neg (of_decide_eq_false hd.symm)
    have HP3 : Hid (PP w3 pb tb c ts s2) := p3
    clear hd p3 k3 HSK
    go_wp2_with fail
    go_ret
    exact .inl ⟨acc, s2, _, HE3.out, rfl, HR3.out, HP3.out, HK3.out⟩
 ·have HE2 : Hid (typesR ts s = .bad k i) := by
   show _ = _
   unfold typesR
   rw [typesF_step ts 32 [] s (by simp), e1]; rfl
  have HK1 := Lib.hid k1
  clear e1 k1 HN
  go_wp2_with fail
  exact ⟨rfl, .inr ⟨k, i, HE2.out, rfl, HK1.out⟩⟩
end
end Go.Proofs.YteieimchleioaaaGreatDoor
/-
  parse's operator: the sign that is next, whichever order the map of the three signs is ranged over.
-/
namespace Go.Proofs.YteieimchleioaaaGreatDoor
open Go.ChangeShapes Go.WideShapes Go.ChangeAt Go.RowKit
open Go.Maps
set_option linter.unusedVariables false

theorem Tryz.lawS : Go.Maps.Keyed Tryz.prog 9 := Go.Maps.string_keyed Tryz.underlying9
theorem keyS_inv {key : Value} {kl : Lit} (h : keyOf Tryz.prog 9 key = some kl) : ∃ x : ByteArray, key = .string x ∧ kl = .string x.data.toList := by
  cases key <;> simp [keyOf, Tryz.underlying9, mapKey] at h
  exact ⟨_, rfl, h.2.symm⟩
theorem keyS_of (l : List UInt8) (h : l.length ≤ 1000) : keyOf Tryz.prog 9 (.string (bstr l)) = some (.string l) := by
  have := Go.WideMaps.keyOf_string_mk Tryz.underlying9 (s := bstr l) (by rw [bstr_size]; unfold maxLen; omega)
  rw [bstr_data] at this
  exact this
/-- An entry of a map's literal. -/
theorem wpList_insert_own {H : Type} {P : Program} (w : World) {ops : Array Oper} {rest : List Oper} {o : Oper} {a : Act} {Q : Exit → Act → World → Prop}
    (hg : o.guard = none) (m x v : Operand) (t : TypeId) (hop : o.op = Op.insert t m x v)
    (k e : TypeId) (K : Keyed P k) (ht : P.underlying t = some (.map k e)) (R : Value → Option (DataW H × List MemPlace)) (b n : Nat) (D : DataW H)
    (hm : a.eval m = .map (some b)) (hown : w.ownsMap P k R b n D) (hn : n < maxLen) (key val : Value) (kl : Lit) (hx : a.eval x = key) (hv : a.eval v = val) (hkey : keyOf P k key = some kl)
    (d : DataW H) (ps : List MemPlace) (hval : R val = some (d, ps))
    (hK : ∀ w', w'.ownsMap P k R b (n + 1) (D.put kl d) → w.grownBy w' (some b) → wpList P ops Q rest (a.put o.dst undef) w') :
    wpList P ops Q (o :: rest) a w := by
  refine wpList_plain hg fun K' hK' => ?_
  obtain ⟨w', hrun, r1, r2⟩ := hown.update K ht hn hkey hval
  unfold Oper.wp
  simp [execOp, hop, hm, hx, hv, hrun, Result.andThen]
  exact hK' _ _ (hK w' r1 r2)
def li (n : Int) : DataW Unit := .lit (.int .i64 n)
def opD : DataW Unit := (((DataW.map []).put (.string [43]) (li 3)).put (.string [38]) (li 4)).put (.string [45]) (li 5)
theorem opD_eq : opD = .map [(.string [38], li 4), (.string [43], li 3), (.string [45], li 5)] := rfl
theorem same_eq {a b : Lit} (h : a.sameKey b = true) : a = b := by
  refine Classical.byContradiction fun hn => ?_
  rw [sameKey_ne hn] at h
  cases h
theorem opD_has {kl : Lit} (h : Go.Maps.has opD kl = true) : kl = .string [38] ∨ kl = .string [43] ∨ kl = .string [45] := by
  rw [opD_eq, has_eq] at h
  simp only [List.any_cons, List.any_nil, Bool.or_false, Bool.or_eq_true] at h
  rcases h with h | h | h
  · exact .inl (same_eq h).symm
  · exact .inr (.inl (same_eq h).symm)
  · exact .inr (.inr (same_eq h).symm)
/-- The sign, or nothing. -/
def opS (t : List UInt8) : List UInt8 := if opK t = 0 then [] else t
theorem opD_at {kl : Lit} (h : Go.Maps.has opD kl = true) : ∃ t n, kl = .string t ∧ opK t = n ∧ n ≠ 0 ∧ ∀ z, opD.atKey kl z = li n := by
  rcases opD_has h with rfl | rfl | rfl
  · exact ⟨[38], 4, rfl, rfl, by decide, fun z => rfl⟩
  · exact ⟨[43], 3, rfl, rfl, by decide, fun z => rfl⟩
  · exact ⟨[45], 5, rfl, rfl, by decide, fun z => rfl⟩
theorem opD_none {t : List UInt8} (h : ∀ kl, Go.Maps.has opD kl = true → kl ≠ .string t) : opK t = 0 := by
  unfold opK
  split
  · rename_i e; exact absurd rfl (e ▸ h (.string [43]) rfl)
  · split
    · rename_i e; exact absurd rfl (e ▸ h (.string [38]) rfl)
    · split
      · rename_i e; exact absurd rfl (e ▸ h (.string [45]) rfl)
      · rfl
theorem grown_of {w w' : World} (h : Below w.heap.size w w') : w.grownBy w' none := ⟨h.os, h.tape, h.output, h.size, fun i hi _ => h.block i hi⟩
section
variable {W : World} {pb tb c : Nat} {ts : List Tok} {s : PS}
set_option maxRecDepth 100000 in
set_option maxHeartbeats 2000000 in
theorem operator_any (h : PP W pb tb c ts s) (hi : s.i < ts.length) : Calls Tryz.prog 85 #[.pointer (some ⟨pb, 0, none⟩)] W fun e w' => e = .returned (.tuple #[.int .i64 (opK (txt ts s.i)), .string (bstr (opS (txt ts s.i)))]) ∧ Below W.heap.size W w' := by
  have HP := Lib.hid h
  have HH := Lib.hid hi
  have hmm := @run_makeMap Tryz.prog
  have HLT : Hid (pb < W.heap.size) := h.1.lt
  have HM0 : Hid ((W.alloc (.map #[] 0)).ownsMap Tryz.prog 9 (plainElem (H := Unit) Tryz.prog 3) W.heap.size 0 (.map [])) := World.ownsMap_made _ _ _ _
  have HB0 : Hid (Below W.heap.size W (W.alloc (.map #[] 0))) := (Below.refl _ _).alloc (Nat.le_refl _) _
  have hk43 := keyS_of [43] (by decide)
  have hk38 := keyS_of [38] (by decide)
  have hk45 := keyS_of [45] (by decide)
  have HK43 := Lib.hid hk43
  have HK38 := Lib.hid hk38
  have HK45 := Lib.hid hk45
  clear hk43 hk38 hk45
  clear h hi
  go_enter Tryz.func85, Tryz.ntmps85
  go_upto_region 1 with (fail)
  go_wp2_with (first
    | (refine wpList_insert_own _ rfl _ _ _ 149 rfl 9 3 Tryz.lawS Tryz.underlying149 _ W.heap.size 0 _ rfl HM0.out (by decide) (.string ⟨#[43]⟩) (.int .i64 3) _ rfl rfl HK43.out (li 3) [] (plainElem_int Tryz.underlying3 (by decide)) ?_; intro w1 hm1 g1)
    | (refine wpList_insert_own _ rfl _ _ _ 149 rfl 9 3 Tryz.lawS Tryz.underlying149 _ W.heap.size 1 _ rfl hm1 (by decide) (.string ⟨#[38]⟩) (.int .i64 4) _ rfl rfl HK38.out (li 4) [] (plainElem_int Tryz.underlying3 (by decide)) ?_; intro w2 hm2 g2)
    | (refine wpList_insert_own _ rfl _ _ _ 149 rfl 9 3 Tryz.lawS Tryz.underlying149 _ W.heap.size 2 _ rfl hm2 (by decide) (.string ⟨#[45]⟩) (.int .i64 5) _ rfl rfl HK45.out (li 5) [] (plainElem_int Tryz.underlying3 (by decide)) ?_; intro w3 hm3 g3)
    | (at_range; refine wpList_range_own _ rfl _ 149 rfl 9 3 Tryz.lawS Tryz.underlying149 _ W.heap.size 3 opD rfl hm3 ?_; intro w4 hr4 g4 hs4))
  go_frame
  have HB4 : Hid (Below W.heap.size W w4) := by
    have b1 := HB0.out.grown g1 HB0.out.size (fun k hk => by cases hk; exact Nat.le_refl _)
    have b2 := b1.grown g2 b1.size (fun k hk => by cases hk; exact Nat.le_refl _)
    have b3 := b2.grown g3 b2.size (fun k hk => by cases hk; exact Nat.le_refl _)
    exact b3.grown g4 b3.size (fun k hk => by cases hk)
  have hsz : W.heap.size ≤ w3.heap.size := by
    have b1 := HB0.out.grown g1 HB0.out.size (fun k hk => by cases hk; exact Nat.le_refl _)
    have b2 := b1.grown g2 b1.size (fun k hk => by cases hk; exact Nat.le_refl _)
    have b3 := b2.grown g3 b2.size (fun k hk => by cases hk; exact Nat.le_refl _)
    exact b3.size
  have HSZ := Lib.hid hsz
  have HR4 := Lib.hid hr4
  clear hm1 hm2 hm3 g1 g2 g3 g4 hs4 hr4 hsz HM0 HB0
  go_loopw [5] (fun _ wr => ∃ (left : Lit → Bool) (cnt : Nat), Hid (wr.ranges Tryz.prog 9 (plainElem (H := Unit) Tryz.prog 3) W.heap.size w3.heap.size 3 opD left cnt) ∧ Hid (Below W.heap.size W wr) ∧ Hid ((∀ kl, left kl = true → Go.Maps.has opD kl = true) ∧ (∀ kl, Go.Maps.has opD kl = true → left kl = false → kl ≠ .string (txt ts s.i)))) (fun _ wr => wr.rangeLeft W.heap.size w3.heap.size)
  case atStart => exact ⟨_, _, HR4.out, HB4.out, fun _ h => h, fun kl h1 h2 => by rw [h1] at h2; cases h2⟩
  case round =>
    obtain ⟨left, cnt, HR, HB, HL⟩ := hrel
    go_wp2_with (at_next; refine wpList_next_ranges _ rfl _ rfl 9 Tryz.lawS _ Value.string (Value.int .i64) (fun key kl hk => by obtain ⟨x, rfl, _⟩ := keyS_inv hk; exact ⟨x, rfl⟩) (fun v y hv => by obtain ⟨c, rfl, _⟩ := plainElem_int_inv Tryz.underlying3 hv; exact ⟨c, rfl⟩) W.heap.size w3.heap.size 3 opD left cnt rfl HR.out ?_ ?_)
    · intro _ hl0
      have HO : Hid (opK (txt ts s.i) = 0) := opD_none fun kl hk => HL.out.2 kl hk (hl0 kl)
      have HE : Hid (bstr (opS (txt ts s.i)) = ⟨#[]⟩) := by show _ = _; unfold opS; rw [if_pos HO.out]; rfl
      clear hl0
      go_wp2_with fail
      refine bodyPost_ret (results_tmp2 rfl _ _ _) rfl ?_
      rw [HO.out, HE.out]
      exact ⟨rfl, HB.out⟩
    · intro x n kl y1 y2 w5 cnt5 hkey hlk hv hat hr5 hlt hg5 hs5 hen
      obtain ⟨x0, e0, hkl⟩ := keyS_inv hkey
      cases e0
      obtain ⟨t, m, ht, hm, hm0, hatm⟩ := opD_at (HL.out.1 kl hlk)
      obtain ⟨n0, en, hy, _⟩ := plainElem_int_inv Tryz.underlying3 hv
      cases en
      have hx : x.data.toList = t := by rw [hkl] at ht; exact Lit.string.inj ht
      have hnm : n = m := by
        have := (hat (li 0)).symm.trans (hatm (li 0))
        rw [(Prod.mk.inj hy).1] at this
        unfold li at this
        simpa using this
      have HB5 : Hid (Below W.heap.size W w5) := HB.out.grown hg5 HB.out.size (fun k hk => by cases hk; exact HSZ.out)
      have HP5 : Hid (PP w5 pb tb c ts s) := HP.out.below HB5.out HLT.out
      have HI := Lib.hid (is_any HP5.out HH.out x t hx)
      have HX : Hid (x = bstr t) := by show _ = _; rw [← hx]; rfl
      have HN : Hid (n = opK t) := hnm.trans hm.symm
      have HM0 := Lib.hid hm0
      have HMK := Lib.hid hm
      have HR5 := Lib.hid hr5
      have HLT5 := Lib.hid hlt
      have HKL : Hid (kl = .string t) := ht
      clear hkey hlk hv hat hr5 hlt hg5 hs5 hkl ht hm hm0 hatm hy hx hnm
      obtain ⟨d, hd⟩ : ∃ d, d = decide (txt ts s.i = t) := ⟨_, rfl⟩
      have HD := Lib.hid hd
      rw [← hd] at HI
      clear hd
      go_wp2_with fail
      refine HI.out.mono ?_
      rintro r w6 ⟨rfl, b6⟩
      have HB6 : Hid (Below W.heap.size W w6) := HB5.out.trans (b6.mono HB5.out.size)
      have HR6 := Lib.hid (HR5.out.kept (grown_of b6) (by simp) (by simp))
      clear b6 HI
      cases d with
      | true =>
        have HT := Lib.hid (of_decide_eq_true HD.out.symm)
        have HE : Hid (bstr (opS (txt ts s.i)) = x) := by show _ = _; unfold opS; rw [show txt ts s.i = t from HT.out, HMK.out, if_neg HM0.out, HX.out]
        go_wp2_with fail
        refine bodyPost_ret (results_tmp2 rfl _ _ _) rfl ?_
        rw [HE.out, HT.out, ← HN.out]
        exact ⟨rfl, HB6.out⟩
      | false =>
        have HT := Lib.hid (of_decide_eq_false HD.out.symm)
        go_wp2_with fail
        go_roundw
        case rel =>
          refine ⟨_, cnt5, HR6.out, HB6.out, fun k h => HL.out.1 k (by simp only [Bool.and_eq_true] at h; exact h.1), fun k h1 h2 => ?_⟩
          cases h3 : left k with
          | false => exact HL.out.2 k h1 h3
          | true =>
            rw [h3, Bool.true_and] at h2
            have h4 : k = kl := same_eq (by simpa using h2)
            rw [h4, HKL.out]
            intro h5
            exact HT.out (Lit.string.inj h5).symm
        case measure => rw [HR6.out.left_eq, HR.out.left_eq]; exact HLT5.out
end
end Go.Proofs.YteieimchleioaaaGreatDoor
