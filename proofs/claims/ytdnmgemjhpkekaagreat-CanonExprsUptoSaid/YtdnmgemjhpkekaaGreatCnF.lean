/-
  canon.part's canonical: what lies in kids of the same kind is brought up, then put in order, each one once.
-/
import Derived.Test.YtdnmgemjhpkekaaGreatCnE
import Derived.Maps.AppendAt
namespace Go.Proofs.YtdnmgemjhpkekaaGreat
open Go.ChangeShapes Go.WideShapes Go.ChangeAt Go.RowKit Go.Lib Go.Sort
set_option linter.unusedVariables false

section
variable {P : Nat → Prop} {base : Nat} {w w' : World} {v : Value} {ks xs : List Ex}
theorem LR.nil (P : Nat → Prop) (base : Nat) (w : World) : LR P base w (.slice none 0 0) [] := ⟨[], World.ownsRow_nil _ _ _ _, trivial⟩
theorem LR.form (h : LR P base w v ks) : ∃ q c, v = .slice q ks.length c := by
  obtain ⟨cs, h1, _⟩ := h
  rcases h1.2 with ⟨h, hn⟩ | ⟨g, cap, cur, hv, _⟩
  · exact ⟨none, 0, by rw [hn]; exact h⟩
  · exact ⟨_, _, hv⟩
theorem own_keepX {e size n : Nat} {cs : List Value} (h : w.ownsRow base e size v n cs) (hb : Below w.heap.size w w') : w'.ownsRow base e size v n cs := by
  rcases h with ⟨h0, h | ⟨g, cap, cur, h1, h2, h3, h4⟩⟩
  · exact ⟨h0, .inl h⟩
  · exact ⟨h0, .inr ⟨g, cap, cur, h1, h2, (hb.block g (Array.getElem?_eq_some_iff.1 h3).1).trans h3, h4⟩⟩
theorem LR.later (h : LR P base w v ks) (hP : ∀ b, P b → b < w.heap.size) (hb : Below w.heap.size w w') : LR P base w' v ks := by
  obtain ⟨cs, h1, h2⟩ := h
  exact ⟨cs, own_keepX h1 hb, h2.keep (cells_below hb hP)⟩
theorem cells_of_rdL {b : Nat} : ∀ {ks : List Ex} {o : Nat}, RdL P w ks b o → ∃ cs, CellsL P w ks cs ∧ ∀ j u, cs[j]? = some u → w.cell? ⟨b, o + j, none⟩ = some u
  | [], o, _ => ⟨[], trivial, fun j u h => by simp at h⟩
  | e :: r, o, h => by
    unfold RdL at h
    obtain ⟨⟨v0, v1, v2, v3, c0, c1, c2, c3, h1⟩, h2⟩ := h
    obtain ⟨cs, g1, g2⟩ := cells_of_rdL h2
    refine ⟨v0 :: v1 :: v2 :: v3 :: cs, ⟨h1, g1⟩, fun j u hj => ?_⟩
    match j, hj with
    | 0, hj => simp only [List.getElem?_cons_zero, Option.some.injEq] at hj; subst hj; exact c0
    | 1, hj => simp only [List.getElem?_cons_succ, List.getElem?_cons_zero, Option.some.injEq] at hj; subst hj; exact c1
    | 2, hj => simp only [List.getElem?_cons_succ, List.getElem?_cons_zero, Option.some.injEq] at hj; subst hj; exact c2
    | 3, hj => simp only [List.getElem?_cons_succ, List.getElem?_cons_zero, Option.some.injEq] at hj; subst hj; exact c3
    | j + 4, hj =>
      simp only [List.getElem?_cons_succ] at hj
      have := g2 j u hj
      rwa [show o + 4 + j = o + (j + 4) by omega] at this
theorem CellsL.len : ∀ {ks : List Ex} {cs : List Value}, CellsL P w ks cs → cs.length = ks.length * 4
  | [], [], _ => rfl
  | e :: r, v0 :: v1 :: v2 :: v3 :: cs, h => by
    have := CellsL.len h.2
    simp only [List.length_cons]; omega
  | [], _ :: _, h => h.elim
  | _ :: _, [], h => h.elim
  | _ :: _, [_], h => h.elim
  | _ :: _, [_, _], h => h.elim
  | _ :: _, [_, _, _], h => h.elim
theorem cells_app : ∀ {ks : List Ex} {cs : List Value}, CellsL P w ks cs → ∀ {xs : List Ex} {ds : List Value}, CellsL P w xs ds → CellsL P w (ks ++ xs) (cs ++ ds)
  | [], [], _, _, _, h2 => h2
  | e :: r, v0 :: v1 :: v2 :: v3 :: cs, h, _, _, h2 => ⟨h.1, cells_app h.2 h2⟩
  | [], _ :: _, h, _, _, _ => h.elim
  | _ :: _, [], h, _, _, _ => h.elim
  | _ :: _, [_], h, _, _, _ => h.elim
  | _ :: _, [_, _], h, _, _, _ => h.elim
  | _ :: _, [_, _, _], h, _, _, _ => h.elim
end
/-- append of expressions that are read. -/
theorem app_lr {ops : Array Oper} {rest : List Oper} {o : Oper} {a : Act} {Q : Exit → Act → World → Prop} {w : World} (hgd : o.guard = none) (s x : Operand) (ho : o.op = .call { callee := .builtin .append, args := #[s, x], argTypes := #[22, 22] })
    {P : Nat → Prop} {base m cap b off : Nat} {v : Value} {ks xs : List Ex} (hs : a.eval s = v) (hT : LR P base w v ks) (hx : a.eval x = .slice (some ⟨b, off, none⟩) m cap) (hm : m = xs.length) (hr : RdL P w xs b off)
    (hP : ∀ b, P b → b < base) (hlen : ks.length + xs.length ≤ 1000000) (hbase : base ≤ w.heap.size)
    (h : ∀ v' w', LR P base w' v' (ks ++ xs) → Below base w w' → wpList Tryz.prog ops Q rest (a.put o.dst v') w') : wpList Tryz.prog ops Q (o :: rest) a w := by
  obtain ⟨i0, hi, hz0, hz1, hz2⟩ := info_parts Tryz.infoEx
  obtain ⟨cs, h1, h2⟩ := hT
  obtain ⟨ds, g1, g2⟩ := cells_of_rdL hr
  subst hm
  refine wpList_append_own_at w hgd s x 22 ho base 24 i0 _ 4 64 Tryz.underlying22 hi hz0 hz1 hz2 rfl (by decide) v ks.length cs hs h1 ⟨b, off, none⟩ xs.length cap ds hx g1.len ?_ g1.ones (by unfold maxLen; omega) (by omega) hbase ?_
  · intro j u hu
    rw [show (Addr.add ⟨b, off, none⟩ j) = ⟨b, off + j, none⟩ by cases j <;> simp [Addr.add]]
    exact g2 j u hu
  · intro v' w' r1 r2 _ r4
    have hbl : Below base w w' := (Below.refl base w).grown r2 hbase fun k hk => (h1.lt k hk).1
    have hk := cells_below hbl hP
    exact h v' w' ⟨cs ++ ds, by rw [List.length_append]; exact r1, cells_app (h2.keep hk) (g1.keep hk)⟩ hbl

theorem sizeL_sum : ∀ l : List Ex, sizeL l = (l.map sizeE).sum
  | [] => rfl
  | e :: r => by rw [sizeL, List.map_cons, List.sum_cons, sizeL_sum r]
theorem put1_sumF {o : Ex → Ex → Int} (f : Ex → Nat) (t : Ex) : ∀ l : List Ex, ((put1O o t l).map f).sum ≤ f t + (l.map f).sum
  | [] => by simp [put1O]
  | a :: l => by
    unfold put1O
    split
    · have := put1_sumF (o := o) f t l
      simp only [List.map_cons, List.sum_cons]; omega
    · split
      · simp only [List.map_cons, List.sum_cons]; omega
      · simp only [List.map_cons, List.sum_cons]; omega
theorem srt_sumF {o : Ex → Ex → Int} (f : Ex → Nat) : ∀ (l out : List Ex), ((srtO o out l).map f).sum ≤ (out.map f).sum + (l.map f).sum
  | [], out => by simp [srtO]
  | t :: l, out => by
    have h1 := srt_sumF (o := o) f l (put1O o t out)
    have h2 := put1_sumF (o := o) f t out
    show ((srtO o (put1O o t out) l).map f).sum ≤ _
    simp only [List.map_cons, List.sum_cons]; omega
theorem sorted_size {o : Ex → Ex → Int} (l : List Ex) : sizeL (sortedO o l) ≤ sizeL l := by
  rw [sizeL_sum, sizeL_sum]
  have := srt_sumF (o := o) sizeE l []
  simpa [sortedO] using this
theorem getD_mem {ks : List Ex} {i : Nat} (h : i < ks.length) : ks.getD i ex0 ∈ ks := by
  rw [List.getD_eq_getElem?_getD, List.getElem?_eq_getElem h]; exact List.getElem_mem h
theorem sizeL_app : ∀ (a b : List Ex), sizeL (a ++ b) = sizeL a + sizeL b
  | [], b => by simp [sizeL]
  | e :: r, b => by rw [List.cons_append, sizeL, sizeL, sizeL_app r b]; omega
theorem sizeL_take (ks : List Ex) (i : Nat) : sizeL (ks.take i) ≤ sizeL ks := by
  conv => rhs; rw [← List.take_append_drop i ks, sizeL_app]
  omega
theorem flat_size {k : Int} : ∀ l : List Ex, sizeL (flatK k l) ≤ sizeL l
  | [] => Nat.le_refl _
  | x :: r => by
    have h1 := flat_size (k := k) r
    rw [flatK, sizeL_app, sizeL]
    split
    · obtain ⟨a, b, c, xs⟩ := x
      have : sizeL (Ex.mk a b c xs).kids = sizeL xs := rfl
      rw [this, sizeE]; omega
    · rw [sizeL, sizeL]; omega
theorem flat_take {k : Int} {ks : List Ex} {i : Nat} (h : i < ks.length) : flatK k (ks.take (i + 1)) = flatK k (ks.take i) ++ (if (ks.getD i ex0).kind = k then (ks.getD i ex0).kids else [ks.getD i ex0]) := by
  have happ : ∀ (a b : List Ex), flatK k (a ++ b) = flatK k a ++ flatK k b := fun a => by
    induction a with
    | nil => intro b; rfl
    | cons x r ih => intro b; rw [List.cons_append, flatK, flatK, ih, List.append_assoc]
  rw [take_snocE h, happ]
  simp only [flatK, List.append_nil]
theorem flat_ne {k : Int} : ∀ {ks : List Ex}, 0 < ks.length → (∀ x ∈ ks, x.kind = k → 0 < x.kids.length) → 0 < (flatK k ks).length
  | [], h, _ => h
  | x :: r, _, h => by
    rw [flatK, List.length_append]
    split
    · rename_i e; have := h x (by simp) e; omega
    · simp; omega
theorem fin_one {o : Ex → Ex → Int} {k : Int} {v n : List UInt8} {ks : List Ex} (hk : k = 3 ∨ k = 4) {y : Ex} (h : sortedO o (flatK k ks) = [y]) : finE o k v n ks = y := by
  unfold finE
  rw [if_pos hk, h]
theorem fin_many {o : Ex → Ex → Int} {k : Int} {v n : List UInt8} {ks : List Ex} (hk : k = 3 ∨ k = 4) (h : ¬ (sortedO o (flatK k ks)).length = 1) : finE o k v n ks = .mk k v n (sortedO o (flatK k ks)) := by
  unfold finE
  rw [if_pos hk]
  split
  · rename_i y e
    rw [e] at h
    exact absurd rfl h
  · rfl
theorem fin_other {o : Ex → Ex → Int} {k : Int} {v n : List UInt8} {ks : List Ex} (hk : ¬ (k = 3 ∨ k = 4)) : finE o k v n ks = .mk k v n ks := by
  unfold finE
  rw [if_neg hk]
theorem fin_size {o : Ex → Ex → Int} (k : Int) (v n : List UInt8) (ks : List Ex) : sizeE (finE o k v n ks) ≤ sizeE (.mk k v n ks) := by
  by_cases hk : k = 3 ∨ k = 4
  · have h1 : sizeL (sortedO o (flatK k ks)) ≤ sizeL ks := Nat.le_trans (sorted_size _) (flat_size ks)
    by_cases h : (sortedO o (flatK k ks)).length = 1
    · obtain ⟨y, hy⟩ : ∃ y, sortedO o (flatK k ks) = [y] := by
        match hl : sortedO o (flatK k ks), h with
        | [y], _ => exact ⟨y, rfl⟩
      rw [fin_one hk hy, sizeE]
      rw [hy, sizeL, sizeL] at h1
      omega
    · rw [fin_many hk h, sizeE, sizeE]; omega
  · rw [fin_other hk]; exact Nat.le_refl _
theorem heap_set4x (w : World) (g : Nat) (x0 x1 x2 x3 : Value) {b : Nat} (hb : b ≠ g) : ((((w.setCell ⟨g, 0, none⟩ x0).setCell ⟨g, 1, none⟩ x1).setCell ⟨g, 2, none⟩ x2).setCell ⟨g, 3, none⟩ x3).heap[b]? = w.heap[b]? :=
  (Below.heap_setCell _ ⟨g, 3, none⟩ _ b hb).trans ((Below.heap_setCell _ ⟨g, 2, none⟩ _ b hb).trans ((Below.heap_setCell _ ⟨g, 1, none⟩ _ b hb).trans (Below.heap_setCell _ ⟨g, 0, none⟩ _ b hb)))
/-- What the walk keeps: the result's cells, the part's, the row of what is brought up. -/
def KS (w : World) (P : Nat → Prop) (A : List Value) (v : Value) (L : List Ex) (W : World) : Prop :=
  Arr W 24 (w.heap.size + 1) [.int .i64 0, .string ByteArray.empty, .string ByteArray.empty, .slice none 0 0] ∧ Arr W 24 (w.heap.size + 1 + 1) A ∧ LR P (w.heap.size + 3) W v L ∧ Below w.heap.size w W ∧ w.heap.size + 3 ≤ W.heap.size ∧ ∀ b, P b → b < w.heap.size
theorem KS.later {w W W' : World} {P : Nat → Prop} {A : List Value} {v : Value} {L : List Ex} (h : KS w P A v L W) (hb : Below W.heap.size W W') : KS w P A v L W' :=
  ⟨h.1.later hb, h.2.1.later hb, h.2.2.1.later (fun b hb => by have := h.2.2.2.2.2 b hb; have := h.2.2.2.2.1; omega) hb, h.2.2.2.1.trans (hb.mono h.2.2.2.1.size), Nat.le_trans h.2.2.2.2.1 hb.size, h.2.2.2.2.2⟩
theorem KS.row {w W W' : World} {P : Nat → Prop} {A : List Value} {v v' : Value} {L L' : List Ex} (h : KS w P A v L W) (hT : LR P (w.heap.size + 3) W' v' L') (hb : Below (w.heap.size + 3) W W') : KS w P A v' L' W' :=
  ⟨h.1.below hb (by omega), h.2.1.below hb (by omega), hT, h.2.2.2.1.trans (hb.mono (by omega)), Nat.le_trans h.2.2.2.2.1 hb.size, h.2.2.2.2.2⟩
set_option maxRecDepth 100000 in
set_option maxHeartbeats 4000000 in
theorem canonical_any {P : Nat → Prop} {w : World} {e : Ex} {v : Value} (h : RdE P w e v) (hP : ∀ b, P b → b < w.heap.size) (hsz : sizeE e ≤ 900000) (hne : e.kind = 3 ∨ e.kind = 4 → 0 < e.kids.length ∧ ∀ x ∈ e.kids, x.kind = e.kind → 0 < x.kids.length) :
    Calls Tryz.prog 17 #[v] w fun r w' => ∃ v', r = .returned v' ∧ RdE (fun b => P b ∨ Bt w.heap.size w'.heap.size b) w' (finE cmpE e.kind e.via e.nm e.kids) v' ∧ Below w.heap.size w w' := by
  have HR := Lib.hid h
  obtain ⟨q, c, rfl, hc, hk⟩ := h.form
  obtain ⟨k, xv, xn, ks⟩ := e
  unfold exv
  show Calls _ _ #[.agg #[.int .i64 k, .string (bstr xv), .string (bstr xn), .slice q ks.length c]] _ _
  have HK : Hid (0 < ks.length → ∃ b o, q = some ⟨b, o, none⟩ ∧ P b ∧ RdL P w ks b o) := hk
  have hks : sizeL ks ≤ 900000 := by unfold sizeE at hsz; omega
  have hlen := sizeL_len ks
  have HNE := Lib.hid hne
  dsimp only [Ex.kind, Ex.via, Ex.nm, Ex.kids]
  have H0 : Hid (KS w P [.int .i64 k, .string (bstr xv), .string (bstr xn), .slice q ks.length c] (.slice none 0 0) [] (((w.alloc (.cells #[.int .i64 k, .string (bstr xv), .string (bstr xn), .slice q ks.length c] 47)).alloc (.cells #[.int .i64 0, .string ⟨#[]⟩, .string ⟨#[]⟩, .slice none 0 0] 24)).alloc (.cells #[.int .i64 k, .string (bstr xv), .string (bstr xn), .slice q ks.length c] 24))) :=
    ⟨(Arr.new2 w _ _ _ _ rfl).alloc _, by have := Arr.new3 w (.cells #[.int .i64 k, .string (bstr xv), .string (bstr xn), .slice q ks.length c] 47) (.cells #[.int .i64 0, .string ⟨#[]⟩, .string ⟨#[]⟩, .slice none 0 0] 24) 24 #[.int .i64 k, .string (bstr xv), .string (bstr xn), .slice q ks.length c] [.int .i64 k, .string (bstr xv), .string (bstr xn), .slice q ks.length c] rfl; exact this, LR.nil _ _ _, (((Below.refl _ _).alloc (Nat.le_refl _) _).alloc (by simp) _).alloc (by simp; omega) _, by simp, hP⟩
  clear h hc hk hne hsz
  go_enter Tryz.func17, Tryz.ntmps17
  go_upto_region 2 with fail
  generalize (((w.alloc (.cells #[.int .i64 k, .string (bstr xv), .string (bstr xn), .slice q ks.length c] 47)).alloc (.cells #[.int .i64 0, .string ⟨#[]⟩, .string ⟨#[]⟩, .slice none 0 0] 24)).alloc (.cells #[.int .i64 k, .string (bstr xv), .string (bstr xn), .slice q ks.length c] 24)) = w3 at H0 ⊢
  have HI3 := Lib.hid H0.out.2.2.2.1
  have e0 := H0.out.2.1.cell 0
  have e1 := H0.out.2.1.cell 1
  have e2 := H0.out.2.1.cell 2
  have e3 := H0.out.2.1.cell 3
  have r0 := H0.out.1.cell 0
  have r1 := H0.out.1.cell 1
  have r2 := H0.out.1.cell 2
  have r3 := H0.out.1.cell 3
  have p0 := H0.out.1.free 0
  have p1 := H0.out.1.free 1
  have p2 := H0.out.1.free 2
  have p3 := H0.out.1.free 3
  simp only [List.getElem?_cons_zero, List.getElem?_cons_succ] at e0 e1 e2 e3 r0 r1 r2 r3
  by_cases hk : k = 3 ∨ k = 4
  · have HKK := Lib.hid hk
    clear HKK
    rcases hk with rfl | rfl
    · go_wp2_with fail
      clear e0 e1 e2 e3 r0 r1 r2 r3 p0 p1 p2 p3
      go_loopw [4, 20] (fun dv iv wr => ∃ i : Nat, i ≤ ks.length ∧ iv = .int .i64 i ∧ Hid (KS w P [.int .i64 3, .string (bstr xv), .string (bstr xn), .slice q ks.length c] dv (flatK 3 (ks.take i)) wr)) (fun _ iv _ => ks.length - (intOf iv).toNat)
      case atStart => exact ⟨0, Nat.zero_le _, rfl, H0.out⟩
      case round =>
        obtain ⟨i, hi, rfl, HC⟩ := hrel
        have hi0 : (0 : Int) ≤ i := by omega
        have HI := Lib.hid HC.out.2.2.2.1
        obtain ⟨L, hL⟩ : ∃ L, L = flatK 3 (ks.take i) := ⟨_, rfl⟩
        rw [← hL] at HC
        obtain ⟨qv, cv, rfl⟩ := HC.out.2.2.1.form
        have HLL : Hid (sizeL L ≤ 900000) := by rw [hL]; exact Nat.le_trans (Nat.le_trans (flat_size _) (sizeL_take ks i)) hks
        have HLN : Hid (L.length ≤ 900000) := Nat.le_trans (sizeL_len L) HLL.out
        have HL := Lib.hid hL
        clear hL HI3 H0
        by_cases hlt : i < ks.length
        · have hi1 : (i : Int) < ks.length := by omega
          have hmem := getD_mem hlt
          obtain ⟨ba, oa, rfl, hba, hl⟩ := HK.out (by omega)
          obtain ⟨x, hx⟩ : ∃ x, x = ks.getD i ex0 := ⟨_, rfl⟩
          obtain ⟨q2, c2, x0, x1, x2, x3, hr⟩ := hl.at hlt
          have hxs := sizeL_get ks i hlt
          have hxd := depthL_get ks i hlt
          rw [← hx] at x0 x1 x2 x3 hr hxs hxd
          have HX := Lib.hid hx
          obtain ⟨xk, xv2, xn2, xs⟩ := x
          have cc : ∀ n, wr.cell? ⟨ba, n, none⟩ = w.cell? ⟨ba, n, none⟩ := fun n => (HI.out).cell (p := ⟨ba, n, none⟩) (hP _ hba)
          have X0 : wr.cell? ⟨ba, oa + i * 4, none⟩ = some (.int .i64 xk) := (cc _).trans x0
          have X1 : wr.cell? ⟨ba, oa + i * 4 + 1, none⟩ = some (.string (bstr xv2)) := (cc _).trans x1
          have X2 : wr.cell? ⟨ba, oa + i * 4 + 2, none⟩ = some (.string (bstr xn2)) := (cc _).trans x2
          have X3 : wr.cell? ⟨ba, oa + i * 4 + 3, none⟩ = some (.slice q2 xs.length c2) := (cc _).trans x3
          clear x0 x1 x2 x3 cc hx
          have HBA : Hid (Below wr.heap.size wr (wr.alloc (.cells #[.int .i64 xk, .string (bstr xv2), .string (bstr xn2), .slice q2 xs.length c2] 24))) := (Below.refl _ _).alloc (Nat.le_refl _) _
          have HR2 : Hid (RdE P (wr.alloc (.cells #[.int .i64 xk, .string (bstr xv2), .string (bstr xn2), .slice q2 xs.length c2] 24)) (.mk xk xv2 xn2 xs) (.agg #[.int .i64 xk, .string (bstr xv2), .string (bstr xn2), .slice q2 xs.length c2])) := (hr.below (HI.out) hP).below HBA.out (fun b hb => Nat.lt_of_lt_of_le (hP b hb) (HI.out).size)
          have HC1 := Lib.hid (HC.out.later HBA.out)
          have HXM : Hid (Ex.mk xk xv2 xn2 xs ∈ ks) := by rw [HX.out]; exact hmem
          have HXS : Hid (sizeE (Ex.mk xk xv2 xn2 xs) ≤ 900000) := Nat.le_trans hxs hks
          have e0 := HC1.out.2.1.cell 0
          simp only [List.getElem?_cons_zero] at e0
          have HTOT : Hid ((flatK 3 (ks.take (i + 1))).length ≤ 900000) := Nat.le_trans (sizeL_len _) (Nat.le_trans (Nat.le_trans (flat_size _) (sizeL_take ks (i + 1))) hks)
          rw [flat_take hlt, ← HX.out, ← HL.out, List.length_append] at HTOT
          clear hr hl hba hmem hxs hxd
          by_cases hx : xk = 3
          · subst hx
            have hpos : 0 < xs.length := (HNE.out (.inl rfl)).2 _ HXM.out rfl
            obtain ⟨bx, ox, rfl, hrl⟩ : ∃ b o, q2 = some ⟨b, o, none⟩ ∧ RdL P (wr.alloc (.cells #[.int .i64 3, .string (bstr xv2), .string (bstr xn2), .slice q2 xs.length c2] 24)) xs b o := by
              have h := HR2.out
              unfold RdE at h
              obtain ⟨q', c', e, _, h3⟩ := h
              simp only [Value.agg.injEq, Array.mk.injEq, List.cons.injEq, Value.slice.injEq, and_true, true_and] at e
              obtain ⟨rfl, rfl⟩ := e
              obtain ⟨b, o, g1, _, g3⟩ := h3 hpos
              exact ⟨b, o, g1, g3⟩
            have HRL := Lib.hid hrl
            rw [if_pos (show (Ex.mk 3 xv2 xn2 xs).kind = 3 from rfl)] at HTOT
            have HTOT2 : Hid (L.length + xs.length ≤ 900000) := HTOT.out
            clear hrl hpos HR2
            go_wp2_with (at_builtin; refine app_lr rfl _ _ rfl (P := P) (base := w.heap.size + 3) (xs := xs) rfl HC1.out.2.2.1 rfl rfl HRL.out (fun b hb => Nat.lt_of_lt_of_le (hP b hb) (by omega)) (by have := HTOT2.out; omega) HC1.out.2.2.2.2.1 ?_; intro v6 w6 h6 b6)
            go_roundw
            case rel => exact ⟨i + 1, by omega, by go_num, by rw [flat_take hlt, ← HX.out, if_pos (show (Ex.mk 3 xv2 xn2 xs).kind = 3 from rfl), ← HL.out]; exact HC1.out.row h6 b6⟩
            case measure => simp [intOf]; omega
          · have HB2 : Hid (Below (wr.alloc (.cells #[.int .i64 xk, .string (bstr xv2), .string (bstr xn2), .slice q2 xs.length c2] 24)).heap.size (wr.alloc (.cells #[.int .i64 xk, .string (bstr xv2), .string (bstr xn2), .slice q2 xs.length c2] 24)) ((wr.alloc (.cells #[.int .i64 xk, .string (bstr xv2), .string (bstr xn2), .slice q2 xs.length c2] 24)).alloc (.cells #[.int .i64 xk, .string (bstr xv2), .string (bstr xn2), .slice q2 xs.length c2] 24))) := (Below.refl _ _).alloc (Nat.le_refl _) _
            have HC2 := Lib.hid (HC1.out.later HB2.out)
            have HRL : Hid (RdL P ((wr.alloc (.cells #[.int .i64 xk, .string (bstr xv2), .string (bstr xn2), .slice q2 xs.length c2] 24)).alloc (.cells #[.int .i64 xk, .string (bstr xv2), .string (bstr xn2), .slice q2 xs.length c2] 24)) [Ex.mk xk xv2 xn2 xs] (wr.heap.size + 1) 0) := by
              have hz : (wr.alloc (.cells #[.int .i64 xk, .string (bstr xv2), .string (bstr xn2), .slice q2 xs.length c2] 24)).heap.size = wr.heap.size + 1 := by simp
              rw [← hz]
              have h := HR2.out.below HB2.out (fun b hb => Nat.lt_of_lt_of_le (hP b hb) (Nat.le_trans HI.out.size HBA.out.size))
              refine CellsL.rdL (cs := [.int .i64 xk, .string (bstr xv2), .string (bstr xn2), .slice q2 xs.length c2]) ⟨h, trivial⟩ fun j u hj => ?_
              rw [Nat.zero_add, ← hj]
              exact (Arr.new' (wr.alloc (.cells #[.int .i64 xk, .string (bstr xv2), .string (bstr xn2), .slice q2 xs.length c2] 24)) 24 _ _ rfl).cell j
            have HKX := Lib.hid hx
            clear HR2
            go_wp2_with (at_builtin; refine app_lr rfl _ _ rfl (P := P) (base := w.heap.size + 3) (xs := [Ex.mk xk xv2 xn2 xs]) rfl HC2.out.2.2.1 rfl rfl HRL.out (fun b hb => Nat.lt_of_lt_of_le (hP b hb) (by omega)) (by have := HLN.out; show _ + 1 ≤ _; omega) HC2.out.2.2.2.2.1 ?_; intro v6 w6 h6 b6)
            go_roundw
            case rel => exact ⟨i + 1, by omega, by go_num, by rw [flat_take hlt, ← HX.out, if_neg (show ¬ (Ex.mk xk xv2 xn2 xs).kind = 3 from HKX.out), ← HL.out]; exact HC2.out.row h6 b6⟩
            case measure => simp [intOf]; omega
        · have hi1 : ¬ (i : Int) < ks.length := by omega
          have HK2 : Hid (ks.take i = ks) := List.take_of_length_le (by omega)
          obtain rfl : i = ks.length := by omega
          have hn := HNE.out (.inl rfl)
          have HS0 : Hid (L = flatK 3 ks) := by have h := HL.out; rw [HK2.out] at h; exact h
          have hpos : 0 < L.length := by rw [HS0.out]; exact flat_ne hn.1 hn.2
          have HOX := Lib.hid (ordX_any HC.out.2.2.1 (fun b hb => Nat.lt_of_lt_of_le (hP b hb) HI.out.size) hpos HLL.out)
          obtain ⟨S, hS⟩ : ∃ S, S = sortedO cmpE L := ⟨_, rfl⟩
          rw [← hS] at HOX
          have HSS : Hid (sortedO cmpE (flatK 3 ks) = S) := by show _ = _; rw [hS, HS0.out]
          clear hn hpos hS
          go_wp2_with fail
          refine HOX.out.mono ?_
          rintro r w5 ⟨g, c5, rfl, hc5, hg5, hgl, b5, rl5⟩
          have HC5 := Lib.hid (HC.out.later b5)
          have HRL := Lib.hid rl5
          have HG5 := Lib.hid (Nat.le_trans HC.out.2.2.2.2.1 hg5)
          have HGL := Lib.hid hgl
          have HCC := Lib.hid hc5
          have HI5 := Lib.hid HC5.out.2.2.2.1
          have e0 := HC5.out.2.1.cell 0
          have e1 := HC5.out.2.1.cell 1
          have e2 := HC5.out.2.1.cell 2
          have e3 := HC5.out.2.1.cell 3
          have f3 := HC5.out.2.1.free 3
          have r0 := HC5.out.1.cell 0
          have r1 := HC5.out.1.cell 1
          have r2 := HC5.out.1.cell 2
          have r3 := HC5.out.1.cell 3
          have p0 := HC5.out.1.free 0
          have p1 := HC5.out.1.free 1
          have p2 := HC5.out.1.free 2
          have p3 := HC5.out.1.free 3
          simp only [List.getElem?_cons_zero, List.getElem?_cons_succ] at e0 e1 e2 e3 r0 r1 r2 r3
          clear hc5 hg5 hgl b5 rl5 HOX HC
          by_cases h1 : S.length = 1
          · obtain ⟨y, rfl⟩ : ∃ y, S = [y] := by
              match S, h1 with
              | [y], _ => exact ⟨y, rfl⟩
            obtain ⟨qy, cy, y0, y1, y2, y3, hry⟩ := HRL.out.at (i := 0) (by simp)
            simp only [List.getD_cons_zero, Nat.zero_mul, Nat.zero_add, Nat.add_zero] at y0 y1 y2 y3 hry
            obtain ⟨yk, yv, yn, ys⟩ := y
            simp only [Ex.kind, Ex.via, Ex.nm, Ex.kids] at y0 y1 y2 y3
            have HRY := Lib.hid hry
            have HFO := Lib.hid (fin_one (o := cmpE) (v := xv) (n := xn) (show ((3 : Int) = 3 ∨ (3 : Int) = 4) by decide) HSS.out)
            clear hry h1 e0 e1 e2 e3 f3
            go_wp2_with fail
            have hA := HC5.out.1.set4 (.int .i64 yk) (.string (bstr yv)) (.string (bstr yn)) (.slice qy ys.length cy)
            have hBl := below_set4 (g := w.heap.size + 1) HI5.out (by omega) (.int .i64 yk) (.string (bstr yv)) (.string (bstr yn)) (.slice qy ys.length cy)
            refine bodyPost_ret (resE rfl hA rfl) rfl ⟨_, rfl, ?_, hBl⟩
            rw [HFO.out]
            refine (HRY.out.keep fun b hb n => World.cell?_of_block (heap_set4x w5 (w.heap.size + 1) _ _ _ _ (b := b) (by have := hP b hb; omega))).imp fun b hb => .inl hb
          · have HFM := Lib.hid (fin_many (o := cmpE) (v := xv) (n := xn) (show ((3 : Int) = 3 ∨ (3 : Int) = 4) by decide) (ks := ks) (by rw [HSS.out]; exact h1))
            have h1i : ¬ (S.length : Int) = 1 := by omega
            have HSL : Hid (S.length = S.length) := rfl
            obtain ⟨m, hm⟩ : ∃ m, m = S.length := ⟨_, rfl⟩
            rw [← hm] at h1i HCC ⊢
            have HM := Lib.hid hm
            clear hm h1
            go_wp2_with fail
            have hE3 := HC5.out.2.1.set 3 (.slice (some ⟨g, 0, none⟩) m c5)
            have hR3 := HC5.out.1.setCell (a := ⟨w.heap.size + 1 + 1, 3, none⟩) (by simp) (.slice (some ⟨g, 0, none⟩) m c5)
            have hA := hR3.set4 (.int .i64 3) (.string (bstr xv)) (.string (bstr xn)) (.slice (some ⟨g, 0, none⟩) m c5)
            have hB3 : Below w.heap.size w (w5.setCell ⟨w.heap.size + 1 + 1, 3, none⟩ (.slice (some ⟨g, 0, none⟩) m c5)) := HI5.out.setCell (p := ⟨w.heap.size + 1 + 1, 3, none⟩) (show w.heap.size ≤ w.heap.size + 1 + 1 by omega) _
            have hBl := below_set4 (g := w.heap.size + 1) hB3 (by omega) (.int .i64 3) (.string (bstr xv)) (.string (bstr xn)) (.slice (some ⟨g, 0, none⟩) m c5)
            have hsz5 : ((((((w5.setCell ⟨w.heap.size + 1 + 1, 3, none⟩ (.slice (some ⟨g, 0, none⟩) m c5)).setCell ⟨w.heap.size + 1, 0, none⟩ (.int .i64 3)).setCell ⟨w.heap.size + 1, 1, none⟩ (.string (bstr xv))).setCell ⟨w.heap.size + 1, 2, none⟩ (.string (bstr xn))).setCell ⟨w.heap.size + 1, 3, none⟩ (.slice (some ⟨g, 0, none⟩) m c5)).heap.size = w5.heap.size) := by simp [World.setCell]
            refine bodyPost_ret (resE rfl hA rfl) rfl ⟨_, rfl, ?_, hBl⟩
            have hm := HM.out
            subst hm
            rw [HFM.out, HSS.out]
            refine RdE.of (e := .mk 3 xv xn S) (show S.length ≤ c5 from HCC.out) fun _ => ⟨g, 0, rfl, .inr ⟨by have := HG5.out; omega, by rw [hsz5]; exact HGL.out⟩, ?_⟩
            have hk : ∀ b, (P b ∨ b = g) → ∀ n, ((((((w5.setCell ⟨w.heap.size + 1 + 1, 3, none⟩ (.slice (some ⟨g, 0, none⟩) S.length c5)).setCell ⟨w.heap.size + 1, 0, none⟩ (.int .i64 3)).setCell ⟨w.heap.size + 1, 1, none⟩ (.string (bstr xv))).setCell ⟨w.heap.size + 1, 2, none⟩ (.string (bstr xn))).setCell ⟨w.heap.size + 1, 3, none⟩ (.slice (some ⟨g, 0, none⟩) S.length c5)).cell? ⟨b, n, none⟩ = w5.cell? ⟨b, n, none⟩) := fun b hb n => by
              have hb1 : b ≠ w.heap.size + 1 ∧ b ≠ w.heap.size + 2 := by
                have := HG5.out
                rcases hb with hb | rfl
                · have := hP b hb; omega
                · omega
              exact World.cell?_of_block ((heap_set4x _ (w.heap.size + 1) _ _ _ _ (b := b) hb1.1).trans (Below.heap_setCell _ ⟨w.heap.size + 1 + 1, 3, none⟩ _ b hb1.2))
            have hrl : RdL (fun b => P b ∨ b = g) w5 S g 0 := HRL.out.imp (fun b hb => .inl hb)
            have hrl2 := RdL.keep hk (.inr rfl) hrl
            refine hrl2.imp fun b hb => ?_
            rcases hb with hb | rfl
            · exact .inl hb
            · exact .inr ⟨by have := HG5.out; omega, by rw [hsz5]; exact HGL.out⟩
    · go_wp2_with fail
      clear e0 e1 e2 e3 r0 r1 r2 r3 p0 p1 p2 p3
      go_loopw [4, 20] (fun dv iv wr => ∃ i : Nat, i ≤ ks.length ∧ iv = .int .i64 i ∧ Hid (KS w P [.int .i64 4, .string (bstr xv), .string (bstr xn), .slice q ks.length c] dv (flatK 4 (ks.take i)) wr)) (fun _ iv _ => ks.length - (intOf iv).toNat)
      case atStart => exact ⟨0, Nat.zero_le _, rfl, H0.out⟩
      case round =>
        obtain ⟨i, hi, rfl, HC⟩ := hrel
        have hi0 : (0 : Int) ≤ i := by omega
        have HI := Lib.hid HC.out.2.2.2.1
        obtain ⟨L, hL⟩ : ∃ L, L = flatK 4 (ks.take i) := ⟨_, rfl⟩
        rw [← hL] at HC
        obtain ⟨qv, cv, rfl⟩ := HC.out.2.2.1.form
        have HLL : Hid (sizeL L ≤ 900000) := by rw [hL]; exact Nat.le_trans (Nat.le_trans (flat_size _) (sizeL_take ks i)) hks
        have HLN : Hid (L.length ≤ 900000) := Nat.le_trans (sizeL_len L) HLL.out
        have HL := Lib.hid hL
        clear hL HI3 H0
        by_cases hlt : i < ks.length
        · have hi1 : (i : Int) < ks.length := by omega
          have hmem := getD_mem hlt
          obtain ⟨ba, oa, rfl, hba, hl⟩ := HK.out (by omega)
          obtain ⟨x, hx⟩ : ∃ x, x = ks.getD i ex0 := ⟨_, rfl⟩
          obtain ⟨q2, c2, x0, x1, x2, x3, hr⟩ := hl.at hlt
          have hxs := sizeL_get ks i hlt
          have hxd := depthL_get ks i hlt
          rw [← hx] at x0 x1 x2 x3 hr hxs hxd
          have HX := Lib.hid hx
          obtain ⟨xk, xv2, xn2, xs⟩ := x
          have cc : ∀ n, wr.cell? ⟨ba, n, none⟩ = w.cell? ⟨ba, n, none⟩ := fun n => (HI.out).cell (p := ⟨ba, n, none⟩) (hP _ hba)
          have X0 : wr.cell? ⟨ba, oa + i * 4, none⟩ = some (.int .i64 xk) := (cc _).trans x0
          have X1 : wr.cell? ⟨ba, oa + i * 4 + 1, none⟩ = some (.string (bstr xv2)) := (cc _).trans x1
          have X2 : wr.cell? ⟨ba, oa + i * 4 + 2, none⟩ = some (.string (bstr xn2)) := (cc _).trans x2
          have X3 : wr.cell? ⟨ba, oa + i * 4 + 3, none⟩ = some (.slice q2 xs.length c2) := (cc _).trans x3
          clear x0 x1 x2 x3 cc hx
          have HBA : Hid (Below wr.heap.size wr (wr.alloc (.cells #[.int .i64 xk, .string (bstr xv2), .string (bstr xn2), .slice q2 xs.length c2] 24))) := (Below.refl _ _).alloc (Nat.le_refl _) _
          have HR2 : Hid (RdE P (wr.alloc (.cells #[.int .i64 xk, .string (bstr xv2), .string (bstr xn2), .slice q2 xs.length c2] 24)) (.mk xk xv2 xn2 xs) (.agg #[.int .i64 xk, .string (bstr xv2), .string (bstr xn2), .slice q2 xs.length c2])) := (hr.below (HI.out) hP).below HBA.out (fun b hb => Nat.lt_of_lt_of_le (hP b hb) (HI.out).size)
          have HC1 := Lib.hid (HC.out.later HBA.out)
          have HXM : Hid (Ex.mk xk xv2 xn2 xs ∈ ks) := by rw [HX.out]; exact hmem
          have HXS : Hid (sizeE (Ex.mk xk xv2 xn2 xs) ≤ 900000) := Nat.le_trans hxs hks
          have e0 := HC1.out.2.1.cell 0
          simp only [List.getElem?_cons_zero] at e0
          have HTOT : Hid ((flatK 4 (ks.take (i + 1))).length ≤ 900000) := Nat.le_trans (sizeL_len _) (Nat.le_trans (Nat.le_trans (flat_size _) (sizeL_take ks (i + 1))) hks)
          rw [flat_take hlt, ← HX.out, ← HL.out, List.length_append] at HTOT
          clear hr hl hba hmem hxs hxd
          by_cases hx : xk = 4
          · subst hx
            have hpos : 0 < xs.length := (HNE.out (.inr rfl)).2 _ HXM.out rfl
            obtain ⟨bx, ox, rfl, hrl⟩ : ∃ b o, q2 = some ⟨b, o, none⟩ ∧ RdL P (wr.alloc (.cells #[.int .i64 4, .string (bstr xv2), .string (bstr xn2), .slice q2 xs.length c2] 24)) xs b o := by
              have h := HR2.out
              unfold RdE at h
              obtain ⟨q', c', e, _, h3⟩ := h
              simp only [Value.agg.injEq, Array.mk.injEq, List.cons.injEq, Value.slice.injEq, and_true, true_and] at e
              obtain ⟨rfl, rfl⟩ := e
              obtain ⟨b, o, g1, _, g3⟩ := h3 hpos
              exact ⟨b, o, g1, g3⟩
            have HRL := Lib.hid hrl
            rw [if_pos (show (Ex.mk 4 xv2 xn2 xs).kind = 4 from rfl)] at HTOT
            have HTOT2 : Hid (L.length + xs.length ≤ 900000) := HTOT.out
            clear hrl hpos HR2
            go_wp2_with (at_builtin; refine app_lr rfl _ _ rfl (P := P) (base := w.heap.size + 3) (xs := xs) rfl HC1.out.2.2.1 rfl rfl HRL.out (fun b hb => Nat.lt_of_lt_of_le (hP b hb) (by omega)) (by have := HTOT2.out; omega) HC1.out.2.2.2.2.1 ?_; intro v6 w6 h6 b6)
            go_roundw
            case rel => exact ⟨i + 1, by omega, by go_num, by rw [flat_take hlt, ← HX.out, if_pos (show (Ex.mk 4 xv2 xn2 xs).kind = 4 from rfl), ← HL.out]; exact HC1.out.row h6 b6⟩
            case measure => simp [intOf]; omega
          · have HB2 : Hid (Below (wr.alloc (.cells #[.int .i64 xk, .string (bstr xv2), .string (bstr xn2), .slice q2 xs.length c2] 24)).heap.size (wr.alloc (.cells #[.int .i64 xk, .string (bstr xv2), .string (bstr xn2), .slice q2 xs.length c2] 24)) ((wr.alloc (.cells #[.int .i64 xk, .string (bstr xv2), .string (bstr xn2), .slice q2 xs.length c2] 24)).alloc (.cells #[.int .i64 xk, .string (bstr xv2), .string (bstr xn2), .slice q2 xs.length c2] 24))) := (Below.refl _ _).alloc (Nat.le_refl _) _
            have HC2 := Lib.hid (HC1.out.later HB2.out)
            have HRL : Hid (RdL P ((wr.alloc (.cells #[.int .i64 xk, .string (bstr xv2), .string (bstr xn2), .slice q2 xs.length c2] 24)).alloc (.cells #[.int .i64 xk, .string (bstr xv2), .string (bstr xn2), .slice q2 xs.length c2] 24)) [Ex.mk xk xv2 xn2 xs] (wr.heap.size + 1) 0) := by
              have hz : (wr.alloc (.cells #[.int .i64 xk, .string (bstr xv2), .string (bstr xn2), .slice q2 xs.length c2] 24)).heap.size = wr.heap.size + 1 := by simp
              rw [← hz]
              have h := HR2.out.below HB2.out (fun b hb => Nat.lt_of_lt_of_le (hP b hb) (Nat.le_trans HI.out.size HBA.out.size))
              refine CellsL.rdL (cs := [.int .i64 xk, .string (bstr xv2), .string (bstr xn2), .slice q2 xs.length c2]) ⟨h, trivial⟩ fun j u hj => ?_
              rw [Nat.zero_add, ← hj]
              exact (Arr.new' (wr.alloc (.cells #[.int .i64 xk, .string (bstr xv2), .string (bstr xn2), .slice q2 xs.length c2] 24)) 24 _ _ rfl).cell j
            have HKX := Lib.hid hx
            clear HR2
            go_wp2_with (at_builtin; refine app_lr rfl _ _ rfl (P := P) (base := w.heap.size + 3) (xs := [Ex.mk xk xv2 xn2 xs]) rfl HC2.out.2.2.1 rfl rfl HRL.out (fun b hb => Nat.lt_of_lt_of_le (hP b hb) (by omega)) (by have := HLN.out; show _ + 1 ≤ _; omega) HC2.out.2.2.2.2.1 ?_; intro v6 w6 h6 b6)
            go_roundw
            case rel => exact ⟨i + 1, by omega, by go_num, by rw [flat_take hlt, ← HX.out, if_neg (show ¬ (Ex.mk xk xv2 xn2 xs).kind = 4 from HKX.out), ← HL.out]; exact HC2.out.row h6 b6⟩
            case measure => simp [intOf]; omega
        · have hi1 : ¬ (i : Int) < ks.length := by omega
          have HK2 : Hid (ks.take i = ks) := List.take_of_length_le (by omega)
          obtain rfl : i = ks.length := by omega
          have hn := HNE.out (.inr rfl)
          have HS0 : Hid (L = flatK 4 ks) := by have h := HL.out; rw [HK2.out] at h; exact h
          have hpos : 0 < L.length := by rw [HS0.out]; exact flat_ne hn.1 hn.2
          have HOX := Lib.hid (ordX_any HC.out.2.2.1 (fun b hb => Nat.lt_of_lt_of_le (hP b hb) HI.out.size) hpos HLL.out)
          obtain ⟨S, hS⟩ : ∃ S, S = sortedO cmpE L := ⟨_, rfl⟩
          rw [← hS] at HOX
          have HSS : Hid (sortedO cmpE (flatK 4 ks) = S) := by show _ = _; rw [hS, HS0.out]
          clear hn hpos hS
          go_wp2_with fail
          refine HOX.out.mono ?_
          rintro r w5 ⟨g, c5, rfl, hc5, hg5, hgl, b5, rl5⟩
          have HC5 := Lib.hid (HC.out.later b5)
          have HRL := Lib.hid rl5
          have HG5 := Lib.hid (Nat.le_trans HC.out.2.2.2.2.1 hg5)
          have HGL := Lib.hid hgl
          have HCC := Lib.hid hc5
          have HI5 := Lib.hid HC5.out.2.2.2.1
          have e0 := HC5.out.2.1.cell 0
          have e1 := HC5.out.2.1.cell 1
          have e2 := HC5.out.2.1.cell 2
          have e3 := HC5.out.2.1.cell 3
          have f3 := HC5.out.2.1.free 3
          have r0 := HC5.out.1.cell 0
          have r1 := HC5.out.1.cell 1
          have r2 := HC5.out.1.cell 2
          have r3 := HC5.out.1.cell 3
          have p0 := HC5.out.1.free 0
          have p1 := HC5.out.1.free 1
          have p2 := HC5.out.1.free 2
          have p3 := HC5.out.1.free 3
          simp only [List.getElem?_cons_zero, List.getElem?_cons_succ] at e0 e1 e2 e3 r0 r1 r2 r3
          clear hc5 hg5 hgl b5 rl5 HOX HC
          by_cases h1 : S.length = 1
          · obtain ⟨y, rfl⟩ : ∃ y, S = [y] := by
              match S, h1 with
              | [y], _ => exact ⟨y, rfl⟩
            obtain ⟨qy, cy, y0, y1, y2, y3, hry⟩ := HRL.out.at (i := 0) (by simp)
            simp only [List.getD_cons_zero, Nat.zero_mul, Nat.zero_add, Nat.add_zero] at y0 y1 y2 y3 hry
            obtain ⟨yk, yv, yn, ys⟩ := y
            simp only [Ex.kind, Ex.via, Ex.nm, Ex.kids] at y0 y1 y2 y3
            have HRY := Lib.hid hry
            have HFO := Lib.hid (fin_one (o := cmpE) (v := xv) (n := xn) (show ((4 : Int) = 3 ∨ (4 : Int) = 4) by decide) HSS.out)
            clear hry h1 e0 e1 e2 e3 f3
            go_wp2_with fail
            have hA := HC5.out.1.set4 (.int .i64 yk) (.string (bstr yv)) (.string (bstr yn)) (.slice qy ys.length cy)
            have hBl := below_set4 (g := w.heap.size + 1) HI5.out (by omega) (.int .i64 yk) (.string (bstr yv)) (.string (bstr yn)) (.slice qy ys.length cy)
            refine bodyPost_ret (resE rfl hA rfl) rfl ⟨_, rfl, ?_, hBl⟩
            rw [HFO.out]
            refine (HRY.out.keep fun b hb n => World.cell?_of_block (heap_set4x w5 (w.heap.size + 1) _ _ _ _ (b := b) (by have := hP b hb; omega))).imp fun b hb => .inl hb
          · have HFM := Lib.hid (fin_many (o := cmpE) (v := xv) (n := xn) (show ((4 : Int) = 3 ∨ (4 : Int) = 4) by decide) (ks := ks) (by rw [HSS.out]; exact h1))
            have h1i : ¬ (S.length : Int) = 1 := by omega
            have HSL : Hid (S.length = S.length) := rfl
            obtain ⟨m, hm⟩ : ∃ m, m = S.length := ⟨_, rfl⟩
            rw [← hm] at h1i HCC ⊢
            have HM := Lib.hid hm
            clear hm h1
            go_wp2_with fail
            have hE3 := HC5.out.2.1.set 3 (.slice (some ⟨g, 0, none⟩) m c5)
            have hR3 := HC5.out.1.setCell (a := ⟨w.heap.size + 1 + 1, 3, none⟩) (by simp) (.slice (some ⟨g, 0, none⟩) m c5)
            have hA := hR3.set4 (.int .i64 4) (.string (bstr xv)) (.string (bstr xn)) (.slice (some ⟨g, 0, none⟩) m c5)
            have hB3 : Below w.heap.size w (w5.setCell ⟨w.heap.size + 1 + 1, 3, none⟩ (.slice (some ⟨g, 0, none⟩) m c5)) := HI5.out.setCell (p := ⟨w.heap.size + 1 + 1, 3, none⟩) (show w.heap.size ≤ w.heap.size + 1 + 1 by omega) _
            have hBl := below_set4 (g := w.heap.size + 1) hB3 (by omega) (.int .i64 4) (.string (bstr xv)) (.string (bstr xn)) (.slice (some ⟨g, 0, none⟩) m c5)
            have hsz5 : ((((((w5.setCell ⟨w.heap.size + 1 + 1, 3, none⟩ (.slice (some ⟨g, 0, none⟩) m c5)).setCell ⟨w.heap.size + 1, 0, none⟩ (.int .i64 4)).setCell ⟨w.heap.size + 1, 1, none⟩ (.string (bstr xv))).setCell ⟨w.heap.size + 1, 2, none⟩ (.string (bstr xn))).setCell ⟨w.heap.size + 1, 3, none⟩ (.slice (some ⟨g, 0, none⟩) m c5)).heap.size = w5.heap.size) := by simp [World.setCell]
            refine bodyPost_ret (resE rfl hA rfl) rfl ⟨_, rfl, ?_, hBl⟩
            have hm := HM.out
            subst hm
            rw [HFM.out, HSS.out]
            refine RdE.of (e := .mk 4 xv xn S) (show S.length ≤ c5 from HCC.out) fun _ => ⟨g, 0, rfl, .inr ⟨by have := HG5.out; omega, by rw [hsz5]; exact HGL.out⟩, ?_⟩
            have hk : ∀ b, (P b ∨ b = g) → ∀ n, ((((((w5.setCell ⟨w.heap.size + 1 + 1, 3, none⟩ (.slice (some ⟨g, 0, none⟩) S.length c5)).setCell ⟨w.heap.size + 1, 0, none⟩ (.int .i64 4)).setCell ⟨w.heap.size + 1, 1, none⟩ (.string (bstr xv))).setCell ⟨w.heap.size + 1, 2, none⟩ (.string (bstr xn))).setCell ⟨w.heap.size + 1, 3, none⟩ (.slice (some ⟨g, 0, none⟩) S.length c5)).cell? ⟨b, n, none⟩ = w5.cell? ⟨b, n, none⟩) := fun b hb n => by
              have hb1 : b ≠ w.heap.size + 1 ∧ b ≠ w.heap.size + 2 := by
                have := HG5.out
                rcases hb with hb | rfl
                · have := hP b hb; omega
                · omega
              exact World.cell?_of_block ((heap_set4x _ (w.heap.size + 1) _ _ _ _ (b := b) hb1.1).trans (Below.heap_setCell _ ⟨w.heap.size + 1 + 1, 3, none⟩ _ b hb1.2))
            have hrl : RdL (fun b => P b ∨ b = g) w5 S g 0 := HRL.out.imp (fun b hb => .inl hb)
            have hrl2 := RdL.keep hk (.inr rfl) hrl
            refine hrl2.imp fun b hb => ?_
            rcases hb with hb | rfl
            · exact .inl hb
            · exact .inr ⟨by have := HG5.out; omega, by rw [hsz5]; exact HGL.out⟩
  · have HKK := Lib.hid hk
    have hk3 : ¬ k = 3 := fun e => hk (.inl e)
    have hk4 : ¬ k = 4 := fun e => hk (.inr e)
    have hb3 : (k != 3) = true := bne_iff_ne.2 hk3
    have hb4 : (k != 4) = true := bne_iff_ne.2 hk4
    clear hk
    go_wp2_with fail
    have hA := H0.out.1.set4 (.int .i64 k) (.string (bstr xv)) (.string (bstr xn)) (.slice q ks.length c)
    have hBl := below_set4 (g := w.heap.size + 1) HI3.out (by omega) (.int .i64 k) (.string (bstr xv)) (.string (bstr xn)) (.slice q ks.length c)
    refine bodyPost_ret (resE rfl hA rfl) rfl ⟨_, rfl, ?_, hBl⟩
    rw [fin_other HKK.out]
    exact (HR.out.below hBl hP).imp fun b hb => .inl hb
end Go.Proofs.YtdnmgemjhpkekaaGreat
