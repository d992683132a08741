/-
  canon.ordered at expressions: cloned, sorted, each one once.
-/
import Derived.Test.YtdnmgemjhpkekaaGreatCnC
namespace Go.Proofs.YtdnmgemjhpkekaaGreat
open Go.ChangeShapes Go.WideShapes Go.ChangeAt Go.RowKit Go.Lib Go.Sort
set_option linter.unusedVariables false

/-- A row of expressions of the call's own, whose elements lead to blocks of P only. -/
def LR (P : Nat → Prop) (base : Nat) (w : World) (v : Value) (ks : List Ex) : Prop := ∃ cs, w.ownsRow base 24 4 v ks.length cs ∧ CellsL P w ks cs
/-- A function value in a block of its own. -/
def FBox (w : World) (pb : Nat) (f : FuncId) : Prop := pb < w.heap.size ∧ w.cell? ⟨pb, 0, none⟩ = some (.func (.func f) #[] #[])
theorem FBox.later {w w' : World} {pb : Nat} {f : FuncId} (h : FBox w pb f) (hb : Below w.heap.size w w') : FBox w' pb f := ⟨Nat.lt_of_lt_of_le h.1 hb.size, (World.cell?_of_block (a := ⟨pb, 0, none⟩) (hb.block pb h.1)).trans h.2⟩
theorem FBox.grown {w w' : World} {pb g : Nat} {f : FuncId} (h : FBox w pb f) (hb : w.grownBy w' (some g)) (hne : pb ≠ g) : FBox w' pb f := ⟨Nat.lt_of_lt_of_le h.1 hb.size, (World.cell?_of_block (a := ⟨pb, 0, none⟩) (hb.block pb h.1 fun e => hne (Option.some.inj e))).trans h.2⟩
set_option maxRecDepth 100000 in
set_option maxHeartbeats 4000000 in
theorem eqX_any {P : Nat → Prop} {w0 : World} (x y : Xs P w0) {W : World} {pb : Nat} (hb : FBox W pb 34) (hx : RdE P W x.1.1 (exv x.1.1 x.1.2.1 x.1.2.2)) (hy : RdE P W y.1.1 (exv y.1.1 y.1.2.1 y.1.2.2)) (hP : ∀ b, P b → b < W.heap.size) :
    Calls Tryz.prog 56 #[Xv x, Xv y, .pointer (some ⟨pb, 0, none⟩)] W fun e w' => e = .returned (.bool (decide (xkey x = xkey y))) ∧ Below W.heap.size W w' := by
  have hd : decide (xkey x = xkey y) = (cmpE x.1.1 y.1.1 == 0) := by
    by_cases e : xkey x = xkey y
    · rw [decide_eq_true e, show x.1.1 = y.1.1 from e, cmpE_self]; rfl
    · rw [decide_eq_false e]
      have h1 : ¬ cmpE x.1.1 y.1.1 = 0 := fun h => e (cmpE_eq h)
      exact (beq_eq_false_iff_ne.2 h1).symm
  rw [hd]
  clear hd
  obtain ⟨⟨⟨k, xv, xn, ks⟩, q, c⟩, _, hsx⟩ := x
  obtain ⟨⟨⟨k2, yv, yn, ls⟩, q2, c2⟩, _, hsy⟩ := y
  show Calls _ _ #[.agg #[.int .i64 k, .string (bstr xv), .string (bstr xn), .slice q ks.length c], .agg #[.int .i64 k2, .string (bstr yv), .string (bstr yn), .slice q2 ls.length c2], _] _ _
  have hx' : RdE P W (.mk k xv xn ks) (.agg #[.int .i64 k, .string (bstr xv), .string (bstr xn), .slice q ks.length c]) := hx
  have hy' : RdE P W (.mk k2 yv yn ls) (.agg #[.int .i64 k2, .string (bstr yv), .string (bstr yn), .slice q2 ls.length c2]) := hy
  have sx' : sizeE (.mk k xv xn ks) ≤ 900000 := hsx
  have sy' : sizeE (.mk k2 yv yn ls) ≤ 900000 := hsy
  change Calls _ _ _ _ fun e w' => e = .returned (.bool (cmpE (.mk k xv xn ks) (.mk k2 yv yn ls) == 0)) ∧ _
  clear hx hy hsx hsy
  have hbb : Below W.heap.size W ((W.alloc (.cells #[.int .i64 k, .string (bstr xv), .string (bstr xn), .slice q ks.length c] 24)).alloc (.cells #[.int .i64 k2, .string (bstr yv), .string (bstr yn), .slice q2 ls.length c2] 24)) := ((Below.refl _ _).alloc (Nat.le_refl _) _).alloc (by simp) _
  have HBX := Lib.hid (hb.later hbb)
  have hcb : ((W.alloc (.cells #[.int .i64 k, .string (bstr xv), .string (bstr xn), .slice q ks.length c] 24)).alloc (.cells #[.int .i64 k2, .string (bstr yv), .string (bstr yn), .slice q2 ls.length c2] 24)).cell? ⟨pb, 0, none⟩ = some (.func (.func 34) #[] #[]) := HBX.out.2
  have HB := Lib.hid hbb
  have HC := ecompare_any 900000 (Nat.le_refl _) (.mk k xv xn ks) (.mk k2 yv yn ls) (.agg #[.int .i64 k, .string (bstr xv), .string (bstr xn), .slice q ks.length c]) (.agg #[.int .i64 k2, .string (bstr yv), .string (bstr yn), .slice q2 ls.length c2]) P P ((W.alloc (.cells #[.int .i64 k, .string (bstr xv), .string (bstr xn), .slice q ks.length c] 24)).alloc (.cells #[.int .i64 k2, .string (bstr yv), .string (bstr yn), .slice q2 ls.length c2] 24)) sx' sy' (hx'.below hbb hP) (hy'.below hbb hP) (fun b hb => Nat.lt_of_lt_of_le (hP b hb) hbb.size) (fun b hb => Nat.lt_of_lt_of_le (hP b hb) hbb.size)
  obtain ⟨E, hE⟩ : ∃ E, E = cmpE (.mk k xv xn ks) (.mk k2 yv yn ls) := ⟨_, rfl⟩
  rw [← hE] at HC ⊢
  replace HC := Lib.hid HC
  have ha1 := ((Arr.new' W 24 _ [.int .i64 k, .string (bstr xv), .string (bstr xn), .slice q ks.length c] rfl).alloc (.cells #[.int .i64 k2, .string (bstr yv), .string (bstr yn), .slice q2 ls.length c2] 24))
  have ha2 := (Arr.new2 W (.cells #[.int .i64 k, .string (bstr xv), .string (bstr xn), .slice q ks.length c] 24) 24 _ [.int .i64 k2, .string (bstr yv), .string (bstr yn), .slice q2 ls.length c2] rfl)
  have HA1 := Lib.hid ha1
  have HA2 := Lib.hid ha2
  clear hb hx' hy' hP hbb hE sx' sy' ha1 ha2
  go_enter Tryz.func56, Tryz.ntmps56
  go_wp2_with fail
  refine HC.out.mono ?_
  rintro r w5 ⟨rfl, b5⟩
  have HB5 := Lib.hid (HB.out.trans (b5.mono HB.out.size))
  clear b5
  go_wp2_with fail
  go_ret
  exact ⟨rfl, HB5.out⟩
theorem perm_mem {α : Type} [Inhabited α] {d d' : Array α} (h : PermIn 0 d.size d d') (x : α) : x ∈ d'.toList ↔ x ∈ d.toList := by
  have hd : d'.size = d.size := by simpa using h.1
  have := h.2.2
  rw [show d'.extract 0 d.size = d' by rw [Array.extract_eq_self_of_le (by simp [hd])], show d.extract 0 d.size = d by rw [Array.extract_eq_self_of_le (Nat.le_refl _)]] at this
  simpa using this.mem_iff
theorem getB_mem {α : Type} [Inhabited α] {d : Array α} {j : Nat} (h : j < d.size) : d[j]! ∈ d.toList := by
  rw [getElem!_pos d j h]; simp
theorem mem_getB {α : Type} [Inhabited α] {d : Array α} {x : α} (h : x ∈ d.toList) : ∃ j, j < d.size ∧ d[j]! = x := by
  obtain ⟨j, hj, rfl⟩ := List.getElem_of_mem h
  exact ⟨j, by simpa using hj, by rw [getElem!_pos d j (by simpa using hj)]; simp⟩
/-- Clone: a new row with the same elements. -/
theorem cloneX_any {P : Nat → Prop} {B0 : Nat} {w : World} {v : Value} {ks : List Ex} (h : LR P B0 w v ks) (hne : 0 < ks.length) (hl : ks.length ≤ 900000) :
    Calls Tryz.prog 53 #[v] w fun e w' => ∃ g c cs cur, e = .returned (.slice (some ⟨g, 0, none⟩) ks.length c) ∧ ks.length ≤ c ∧ w.heap.size ≤ g ∧ w'.heap[g]? = some (.cells cur 24 (0, 0)) ∧ cur.toList.take (ks.length * 4) = cs ∧ CellsL P w ks cs ∧ Below w.heap.size w w' := by
  obtain ⟨cs, ho, hc⟩ := h
  rcases ho.2 with ⟨_, h0⟩ | ⟨g0, cap0, cur0, hv, hb0, hg0, h1, h2, h3, h4⟩
  · omega
  · obtain ⟨i0, hi0⟩ : ∃ i, Tryz.prog.info? 24 = some i := Option.isSome_iff_exists.1 (by kernel_rfl)
    have q1 : (Tryz.prog.info? 24).bind (·.zero) = some (.agg #[.int .i64 0, .string ByteArray.empty, .string ByteArray.empty, .slice none 0 0]) := by kernel_rfl
    have q2 : (Tryz.prog.info? 24).map (·.size) = some 4 := by kernel_rfl
    have q3 : (Tryz.prog.info? 24).map (·.bytes) = some 64 := by kernel_rfl
    rw [hi0] at q1 q2 q3
    have ho' := ho
    rw [hv] at ho'
    have hrow : ∀ j u, cs[j]? = some u → w.cell? ⟨g0, 0 + j, none⟩ = some u := fun j u hj => by
      rw [Nat.zero_add]
      have := ho'.cells rfl j u hj
      rwa [show (Addr.add ⟨g0, 0, none⟩ j) = ⟨g0, j, none⟩ by cases j <;> simp [Addr.add]] at this
    rw [hv]
    refine (AnyE.slices_Clone Tryz.cloneEx i0 _ 4 64 hi0 q1 (Option.some.inj q2) (Option.some.inj q3) (by kernel_rfl) (by omega) (fun _ => by kernel_rfl) g0 0 ks.length cap0 cs w ho.1 (Nat.le_trans hl (by decide)) (by omega) hrow hc.ones).mono ?_
    rintro e w1 ⟨v', rfl, ho2, hn, hb⟩
    rcases ho2.2 with ⟨e0, _⟩ | ⟨g, cap, cur, rfl, g1, g2, g3, g4, g5, g6⟩
    · exact absurd e0 hn
    · exact ⟨g, cap, cs, cur, rfl, g3, g1, g2, g6, hc, hb⟩
/-- SortFunc with Compare over the row. -/
theorem sortX_any {P : Nat → Prop} {w : World} {g c : Nat} (d : Array (Xs P w)) (hP : ∀ b, P b → b < w.heap.size ∧ b ≠ g) (hH : HoldsK xenc 4 w g 0 d) (hg : g < w.heap.size) (hl : d.size ≤ 900000) :
    Calls Tryz.prog 54 #[.slice (some ⟨g, 0, none⟩) d.size c, .func (.func 34) #[] #[]] w fun e w' => e = .returned (.tuple #[]) ∧ w.grownBy w' (some g) ∧
      ∃ d' : Array (Xs P w), HoldsK xenc 4 w' g 0 d' ∧ d'.size = d.size ∧ (kpS xkey d' d'.size).map xkey = sortedO cmpE (d.toList.map xkey) := by
  have eg : ∀ args w, (callFunc 34 args).run Tryz.prog w = .ok (.enter 34 args) w := enters_of Tryz.func34 (by kernel_rfl) rfl
  have hcon := AnyQ.slices_SortFunc Tryz.sortEx 4 (fun _ => by kernel_rfl) (fun _ => by kernel_rfl) (xenc (P := P) (w := w)) xenc_len xenc_one (fun x y => cmpE (xkey x) (xkey y)) (swoG ordX xkey) 34 #[] g 0 c d w eg (cmpX hP) hH hg (by omega)
  change Calls Tryz.prog 54 _ _ _ at hcon
  refine hcon.mono ?_
  rintro e w1 ⟨rfl, d2, n, os, hp, hs, rfl⟩
  have hd : d2.size = d.size := by simpa using hp.1
  refine ⟨rfl, grownBy_sortG d2, d2, holdsK_sortWorldK xenc 4 w g 0 n d d2 os hg hH (by simpa using hd), hd, kpS_sorted ordX (fun i j hij hj => ?_) fun x => ?_⟩
  · have := hs i j (Nat.zero_le _) hij (by simpa [hd] using hj)
    simp only [ltOf, decide_eq_false_iff_not] at this
    have := cmpE_flip (xkey d2[i]!) (xkey d2[j]!)
    omega
  · rw [List.mem_map]
    constructor
    · rintro ⟨j, hj, rfl⟩
      exact ⟨_, (perm_mem hp _).1 (getB_mem hj), rfl⟩
    · rintro ⟨y, hy, rfl⟩
      obtain ⟨j, hj, e⟩ := mem_getB ((perm_mem hp _).2 hy)
      exact ⟨j, hj, by rw [e]⟩
set_option maxRecDepth 100000 in
set_option maxHeartbeats 4000000 in
theorem ordX_any {P : Nat → Prop} {B0 : Nat} {w : World} {v : Value} {ks : List Ex} (h : LR P B0 w v ks) (hPw : ∀ b, P b → b < w.heap.size) (hne : 0 < ks.length) (hsz : sizeL ks ≤ 900000) :
    Calls Tryz.prog 33 #[v, .func (.func 34) #[] #[]] w fun e w' => ∃ g c, e = .returned (.slice (some ⟨g, 0, none⟩) (sortedO cmpE ks).length c) ∧ (sortedO cmpE ks).length ≤ c ∧ w.heap.size ≤ g ∧ g < w'.heap.size ∧ Below w.heap.size w w' ∧ RdL P w' (sortedO cmpE ks) g 0 := by
  have hl : ks.length ≤ 900000 := Nat.le_trans (sizeL_len ks) hsz
  obtain ⟨w0, hw0⟩ : ∃ w0, w0 = w.alloc (.cells #[.func (.func 34) #[] #[]] 28) := ⟨_, rfl⟩
  have hb0 : Below w.heap.size w w0 := by rw [hw0]; exact (Below.refl _ _).alloc (Nat.le_refl _) _
  have hfb : FBox w0 w.heap.size 34 := by rw [hw0]; exact ⟨by simp, (Arr.new' w _ _ _ rfl).cell 0⟩
  have hz0 : w0.heap.size = w.heap.size + 1 := by rw [hw0]; simp
  have hr0 : LR P B0 w0 v ks := by
    obtain ⟨cs, h1, h2⟩ := h
    refine ⟨cs, ?_, h2.keep (cells_below hb0 hPw)⟩
    rcases h1 with ⟨h0, h | ⟨g, cap, cur, e1, e2, e3, e4⟩⟩
    · exact ⟨h0, .inl h⟩
    · exact ⟨h0, .inr ⟨g, cap, cur, e1, e2, (hb0.block g (Array.getElem?_eq_some_iff.1 e3).1).trans e3, e4⟩⟩
  obtain ⟨q, c, rfl⟩ : ∃ q c, v = .slice q ks.length c := by
    obtain ⟨cs, h1, _⟩ := h
    rcases h1.2 with ⟨h, hn⟩ | ⟨g, cap, cur, hv, _⟩
    · exact ⟨none, 0, by rw [hn]; exact h⟩
    · exact ⟨_, _, hv⟩
  have HPW : Hid (∀ b, P b → b < w0.heap.size) := fun b hb => by have := hPw b hb; have := hb0.size; omega
  have HW0 := Lib.hid hw0
  have HB0 := Lib.hid hb0
  have HFB := Lib.hid hfb
  have HZ0 := Lib.hid hz0
  have HCL := Lib.hid (cloneX_any hr0 hne hl)
  have HSZ := Lib.hid hsz
  have HLN := Lib.hid hl
  have hcb : w0.cell? ⟨w.heap.size, 0, none⟩ = some (.func (.func 34) #[] #[]) := hfb.2
  clear h hr0 hb0 hfb hz0 hw0 hsz hl hne hPw
  go_enter Tryz.func33, Tryz.ntmps33
  go_wp2_with fail
  rw [← HW0.out]
  refine HCL.out.mono ?_
  rintro e w1 ⟨g, c1, cs, cur, rfl, hc1, hg1, hh, htk, hcl, b1⟩
  have HFB1 := Lib.hid (HFB.out.later b1)
  have hcb1 : w1.cell? ⟨w.heap.size, 0, none⟩ = some (.func (.func 34) #[] #[]) := HFB1.out.2
  have hglt : g < w1.heap.size := (Array.getElem?_eq_some_iff.1 hh).1
  have hP : ∀ b, P b → b < w1.heap.size ∧ b ≠ g := fun b hb => ⟨Nat.lt_of_lt_of_le (HPW.out b hb) b1.size, fun e => by have := HPW.out b hb; omega⟩
  have hcl1 : CellsL P w1 ks cs := hcl.keep (cells_below b1 HPW.out)
  clear hcl
  obtain ⟨d, hd1, hd2⟩ := xs_of_cells hcl1 HSZ.out
  have hdl : d.length = ks.length := by rw [← hd1, List.length_map]
  have hH : HoldsK xenc 4 w1 g 0 d.toArray := holds_of_rowG xenc_len (by decide) hh (by rw [hdl, htk, hd2])
  have HS := sortX_any (c := c1) d.toArray hP hH hglt (by simp; rw [hdl]; exact HLN.out)
  have hds : d.toArray.size = ks.length := by simp [hdl]
  rw [hds, show d.toArray.toList.map xkey = ks by simpa using hd1] at HS
  have HS := Lib.hid HS
  have HB1 := Lib.hid (HB0.out.trans (b1.mono HB0.out.size))
  have HP := Lib.hid hP
  have HC1 := Lib.hid hc1
  have HG := Lib.hid (show w.heap.size < g by have := HZ0.out; omega)
  have HGL := Lib.hid hglt
  clear HCL hc1 hg1 hh htk b1 hP hcl1 hd1 hd2 hH hdl hds hglt hcb
  go_wp2_with fail
  refine HS.out.mono ?_
  rintro e w2 ⟨rfl, gr, d2, hH2, hn2, hk2⟩
  have HFB2 := Lib.hid (HFB1.out.grown gr (by have := HG.out; omega))
  have HGR := Lib.hid gr
  have HK2 := Lib.hid hk2
  have hle : (sortedO cmpE ks).length ≤ ks.length := by rw [← hk2, List.length_map, ← hn2]; exact kpS_len _ _ _
  have HLE := Lib.hid hle
  have HCP := compactX_any (w := w2) (blk := g) (cap := c1) (pv := .pointer (some ⟨w.heap.size, 0, none⟩)) d2 ⟨grown_refl _ _, hH2, Nat.lt_of_lt_of_le HGL.out gr.size⟩ (by rw [hn2]; exact HLN.out) (by rw [hn2]; exact HC1.out) (fun x y W hW => by
    have hg3 := grown_tr HGR.out hW
    exact eqX_any x y (HFB2.out.grown hW (by have := HG.out; omega)) (grown_rd hg3 HP.out x.2.1) (grown_rd hg3 HP.out y.2.1) (fun b hb => Nat.lt_of_lt_of_le (HP.out b hb).1 hg3.size))
  rw [hn2] at HCP
  obtain ⟨L, hL⟩ : ∃ L, L = kpS xkey d2 ks.length := ⟨_, rfl⟩
  rw [hn2] at hk2
  rw [← hL] at HCP hk2
  have HKL := Lib.hid hk2
  have HCP := Lib.hid HCP
  have hmk : ∀ (fn : Fn) (first cap : Array Value) (w : World), (Instr.makeFunc fn first cap).run Tryz.prog w = .ok (.func fn first cap) w := fun _ _ _ _ => rfl
  clear gr hH2 hk2 hle HS hL hcb1
  go_wp2_with fail
  refine HCP.out.mono ?_
  rintro e w3 ⟨rfl, gr3, d3, hH3, hn3, he3⟩
  have hLlen : L.length = (sortedO cmpE ks).length := by rw [← HKL.out, List.length_map]
  have hg3 := grown_tr HGR.out gr3
  have hB3 : Below w.heap.size w w3 := HB1.out.trans ⟨hg3.os, hg3.tape, hg3.output, hg3.size, fun k hk => hg3.block k (Nat.lt_of_lt_of_le hk HB1.out.size) fun e => by have := HG.out; have := Option.some.inj e; omega⟩
  have hrow := row_of_holdsG xenc_len (by decide) hH3 (l := L) (by rw [hn3, hLlen]; exact HLE.out) he3
  have hcells : CellsL P w3 (sortedO cmpE ks) (L.flatMap xenc) := by
    rw [← HKL.out]
    exact cells_of_xs (fun e v hr => grown_rd hg3 HP.out hr) L
  have HRL := Lib.hid (hcells.rdL (b := g) (o := 0) hrow)
  have HB3 := Lib.hid hB3
  have HG3 := Lib.hid (Nat.lt_of_lt_of_le HGL.out hg3.size)
  rw [hLlen]
  clear gr3 hH3 hn3 he3 hg3 hB3 hrow hcells hLlen HCP
  go_wp2_with fail
  go_ret
  exact ⟨g, c1, rfl, Nat.le_trans HLE.out HC1.out, Nat.le_of_lt HG.out, HG3.out, HB3.out, HRL.out⟩
end Go.Proofs.YtdnmgemjhpkekaaGreat
