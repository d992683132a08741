/-
  canon.ordered at expressions: cloned, sorted, each one once.
-/
import Derived.Test.YtdnmgemjhpkekaaMg0
import Derived.Test.YtdnmgemjhpkekaaOrd
import Derived.StillTailTactics
import Derived.Test.YtdnmgemjhpkekaaPlain
import Derived.WalkKit
import Derived.ProofKit
import Derived.Below
import Derived.Lib.Hide
import Derived.Deep.RegionHeld3
import Derived.Deep.RegionLaw
namespace Go.Proofs.Ytdnmgemjhpkekaa
open Go.ChangeShapes Go.WideShapes Go.ChangeAt Go.RowKit Go.Lib Go.Sort
set_option linter.unusedVariables false
set_option linter.unusedSectionVars false
set_option linter.unusedSimpArgs false

/-- A row of expressions of the call's own, whose elements lead to blocks of P only. -/
def LR (P : Nat → Prop) (base : Nat) (w : World) (v : Value) (ks : List Ex) : Prop := ∃ cs, w.ownsRow base 31 4 v ks.length cs ∧ CellsL P w ks cs
/-- A function value in a block of its own. -/
def FBox (w : World) (pb : Nat) (f : FuncId) : Prop := pb < w.heap.size ∧ w.cell? ⟨pb, 0, none⟩ = some (.func (.func f) #[] #[])
theorem FBox.later {w w' : World} {pb : Nat} {f : FuncId} (h : FBox w pb f) (hb : Below w.heap.size w w') : FBox w' pb f := ⟨Nat.lt_of_lt_of_le h.1 hb.size, (World.cell?_of_block (a := ⟨pb, 0, none⟩) (hb.block pb h.1)).trans h.2⟩
theorem FBox.grown {w w' : World} {pb g : Nat} {f : FuncId} (h : FBox w pb f) (hb : w.grownBy w' (some g)) (hne : pb ≠ g) : FBox w' pb f := ⟨Nat.lt_of_lt_of_le h.1 hb.size, (World.cell?_of_block (a := ⟨pb, 0, none⟩) (hb.block pb h.1 fun e => hne (Option.some.inj e))).trans h.2⟩
set_option maxRecDepth 100000 in
set_option maxHeartbeats 4000000 in
theorem eqX_any {P : Nat → Prop} {w0 : World} (x y : Xs P w0) {W : World} {pb : Nat} (hb : FBox W pb 32) (hx : RdE P W x.1.1 (exv x.1.1 x.1.2.1 x.1.2.2)) (hy : RdE P W y.1.1 (exv y.1.1 y.1.2.1 y.1.2.2)) (hP : ∀ b, P b → b < W.heap.size) :
    Calls Try.prog 48 #[Xv x, Xv y, .pointer (some ⟨pb, 0, none⟩)] W fun e w' => e = .returned (.bool (decide (xkey x = xkey y))) ∧ Below W.heap.size W w' := by
  have hd : decide (xkey x = xkey y) = (cmpE x.1.1 y.1.1 == 0) := by
    by_cases e : xkey x = xkey y
    · rw [decide_eq_true e, show x.1.1 = y.1.1 from e, cmpE_self]; rfl
    · rw [decide_eq_false e]
      have h1 : ¬ cmpE x.1.1 y.1.1 = 0 := fun h => e (cmpE_eq h)
      exact (beq_eq_false_iff_ne.2 h1).symm
  rw [hd]
  clear hd
  obtain ⟨⟨⟨k, xv, xn, ks⟩, q, c⟩, _, hsx⟩ := x
  obtain ⟨⟨⟨k2, yv, yn, ls⟩, q2, c2⟩, _, hsy⟩ := y
  show Calls _ _ #[.agg #[.int .i64 k, .string (bstr xv), .string (bstr xn), .slice q ks.length c], .agg #[.int .i64 k2, .string (bstr yv), .string (bstr yn), .slice q2 ls.length c2], _] _ _
  have hx' : RdE P W (.mk k xv xn ks) (.agg #[.int .i64 k, .string (bstr xv), .string (bstr xn), .slice q ks.length c]) := hx
  have hy' : RdE P W (.mk k2 yv yn ls) (.agg #[.int .i64 k2, .string (bstr yv), .string (bstr yn), .slice q2 ls.length c2]) := hy
  have sx' : sizeE (.mk k xv xn ks) ≤ 900000 := hsx
  have sy' : sizeE (.mk k2 yv yn ls) ≤ 900000 := hsy
  change Calls _ _ _ _ fun e w' => e = .returned (.bool (cmpE (.mk k xv xn ks) (.mk k2 yv yn ls) == 0)) ∧ _
  clear hx hy hsx hsy
  have hbb : Below W.heap.size W ((W.alloc (.cells #[.int .i64 k, .string (bstr xv), .string (bstr xn), .slice q ks.length c] 31)).alloc (.cells #[.int .i64 k2, .string (bstr yv), .string (bstr yn), .slice q2 ls.length c2] 31)) := ((Below.refl _ _).alloc (Nat.le_refl _) _).alloc (by simp) _
  have HBX := Lib.hid (hb.later hbb)
  have hcb : ((W.alloc (.cells #[.int .i64 k, .string (bstr xv), .string (bstr xn), .slice q ks.length c] 31)).alloc (.cells #[.int .i64 k2, .string (bstr yv), .string (bstr yn), .slice q2 ls.length c2] 31)).cell? ⟨pb, 0, none⟩ = some (.func (.func 32) #[] #[]) := HBX.out.2
  have HB := Lib.hid hbb
  have HC := ecompare_any 900000 (Nat.le_refl _) (.mk k xv xn ks) (.mk k2 yv yn ls) (.agg #[.int .i64 k, .string (bstr xv), .string (bstr xn), .slice q ks.length c]) (.agg #[.int .i64 k2, .string (bstr yv), .string (bstr yn), .slice q2 ls.length c2]) P P ((W.alloc (.cells #[.int .i64 k, .string (bstr xv), .string (bstr xn), .slice q ks.length c] 31)).alloc (.cells #[.int .i64 k2, .string (bstr yv), .string (bstr yn), .slice q2 ls.length c2] 31)) sx' sy' (hx'.below hbb hP) (hy'.below hbb hP) (fun b hb => Nat.lt_of_lt_of_le (hP b hb) hbb.size) (fun b hb => Nat.lt_of_lt_of_le (hP b hb) hbb.size)
  obtain ⟨E, hE⟩ : ∃ E, E = cmpE (.mk k xv xn ks) (.mk k2 yv yn ls) := ⟨_, rfl⟩
  rw [← hE] at HC ⊢
  replace HC := Lib.hid HC
  have ha1 := ((Arr.new' W 31 _ [.int .i64 k, .string (bstr xv), .string (bstr xn), .slice q ks.length c] rfl).alloc (.cells #[.int .i64 k2, .string (bstr yv), .string (bstr yn), .slice q2 ls.length c2] 31))
  have ha2 := (Arr.new2 W (.cells #[.int .i64 k, .string (bstr xv), .string (bstr xn), .slice q ks.length c] 31) 31 _ [.int .i64 k2, .string (bstr yv), .string (bstr yn), .slice q2 ls.length c2] rfl)
  have HA1 := Lib.hid ha1
  have HA2 := Lib.hid ha2
  clear hb hx' hy' hP hbb hE sx' sy' ha1 ha2
  go_enter Try.func48, Try.ntmps48
  go_wp2_with fail
  refine HC.out.mono ?_
  rintro r w5 ⟨rfl, b5⟩
  have HB5 := Lib.hid (HB.out.trans (b5.mono HB.out.size))
  clear b5
  go_wp2_with fail
  go_ret
  exact ⟨rfl, HB5.out⟩
theorem perm_mem {α : Type} [Inhabited α] {d d' : Array α} (h : PermIn 0 d.size d d') (x : α) : x ∈ d'.toList ↔ x ∈ d.toList := by
  have hd : d'.size = d.size := by simpa using h.1
  have := h.2.2
  rw [show d'.extract 0 d.size = d' by rw [Array.extract_eq_self_of_le (by simp [hd])], show d.extract 0 d.size = d by rw [Array.extract_eq_self_of_le (Nat.le_refl _)]] at this
  simpa using this.mem_iff
theorem getB_mem {α : Type} [Inhabited α] {d : Array α} {j : Nat} (h : j < d.size) : d[j]! ∈ d.toList := by
  rw [getElem!_pos d j h]; simp
theorem mem_getB {α : Type} [Inhabited α] {d : Array α} {x : α} (h : x ∈ d.toList) : ∃ j, j < d.size ∧ d[j]! = x := by
  obtain ⟨j, hj, rfl⟩ := List.getElem_of_mem h
  exact ⟨j, by simpa using hj, by rw [getElem!_pos d j (by simpa using hj)]; simp⟩
/-- Clone: a new row with the same elements. -/
theorem cloneX_any {P : Nat → Prop} {B0 : Nat} {w : World} {v : Value} {ks : List Ex} (h : LR P B0 w v ks) (hne : 0 < ks.length) (hl : ks.length ≤ 900000) :
    Calls Try.prog 45 #[v] w fun e w' => ∃ g c cs cur, e = .returned (.slice (some ⟨g, 0, none⟩) ks.length c) ∧ ks.length ≤ c ∧ w.heap.size ≤ g ∧ w'.heap[g]? = some (.cells cur 31 (0, 0)) ∧ cur.toList.take (ks.length * 4) = cs ∧ CellsL P w ks cs ∧ Below w.heap.size w w' := by
  obtain ⟨cs, ho, hc⟩ := h
  rcases ho.2 with ⟨_, h0⟩ | ⟨g0, cap0, cur0, hv, hb0, hg0, h1, h2, h3, h4⟩
  · omega
  · obtain ⟨i0, hi0⟩ : ∃ i, Try.prog.info? 31 = some i := Option.isSome_iff_exists.1 (by kernel_rfl)
    have q1 : (Try.prog.info? 31).bind (·.zero) = some (.agg #[.int .i64 0, .string ByteArray.empty, .string ByteArray.empty, .slice none 0 0]) := by kernel_rfl
    have q2 : (Try.prog.info? 31).map (·.size) = some 4 := by kernel_rfl
    have q3 : (Try.prog.info? 31).map (·.bytes) = some 64 := by kernel_rfl
    rw [hi0] at q1 q2 q3
    have ho' := ho
    rw [hv] at ho'
    have hrow : ∀ j u, cs[j]? = some u → w.cell? ⟨g0, 0 + j, none⟩ = some u := fun j u hj => by
      rw [Nat.zero_add]
      have := ho'.cells rfl j u hj
      rwa [show (Addr.add ⟨g0, 0, none⟩ j) = ⟨g0, j, none⟩ by cases j <;> simp [Addr.add]] at this
    rw [hv]
    refine (AnyE.slices_Clone Try.cloneEx i0 _ 4 64 hi0 q1 (Option.some.inj q2) (Option.some.inj q3) (by kernel_rfl) (by omega) (fun _ => by kernel_rfl) g0 0 ks.length cap0 cs w ho.1 (Nat.le_trans hl (by decide)) (by omega) hrow hc.ones).mono ?_
    rintro e w1 ⟨v', rfl, ho2, hn, hb⟩
    rcases ho2.2 with ⟨e0, _⟩ | ⟨g, cap, cur, rfl, g1, g2, g3, g4, g5, g6⟩
    · exact absurd e0 hn
    · exact ⟨g, cap, cs, cur, rfl, g3, g1, g2, g6, hc, hb⟩
/-- SortFunc with Compare over the row. -/
theorem sortX_any {P : Nat → Prop} {w : World} {g c : Nat} (d : Array (Xs P w)) (hP : ∀ b, P b → b < w.heap.size ∧ b ≠ g) (hH : HoldsK xenc 4 w g 0 d) (hg : g < w.heap.size) (hl : d.size ≤ 900000) :
    Calls Try.prog 46 #[.slice (some ⟨g, 0, none⟩) d.size c, .func (.func 32) #[] #[]] w fun e w' => e = .returned (.tuple #[]) ∧ w.grownBy w' (some g) ∧
      ∃ d' : Array (Xs P w), HoldsK xenc 4 w' g 0 d' ∧ d'.size = d.size ∧ (kpS xkey d' d'.size).map xkey = sortedO cmpE (d.toList.map xkey) := by
  have eg : ∀ args w, (callFunc 32 args).run Try.prog w = .ok (.enter 32 args) w := enters_of Try.func32 (by kernel_rfl) rfl
  have hcon := AnyQ.slices_SortFunc Try.sortEx 4 (fun _ => by kernel_rfl) (fun _ => by kernel_rfl) (xenc (P := P) (w := w)) xenc_len xenc_one (fun x y => cmpE (xkey x) (xkey y)) (swoG ordX xkey) 32 #[] g 0 c d w eg (cmpX hP) hH hg (by omega)
  change Calls Try.prog 46 _ _ _ at hcon
  refine hcon.mono ?_
  rintro e w1 ⟨rfl, d2, n, os, hp, hs, rfl⟩
  have hd : d2.size = d.size := by simpa using hp.1
  refine ⟨rfl, grownBy_sortG d2, d2, holdsK_sortWorldK xenc 4 w g 0 n d d2 os hg hH (by simpa using hd), hd, kpS_sorted ordX (fun i j hij hj => ?_) fun x => ?_⟩
  · have := hs i j (Nat.zero_le _) hij (by simpa [hd] using hj)
    simp only [ltOf, decide_eq_false_iff_not] at this
    have := cmpE_flip (xkey d2[i]!) (xkey d2[j]!)
    omega
  · rw [List.mem_map]
    constructor
    · rintro ⟨j, hj, rfl⟩
      exact ⟨_, (perm_mem hp _).1 (getB_mem hj), rfl⟩
    · rintro ⟨y, hy, rfl⟩
      obtain ⟨j, hj, e⟩ := mem_getB ((perm_mem hp _).2 hy)
      exact ⟨j, hj, by rw [e]⟩
set_option maxRecDepth 100000 in
set_option maxHeartbeats 4000000 in
theorem ordX_any {P : Nat → Prop} {B0 : Nat} {w : World} {v : Value} {ks : List Ex} (h : LR P B0 w v ks) (hPw : ∀ b, P b → b < w.heap.size) (hne : 0 < ks.length) (hsz : sizeL ks ≤ 900000) :
    Calls Try.prog 31 #[v, .func (.func 32) #[] #[]] w fun e w' => ∃ g c, e = .returned (.slice (some ⟨g, 0, none⟩) (sortedO cmpE ks).length c) ∧ (sortedO cmpE ks).length ≤ c ∧ w.heap.size ≤ g ∧ g < w'.heap.size ∧ Below w.heap.size w w' ∧ RdL P w' (sortedO cmpE ks) g 0 := by
  have hl : ks.length ≤ 900000 := Nat.le_trans (sizeL_len ks) hsz
  obtain ⟨w0, hw0⟩ : ∃ w0, w0 = w.alloc (.cells #[.func (.func 32) #[] #[]] 40) := ⟨_, rfl⟩
  have hb0 : Below w.heap.size w w0 := by rw [hw0]; exact (Below.refl _ _).alloc (Nat.le_refl _) _
  have hfb : FBox w0 w.heap.size 32 := by rw [hw0]; exact ⟨by simp, (Arr.new' w _ _ _ rfl).cell 0⟩
  have hz0 : w0.heap.size = w.heap.size + 1 := by rw [hw0]; simp
  have hr0 : LR P B0 w0 v ks := by
    obtain ⟨cs, h1, h2⟩ := h
    refine ⟨cs, ?_, h2.keep (cells_below hb0 hPw)⟩
    rcases h1 with ⟨h0, h | ⟨g, cap, cur, e1, e2, e3, e4⟩⟩
    · exact ⟨h0, .inl h⟩
    · exact ⟨h0, .inr ⟨g, cap, cur, e1, e2, (hb0.block g (Array.getElem?_eq_some_iff.1 e3).1).trans e3, e4⟩⟩
  obtain ⟨q, c, rfl⟩ : ∃ q c, v = .slice q ks.length c := by
    obtain ⟨cs, h1, _⟩ := h
    rcases h1.2 with ⟨h, hn⟩ | ⟨g, cap, cur, hv, _⟩
    · exact ⟨none, 0, by rw [hn]; exact h⟩
    · exact ⟨_, _, hv⟩
  have HPW : Hid (∀ b, P b → b < w0.heap.size) := fun b hb => by have := hPw b hb; have := hb0.size; omega
  have HW0 := Lib.hid hw0
  have HB0 := Lib.hid hb0
  have HFB := Lib.hid hfb
  have HZ0 := Lib.hid hz0
  have HCL := Lib.hid (cloneX_any hr0 hne hl)
  have HSZ := Lib.hid hsz
  have HLN := Lib.hid hl
  have hcb : w0.cell? ⟨w.heap.size, 0, none⟩ = some (.func (.func 32) #[] #[]) := hfb.2
  clear h hr0 hb0 hfb hz0 hw0 hsz hl hne hPw
  go_enter Try.func31, Try.ntmps31
  go_wp2_with fail
  rw [← HW0.out]
  refine HCL.out.mono ?_
  rintro e w1 ⟨g, c1, cs, cur, rfl, hc1, hg1, hh, htk, hcl, b1⟩
  have HFB1 := Lib.hid (HFB.out.later b1)
  have hcb1 : w1.cell? ⟨w.heap.size, 0, none⟩ = some (.func (.func 32) #[] #[]) := HFB1.out.2
  have hglt : g < w1.heap.size := (Array.getElem?_eq_some_iff.1 hh).1
  have hP : ∀ b, P b → b < w1.heap.size ∧ b ≠ g := fun b hb => ⟨Nat.lt_of_lt_of_le (HPW.out b hb) b1.size, fun e => by have := HPW.out b hb; omega⟩
  have hcl1 : CellsL P w1 ks cs := hcl.keep (cells_below b1 HPW.out)
  clear hcl
  obtain ⟨d, hd1, hd2⟩ := xs_of_cells hcl1 HSZ.out
  have hdl : d.length = ks.length := by rw [← hd1, List.length_map]
  have hH : HoldsK xenc 4 w1 g 0 d.toArray := holds_of_rowG xenc_len (by decide) hh (by rw [hdl, htk, hd2])
  have HS := sortX_any (c := c1) d.toArray hP hH hglt (by simp; rw [hdl]; exact HLN.out)
  have hds : d.toArray.size = ks.length := by simp [hdl]
  rw [hds, show d.toArray.toList.map xkey = ks by simpa using hd1] at HS
  have HS := Lib.hid HS
  have HB1 := Lib.hid (HB0.out.trans (b1.mono HB0.out.size))
  have HP := Lib.hid hP
  have HC1 := Lib.hid hc1
  have HG := Lib.hid (show w.heap.size < g by have := HZ0.out; omega)
  have HGL := Lib.hid hglt
  clear HCL hc1 hg1 hh htk b1 hP hcl1 hd1 hd2 hH hdl hds hglt hcb
  go_wp2_with fail
  refine HS.out.mono ?_
  rintro e w2 ⟨rfl, gr, d2, hH2, hn2, hk2⟩
  have HFB2 := Lib.hid (HFB1.out.grown gr (by have := HG.out; omega))
  have HGR := Lib.hid gr
  have HK2 := Lib.hid hk2
  have hle : (sortedO cmpE ks).length ≤ ks.length := by rw [← hk2, List.length_map, ← hn2]; exact kpS_len _ _ _
  have HLE := Lib.hid hle
  have HCP := compactX_any (w := w2) (blk := g) (cap := c1) (pv := .pointer (some ⟨w.heap.size, 0, none⟩)) d2 ⟨grown_refl _ _, hH2, Nat.lt_of_lt_of_le HGL.out gr.size⟩ (by rw [hn2]; exact HLN.out) (by rw [hn2]; exact HC1.out) (fun x y W hW => by
    have hg3 := grown_tr HGR.out hW
    exact eqX_any x y (HFB2.out.grown hW (by have := HG.out; omega)) (grown_rd hg3 HP.out x.2.1) (grown_rd hg3 HP.out y.2.1) (fun b hb => Nat.lt_of_lt_of_le (HP.out b hb).1 hg3.size))
  rw [hn2] at HCP
  obtain ⟨L, hL⟩ : ∃ L, L = kpS xkey d2 ks.length := ⟨_, rfl⟩
  rw [hn2] at hk2
  rw [← hL] at HCP hk2
  have HKL := Lib.hid hk2
  have HCP := Lib.hid HCP
  have hmk : ∀ (fn : Fn) (first cap : Array Value) (w : World), (Instr.makeFunc fn first cap).run Try.prog w = .ok (.func fn first cap) w := fun _ _ _ _ => rfl
  clear gr hH2 hk2 hle HS hL hcb1
  go_wp2_with fail
  refine HCP.out.mono ?_
  rintro e w3 ⟨rfl, gr3, d3, hH3, hn3, he3⟩
  have hLlen : L.length = (sortedO cmpE ks).length := by rw [← HKL.out, List.length_map]
  have hg3 := grown_tr HGR.out gr3
  have hB3 : Below w.heap.size w w3 := HB1.out.trans ⟨hg3.os, hg3.tape, hg3.output, hg3.size, fun k hk => hg3.block k (Nat.lt_of_lt_of_le hk HB1.out.size) fun e => by have := HG.out; have := Option.some.inj e; omega⟩
  have hrow := row_of_holdsG xenc_len (by decide) hH3 (l := L) (by rw [hn3, hLlen]; exact HLE.out) he3
  have hcells : CellsL P w3 (sortedO cmpE ks) (L.flatMap xenc) := by
    rw [← HKL.out]
    exact cells_of_xs (fun e v hr => grown_rd hg3 HP.out hr) L
  have HRL := Lib.hid (hcells.rdL (b := g) (o := 0) hrow)
  have HB3 := Lib.hid hB3
  have HG3 := Lib.hid (Nat.lt_of_lt_of_le HGL.out hg3.size)
  rw [hLlen]
  clear gr3 hH3 hn3 he3 hg3 hB3 hrow hcells hLlen HCP
  go_wp2_with fail
  go_ret
  exact ⟨g, c1, rfl, Nat.le_trans HLE.out HC1.out, Nat.le_of_lt HG.out, HG3.out, HB3.out, HRL.out⟩
end Go.Proofs.Ytdnmgemjhpkekaa
/-
  Allowed types: their order, name.Compare with its exact world, the reference's Compare; allowed types as the elements of a row.
-/
namespace Go.Proofs.Ytdnmgemjhpkekaa
open Go.ChangeShapes Go.WideShapes Go.ChangeAt Go.RowKit Go.Lib Go.Sort
set_option linter.unusedVariables false
set_option linter.unusedSectionVars false
set_option linter.unusedSimpArgs false

/-- Block b holds two strings. -/
def Pair (w : World) (b : Nat) (t : TypeId) (x y : ByteArray) : Prop := w.heap[b]? = some (.cells #[.string x, .string y] t (0, 0))
theorem Pair.new (w : World) (t : TypeId) (x y : ByteArray) : Pair (w.alloc (.cells #[.string x, .string y] t)) w.heap.size t x y := heap_alloc_new w _
theorem Pair.below {w w' : World} {b : Nat} {t : TypeId} {x y : ByteArray} (h : Pair w b t x y) (hb : Below w.heap.size w w') : Pair w' b t x y := (hb.block b (Array.getElem?_eq_some_iff.1 h).1).trans h
theorem Pair.alloc {w : World} {b : Nat} {t : TypeId} {x y : ByteArray} (h : Pair w b t x y) (o : Obj) : Pair (w.alloc o) b t x y := h.below ((Below.refl _ _).alloc (Nat.le_refl _) o)
theorem Pair.c0 {w : World} {b : Nat} {t : TypeId} {x y : ByteArray} (h : Pair w b t x y) : w.cell? ⟨b, 0, none⟩ = some (.string x) := cell_of_row _ _ 0 _ _ _ h
theorem Pair.c1 {w : World} {b : Nat} {t : TypeId} {x y : ByteArray} (h : Pair w b t x y) : w.cell? ⟨b, 1, none⟩ = some (.string y) := cell_of_row _ _ 1 _ _ _ h
theorem Pair.at {w : World} {b c : Nat} {t : TypeId} {x y : ByteArray} (h : Pair w b t x y) (e : b = c) : Pair w c t x y := e ▸ h
theorem below_alloc {W w : World} (h : Below W.heap.size W w) (o : Obj) : Below W.heap.size W (w.alloc o) := h.alloc h.size o
set_option maxRecDepth 100000 in
set_option maxHeartbeats 1000000 in
theorem order_big (a b : ByteArray) (ha : a.size ≤ 9223372036854775807) (hb : b.size ≤ 9223372036854775807) (w : World) : Calls Try.prog 24 #[.string a, .string b] w fun e w' => e = .returned (.int .i64 (ord a b)) ∧ Below w.heap.size w w' := by
  have ha' : (a.size : Int) ≤ 9223372036854775807 := by omega
  have hb' : (b.size : Int) ≤ 9223372036854775807 := by omega
  go_enter Try.func24, Try.ntmps24
  go_wp2_with fail
  go_loopw [5] (fun iv wr => ∃ k : Nat, k ≤ a.size ∧ k ≤ b.size ∧ iv = .int .i64 k ∧ Hid (Same a b k) ∧ Hid (Below w.heap.size w wr)) (fun iv _ => a.size - (intOf iv).toNat)
  case atStart => exact ⟨0, Nat.zero_le _, Nat.zero_le _, rfl, fun j _ _ hj => by omega, Below.refl _ _⟩
  case round =>
    obtain ⟨k, hk, hkb, rfl, HP, HB⟩ := hrel
    have HEND := Lib.hid (fun h => ord_end HP.out hk hkb h)
    have HLT := Lib.hid (fun h1 h2 h3 => ord_lt HP.out (k := k) h1 h2 h3)
    have HGT := Lib.hid (fun h1 h2 h3 => ord_gt HP.out (k := k) h1 h2 h3)
    have hk0 : (0 : Int) ≤ k := by omega
    by_cases hl1 : k < a.size
    · by_cases hl2 : k < b.size
      · have g1 : (k : Int) < a.size := by omega
        have g2 : (k : Int) < b.size := by omega
        have NX : Hid (a[k] = b[k] → Same a b (k + 1)) := fun h j x y hlt => by
          by_cases e : j = k
          · subst e; exact h
          · exact HP.out j x y (by omega)
        clear HEND
        by_cases c1 : a[k].toNat < b[k].toNat
        · have HR : Hid (ord a b = -1) := HLT.out hl1 hl2 (by rw [UInt8.lt_iff_toNat_lt]; exact c1)
          have d1 : (a[k].toNat : Int) < b[k].toNat := by omega
          clear HLT HGT NX HP
          go_wp2_with fail
          go_region
          go_wp2_with fail
          go_ret
          exact ⟨by rw [HR.out]; rfl, below_dr HB.out _⟩
        · by_cases c2 : b[k].toNat < a[k].toNat
          · have HR : Hid (ord a b = 1) := HGT.out hl1 hl2 (by rw [UInt8.lt_iff_toNat_lt]; exact c2)
            have d1 : ¬ (a[k].toNat : Int) < b[k].toNat := by omega
            have d2 : (b[k].toNat : Int) < a[k].toNat := by omega
            clear HLT HGT NX HP
            go_wp2_with fail
            go_region
            go_wp2_with fail
            go_region
            go_wp2_with fail
            go_ret
            exact ⟨by rw [HR.out]; rfl, below_dr (below_dr HB.out 1) 1⟩
          · have HX := Lib.hid (NX.out (UInt8.toNat_inj.1 (by omega)))
            have d1 : ¬ (a[k].toNat : Int) < b[k].toNat := by omega
            have d2 : ¬ (b[k].toNat : Int) < a[k].toNat := by omega
            clear HLT HGT NX HP
            go_wp2_with fail
            go_region
            go_wp2_with fail
            go_region
            go_wp2_with fail
            go_roundw
            case rel => exact ⟨k + 1, by omega, by omega, by go_num, HX.out, below_dr (below_dr HB.out 1) 1⟩
            case measure => simp [intOf]; omega
      · obtain rfl : k = b.size := by omega
        have HR : Hid (ord a b = 1) := by
          show _ = _
          rw [HEND.out (by omega), if_neg (by omega), if_pos (by omega)]
        have g1 : (b.size : Int) < a.size := by omega
        have g2 : ¬ (a.size : Int) < b.size := by omega
        clear HLT HGT HP HEND
        go_wp2_with fail
        go_ret
        exact ⟨by rw [HR.out]; rfl, HB.out⟩
    · obtain rfl : k = a.size := by omega
      by_cases hl2 : a.size < b.size
      · have HR : Hid (ord a b = -1) := by
          show _ = _
          rw [HEND.out (by omega), if_pos (by omega)]
        have g1 : (a.size : Int) < b.size := by omega
        clear HLT HGT HP HEND
        go_wp2_with fail
        go_ret
        exact ⟨by rw [HR.out]; rfl, HB.out⟩
      · have HR : Hid (ord a b = 0) := by
          show _ = _
          rw [HEND.out (by omega), if_neg (by omega), if_neg (by omega)]
        have g1 : ¬ (a.size : Int) < b.size := by omega
        have g2 : ¬ (b.size : Int) < a.size := by omega
        clear HLT HGT HP HEND
        go_wp2_with fail
        go_ret
        exact ⟨by rw [HR.out]; rfl, HB.out⟩
set_option maxRecDepth 100000 in
set_option maxHeartbeats 1000000 in
theorem rcompareA_any (t r u q : ByteArray) (ht : t.size ≤ 9223372036854775807) (hr : r.size ≤ 9223372036854775807) (hu : u.size ≤ 9223372036854775807) (hq : q.size ≤ 9223372036854775807) (w : World) :
    Calls Try.prog 14 #[.agg #[.string t, .string r], .agg #[.string u, .string q]] w fun e w' => e = .returned (.int .i64 (ord2 t r u q)) ∧ Below w.heap.size w w' := by
  have H1 := Lib.hid (order_big t u ht hu)
  have H2 := Lib.hid (order_big r q hr hq)
  have HO : Hid (ord2 t r u q = if ord t u = 0 then ord r q else ord t u) := rfl
  have HB := Lib.hid (below_alloc (below_alloc (Below.refl w.heap.size w) (.cells #[.string t, .string r] 27)) (.cells #[.string u, .string q] 27))
  have P1 := Lib.hid ((Pair.new w 27 t r).alloc (.cells #[.string u, .string q] 27))
  have P2 := Lib.hid (Pair.at (c := w.heap.size + 1) (Pair.new (w.alloc (.cells #[.string t, .string r] 27)) 27 u q) (by simp))
  obtain ⟨x, hx⟩ : ∃ x, ord t u = x := ⟨_, rfl⟩
  obtain ⟨y, hy⟩ : ∃ y, ord r q = y := ⟨_, rfl⟩
  rw [hx] at H1 HO
  rw [hy] at H2 HO
  clear hx hy
  go_enter Try.func14, Try.ntmps14
  go_wp2_with fail
  refine (H1.out _).mono ?_
  rintro e w1 ⟨rfl, b1⟩
  have HB1 := Lib.hid (HB.out.trans (b1.mono HB.out.size))
  have P11 := Lib.hid (P1.out.below b1)
  have P21 := Lib.hid (P2.out.below b1)
  clear HB P1 P2 b1
  have c1 := P11.out.c0
  have c2 := P11.out.c1
  have c3 := P21.out.c0
  have c4 := P21.out.c1
  by_cases h0 : x = 0
  · have HR : Hid (ord2 t r u q = y) := by show _ = _; rw [HO.out, if_pos h0]
    clear HO
    subst h0
    go_wp2_with fail
    refine (H2.out _).mono ?_
    rintro e w2 ⟨rfl, b2⟩
    have HB2 := Lib.hid (HB1.out.trans (b2.mono HB1.out.size))
    clear b2 HB1
    go_wp2_with fail
    go_ret
    exact ⟨by rw [HR.out]; rfl, HB2.out⟩
  · have HR : Hid (ord2 t r u q = x) := by show _ = _; rw [HO.out, if_neg h0]
    clear HO
    have h1 : (x == 0) = false := by rw [beq_eq_false_iff_ne]; exact h0
    go_wp2_with fail
    refine (H1.out _).mono ?_
    rintro e w2 ⟨rfl, b2⟩
    have HB2 := Lib.hid (HB1.out.trans (b2.mono HB1.out.size))
    clear b2 HB1
    go_wp2_with fail
    go_ret
    exact ⟨by rw [HR.out]; rfl, HB2.out⟩

theorem corA_new (x y : Int) (w : World) :
    Calls Try.prog 30 #[.slice (some ⟨w.heap.size, 0, none⟩) 2 2] (w.alloc (.cells #[.int .i64 x, .int .i64 y] 3)) fun e w' => e = .returned (.int .i64 (if x = 0 then y else x)) ∧ w.alloc (.cells #[.int .i64 x, .int .i64 y] 3) = w' := by
  have h := or_any [x, y] (by simp) w.heap.size (w.alloc (.cells #[.int .i64 x, .int .i64 y] 3)) (Arr.new' _ _ _ _ rfl)
  rw [show orL [x, y] = if x = 0 then y else x from orL2 x y] at h
  exact h
set_option maxRecDepth 100000 in
set_option maxHeartbeats 1000000 in
theorem ncmp_gw (t r u q : ByteArray) (w : World) :
    Calls Try.prog 13 #[.agg #[.string t, .string r], .agg #[.string u, .string q]] w fun e w' => e = .returned (.int .i64 (ord2 t r u q)) ∧ Below w.heap.size w w' ∧ w.drawn ≤ w'.drawn := by
  have hb := below_alloc (below_alloc (Below.refl w.heap.size w) (.cells #[.string t, .string r] 27)) (.cells #[.string u, .string q] 27)
  have p1 := (Pair.new w 27 t r).alloc (.cells #[.string u, .string q] 27)
  have p2 := Pair.at (c := w.heap.size + 1) (Pair.new (w.alloc (.cells #[.string t, .string r] 27)) 27 u q) (by simp)
  obtain ⟨w0, hw0⟩ : ∃ w0, w0 = (w.alloc (.cells #[.string t, .string r] 27)).alloc (.cells #[.string u, .string q] 27) := ⟨_, rfl⟩
  rw [← hw0] at hb p1 p2
  have H1 := Lib.hid (Try.strings_Compare t u)
  have H2 := Lib.hid (Try.strings_Compare r q)
  have HO : Hid (ord2 t r u q = if ord t u = 0 then ord r q else ord t u) := rfl
  have HB := Lib.hid hb
  have HDN : Hid (w.drawn ≤ w0.drawn) := by rw [hw0]; exact Nat.le_refl _
  have HW := Lib.hid hw0
  have P1 := Lib.hid p1
  have P2 := Lib.hid p2
  clear hb p1 p2 hw0
  go_enter Try.func13, Try.ntmps13
  go_wp2_with fail
  rw [← HW.out]
  have c1 := P1.out.c0
  have c2 := P1.out.c1
  have c3 := P2.out.c0
  have c4 := P2.out.c1
  refine wp_region_still_tail 10 (by kernel_rfl) (by kernel_rfl) ?_
  simp only [List.take_succ_cons, List.take_zero, List.drop_succ_cons, List.drop_zero]
  repeat first | still_step | still_call (H1.out _) | still_call (H2.out _)
  refine wpStill_nil ?_
  change wpList _ _ _ _ _ w0.drew
  have HB2 : Hid (Below w.heap.size w w0.drew) := HB.out.drew
  have HDN2 : Hid (w.drawn ≤ w0.drew.drawn) := Nat.le_succ_of_le HDN.out
  generalize w0.drew = w2 at HB2 HDN2 ⊢
  obtain ⟨x, hx⟩ : ∃ x, ord t u = x := ⟨_, rfl⟩
  obtain ⟨y, hy⟩ : ∃ y, ord r q = y := ⟨_, rfl⟩
  rw [show Lib.compareBytes t.data.toList u.data.toList = x from hx, show Lib.compareBytes r.data.toList q.data.toList = y from hy]
  rw [hx, hy] at HO
  clear hx hy H1 H2 HW HB P1 P2 c1 c2 c3 c4
  go_wp2_with fail
  refine (corA_new x y _).mono ?_
  rintro e w3 ⟨rfl, rfl⟩
  rw [← HO.out]
  go_wp2_with fail
  go_ret
  exact ⟨rfl, below_alloc HB2.out _, HDN2.out⟩
/-- An allowed type: type and relation. -/
abbrev Yl := ByteArray × ByteArray
def ordY (a b : Yl) : Int := ord2 a.1 a.2 b.1 b.2
theorem ordY_up : ∀ a b c : Yl, ordY a b < 0 → ordY b c < 0 → ordY a c < 0 := fun a b c h1 h2 => by
  have h := ord2_le a.1 a.2 b.1 b.2 c.1 c.2 (by unfold ordY at h1; omega) (by unfold ordY at h2; omega)
  by_cases e : ordY a c = 0
  · obtain ⟨e1, e2⟩ := (ord2_zero a.1 a.2 c.1 c.2).1 e
    have f := ord2_flip a.1 a.2 b.1 b.2
    unfold ordY at h1 h2
    rw [← e1, ← e2] at h2
    omega
  · unfold ordY at e ⊢; omega
theorem ordYL : OrdL ordY := ⟨fun a b h => by
  obtain ⟨e1, e2⟩ := (ord2_zero a.1 a.2 b.1 b.2).1 h
  exact Prod.ext e1 e2, fun a => (ord2_zero a.1 a.2 a.1 a.2).2 ⟨rfl, rfl⟩, fun a b => ord2_flip a.1 a.2 b.1 b.2, ordY_up⟩
instance : DecidableEq Yl := fun a b => if h : ordY a b = 0 then .isTrue (ordYL.eq h) else .isFalse fun e => h (by rw [e]; exact ordYL.self b)
def yenc (x : Yl) : List Value := [.string x.1, .string x.2]
def ykey (x : Yl) : Yl := x
def y0 : Yl := (ByteArray.empty, ByteArray.empty)
instance : Inhabited Yl := ⟨y0⟩
theorem yenc_len (x : Yl) : (yenc x).length = 2 := rfl
theorem yenc_one (x : Yl) : ∀ v ∈ yenc x, v.oneCell' = true := fun v hv => by
  simp only [yenc, List.mem_cons, List.not_mem_nil, or_false] at hv
  rcases hv with rfl | rfl <;> rfl
theorem cmpY {w : World} {g size : Nat} : CmpLays Try.prog 13 #[] yenc 2 (fun x y => ordY (ykey x) (ykey y)) g 0 size w := fun m os dk _ x y => by
  refine (ncmp_gw x.1 x.2 y.1 y.2 _).mono ?_
  rintro e w' ⟨rfl, hb, hd⟩
  exact ⟨rfl, exact_of hb hd⟩
end Go.Proofs.Ytdnmgemjhpkekaa
/-
  slices.CompactFunc with the closure of canon.ordered (allowed types).
-/
namespace Go.Proofs.Ytdnmgemjhpkekaa
open Go.ChangeShapes Go.WideShapes Go.ChangeAt Go.RowKit Go.Lib Go.Sort
set_option linter.unusedVariables false
set_option linter.unusedSectionVars false
set_option linter.unusedSimpArgs false

def Yv  (u : Yl) : Value := .agg (yenc u).toArray
section
variable  {ops : Array Oper} {rest : List Oper} {o : Oper} {a : Act} {Q : Exit → Act → World → Prop} {w : World} {b off : Nat} {x y : Operand} {u v : Yl}
theorem loadY (hr : w.rangeAt b off (yenc u)) (hs : o.guard = none ∧ o.op = .load 27 x ∧ a.eval x = .pointer (some ⟨b, off, none⟩))
    (hk : wpList Try.prog ops Q rest (a.put o.dst (Yv u)) w) : wpList Try.prog ops Q (o :: rest) a w :=
  wpList_load_mid hs.1 _ x hs.2.1 b off hs.2.2 _ _ hr Try.underlying27 rfl (by kernel_rfl) hk
theorem stillY {Q' : Act → Prop} (hr : w.rangeAt b off (yenc u)) (hs : o.guard = none ∧ o.op = .load 27 x ∧ a.eval x = .pointer (some ⟨b, off, none⟩))
    (hk : wpStill Try.prog ops w Q' rest (a.put o.dst (Yv u))) : wpStill Try.prog ops w Q' (o :: rest) a :=
  still_load hs.1 _ x hs.2.1 b off hs.2.2 _ _ hr Try.underlying27 rfl (by kernel_rfl) hk
theorem storeY (ht : w.there b off 2) (hs : o.guard = none ∧ o.op = .store 27 x y ∧ a.eval x = .pointer (some ⟨b, off, none⟩) ∧ a.eval y = Yv u)
    (hk : wpList Try.prog ops Q rest (a.put o.dst undef) (w.setCells b off (yenc u))) : wpList Try.prog ops Q (o :: rest) a w :=
  wpList_store_mid hs.1 _ x y hs.2.1 b off (yenc u).toArray hs.2.2.1 hs.2.2.2 ht (by kernel_rfl) (all_oneCell_toArray (yenc_one u)) hk
/-- clear. -/
theorem run_clearY (w : World) (ty : TypeId) (b o n c : Nat) (hn : 0 < n) (hT : ∀ i, i < n → w.there b (o + i * 2) 2) :
    (Builtin.clear_ #[22] ty #[.slice (some ⟨b, o, none⟩) n c]).run Try.prog w = .ok (.tuple #[]) (w.setCells b o ((List.replicate n y0).flatMap yenc)) := by
  have hv : ∀ w, (zeroValue 27).run Try.prog w = .ok (.agg #[.string ByteArray.empty, .string ByteArray.empty]) w := fun w => by kernel_rfl
  have hlen : ((List.replicate n y0).flatMap yenc).length = n * 2 := by rw [flatG_len yenc_len, List.length_replicate]
  have ht : ∀ j, j < n * 2 → (w.cell? ⟨b, o + j, none⟩).isSome = true ∧ w.frozen? ⟨b, o + j, none⟩ = false := fun j hj => by
    have := hT (j / 2) (by omega) (j % 2) (by omega)
    rwa [show o + j / 2 * 2 + j % 2 = o + j by omega] at this
  have hst := run_storeCells_cells (P := Try.prog) b o ((List.replicate n y0).flatMap yenc) 0 w (fun j hj => (ht j (by rwa [hlen] at hj)).1) (fun j hj => (ht j (by rwa [hlen] at hj)).2) (by
    intro v hv'
    obtain ⟨x, _, hx⟩ := List.mem_flatMap.1 hv'
    exact yenc_one x v hx)
  simp only [Nat.add_zero] at hst
  have hz : (Builtin.zeroCells #[.string ByteArray.empty, .string ByteArray.empty] n).toList = (List.replicate n y0).flatMap yenc := zeroCellsG yenc_len (by decide) y0 n
  obtain ⟨m, rfl⟩ : ∃ m, n = m + 1 := ⟨n - 1, by omega⟩
  simp only [Builtin.clear_]
  simp only [List.size_toArray, List.length_cons, List.length_nil, getElem?_pos, List.getElem_toArray, List.getElem_cons_zero, Nat.zero_add, Nat.lt_add_one, Sem.run_bind, run_underlying Try.underlying22, Result.andThen_ok, hv, Value.cells, hz, hst, Sem.run_pure]
end
set_option maxHeartbeats 4000000 in
set_option maxRecDepth 1000000 in
theorem compactY_any  {w : World} {blk cap : Nat} {pv : Value} (d : Array (Yl)) (hs : CSt yenc 2 w blk d w) (hsz : d.size ≤ 900000) (hcap : d.size ≤ cap)
    (heq : ∀ (x y : Yl) (W : World), w.grownBy W (some blk) → Calls Try.prog 29 #[Yv x, Yv y, pv] W fun e w' => e = .returned (.bool (decide (ykey x = ykey y))) ∧ Below W.heap.size W w') :
    Calls Try.prog 28 #[.slice (some ⟨blk, 0, none⟩) d.size cap, .func (.func 29) #[] #[pv]] w fun e w' => e = .returned (.slice (some ⟨blk, 0, none⟩) (kpS ykey d d.size).length cap) ∧ w.grownBy w' (some blk) ∧ ∃ d' : Array (Yl), HoldsK yenc 2 w' blk 0 d' ∧ d'.size = d.size ∧ ∀ j, j < (kpS ykey d d.size).length → (kpS ykey d d.size)[j]? = some d'[j]! := by
  have HEQ := Lib.hid heq
  have HS := Lib.hid hs
  have HSZ := Lib.hid hsz
  have HCP := Lib.hid hcap
  clear heq hs
  by_cases h2 : d.size < 2
  · have HA := Lib.hid (kpS_all (key := ykey) (d := d) (m := d.size) (fun j h0 hj => by omega))
    go_enter Try.func28, Try.ntmps28
    go_wp2_with fail
    go_ret
    exact ⟨by rw [HA.out.1]; rfl, HS.out.1, d, HS.out.2.1, rfl, fun j hj => HA.out.2 j (by rw [HA.out.1] at hj; exact hj)⟩
  · go_enter Try.func28, Try.ntmps28
    go_wp2_with fail
    go_loopg [5] d.size (fun g s5 wr => ∃ k : Nat, 1 ≤ k ∧ k ≤ d.size ∧ d.size - k ≤ g ∧ s5 = .int .i64 k ∧ CSt yenc 2 w blk d wr ∧ ∀ j, 0 < j → j < k → ykey d[j]! ≠ ykey d[j - 1]!)
    case atStart => exact ⟨1, Nat.le_refl _, by omega, by omega, rfl, HS.out, fun j h0 hj => by omega⟩
    case round =>
      obtain ⟨k, hk1, hk, hg, rfl, hc, hall⟩ := hrel
      have HC := Lib.hid hc
      have A := Lib.hid hall
      clear hc hall
      by_cases hlt : k < d.size
      · have HW : Hid (IntKind.i64.wrap ((k : Int) - 1) = ((k - 1 : Nat) : Int)) := by show _ = _; rw [IntKind.wrap_i64]; omega
        have hk1' : k - 1 < d.size := by omega
        have c1 := Lib.hid (HC.out.drew.range yenc_len hlt)
        have c0 := Lib.hid (HC.out.drew.range yenc_len (i := k - 1) (by omega))
        have HC2 := Lib.hid HC.out.drew
        generalize hx : d[k]! = x at c1
        generalize hy : d[k - 1]! = y at c0
        have B := Lib.hid (And.intro hx hy)
        clear hx hy HC
        go_wp2_with fail
        refine region_tail 10 (by kernel_rfl) (by kernel_rfl) ?_
        simp only [List.take_succ_cons, List.take_zero, List.drop_succ_cons, List.drop_zero]
        repeat first
          | still_step
          | (rw [HW.out]; still_step)
          | ((with_reducible refine stillY (x := .tmp 21) (o := ⟨some 22, _, _, _, _, _⟩) c1.out ?_ ?_); exact ⟨rfl, rfl, by go_simp⟩)
          | ((with_reducible refine stillY (x := .tmp 26) (o := ⟨some 27, _, _, _, _, _⟩) c0.out ?_ ?_); exact ⟨rfl, rfl, by go_simp⟩)
        refine wpStill_nil ?_
        clear c0 c1
        generalize wr.drew = w2 at HC2 ⊢
        have HQ := Lib.hid (HEQ.out x y w2 HC2.out.1)
        go_wp2_with fail
        refine HQ.out.mono ?_
        rintro e w3 ⟨rfl, b3⟩
        have HC3 := Lib.hid (HC2.out.below b3)
        clear b3 HQ HC2
        by_cases hdup : ykey x = ykey y
        · rw [decide_eq_true hdup]
          have KS : Hid (KI ykey d (k + 1) k d) := KI.start (by omega) A.out (by rw [B.out.1, B.out.2]; exact hdup)
          clear hdup
          go_wp2_with fail
          go_loopg [5, 7] d.size (fun g s5 s7 wr => ∃ (kk k2 : Nat) (dk : Array (Yl)), s5 = .int .i64 kk ∧ s7 = .int .i64 k2 ∧ 1 ≤ k2 ∧ k + k2 ≤ d.size ∧ d.size - (k + k2) ≤ g ∧ CSt yenc 2 w blk dk wr ∧ KI ykey d (k + k2) kk dk)
          case atStart => exact ⟨k, 1, d, rfl, rfl, Nat.le_refl _, by omega, by omega, HC3.out, KS.out⟩
          case round =>
            obtain ⟨kk, k2, dk, rfl, rfl, h1, hle, hg2, hc, hI⟩ := hrel
            have hkk := hI.lt
            have hds := hI.size
            have HC := Lib.hid hc
            have I2 := Lib.hid hI
            clear hc HC3 KS
            by_cases hlt2 : k + k2 < d.size
            · have cm := Lib.hid (HC.out.drew.range yenc_len (i := k + k2) (by omega))
              have cp := Lib.hid (HC.out.drew.range yenc_len (i := k + k2 - 1) (by omega))
              have hk2' : k2 - 1 < d.size - k := by omega
              have HW2 : Hid (IntKind.i64.wrap ((k2 : Int) - 1) = ((k2 - 1 : Nat) : Int)) := by show _ = _; rw [IntKind.wrap_i64]; omega
              rw [hI.high (k + k2) (by omega), show (k + k2) * 2 = k * 2 + k2 * 2 by omega] at cm
              rw [hI.high (k + k2 - 1) (by omega), show (k + k2 - 1) * 2 = k * 2 + (k2 - 1) * 2 by omega] at cp
              have HC2 := Lib.hid HC.out.drew
              have HIH := Lib.hid (hI.high (k + k2) (by omega))
              clear hI HC
              generalize hu : d[k + k2]! = u at cm HIH
              generalize hv : d[k + k2 - 1]! = v at cp
              have C := Lib.hid (And.intro hu hv)
              clear hu hv
              go_wp2_with fail
              refine region_tail 10 (by kernel_rfl) (by kernel_rfl) ?_
              simp only [List.take_succ_cons, List.take_zero, List.drop_succ_cons, List.drop_zero]
              repeat first
                | still_step
                | (rw [HW2.out]; still_step)
                | ((with_reducible refine stillY (x := .tmp 41) (o := ⟨some 42, _, _, _, _, _⟩) cm.out ?_ ?_); exact ⟨rfl, rfl, by go_simp⟩)
                | ((with_reducible refine stillY (x := .tmp 46) (o := ⟨some 47, _, _, _, _, _⟩) cp.out ?_ ?_); exact ⟨rfl, rfl, by go_simp⟩)
              refine wpStill_nil ?_
              clear cp cm
              generalize wr.drew = w4 at HC2 ⊢
              have HQ := Lib.hid (HEQ.out u v w4 HC2.out.1)
              go_wp2_with fail
              refine HQ.out.mono ?_
              rintro e w5 ⟨rfl, b5⟩
              have HC5 := Lib.hid (HC2.out.below b5)
              clear b5 HQ HC2
              by_cases huv : ykey u = ykey v
              · rw [decide_eq_true huv]
                have HK : Hid (KI ykey d (k + k2 + 1) kk dk) := I2.out.skip (by rw [C.out.1, C.out.2, huv])
                clear huv
                go_wp2_with fail
                go_roundg (d.size - (k + (k2 + 1)))
                case measure => omega
                case rel => exact ⟨kk, k2 + 1, dk, rfl, by go_num, by omega, by omega, Nat.le_refl _, HC5.out, HK.out⟩
              · rw [decide_eq_false huv]
                have HK : Hid (KI ykey d (k + k2 + 1) (kk + 1) (dk.setIfInBounds kk u)) := by
                  have := I2.out.keep hlt2 (by rw [C.out.1, C.out.2]; exact huv)
                  rwa [C.out.1] at this
                have cm := Lib.hid (HC5.out.range yenc_len (i := k + k2) (by omega))
                rw [HIH.out, show (k + k2) * 2 = k * 2 + k2 * 2 by omega] at cm
                have ck := Lib.hid (HC5.out.there (i := kk) (by omega))
                have HC6 := Lib.hid (HC5.out.put yenc_len (by decide) (i := kk) (by omega) u)
                have hkd : kk < d.size := by omega
                clear huv HC5
                go_wp2_with (first
                  | ((with_reducible refine loadY (x := .tmp 54) (o := ⟨some 55, _, _, _, _, _⟩) cm.out ?_ ?_); exact ⟨rfl, rfl, by go_simp⟩)
                  | ((with_reducible refine storeY (x := .tmp 56) (y := .tmp 55) (u := u) (o := ⟨none, .store _ _ _, _, _, _, _⟩) ck.out ?_ ?_); exact ⟨rfl, rfl, by go_simp, rfl⟩))
                go_roundg (d.size - (k + (k2 + 1)))
                case measure => omega
                case rel => exact ⟨kk + 1, k2 + 1, dk.setIfInBounds kk u, by go_num, by go_num, by omega, by omega, Nat.le_refl _, HC6.out, HK.out⟩
            · have hend : k + k2 = d.size := by omega
              have hcl : ∀ ty, (Builtin.clear_ #[22] ty #[.slice (some ⟨blk, kk * 2, none⟩) (d.size - kk) (cap - kk)]).run Try.prog wr = .ok (.tuple #[]) (wr.setCells blk (kk * 2) ((List.replicate (d.size - kk) y0).flatMap yenc)) :=
                fun ty => run_clearY wr ty blk (kk * 2) (d.size - kk) _ (by omega) (fun i hi => by
                  have := HC.out.there (i := kk + i) (by omega)
                  rwa [show (kk + i) * 2 = kk * 2 + i * 2 by omega] at this)
              obtain ⟨d', g1, g2, g3⟩ := putsG yenc_len (by decide) (List.replicate (d.size - kk) y0) dk kk wr HC.out.2.1 (by simp; omega)
              rw [Nat.zero_add] at g1
              have G1 := Lib.hid g1
              have G2 := Lib.hid (g2.trans hds)
              have G3 := Lib.hid g3
              have HGR : Hid (w.grownBy (wr.setCells blk (kk * 2) ((List.replicate (d.size - kk) y0).flatMap yenc)) (some blk)) := grown_tr HC.out.1 (grown_cells blk _ _ _)
              clear g1 g2 g3 hI HC
              go_wp2_with fail
              go_ret
              have hI := I2.out
              rw [hend] at hI
              exact ⟨by rw [hI.len]; rfl, HGR.out, d', G1.out, G2.out, fun j hj => by rw [hI.len] at hj; rw [G3.out j hj]; exact hI.low j hj⟩
        · rw [decide_eq_false hdup]
          have A2 : Hid (∀ j, 0 < j → j < k + 1 → ykey d[j]! ≠ ykey d[j - 1]!) := fun j h0 hj => by
            by_cases e : j = k
            · subst e
              rw [B.out.1, B.out.2]; exact hdup
            · exact A.out j h0 (by omega)
          clear hdup
          go_wp2_with fail
          go_roundg (d.size - (k + 1))
          case measure => omega
          case rel => exact ⟨k + 1, by omega, by omega, Nat.le_refl _, by go_num, HC3.out, A2.out⟩
      · have HA := Lib.hid (kpS_all (key := ykey) (d := d) (m := d.size) (fun j h0 hj => A.out j h0 (by omega)))
        go_wp2_with fail
        go_ret
        exact ⟨by rw [HA.out.1]; rfl, HC.out.1, d, HC.out.2.1, rfl, fun j hj => HA.out.2 j (by rw [HA.out.1] at hj; exact hj)⟩
end Go.Proofs.Ytdnmgemjhpkekaa
/-
  canon.ordered at allowed types, canon.Types.
-/
namespace Go.Proofs.Ytdnmgemjhpkekaa
open Go.ChangeShapes Go.WideShapes Go.ChangeAt Go.RowKit Go.Lib Go.Sort
set_option linter.unusedVariables false
set_option linter.unusedSectionVars false
set_option linter.unusedSimpArgs false

set_option maxRecDepth 100000 in
set_option maxHeartbeats 4000000 in
theorem eqY_any (x y : Yl) {W : World} {pb : Nat} (hb : FBox W pb 13) :
    Calls Try.prog 29 #[Yv x, Yv y, .pointer (some ⟨pb, 0, none⟩)] W fun e w' => e = .returned (.bool (decide (ykey x = ykey y))) ∧ Below W.heap.size W w' := by
  have hd : decide (ykey x = ykey y) = (ord2 x.1 x.2 y.1 y.2 == 0) := by
    by_cases e : x = y
    · rw [decide_eq_true (show ykey x = ykey y from e), e, (ord2_zero y.1 y.2 y.1 y.2).2 ⟨rfl, rfl⟩]; rfl
    · rw [decide_eq_false (show ¬ ykey x = ykey y from e)]
      have h1 : ¬ ord2 x.1 x.2 y.1 y.2 = 0 := fun h => e (ordYL.eq h)
      exact (beq_eq_false_iff_ne.2 h1).symm
  rw [hd]
  clear hd
  obtain ⟨t, r⟩ := x
  obtain ⟨u, q⟩ := y
  show Calls _ _ #[.agg #[.string t, .string r], .agg #[.string u, .string q], _] _ _
  have hbb : Below W.heap.size W ((W.alloc (.cells #[.string t, .string r] 27)).alloc (.cells #[.string u, .string q] 27)) := ((Below.refl _ _).alloc (Nat.le_refl _) _).alloc (by simp) _
  have HBX := Lib.hid (hb.later hbb)
  have hcb : ((W.alloc (.cells #[.string t, .string r] 27)).alloc (.cells #[.string u, .string q] 27)).cell? ⟨pb, 0, none⟩ = some (.func (.func 13) #[] #[]) := HBX.out.2
  have HB := Lib.hid hbb
  have HC := ncmp_gw t r u q ((W.alloc (.cells #[.string t, .string r] 27)).alloc (.cells #[.string u, .string q] 27))
  obtain ⟨E, hE⟩ : ∃ E, E = ord2 t r u q := ⟨_, rfl⟩
  dsimp only
  rw [← hE] at HC ⊢
  replace HC := Lib.hid HC
  clear hb hbb hE
  go_enter Try.func29, Try.ntmps29
  go_wp2_with fail
  refine HC.out.mono ?_
  rintro e w5 ⟨rfl, b5, _⟩
  have HB5 := Lib.hid (HB.out.trans (b5.mono HB.out.size))
  clear b5
  go_wp2_with fail
  go_ret
  exact ⟨rfl, HB5.out⟩
/-- SortFunc with Compare over the row. -/
theorem sortY_any {w : World} {g c : Nat} (d : Array Yl) (hH : HoldsK yenc 2 w g 0 d) (hg : g < w.heap.size) (hl : d.size ≤ 900000) :
    Calls Try.prog 27 #[.slice (some ⟨g, 0, none⟩) d.size c, .func (.func 13) #[] #[]] w fun e w' => e = .returned (.tuple #[]) ∧ w.grownBy w' (some g) ∧
      ∃ d' : Array Yl, HoldsK yenc 2 w' g 0 d' ∧ d'.size = d.size ∧ kpS ykey d' d'.size = sortedO ordY d.toList := by
  have eg : ∀ args w, (callFunc 13 args).run Try.prog w = .ok (.enter 13 args) w := enters_of Try.func13 (by kernel_rfl) rfl
  have hcon := AnyQ.slices_SortFunc Try.sortAl 2 (fun _ => by kernel_rfl) (fun _ => by kernel_rfl) yenc yenc_len yenc_one (fun x y => ordY (ykey x) (ykey y)) (swoG ordYL ykey) 13 #[] g 0 c d w eg cmpY hH hg (by omega)
  change Calls Try.prog 27 _ _ _ at hcon
  refine hcon.mono ?_
  rintro e w1 ⟨rfl, d2, n, os, hp, hs, rfl⟩
  have hd : d2.size = d.size := by simpa using hp.1
  have hk := kpS_sorted ordYL (key := ykey) (d := d2) (l := d.toList) (fun i j hij hj => by
    have := hs i j (Nat.zero_le _) hij (by simpa [hd] using hj)
    simp only [ltOf, decide_eq_false_iff_not] at this
    have := ordYL.flip (ykey d2[i]!) (ykey d2[j]!)
    omega) (fun x => ⟨fun ⟨j, hj, e⟩ => e ▸ (perm_mem hp _).1 (getB_mem hj), fun hx => mem_getB ((perm_mem hp _).2 hx)⟩)
  rw [show (kpS ykey d2 d2.size).map ykey = kpS ykey d2 d2.size from List.map_id _] at hk
  exact ⟨rfl, grownBy_sortG d2, d2, holdsK_sortWorldK yenc 2 w g 0 n d d2 os hg hH (by simpa using hd), hd, hk⟩
set_option maxRecDepth 100000 in
set_option maxHeartbeats 4000000 in
theorem ordYs_any {w : World} {b off c : Nat} {l : List Yl} (h : w.rangeAt b off (l.flatMap yenc)) (hb : b < w.heap.size) (hl : l.length ≤ 100000) :
    Calls Try.prog 12 #[.slice (some ⟨b, off, none⟩) l.length c, .func (.func 13) #[] #[]] w fun e w' => ∃ g c', e = .returned (.slice (some ⟨g, 0, none⟩) (sortedO ordY l).length c') ∧ (sortedO ordY l).length ≤ c' ∧ w.heap.size ≤ g ∧ g < w'.heap.size ∧ Below w.heap.size w w' ∧ w'.rangeAt g 0 ((sortedO ordY l).flatMap yenc) := by
  obtain ⟨w0, hw0⟩ : ∃ w0, w0 = w.alloc (.cells #[.func (.func 13) #[] #[]] 43) := ⟨_, rfl⟩
  have hb0 : Below w.heap.size w w0 := by rw [hw0]; exact (Below.refl _ _).alloc (Nat.le_refl _) _
  have hfb : FBox w0 w.heap.size 13 := by rw [hw0]; exact ⟨by simp, (Arr.new' w _ _ _ rfl).cell 0⟩
  have hz0 : w0.heap.size = w.heap.size + 1 := by rw [hw0]; simp
  have hr0 : w0.rangeAt b off (l.flatMap yenc) := fun j v hj => by
    rw [← h j v hj]; exact World.cell?_of_block (hb0.block b hb)
  have HW0 := Lib.hid hw0
  have HB0 := Lib.hid hb0
  have HFB := Lib.hid hfb
  have HZ0 := Lib.hid hz0
  have HLN := Lib.hid hl
  have hcb : w0.cell? ⟨w.heap.size, 0, none⟩ = some (.func (.func 13) #[] #[]) := hfb.2
  obtain ⟨i0, hi0⟩ : ∃ i, Try.prog.info? 27 = some i := Option.isSome_iff_exists.1 (by kernel_rfl)
  have q1 : (Try.prog.info? 27).bind (·.zero) = some (.agg #[.string ByteArray.empty, .string ByteArray.empty]) := by kernel_rfl
  have q2 : (Try.prog.info? 27).map (·.size) = some 2 := by kernel_rfl
  have q3 : (Try.prog.info? 27).map (·.bytes) = some 32 := by kernel_rfl
  rw [hi0] at q1 q2 q3
  have HCL := Lib.hid (AnyE.slices_Clone Try.cloneAl i0 _ 2 32 hi0 q1 (Option.some.inj q2) (Option.some.inj q3) (by kernel_rfl) (by omega) (fun _ => by kernel_rfl) b off l.length c (l.flatMap yenc) w0 (flatG_len yenc_len l) (Nat.le_trans hl (by decide)) (by omega) hr0 (fun u hu => by
    obtain ⟨x, _, hx⟩ := List.mem_flatMap.1 hu
    exact yenc_one x u hx))
  clear h hr0 hb0 hfb hz0 hw0 hl hb q1 q2 q3 hi0
  go_enter Try.func12, Try.ntmps12
  go_wp2_with fail
  rw [← HW0.out]
  refine HCL.out.mono ?_
  rintro e w1 ⟨v', rfl, ho, hn, b1⟩
  obtain ⟨g, c1, cur, rfl, g1, g2, g3, g6⟩ : ∃ g cap cur, v' = .slice (some ⟨g, 0, none⟩) l.length cap ∧ w0.heap.size ≤ g ∧ w1.heap[g]? = some (.cells cur 27 (0, 0)) ∧ l.length ≤ cap ∧ cur.toList.take (l.length * 2) = l.flatMap yenc := by
    rcases ho.2 with ⟨e0, _⟩ | ⟨g, cap, cur, e, g1, g2, g3, g4, g5, g6⟩
    · exact absurd e0 hn
    · exact ⟨g, cap, cur, e, g1, g2, g3, g6⟩
  have HFB1 := Lib.hid (HFB.out.later b1)
  have hcb1 : w1.cell? ⟨w.heap.size, 0, none⟩ = some (.func (.func 13) #[] #[]) := HFB1.out.2
  have hglt : g < w1.heap.size := (Array.getElem?_eq_some_iff.1 g2).1
  have hH : HoldsK yenc 2 w1 g 0 l.toArray := holds_of_rowG yenc_len (by decide) g2 g6
  have HS := sortY_any (c := c1) l.toArray hH hglt (by simp; have := HLN.out; omega)
  have hds : l.toArray.size = l.length := by simp
  rw [hds, show l.toArray.toList = l by simp] at HS
  have HS := Lib.hid HS
  have HB1 := Lib.hid (HB0.out.trans (b1.mono HB0.out.size))
  have HC1 := Lib.hid g3
  have HG := Lib.hid (show w.heap.size < g by have := HZ0.out; omega)
  have HGL := Lib.hid hglt
  clear HCL ho hn g1 g2 g3 g6 b1 hH hds hglt hcb
  go_wp2_with fail
  refine HS.out.mono ?_
  rintro e w2 ⟨rfl, gr, d2, hH2, hn2, hk2⟩
  have HFB2 := Lib.hid (HFB1.out.grown gr (by have := HG.out; omega))
  have HGR := Lib.hid gr
  have hle : (sortedO ordY l).length ≤ l.length := by rw [← hk2, ← hn2]; exact kpS_len _ _ _
  have HLE := Lib.hid hle
  have HCP := compactY_any (w := w2) (blk := g) (cap := c1) (pv := .pointer (some ⟨w.heap.size, 0, none⟩)) d2 ⟨grown_refl _ _, hH2, Nat.lt_of_lt_of_le HGL.out gr.size⟩ (by rw [hn2]; have := HLN.out; omega) (by rw [hn2]; exact HC1.out) (fun x y W hW => eqY_any x y (HFB2.out.grown hW (by have := HG.out; omega)))
  rw [hn2] at HCP hk2
  rw [hk2] at HCP
  have HCP := Lib.hid HCP
  have hmk : ∀ (fn : Fn) (first cap : Array Value) (w : World), (Instr.makeFunc fn first cap).run Try.prog w = .ok (.func fn first cap) w := fun _ _ _ _ => rfl
  clear gr hH2 hk2 hle HS hcb1
  go_wp2_with fail
  refine HCP.out.mono ?_
  rintro e w3 ⟨rfl, gr3, d3, hH3, hn3, he3⟩
  have hg3 := grown_tr HGR.out gr3
  have hB3 : Below w.heap.size w w3 := HB1.out.trans ⟨hg3.os, hg3.tape, hg3.output, hg3.size, fun k hk => hg3.block k (Nat.lt_of_lt_of_le hk HB1.out.size) fun e => by have := HG.out; have := Option.some.inj e; omega⟩
  have HRL := Lib.hid (row_of_holdsG yenc_len (by decide) hH3 (l := sortedO ordY l) (by rw [hn3]; exact HLE.out) he3)
  have HB3 := Lib.hid hB3
  have HG3 := Lib.hid (Nat.lt_of_lt_of_le HGL.out hg3.size)
  clear gr3 hH3 hn3 he3 hg3 hB3 HCP
  go_wp2_with fail
  go_ret
  exact ⟨g, c1, rfl, Nat.le_trans HLE.out HC1.out, Nat.le_of_lt HG.out, HG3.out, HB3.out, HRL.out⟩
set_option maxRecDepth 100000 in
set_option maxHeartbeats 4000000 in
theorem ctypes_any {w : World} {b off c : Nat} {l : List Yl} (h : w.rangeAt b off (l.flatMap yenc)) (hb : b < w.heap.size) (hl : l.length ≤ 100000) :
    Calls Try.prog 5 #[.slice (some ⟨b, off, none⟩) l.length c] w fun e w' => ∃ g c', e = .returned (.slice (some ⟨g, 0, none⟩) (sortedO ordY l).length c') ∧ (sortedO ordY l).length ≤ c' ∧ w.heap.size ≤ g ∧ g < w'.heap.size ∧ Below w.heap.size w w' ∧ w'.rangeAt g 0 ((sortedO ordY l).flatMap yenc) := by
  have HO := Lib.hid (ordYs_any (c := c) h hb hl)
  clear h hb hl
  go_enter Try.func5, Try.ntmps5
  go_wp2_with fail
  refine HO.out.mono ?_
  rintro e w1 ⟨g, c1, rfl, h1, h2, h3, h4, h5⟩
  have H1 := Lib.hid h1
  have H2 := Lib.hid h2
  have H3 := Lib.hid h3
  have H4 := Lib.hid h4
  have H5 := Lib.hid h5
  clear h1 h2 h3 h4 h5 HO
  go_wp2_with fail
  go_ret
  exact ⟨g, c1, rfl, H1.out, H2.out, H3.out, H4.out, H5.out⟩
end Go.Proofs.Ytdnmgemjhpkekaa
/-
  A step of a region that draws its order, which may be guarded: a call by its contract.
-/
namespace Go.Proofs.Ytdnmgemjhpkekaa
open Go.ChangeShapes Go.WideShapes Go.ChangeAt Go.RowKit
set_option linter.unusedVariables false
set_option linter.unusedSectionVars false
set_option linter.unusedSimpArgs false
theorem stepw_call {P : Program} {ops : Array Oper} {o : Oper} {a : Act} {w : World} {K : Act → World → Prop} {Q : Exit → Act → World → Prop} {E : Prop} {f : FuncId} {args : Array Value} {R : Value → World → Prop}
    (hw : Region.wanted o (yielded ops a.tmps) = true) (hrun : (execOp a.eval o).run P w = .ok (.enter f args) w) (hc : Calls P f args w fun e w' => ∃ v, e = .returned v ∧ R v w')
    (hK : ∀ v w', R v w' → K (a.put o.dst v) w') : if Region.wanted o (yielded ops a.tmps) = true then Oper.wp P o a w K Q else E := by
  rw [if_pos hw]
  unfold Oper.wp
  rw [hrun]
  simp only [Oper.upon]
  refine hc.mono fun e w' ⟨v, he, hr⟩ => ?_
  subst he
  exact hK v w' hr
end Go.Proofs.Ytdnmgemjhpkekaa
/-
  canon.Schema on two definitions without members.
-/
namespace Go.Proofs.Ytdnmgemjhpkekaa
open Go.ChangeShapes Go.WideShapes Go.ChangeAt Go.RowKit Go.Lib Go.Sort
set_option linter.unusedVariables false
set_option linter.unusedSectionVars false
set_option linter.unusedSimpArgs false

def cloneDf_ren : Go.Shelf.Ren := ⟨fun | 41 => 36 | n => n, fun | 22 => 33 | 23 => 39 | 4 => 4 | n => n, fun | n => n⟩
theorem cloneDf : Go.Proofs.SlLaysE0.n41 Try.prog cloneDf_ren := {
  mixed := by kernel_rfl
  f41 := ⟨Try.f36.name, by decide, Try.func36.trans (congrArg some (by kernel_rfl))⟩
  t4 := Try.underlying4
  a4 := Try.isAgg4
  z4 := Try.sizeOf4
  v4 := Try.zeroValue4
  t22 := Try.underlying33
  a22 := Try.isAgg33
  z22 := Try.sizeOf33
  v22 := Try.zeroValue33 }
theorem eqlM (w : World) : (binOp BinOp.eql 37 (.slice none 0 0) (.slice none 0 0)).run Try.prog w = .ok (.bool true) w := by kernel_rfl
set_option maxRecDepth 100000 in
theorem cloneM_nil (w : World) : Calls Try.prog 51 #[.slice none 0 0] w fun e w' => e = .returned (.slice none 0 0) ∧ w = w' := by
  have hq := eqlM
  go_enter Try.func51, Try.ntmps51
  go_wp2_with fail
  go_ret
  exact ⟨rfl, rfl⟩
set_option maxRecDepth 100000 in
theorem isortM_nil (w : World) (f : Value) : Calls Try.prog 55 #[.slice none 0 0, .int .i64 0, .int .i64 0, f] w fun e w' => e = .returned (.tuple #[]) ∧ w = w' := by
  go_enter Try.func55, Try.ntmps55
  go_wp2_with fail
  go_loopw [8] (fun iv wr => iv = .int .i64 1 ∧ wr = w) (fun _ _ => 0)
  case atStart => exact ⟨rfl, rfl⟩
  case round =>
    obtain ⟨rfl, rfl⟩ := hrel
    go_wp2_with fail
    go_end0
    exact ⟨rfl, rfl⟩
set_option maxRecDepth 100000 in
theorem stableM_nil (w : World) (f : Value) : Calls Try.prog 40 #[.slice none 0 0, .int .i64 0, f] w fun e w' => e = .returned (.tuple #[]) ∧ w = w' := by
  go_enter Try.func40, Try.ntmps40
  go_wp2_with fail
  go_loopw [7, 8] (fun av bv wr => av = .int .i64 0 ∧ bv = .int .i64 20 ∧ wr = w) (fun _ _ _ => 0)
  case atStart => exact ⟨rfl, rfl, rfl⟩
  case round =>
    obtain ⟨rfl, rfl, rfl⟩ := hrel
    go_wp2_with fail
    refine (isortM_nil _ _).mono ?_
    rintro e w1 ⟨rfl, rfl⟩
    go_wp2_with fail
    go_loopw [6] (fun kv wr' => kv = .int .i64 20 ∧ wr' = wr) (fun _ _ => 0)
    case atStart => exact ⟨rfl, rfl⟩
    case round =>
      obtain ⟨rfl, rfl⟩ := hrel
      go_wp2_with fail
      go_end0
      exact ⟨rfl, rfl⟩
set_option maxRecDepth 100000 in
theorem sortsM_nil (w : World) (f : Value) : Calls Try.prog 22 #[.slice none 0 0, f] w fun e w' => e = .returned (.tuple #[]) ∧ w = w' := by
  go_enter Try.func22, Try.ntmps22
  go_wp2_with fail
  refine (stableM_nil _ _).mono ?_
  rintro e w1 ⟨rfl, rfl⟩
  go_wp2_with fail
  go_end0
  exact ⟨rfl, rfl⟩
/-- Two definitions without members. -/
def DR (w : World) (g : Nat) (n1 n2 : ByteArray) : Prop := g < w.heap.size ∧ (w.cell? ⟨g, 0, none⟩ = some (.string n1) ∧ w.cell? ⟨g, 1, none⟩ = some (.slice none 0 0) ∧ w.cell? ⟨g, 2, none⟩ = some (.string n2) ∧ w.cell? ⟨g, 3, none⟩ = some (.slice none 0 0)) ∧ ∀ j, w.frozen? ⟨g, j, none⟩ = false
theorem DR.later {w w' : World} {g : Nat} {n1 n2 : ByteArray} (h : DR w g n1 n2) (hb : Below w.heap.size w w') : DR w' g n1 n2 := by
  have hk : ∀ j, w'.cell? ⟨g, j, none⟩ = w.cell? ⟨g, j, none⟩ := fun j => World.cell?_of_block (a := ⟨g, j, none⟩) (hb.block g h.1)
  have hf : ∀ j, w'.frozen? ⟨g, j, none⟩ = w.frozen? ⟨g, j, none⟩ := fun j => World.frozen?_of_block (a := ⟨g, j, none⟩) (hb.block g h.1)
  exact ⟨Nat.lt_of_lt_of_le h.1 hb.size, ⟨(hk 0).trans h.2.1.1, (hk 1).trans h.2.1.2.1, (hk 2).trans h.2.1.2.2.1, (hk 3).trans h.2.1.2.2.2⟩, fun j => (hf j).trans (h.2.2 j)⟩
theorem DR.other {w : World} {g : Nat} {n1 n2 : ByteArray} (h : DR w g n1 n2) {a : Addr} (ha : g ≠ a.block) (v : Value) : DR (w.setCell a v) g n1 n2 := by
  have hb := Below.heap_setCell w a v g ha
  have hk : ∀ j, (w.setCell a v).cell? ⟨g, j, none⟩ = w.cell? ⟨g, j, none⟩ := fun j => World.cell?_of_block (a := ⟨g, j, none⟩) hb
  exact ⟨by simpa [World.setCell] using h.1, ⟨(hk 0).trans h.2.1.1, (hk 1).trans h.2.1.2.1, (hk 2).trans h.2.1.2.2.1, (hk 3).trans h.2.1.2.2.2⟩, fun j => by rw [World.frozen?_setCell]; exact h.2.2 j⟩
theorem ad_ne {g i j : Nat} (h : i ≠ j) : (⟨g, i, none⟩ : Addr) ≠ ⟨g, j, none⟩ := fun e => h (by injection e)
theorem soC {w : World} {g : Nat} {v : Value} (i j : Nat) (h : i ≠ j) : (w.setCell ⟨g, i, none⟩ v).cell? ⟨g, j, none⟩ = w.cell? ⟨g, j, none⟩ := World.cell?_setCell_other _ _ _ _ (ad_ne h)
theorem ssC {w : World} {g i : Nat} {v u : Value} (h : w.cell? ⟨g, i, none⟩ = some u) : (w.setCell ⟨g, i, none⟩ v).cell? ⟨g, i, none⟩ = some v := World.cell?_setCell_same _ _ _ h
section
variable {w : World} {g : Nat} {n1 n2 : ByteArray}
theorem DR.nil1 (h : DR w g n1 n2) : DR (w.setCell ⟨g, 1, none⟩ (.slice none 0 0)) g n1 n2 :=
  ⟨by simpa [World.setCell] using h.1, ⟨(soC 1 0 (by decide)).trans h.2.1.1, ssC h.2.1.2.1, (soC 1 2 (by decide)).trans h.2.1.2.2.1, (soC 1 3 (by decide)).trans h.2.1.2.2.2⟩, fun j => by rw [World.frozen?_setCell]; exact h.2.2 j⟩
theorem DR.nil3 (h : DR w g n1 n2) : DR (w.setCell ⟨g, 3, none⟩ (.slice none 0 0)) g n1 n2 :=
  ⟨by simpa [World.setCell] using h.1, ⟨(soC 3 0 (by decide)).trans h.2.1.1, (soC 3 1 (by decide)).trans h.2.1.2.1, (soC 3 2 (by decide)).trans h.2.1.2.2.1, ssC h.2.1.2.2.2⟩, fun j => by rw [World.frozen?_setCell]; exact h.2.2 j⟩
theorem DR.s0 (h : DR w g n1 n2) (m : ByteArray) : DR (w.setCell ⟨g, 0, none⟩ (.string m)) g m n2 :=
  ⟨by simpa [World.setCell] using h.1, ⟨ssC h.2.1.1, (soC 0 1 (by decide)).trans h.2.1.2.1, (soC 0 2 (by decide)).trans h.2.1.2.2.1, (soC 0 3 (by decide)).trans h.2.1.2.2.2⟩, fun j => by rw [World.frozen?_setCell]; exact h.2.2 j⟩
theorem DR.s2 (h : DR w g n1 n2) (m : ByteArray) : DR (w.setCell ⟨g, 2, none⟩ (.string m)) g n1 m :=
  ⟨by simpa [World.setCell] using h.1, ⟨(soC 2 0 (by decide)).trans h.2.1.1, (soC 2 1 (by decide)).trans h.2.1.2.1, ssC h.2.1.2.2.1, (soC 2 3 (by decide)).trans h.2.1.2.2.2⟩, fun j => by rw [World.frozen?_setCell]; exact h.2.2 j⟩
end
theorem grown_set {w wr : World} {g : Nat} (h : w.grownBy wr (some g)) (k : Nat) (v : Value) : w.grownBy (wr.setCell ⟨g, k, none⟩ v) (some g) := grown_tr h (grown_cells g [v] k wr)
/-- .. in order. -/
def SD (w : World) (g : Nat) (n1 n2 : ByteArray) : Prop := if ord n2 n1 < 0 then DR w g n2 n1 else DR w g n1 n2
theorem SD.drew {w : World} {g : Nat} {n1 n2 : ByteArray} (h : SD w g n1 n2) : SD w.drew g n1 n2 := by
  unfold SD at h ⊢
  split
  · rw [if_pos (by assumption)] at h; exact h.later (Below.refl _ _).drew
  · rw [if_neg (by assumption)] at h; exact h.later (Below.refl _ _).drew
theorem stillD {ops : Array Oper} {rest : List Oper} {o : Oper} {a : Act} {Q' : Act → Prop} {w : World} {b off : Nat} {x : Operand} {u : ByteArray} {v : Value} (hr : w.rangeAt b off [.string u, v]) (hs : Region.wanted o (yielded ops a.tmps) = true ∧ o.op = .load 39 x ∧ a.eval x = .pointer (some ⟨b, off, none⟩))
    (hk : wpStill Try.prog ops w Q' rest (a.put o.dst (.agg #[.string u, v]))) : wpStill Try.prog ops w Q' (o :: rest) a := by
  refine wpStill_step (fun K hK => ?_)
  rw [if_pos hs.1]
  unfold Oper.still execOp
  simp only [hs.2.1, hs.2.2, Instr.loadAt, Instr.sureAddr, Sem.run_bind, Sem.run_pure, Result.andThen_ok, run_loadVar_mid w b off _ [.string u, v] _ hr Try.underlying39 rfl (by kernel_rfl)]
  exact ⟨rfl, hK _ hk⟩
theorem DR.r0 {w : World} {g : Nat} {n1 n2 : ByteArray} (h : DR w g n1 n2) : w.rangeAt g 0 [.string n1, .slice none 0 0] := fun j u hj => by
  match j, hj with
  | 0, hj => simp only [List.getElem?_cons_zero, Option.some.injEq] at hj; subst hj; exact h.2.1.1
  | 1, hj => simp only [List.getElem?_cons_succ, List.getElem?_cons_zero, Option.some.injEq] at hj; subst hj; exact h.2.1.2.1
  | j + 2, hj => simp at hj
theorem DR.r2 {w : World} {g : Nat} {n1 n2 : ByteArray} (h : DR w g n1 n2) : w.rangeAt g 2 [.string n2, .slice none 0 0] := fun j u hj => by
  match j, hj with
  | 0, hj => simp only [List.getElem?_cons_zero, Option.some.injEq] at hj; subst hj; exact h.2.1.2.2.1
  | 1, hj => simp only [List.getElem?_cons_succ, List.getElem?_cons_zero, Option.some.injEq] at hj; subst hj; exact h.2.1.2.2.2
  | j + 2, hj => simp at hj
set_option maxRecDepth 100000 in
set_option maxHeartbeats 4000000 in
/-- cloneMembers of none. -/
theorem cms_nil (w : World) : Calls Try.prog 37 #[.slice none 0 0] w fun e w' => e = .returned (.slice none 0 0) ∧ w = w' := by
  go_enter Try.func37, Try.ntmps37
  go_wp2_with fail
  refine (cloneM_nil _).mono ?_
  rintro e w1 ⟨rfl, rfl⟩
  go_wp2_with fail
  go_loopw [10] (fun iv wr => iv = .int .i64 0 ∧ wr = w) (fun _ _ => 0)
  case atStart => exact ⟨rfl, rfl⟩
  case round =>
    obtain ⟨rfl, rfl⟩ := hrel
    go_wp2_with fail
    go_ret
    exact ⟨rfl, rfl⟩
/-- Clone of two definitions. -/
theorem cloneD2 {w : World} {g c : Nat} {n1 n2 : ByteArray} (h : DR w g n1 n2) : Calls Try.prog 36 #[.slice (some ⟨g, 0, none⟩) 2 c] w fun e w' => ∃ g' c', e = .returned (.slice (some ⟨g', 0, none⟩) 2 c') ∧ w.heap.size ≤ g' ∧ DR w' g' n1 n2 ∧ Below w.heap.size w w' := by
  obtain ⟨i0, hi0⟩ : ∃ i, Try.prog.info? 39 = some i := Option.isSome_iff_exists.1 (by kernel_rfl)
  have q1 : (Try.prog.info? 39).bind (·.zero) = some (.agg #[.string ByteArray.empty, .slice none 0 0]) := by kernel_rfl
  have q2 : (Try.prog.info? 39).map (·.size) = some 2 := by kernel_rfl
  have q3 : (Try.prog.info? 39).map (·.bytes) = some 40 := by kernel_rfl
  rw [hi0] at q1 q2 q3
  refine (AnyE.slices_Clone cloneDf i0 _ 2 40 hi0 q1 (Option.some.inj q2) (Option.some.inj q3) (by kernel_rfl) (by omega) (fun _ => by kernel_rfl) g 0 2 c [.string n1, .slice none 0 0, .string n2, .slice none 0 0] w rfl (by decide) (by omega) (fun j u hj => ?_) (fun u hu => ?_)).mono ?_
  · rw [Nat.zero_add]
    match j, hj with
    | 0, hj => simp only [List.getElem?_cons_zero, Option.some.injEq] at hj; subst hj; exact h.2.1.1
    | 1, hj => simp only [List.getElem?_cons_succ, List.getElem?_cons_zero, Option.some.injEq] at hj; subst hj; exact h.2.1.2.1
    | 2, hj => simp only [List.getElem?_cons_succ, List.getElem?_cons_zero, Option.some.injEq] at hj; subst hj; exact h.2.1.2.2.1
    | 3, hj => simp only [List.getElem?_cons_succ, List.getElem?_cons_zero, Option.some.injEq] at hj; subst hj; exact h.2.1.2.2.2
    | j + 4, hj => simp at hj
  · simp only [List.mem_cons, List.not_mem_nil, or_false] at hu
    rcases hu with rfl | rfl | rfl | rfl <;> rfl
  · rintro e w1 ⟨v', rfl, ho, hn, hb⟩
    have ho' := ho
    rcases ho.2 with ⟨e0, _⟩ | ⟨g', cap, cur, rfl, g1, g2, _⟩
    · exact absurd e0 hn
    · have hc : ∀ j u, [Value.string n1, .slice none 0 0, .string n2, .slice none 0 0][j]? = some u → w1.cell? ⟨g', j, none⟩ = some u := fun j u hj => by
        have := ho'.cells rfl j u hj
        rwa [show (Addr.add ⟨g', 0, none⟩ j) = ⟨g', j, none⟩ by cases j <;> simp [Addr.add]] at this
      exact ⟨g', cap, rfl, g1, ⟨(Array.getElem?_eq_some_iff.1 g2).1, ⟨hc 0 _ rfl, hc 1 _ rfl, hc 2 _ rfl, hc 3 _ rfl⟩, fun j => ho'.frozenAt j⟩, hb⟩
set_option maxRecDepth 100000 in
set_option maxHeartbeats 4000000 in
/-- The order of definitions. -/
theorem cmpD_any (a b : ByteArray) (w : World) : Calls Try.prog 20 #[.agg #[.string a, .slice none 0 0], .agg #[.string b, .slice none 0 0]] w fun e w' => e = .returned (.int .i64 (ord a b)) ∧ Below w.heap.size w w' := by
  have hb : Below w.heap.size w ((w.alloc (.cells #[.string a, .slice none 0 0] 39)).alloc (.cells #[.string b, .slice none 0 0] 39)) := ((Below.refl _ _).alloc (Nat.le_refl _) _).alloc (by simp) _
  have HB := Lib.hid hb
  have H1 := Lib.hid (Try.strings_Compare a b)
  have HO : Hid (Lib.compareBytes a.data.toList b.data.toList = ord a b) := rfl
  clear hb
  go_enter Try.func20, Try.ntmps20
  go_wp2_with fail
  refine (H1.out _).mono ?_
  rintro e w1 ⟨rfl, rfl⟩
  rw [HO.out]
  go_wp2_with fail
  go_ret
  exact ⟨rfl, HB.out⟩
set_option maxRecDepth 100000 in
set_option maxHeartbeats 4000000 in
theorem isortD2 {w : World} {g c : Nat} {n1 n2 : ByteArray} (h : DR w g n1 n2) : Calls Try.prog 52 #[.slice (some ⟨g, 0, none⟩) 2 c, .int .i64 0, .int .i64 2, .func (.func 20) #[] #[]] w fun e w' => e = .returned (.tuple #[]) ∧ w.grownBy w' (some g) ∧ SD w' g n1 n2 := by
  have HD0 := Lib.hid h
  clear h
  go_enter Try.func52, Try.ntmps52
  go_wp2_with fail
  go_loopw [8] (fun iv wr => (iv = .int .i64 1 ∧ Hid (DR wr g n1 n2) ∧ Hid (w.grownBy wr (some g))) ∨ (iv = .int .i64 2 ∧ Hid (w.grownBy wr (some g) ∧ SD wr g n1 n2))) (fun iv _ => 2 - (intOf iv).toNat)
  case atStart => exact .inl ⟨rfl, HD0.out, grown_refl _ _⟩
  case round =>
    rcases hrel with ⟨rfl, HD1, HB1⟩ | ⟨rfl, HF⟩
    · go_wp2_with fail
      go_loopw [9] (fun jv wr => (jv = .int .i64 1 ∧ Hid (DR wr g n1 n2) ∧ Hid (w.grownBy wr (some g))) ∨ (jv = .int .i64 0 ∧ Hid (w.grownBy wr (some g) ∧ SD wr g n1 n2))) (fun jv _ => (intOf jv).toNat)
      case atStart => exact .inl ⟨rfl, HD1.out, HB1.out⟩
      case round =>
        rcases hrel with ⟨rfl, HD, HB⟩ | ⟨rfl, HF⟩
        · have bd : Below wr.heap.size wr wr.drew := (Below.refl _ _).drew
          have HDd := Lib.hid (HD.out.later bd)
          have HBd := Lib.hid (grown_below HB.out bd)
          clear bd HD HB HD1 HB1 HD0
          go_wp2_with fail
          refine region_tail 14 (by kernel_rfl) (by kernel_rfl) ?_
          simp only [List.take_succ_cons, List.take_zero, List.drop_succ_cons, List.drop_zero]
          have R0 := Lib.hid HDd.out.r0
          have R2 := Lib.hid HDd.out.r2
          repeat first
            | still_step
            | (rw [show IntKind.i64.wrap 0 = 0 from rfl]; still_step)
            | ((with_reducible refine stillD (x := .tmp 25) (o := ⟨some 26, _, _, _, _, _⟩) R2.out ?_ ?_); exact ⟨rfl, rfl, by go_simp⟩)
            | ((with_reducible refine stillD (x := .tmp 30) (o := ⟨some 31, _, _, _, _, _⟩) R0.out ?_ ?_); exact ⟨rfl, rfl, by go_simp⟩)
          refine wpStill_nil ?_
          clear R0 R2
          generalize wr.drew = wc at HDd HBd ⊢
          have HQ := Lib.hid (cmpD_any n2 n1 wc)
          obtain ⟨q, hq⟩ : ∃ q, q = ord n2 n1 := ⟨_, rfl⟩
          rw [← hq] at HQ
          have HQE := Lib.hid hq
          clear hq
          go_wp2_with fail
          refine HQ.out.mono ?_
          rintro e w3 ⟨rfl, b3⟩
          have HD := Lib.hid (HDd.out.later b3)
          have HB := Lib.hid (grown_below HBd.out b3)
          clear b3 HQ HDd HBd
          by_cases hneg : q < 0
          · have HDX : Hid (DR w3.drew g n1 n2) := HD.out.later (Below.refl _ _).drew
            have HBX : Hid (w.grownBy w3.drew (some g)) := grown_below HB.out (Below.refl _ _).drew
            have k0 := HDX.out.2.1.1
            have k1 := HDX.out.2.1.2.1
            have k2 := HDX.out.2.1.2.2.1
            have k3 := HDX.out.2.1.2.2.2
            have f0 := HDX.out.2.2 0
            have f1 := HDX.out.2.2 1
            have f2 := HDX.out.2.2 2
            have f3 := HDX.out.2.2 3
            have HNG := Lib.hid hneg
            clear HD HB
            have HD := HDX
            have HB := HBX
            clear HDX HBX
            generalize w3 = wr at HD HB k0 k1 k2 k3 f0 f1 f2 f3 ⊢
            go_wp2_with fail
            refine wp_region_noPanic ?_
            refine wp_region_held_drew (S := fun _ => True) (by kernel_rfl) trivial (fun hHeld => ?_)
            try simp only [Act.put]
            generalize wr.drew = wd at HD HB k0 k1 k2 k3 f0 f1 f2 f3 ⊢
            refine wpAnyH_take (i := 0) (oi := ⟨some 37, _, _, _, _, _⟩) (v := .slice (some ⟨g, 0, none⟩) 2 c) rfl (by kernel_rfl) (by kernel_rfl) (by kernel_rfl) (fun _ _ _ h => h) (.inl ⟨by rfl, fun w' hSw => ?_⟩) hHeld ?_
            focus (skip; clear hHeld; go_simp)
            try simp only [Act.put, List.setIfInBounds_toArray, List.set_cons_zero, List.set_cons_succ]
            refine wpAnyH_take (i := 1) (oi := ⟨some 38, _, _, _, _, _⟩) (v := .int .i64 1) rfl (by kernel_rfl) (by kernel_rfl) (by kernel_rfl) (fun _ _ _ h => h) (.inl ⟨by rfl, fun w' hSw => ?_⟩) hHeld ?_
            focus (skip; clear hHeld; go_simp)
            try simp only [Act.put, List.setIfInBounds_toArray, List.set_cons_zero, List.set_cons_succ]
            refine wpAnyH_take (i := 2) (oi := ⟨some 39, _, _, _, _, _⟩) (v := .slice (some ⟨g, 0, none⟩) 2 c) rfl (by kernel_rfl) (by kernel_rfl) (by kernel_rfl) (fun _ _ _ h => h) (.inl ⟨by rfl, fun w' hSw => ?_⟩) hHeld ?_
            focus (skip; clear hHeld; go_simp)
            try simp only [Act.put, List.setIfInBounds_toArray, List.set_cons_zero, List.set_cons_succ]
            refine wpAnyH_take (i := 3) (oi := ⟨some 40, _, _, _, _, _⟩) (v := .int .i64 1) rfl (by kernel_rfl) (by kernel_rfl) (by kernel_rfl) (fun _ _ _ h => h) (.inl ⟨by rfl, fun w' hSw => ?_⟩) hHeld ?_
            focus (skip; clear hHeld; go_simp)
            try simp only [Act.put, List.setIfInBounds_toArray, List.set_cons_zero, List.set_cons_succ]
            refine wpAnyH_take (i := 4) (oi := ⟨some 41, _, _, _, _, _⟩) (v := .int .i64 0) rfl (by kernel_rfl) (by kernel_rfl) (by kernel_rfl) (fun _ _ _ h => h) (.inl ⟨by rfl, fun w' hSw => ?_⟩) hHeld ?_
            focus (have hw0 : IntKind.i64.wrap 0 = 0 := rfl; clear hHeld; go_simp)
            try simp only [Act.put, List.setIfInBounds_toArray, List.set_cons_zero, List.set_cons_succ]
            refine wpAnyH_take (i := 5) (oi := ⟨some 42, _, _, _, _, _⟩) (v := .slice (some ⟨g, 0, none⟩) 2 c) rfl (by kernel_rfl) (by kernel_rfl) (by kernel_rfl) (fun _ _ _ h => h) (.inl ⟨by rfl, fun w' hSw => ?_⟩) hHeld ?_
            focus (skip; clear hHeld; go_simp)
            try simp only [Act.put, List.setIfInBounds_toArray, List.set_cons_zero, List.set_cons_succ]
            refine wpAnyH_take (i := 6) (oi := ⟨some 43, _, _, _, _, _⟩) (v := .int .i64 1) rfl (by kernel_rfl) (by kernel_rfl) (by kernel_rfl) (fun _ _ _ h => h) (.inl ⟨by rfl, fun w' hSw => ?_⟩) hHeld ?_
            focus (skip; clear hHeld; go_simp)
            try simp only [Act.put, List.setIfInBounds_toArray, List.set_cons_zero, List.set_cons_succ]
            refine wpAnyH_take (i := 7) (oi := ⟨some 44, _, _, _, _, _⟩) (v := .int .i64 0) rfl (by kernel_rfl) (by kernel_rfl) (by kernel_rfl) (fun _ _ _ h => h) (.inl ⟨by rfl, fun w' hSw => ?_⟩) hHeld ?_
            focus (have hw0 : IntKind.i64.wrap 0 = 0 := rfl; clear hHeld; go_simp)
            try simp only [Act.put, List.setIfInBounds_toArray, List.set_cons_zero, List.set_cons_succ]
            refine wpAnyH_take (i := 8) (oi := ⟨some 45, _, _, _, _, _⟩) (v := .pointer (some ⟨g, 0, none⟩)) rfl (by kernel_rfl) (by kernel_rfl) (by kernel_rfl) (fun _ _ _ h => h) (.inl ⟨by rfl, fun w' hSw => ?_⟩) hHeld ?_
            focus (skip; clear hHeld; go_simp)
            try simp only [Act.put, List.setIfInBounds_toArray, List.set_cons_zero, List.set_cons_succ]
            refine wpAnyH_take (i := 10) (oi := ⟨some 47, _, _, _, _, _⟩) (v := .slice (some ⟨g, 0, none⟩) 2 c) rfl (by kernel_rfl) (by kernel_rfl) (by kernel_rfl) (fun _ _ _ h => h) (.inl ⟨by rfl, fun w' hSw => ?_⟩) hHeld ?_
            focus (skip; clear hHeld; go_simp)
            try simp only [Act.put, List.setIfInBounds_toArray, List.set_cons_zero, List.set_cons_succ]
            refine wpAnyH_take (i := 11) (oi := ⟨some 48, _, _, _, _, _⟩) (v := .int .i64 1) rfl (by kernel_rfl) (by kernel_rfl) (by kernel_rfl) (fun _ _ _ h => h) (.inl ⟨by rfl, fun w' hSw => ?_⟩) hHeld ?_
            focus (skip; clear hHeld; go_simp)
            try simp only [Act.put, List.setIfInBounds_toArray, List.set_cons_zero, List.set_cons_succ]
            refine wpAnyH_take (i := 12) (oi := ⟨some 49, _, _, _, _, _⟩) (v := .pointer (some ⟨g, 2, none⟩)) rfl (by kernel_rfl) (by kernel_rfl) (by kernel_rfl) (fun _ _ _ h => h) (.inl ⟨by rfl, fun w' hSw => ?_⟩) hHeld ?_
            focus (skip; clear hHeld; go_simp)
            try simp only [Act.put, List.setIfInBounds_toArray, List.set_cons_zero, List.set_cons_succ]
            refine wpAnyH_ready (rs := [9, 13]) (by kernel_rfl) (by simp) ?_
            refine AllReadyH.cons (o := ⟨some 46, _, _, _, _, _⟩) rfl (fun K' hK' => ?_) (AllReadyH.cons (o := ⟨some 50, _, _, _, _, _⟩) rfl (fun K' hK' => ?_) AllReadyH.nil)
            · go_simp
              refine hK'.out _ _ trivial (fun _ => ?_)
              clear hK' K'
              try simp only [Act.put, List.setIfInBounds_toArray, List.set_cons_zero, List.set_cons_succ]
              refine wpAnyH_ready (rs := [13]) (by kernel_rfl) (by simp) ?_
              refine AllReadyH.cons (o := ⟨some 50, _, _, _, _, _⟩) rfl (fun K' hK' => ?_) AllReadyH.nil
              go_simp
              refine hK'.out _ _ trivial (fun _ => ?_)
              clear hK' K'
              try simp only [Act.put, List.setIfInBounds_toArray, List.set_cons_zero, List.set_cons_succ]
              refine wpAnyH_take (i := 14) (oi := ⟨some 51, _, _, _, _, _⟩) (v := .pointer (some ⟨g, 2, none⟩)) rfl (by kernel_rfl) (by kernel_rfl) (by kernel_rfl) (fun _ _ _ h => h) (.inl ⟨by rfl, fun w' hSw => ?_⟩) hHeld ?_
              focus (skip; clear hHeld; go_simp)
              try simp only [Act.put, List.setIfInBounds_toArray, List.set_cons_zero, List.set_cons_succ]
              refine wpAnyH_ready (rs := [15]) (by kernel_rfl) (by simp) ?_
              refine AllReadyH.cons (o := ⟨none, _, _, _, _, _⟩) rfl (fun K' hK' => ?_) AllReadyH.nil
              go_simp
              refine hK'.out _ _ trivial (fun _ => ?_)
              clear hK' K'
              try simp only [Act.put, List.setIfInBounds_toArray, List.set_cons_zero, List.set_cons_succ]
              have HD2 := Lib.hid ((HD.out.s2 n1).nil3)
              have HB2 := Lib.hid (grown_set (grown_set HB.out 2 (.string n1)) 3 (.slice none 0 0))
              clear k0 k1 k2 k3 f0 f1 f2 f3 HD HB
              generalize (wd.setCell ⟨g, 2, none⟩ (.string n1)).setCell ⟨g, 3, none⟩ (.slice none 0 0) = w1 at HD2 HB2 ⊢
              have k0 := HD2.out.2.1.1
              have k1 := HD2.out.2.1.2.1
              have f0 := HD2.out.2.2 0
              have f1 := HD2.out.2.2 1
              refine wpAnyH_take (i := 16) (oi := ⟨some 52, _, _, _, _, _⟩) (v := .pointer (some ⟨g, 0, none⟩)) rfl (by kernel_rfl) (by kernel_rfl) (by kernel_rfl) (fun _ _ _ h => h) (.inl ⟨by rfl, fun w' hSw => ?_⟩) hHeld ?_
              focus (skip; clear hHeld; go_simp)
              try simp only [Act.put, List.setIfInBounds_toArray, List.set_cons_zero, List.set_cons_succ]
              refine wpAnyH_ready (rs := [17]) (by kernel_rfl) (by simp) ?_
              refine AllReadyH.cons (o := ⟨none, _, _, _, _, _⟩) rfl (fun K' hK' => ?_) AllReadyH.nil
              go_simp
              refine hK'.out _ _ trivial (fun _ => ?_)
              clear hK' K'
              try simp only [Act.put, List.setIfInBounds_toArray, List.set_cons_zero, List.set_cons_succ]
              refine wpAnyH_done (by kernel_rfl) ?_ _
              refine NoPanic.normal ?_
              have HD3 := Lib.hid ((HD2.out.s0 n2).nil1)
              have HB3 := Lib.hid (grown_set (grown_set HB2.out 0 (.string n2)) 1 (.slice none 0 0))
              clear k0 k1 f0 f1 HD2 HB2
              generalize (w1.setCell ⟨g, 0, none⟩ (.string n2)).setCell ⟨g, 1, none⟩ (.slice none 0 0) = w2 at HD3 HB3 ⊢
              have HFN : Hid (w.grownBy w2 (some g) ∧ SD w2 g n1 n2) := ⟨HB3.out, by unfold SD; rw [if_pos (by rw [← HQE.out]; exact HNG.out)]; exact HD3.out⟩
              clear HD3 HB3
              go_wp2_with fail
              go_roundw
              case rel => exact .inr ⟨by go_num, HFN.out⟩
              case measure => simp [intOf]
            · go_simp
              refine hK'.out _ _ trivial (fun _ => ?_)
              clear hK' K'
              try simp only [Act.put, List.setIfInBounds_toArray, List.set_cons_zero, List.set_cons_succ]
              refine wpAnyH_ready (rs := [9]) (by kernel_rfl) (by simp) ?_
              refine AllReadyH.cons (o := ⟨some 46, _, _, _, _, _⟩) rfl (fun K' hK' => ?_) AllReadyH.nil
              go_simp
              refine hK'.out _ _ trivial (fun _ => ?_)
              clear hK' K'
              try simp only [Act.put, List.setIfInBounds_toArray, List.set_cons_zero, List.set_cons_succ]
              refine wpAnyH_take (i := 14) (oi := ⟨some 51, _, _, _, _, _⟩) (v := .pointer (some ⟨g, 2, none⟩)) rfl (by kernel_rfl) (by kernel_rfl) (by kernel_rfl) (fun _ _ _ h => h) (.inl ⟨by rfl, fun w' hSw => ?_⟩) hHeld ?_
              focus (skip; clear hHeld; go_simp)
              try simp only [Act.put, List.setIfInBounds_toArray, List.set_cons_zero, List.set_cons_succ]
              refine wpAnyH_ready (rs := [15]) (by kernel_rfl) (by simp) ?_
              refine AllReadyH.cons (o := ⟨none, _, _, _, _, _⟩) rfl (fun K' hK' => ?_) AllReadyH.nil
              go_simp
              refine hK'.out _ _ trivial (fun _ => ?_)
              clear hK' K'
              try simp only [Act.put, List.setIfInBounds_toArray, List.set_cons_zero, List.set_cons_succ]
              have HD2 := Lib.hid ((HD.out.s2 n1).nil3)
              have HB2 := Lib.hid (grown_set (grown_set HB.out 2 (.string n1)) 3 (.slice none 0 0))
              clear k0 k1 k2 k3 f0 f1 f2 f3 HD HB
              generalize (wd.setCell ⟨g, 2, none⟩ (.string n1)).setCell ⟨g, 3, none⟩ (.slice none 0 0) = w1 at HD2 HB2 ⊢
              have k0 := HD2.out.2.1.1
              have k1 := HD2.out.2.1.2.1
              have f0 := HD2.out.2.2 0
              have f1 := HD2.out.2.2 1
              refine wpAnyH_take (i := 16) (oi := ⟨some 52, _, _, _, _, _⟩) (v := .pointer (some ⟨g, 0, none⟩)) rfl (by kernel_rfl) (by kernel_rfl) (by kernel_rfl) (fun _ _ _ h => h) (.inl ⟨by rfl, fun w' hSw => ?_⟩) hHeld ?_
              focus (skip; clear hHeld; go_simp)
              try simp only [Act.put, List.setIfInBounds_toArray, List.set_cons_zero, List.set_cons_succ]
              refine wpAnyH_ready (rs := [17]) (by kernel_rfl) (by simp) ?_
              refine AllReadyH.cons (o := ⟨none, _, _, _, _, _⟩) rfl (fun K' hK' => ?_) AllReadyH.nil
              go_simp
              refine hK'.out _ _ trivial (fun _ => ?_)
              clear hK' K'
              try simp only [Act.put, List.setIfInBounds_toArray, List.set_cons_zero, List.set_cons_succ]
              refine wpAnyH_done (by kernel_rfl) ?_ _
              refine NoPanic.normal ?_
              have HD3 := Lib.hid ((HD2.out.s0 n2).nil1)
              have HB3 := Lib.hid (grown_set (grown_set HB2.out 0 (.string n2)) 1 (.slice none 0 0))
              clear k0 k1 f0 f1 HD2 HB2
              generalize (w1.setCell ⟨g, 0, none⟩ (.string n2)).setCell ⟨g, 1, none⟩ (.slice none 0 0) = w2 at HD3 HB3 ⊢
              have HFN : Hid (w.grownBy w2 (some g) ∧ SD w2 g n1 n2) := ⟨HB3.out, by unfold SD; rw [if_pos (by rw [← HQE.out]; exact HNG.out)]; exact HD3.out⟩
              clear HD3 HB3
              go_wp2_with fail
              go_roundw
              case rel => exact .inr ⟨by go_num, HFN.out⟩
              case measure => simp [intOf]
          · have HFN : Hid (w.grownBy w3 (some g) ∧ SD w3 g n1 n2) := ⟨HB.out, by unfold SD; rw [if_neg (by rw [← HQE.out]; exact hneg)]; exact HD.out⟩
            clear HD HB
            go_wp2_with fail
            go_roundw
            case rel => exact .inr ⟨by go_num, HFN.out⟩
            case measure => simp [intOf]
        · clear HD1 HB1 HD0
          have HFd : Hid (w.grownBy wr.drew (some g) ∧ SD wr.drew g n1 n2) := ⟨grown_below HF.out.1 (Below.refl _ _).drew, HF.out.2.drew⟩
          go_wp2_with fail
          refine wp_region_noPanic ?_
          refine wp_region_held_drew (S := fun _ => True) (by kernel_rfl) trivial (fun hHeld => ?_)
          try simp only [Act.put]
          clear HF
          generalize wr.drew = wc at HFd ⊢
          refine wpAnyH_take (i := 0) (oi := ⟨some 18, _, _, _, _, _⟩) (v := .int .i64 0) rfl (by kernel_rfl) (by kernel_rfl) (by kernel_rfl) (fun _ _ _ h => h) (.inl ⟨by rfl, fun w' hSw => ?_⟩) hHeld ?_
          focus (skip; clear hHeld; go_simp)
          try simp only [Act.put, List.setIfInBounds_toArray, List.set_cons_zero, List.set_cons_succ]
          refine wpAnyH_take (i := 1) (oi := ⟨some 19, _, _, _, _, _⟩) (v := .int .i64 0) rfl (by kernel_rfl) (by kernel_rfl) (by kernel_rfl) (fun _ _ _ h => h) (.inl ⟨by rfl, fun w' hSw => ?_⟩) hHeld ?_
          focus (skip; clear hHeld; go_simp)
          try simp only [Act.put, List.setIfInBounds_toArray, List.set_cons_zero, List.set_cons_succ]
          refine wpAnyH_take (i := 2) (oi := ⟨some 20, _, _, _, _, _⟩) (v := .bool false) rfl (by kernel_rfl) (by kernel_rfl) (by kernel_rfl) (fun _ _ _ h => h) (.inl ⟨by rfl, fun w' hSw => ?_⟩) hHeld ?_
          focus (skip; clear hHeld; go_simp)
          try simp only [Act.put, List.setIfInBounds_toArray, List.set_cons_zero, List.set_cons_succ]
          refine wpAnyH_take (i := 3) (oi := ⟨some 21, _, _, _, _, _⟩) (v := .bool false) rfl (by kernel_rfl) (by kernel_rfl) (by kernel_rfl) (fun _ _ _ h => h) (.inl ⟨by rfl, fun w' hSw => ?_⟩) hHeld ?_
          focus (skip; clear hHeld; go_simp)
          try simp only [Act.put, List.setIfInBounds_toArray, List.set_cons_zero, List.set_cons_succ]
          refine wpAnyH_take (i := 4) (oi := ⟨some 22, _, _, _, _, _⟩) (v := undef) rfl (by kernel_rfl) (by kernel_rfl) (by kernel_rfl) (fun _ _ _ h => h) (.inr ⟨by rfl, rfl⟩) hHeld ?_
          try simp only [Act.put, List.setIfInBounds_toArray, List.set_cons_zero, List.set_cons_succ]
          refine wpAnyH_take (i := 5) (oi := ⟨some 23, _, _, _, _, _⟩) (v := undef) rfl (by kernel_rfl) (by kernel_rfl) (by kernel_rfl) (fun _ _ _ h => h) (.inr ⟨by rfl, rfl⟩) hHeld ?_
          try simp only [Act.put, List.setIfInBounds_toArray, List.set_cons_zero, List.set_cons_succ]
          refine wpAnyH_take (i := 6) (oi := ⟨some 24, _, _, _, _, _⟩) (v := undef) rfl (by kernel_rfl) (by kernel_rfl) (by kernel_rfl) (fun _ _ _ h => h) (.inr ⟨by rfl, rfl⟩) hHeld ?_
          try simp only [Act.put, List.setIfInBounds_toArray, List.set_cons_zero, List.set_cons_succ]
          refine wpAnyH_take (i := 7) (oi := ⟨some 25, _, _, _, _, _⟩) (v := undef) rfl (by kernel_rfl) (by kernel_rfl) (by kernel_rfl) (fun _ _ _ h => h) (.inr ⟨by rfl, rfl⟩) hHeld ?_
          try simp only [Act.put, List.setIfInBounds_toArray, List.set_cons_zero, List.set_cons_succ]
          refine wpAnyH_take (i := 8) (oi := ⟨some 26, _, _, _, _, _⟩) (v := undef) rfl (by kernel_rfl) (by kernel_rfl) (by kernel_rfl) (fun _ _ _ h => h) (.inr ⟨by rfl, rfl⟩) hHeld ?_
          try simp only [Act.put, List.setIfInBounds_toArray, List.set_cons_zero, List.set_cons_succ]
          refine wpAnyH_take (i := 9) (oi := ⟨some 27, _, _, _, _, _⟩) (v := undef) rfl (by kernel_rfl) (by kernel_rfl) (by kernel_rfl) (fun _ _ _ h => h) (.inr ⟨by rfl, rfl⟩) hHeld ?_
          try simp only [Act.put, List.setIfInBounds_toArray, List.set_cons_zero, List.set_cons_succ]
          refine wpAnyH_take (i := 10) (oi := ⟨some 28, _, _, _, _, _⟩) (v := undef) rfl (by kernel_rfl) (by kernel_rfl) (by kernel_rfl) (fun _ _ _ h => h) (.inr ⟨by rfl, rfl⟩) hHeld ?_
          try simp only [Act.put, List.setIfInBounds_toArray, List.set_cons_zero, List.set_cons_succ]
          refine wpAnyH_take (i := 11) (oi := ⟨some 29, _, _, _, _, _⟩) (v := undef) rfl (by kernel_rfl) (by kernel_rfl) (by kernel_rfl) (fun _ _ _ h => h) (.inr ⟨by rfl, rfl⟩) hHeld ?_
          try simp only [Act.put, List.setIfInBounds_toArray, List.set_cons_zero, List.set_cons_succ]
          refine wpAnyH_take (i := 12) (oi := ⟨some 30, _, _, _, _, _⟩) (v := undef) rfl (by kernel_rfl) (by kernel_rfl) (by kernel_rfl) (fun _ _ _ h => h) (.inr ⟨by rfl, rfl⟩) hHeld ?_
          try simp only [Act.put, List.setIfInBounds_toArray, List.set_cons_zero, List.set_cons_succ]
          refine wpAnyH_take (i := 13) (oi := ⟨some 31, _, _, _, _, _⟩) (v := undef) rfl (by kernel_rfl) (by kernel_rfl) (by kernel_rfl) (fun _ _ _ h => h) (.inr ⟨by rfl, rfl⟩) hHeld ?_
          try simp only [Act.put, List.setIfInBounds_toArray, List.set_cons_zero, List.set_cons_succ]
          refine wpAnyH_take (i := 14) (oi := ⟨some 32, _, _, _, _, _⟩) (v := undef) rfl (by kernel_rfl) (by kernel_rfl) (by kernel_rfl) (fun _ _ _ h => h) (.inr ⟨by rfl, rfl⟩) hHeld ?_
          try simp only [Act.put, List.setIfInBounds_toArray, List.set_cons_zero, List.set_cons_succ]
          refine wpAnyH_take (i := 15) (oi := ⟨some 33, _, _, _, _, _⟩) (v := undef) rfl (by kernel_rfl) (by kernel_rfl) (by kernel_rfl) (fun _ _ _ h => h) (.inr ⟨by rfl, rfl⟩) hHeld ?_
          try simp only [Act.put, List.setIfInBounds_toArray, List.set_cons_zero, List.set_cons_succ]
          refine wpAnyH_take (i := 16) (oi := ⟨some 34, _, _, _, _, _⟩) (v := .bool false) rfl (by kernel_rfl) (by kernel_rfl) (by kernel_rfl) (fun _ _ _ h => h) (.inl ⟨by rfl, fun w' hSw => ?_⟩) hHeld ?_
          focus (skip; clear hHeld; go_simp)
          try simp only [Act.put, List.setIfInBounds_toArray, List.set_cons_zero, List.set_cons_succ]
          refine wpAnyH_done (by kernel_rfl) ?_ _
          refine NoPanic.normal ?_
          go_wp2_with fail
          go_roundw
          case rel => exact .inr ⟨by go_num, HFd.out⟩
          case measure => simp [intOf]
    · go_wp2_with fail
      go_end0
      exact ⟨rfl, HF.out⟩
end Go.Proofs.Ytdnmgemjhpkekaa
/-
  canon.Schema on two definitions without members.
-/
namespace Go.Proofs.Ytdnmgemjhpkekaa
open Go.ChangeShapes Go.WideShapes Go.ChangeAt Go.RowKit Go.Lib Go.Sort
set_option linter.unusedVariables false
set_option linter.unusedSectionVars false
set_option linter.unusedSimpArgs false

set_option maxRecDepth 100000 in
set_option maxHeartbeats 4000000 in
theorem stableD2 {w : World} {g c : Nat} {n1 n2 : ByteArray} (h : DR w g n1 n2) : Calls Try.prog 38 #[.slice (some ⟨g, 0, none⟩) 2 c, .int .i64 2, .func (.func 20) #[] #[]] w fun e w' => e = .returned (.tuple #[]) ∧ w.grownBy w' (some g) ∧ SD w' g n1 n2 := by
  have HI := Lib.hid (isortD2 (c := c) h)
  clear h
  go_enter Try.func38, Try.ntmps38
  go_wp2_with fail
  go_loopw [7, 8] (fun av bv wr => av = .int .i64 0 ∧ bv = .int .i64 20 ∧ wr = w) (fun _ _ _ => 0)
  case atStart => exact ⟨rfl, rfl, rfl⟩
  case round =>
    obtain ⟨rfl, rfl, rfl⟩ := hrel
    go_wp2_with fail
    refine HI.out.mono ?_
    rintro e w1 ⟨rfl, b1, s1⟩
    have HB1 := Lib.hid b1
    have HS1 := Lib.hid s1
    clear b1 s1 HI
    go_wp2_with fail
    go_loopw [6] (fun kv wr' => kv = .int .i64 20 ∧ wr' = w1) (fun _ _ => 0)
    case atStart => exact ⟨rfl, rfl⟩
    case round =>
      obtain ⟨rfl, rfl⟩ := hrel
      go_wp2_with fail
      go_end0
      exact ⟨rfl, HB1.out, HS1.out⟩
set_option maxRecDepth 100000 in
set_option maxHeartbeats 4000000 in
theorem sortsD2 {w : World} {g c : Nat} {n1 n2 : ByteArray} (h : DR w g n1 n2) : Calls Try.prog 19 #[.slice (some ⟨g, 0, none⟩) 2 c, .func (.func 20) #[] #[]] w fun e w' => e = .returned (.tuple #[]) ∧ w.grownBy w' (some g) ∧ SD w' g n1 n2 := by
  have HI := Lib.hid (stableD2 (c := c) h)
  clear h
  go_enter Try.func19, Try.ntmps19
  go_wp2_with fail
  refine HI.out.mono ?_
  rintro e w1 ⟨rfl, b1, s1⟩
  have HB1 := Lib.hid b1
  have HS1 := Lib.hid s1
  clear b1 s1 HI
  go_wp2_with fail
  go_end0
  exact ⟨rfl, HB1.out, HS1.out⟩
section
variable {ops : Array Oper} {rest : List Oper} {o : Oper} {a : Act} {Q : Exit → Act → World → Prop} {w : World} {g : Nat} {x y : Operand} {u v : Value}
theorem loadS2 {t : TypeId} (hA : Arr w t g [u]) (hs : o.guard = none ∧ o.op = .load 35 x ∧ a.eval x = .pointer (some ⟨g, 0, none⟩))
    (hk : wpList Try.prog ops Q rest (a.put o.dst (.agg #[u])) w) : wpList Try.prog ops Q (o :: rest) a w :=
  load_arr hs.1 _ x hs.2.1 hA hs.2.2 Try.underlying35 rfl (by kernel_rfl) hk
theorem storeS2 {t : TypeId} (hA : Arr w t g [u]) (ho : v.oneCell' = true) (hs : o.guard = none ∧ o.op = .store 35 x y ∧ a.eval x = .pointer (some ⟨g, 0, none⟩) ∧ a.eval y = .agg #[v])
    (hk : wpList Try.prog ops Q rest (a.put o.dst undef) (w.setRow g #[v])) : wpList Try.prog ops Q (o :: rest) a w :=
  store_arr hs.1 _ x y hs.2.1 hA (cs := [v]) hs.2.2.1 hs.2.2.2 (by kernel_rfl) rfl (by simp [ho]) hk
end
theorem DR.row {w : World} {g k : Nat} {n1 n2 : ByteArray} (h : DR w g n1 n2) (hne : g ≠ k) (c : Array Value) : DR (w.setRow k c) g n1 n2 := by
  have hb : (w.setRow k c).heap[g]? = w.heap[g]? := by
    simp only [World.setRow, Array.getElem?_modify]
    rw [if_neg (fun e => hne e.symm)]
  have hk : ∀ j, (w.setRow k c).cell? ⟨g, j, none⟩ = w.cell? ⟨g, j, none⟩ := fun j => World.cell?_of_block (a := ⟨g, j, none⟩) hb
  have hf : ∀ j, (w.setRow k c).frozen? ⟨g, j, none⟩ = w.frozen? ⟨g, j, none⟩ := fun j => World.frozen?_of_block (a := ⟨g, j, none⟩) hb
  exact ⟨by simpa [World.setRow] using h.1, ⟨(hk 0).trans h.2.1.1, (hk 1).trans h.2.1.2.1, (hk 2).trans h.2.1.2.2.1, (hk 3).trans h.2.1.2.2.2⟩, fun j => (hf j).trans (h.2.2 j)⟩
set_option maxRecDepth 100000 in
set_option maxHeartbeats 4000000 in
theorem sclone2 {w : World} {g c : Nat} {n1 n2 : ByteArray} (h : DR w g n1 n2) : Calls Try.prog 18 #[.agg #[.slice (some ⟨g, 0, none⟩) 2 c]] w fun e w' => ∃ g' c', e = .returned (.agg #[.slice (some ⟨g', 0, none⟩) 2 c']) ∧ w.heap.size ≤ g' ∧ DR w' g' n1 n2 ∧ Below w.heap.size w w' := by
  have h2 : Below w.heap.size w ((w.alloc (.cells #[.slice (some ⟨g, 0, none⟩) 2 c] 35)).alloc (.cells #[.slice none 0 0] 35)) := ((Below.refl _ _).alloc (Nat.le_refl _) _).alloc (by simp) _
  have hA1 : Arr ((w.alloc (.cells #[.slice (some ⟨g, 0, none⟩) 2 c] 35)).alloc (.cells #[.slice none 0 0] 35)) 35 (w.heap.size + 1) [.slice none 0 0] := Arr.new2 w _ _ _ _ rfl
  have hA0 : Arr ((w.alloc (.cells #[.slice (some ⟨g, 0, none⟩) 2 c] 35)).alloc (.cells #[.slice none 0 0] 35)) 35 w.heap.size [.slice (some ⟨g, 0, none⟩) 2 c] := (Arr.new' w _ _ _ rfl).alloc _
  have hc0 := hA0.cell 0
  simp only [List.getElem?_cons_zero] at hc0
  have hz : ((w.alloc (.cells #[.slice (some ⟨g, 0, none⟩) 2 c] 35)).alloc (.cells #[.slice none 0 0] 35)).heap.size = w.heap.size + 2 := by simp
  have HCL := Lib.hid (cloneD2 (c := c) (h.later h2))
  rw [hz] at HCL
  have HB := Lib.hid h2
  have HA1 := Lib.hid hA1
  have HZ := Lib.hid hz
  clear h2 hA1 hA0 h hz
  go_enter Try.func18, Try.ntmps18
  go_wp2_with fail
  refine HCL.out.mono ?_
  rintro e w1 ⟨g1, c1, rfl, hg1, hd1, b1⟩
  have HD1 := Lib.hid hd1
  have HG1 := Lib.hid hg1
  have HB1 : Hid (Below w.heap.size w w1) := HB.out.trans (b1.mono (by omega))
  have HR1 : Hid (Arr w1 35 (w.heap.size + 1) [.slice none 0 0]) := HA1.out.below b1 (by omega)
  clear hd1 hg1 b1 hc0 HB HA1 HCL HZ
  go_wp2_with fail
  go_loopw [11] (fun iv wr => ∃ i : Nat, i ≤ 2 ∧ iv = .int .i64 i ∧ Hid (DR wr g1 n1 n2) ∧ Hid (Below w.heap.size w wr) ∧ Hid (Arr wr 35 (w.heap.size + 1) [.slice none 0 0])) (fun iv _ => 2 - (intOf iv).toNat)
  case atStart => exact ⟨0, by omega, rfl, HD1.out, HB1.out, HR1.out⟩
  case round =>
    obtain ⟨i, hi, rfl, HD, HB, HR⟩ := hrel
    clear HD1 HB1 HR1
    by_cases h0 : i = 0
    · subst h0
      have ba : Below wr.heap.size wr (wr.alloc (.cells #[.string n1, .slice none 0 0] 39)) := (Below.refl _ _).alloc (Nat.le_refl _) _
      have HDa := Lib.hid (HD.out.later ba)
      have HBa := Lib.hid (HB.out.trans (ba.mono HB.out.size))
      have HRa := Lib.hid (HR.out.later ba)
      have k0 := HD.out.2.1.1
      have k1 := HD.out.2.1.2.1
      have k2 := HDa.out.2.1.2.1
      have f2 := HDa.out.2.2 1
      clear ba HD HB HR
      go_wp2_with fail
      refine (cms_nil _).mono ?_
      rintro e w5 ⟨rfl, hw5⟩
      rw [hw5] at HDa HBa HRa k2 f2
      clear hw5 k0 k1
      go_wp2_with fail
      have HD5 := Lib.hid HDa.out.nil1
      have HB5 := Lib.hid (HBa.out.setCell (p := ⟨g1, 1, none⟩) (show w.heap.size ≤ g1 by have := HG1.out; omega) (.slice none 0 0))
      have HR5 := Lib.hid (HRa.out.setCell (a := ⟨g1, 1, none⟩) (show w.heap.size + 1 ≠ g1 by have := HG1.out; omega) (.slice none 0 0))
      go_roundw
      case rel => exact ⟨1, by omega, by go_num, HD5.out, HB5.out, HR5.out⟩
      case measure => simp [intOf]
    · by_cases h1 : i = 1
      · subst h1
        have ba : Below wr.heap.size wr (wr.alloc (.cells #[.string n2, .slice none 0 0] 39)) := (Below.refl _ _).alloc (Nat.le_refl _) _
        have HDa := Lib.hid (HD.out.later ba)
        have HBa := Lib.hid (HB.out.trans (ba.mono HB.out.size))
        have HRa := Lib.hid (HR.out.later ba)
        have k0 := HD.out.2.1.2.2.1
        have k1 := HD.out.2.1.2.2.2
        have k2 := HDa.out.2.1.2.2.2
        have f2 := HDa.out.2.2 3
        clear ba HD HB HR
        go_wp2_with fail
        refine (cms_nil _).mono ?_
        rintro e w5 ⟨rfl, hw5⟩
        rw [hw5] at HDa HBa HRa k2 f2
        clear hw5 k0 k1
        go_wp2_with fail
        have HD5 := Lib.hid HDa.out.nil3
        have HB5 := Lib.hid (HBa.out.setCell (p := ⟨g1, 3, none⟩) (show w.heap.size ≤ g1 by have := HG1.out; omega) (.slice none 0 0))
        have HR5 := Lib.hid (HRa.out.setCell (a := ⟨g1, 3, none⟩) (show w.heap.size + 1 ≠ g1 by have := HG1.out; omega) (.slice none 0 0))
        go_roundw
        case rel => exact ⟨2, by omega, by go_num, HD5.out, HB5.out, HR5.out⟩
        case measure => simp [intOf]
      · obtain rfl : i = 2 := by omega
        clear h0 h1 hi
        go_wp2_with ((with_reducible refine storeS2 (v := .slice (some ⟨g1, 0, none⟩) 2 c1) (x := .tmp 2) (y := .tmp 25) (o := ⟨none, .store _ _ _, _, _, _, _⟩) HR.out rfl ?_ ?_); exact ⟨rfl, rfl, rfl, rfl⟩)
        have hA := HR.out.row [.slice (some ⟨g1, 0, none⟩) 2 c1]
        have hD := HD.out.row (k := w.heap.size + 1) (by have := HG1.out; omega) #[.slice (some ⟨g1, 0, none⟩) 2 c1]
        have hB := below_row HB.out (g := w.heap.size + 1) (by omega) #[.slice (some ⟨g1, 0, none⟩) 2 c1]
        refine bodyPost_ret (results_cell_row rfl _ _ (w.heap.size + 1) 35 #[.slice (some ⟨g1, 0, none⟩) 2 c1] (0, 0) _ rfl hA Try.underlying35 rfl (by kernel_rfl)) rfl ⟨g1, c1, rfl, by have := HG1.out; omega, hD, hB⟩
set_option maxRecDepth 100000 in
set_option maxHeartbeats 4000000 in
theorem csch2 {w : World} {g c : Nat} {n1 n2 : ByteArray} (h : DR w g n1 n2) : Calls Try.prog 9 #[.agg #[.slice (some ⟨g, 0, none⟩) 2 c]] w fun e w' => ∃ g' c', e = .returned (.agg #[.slice (some ⟨g', 0, none⟩) 2 c']) ∧ w.heap.size ≤ g' ∧ SD w' g' n1 n2 ∧ Below w.heap.size w w' := by
  have h2 : Below w.heap.size w ((w.alloc (.cells #[.slice (some ⟨g, 0, none⟩) 2 c] 35)).alloc (.cells #[.slice none 0 0] 35)) := ((Below.refl _ _).alloc (Nat.le_refl _) _).alloc (by simp) _
  have hA1 : Arr ((w.alloc (.cells #[.slice (some ⟨g, 0, none⟩) 2 c] 35)).alloc (.cells #[.slice none 0 0] 35)) 35 (w.heap.size + 1) [.slice none 0 0] := Arr.new2 w _ _ _ _ rfl
  have hA0 : Arr ((w.alloc (.cells #[.slice (some ⟨g, 0, none⟩) 2 c] 35)).alloc (.cells #[.slice none 0 0] 35)) 35 w.heap.size [.slice (some ⟨g, 0, none⟩) 2 c] := (Arr.new' w _ _ _ rfl).alloc _
  have hz : ((w.alloc (.cells #[.slice (some ⟨g, 0, none⟩) 2 c] 35)).alloc (.cells #[.slice none 0 0] 35)).heap.size = w.heap.size + 2 := by simp
  have HCL := Lib.hid (sclone2 (c := c) (h.later h2))
  rw [hz] at HCL
  have HB := Lib.hid h2
  have HA1 := Lib.hid hA1
  have HA0 := Lib.hid hA0
  clear h2 hA1 hA0 h hz
  go_enter Try.func9, Try.ntmps9
  go_wp2_with ((with_reducible refine loadS2 (x := .tmp 1) (o := ⟨some 8, _, _, _, _, _⟩) HA0.out ?_ ?_); exact ⟨rfl, rfl, rfl⟩)
  refine HCL.out.mono ?_
  rintro e w1 ⟨g1, c1, rfl, hg1, hd1, b1⟩
  have HB1 : Hid (Below w.heap.size w w1) := HB.out.trans (b1.mono (by omega))
  have HR1 : Hid (Arr w1 35 (w.heap.size + 1) [.slice none 0 0]) := HA1.out.below b1 (by omega)
  have hglt : g1 < w1.heap.size := hd1.1
  have ba : Below w1.heap.size w1 (w1.alloc (.cells #[.slice (some ⟨g1, 0, none⟩) 2 c1] 35)) := (Below.refl _ _).alloc (Nat.le_refl _) _
  have HG1 := Lib.hid hg1
  have HLT := Lib.hid hglt
  have hA3 : Arr (w1.alloc (.cells #[.slice (some ⟨g1, 0, none⟩) 2 c1] 35)) 35 w1.heap.size [.slice (some ⟨g1, 0, none⟩) 2 c1] := Arr.new' w1 _ _ _ rfl
  have HD3 := Lib.hid (hd1.later ba)
  have HB3 := Lib.hid (HB1.out.trans (ba.mono HB1.out.size))
  have HR3 := Lib.hid (HR1.out.later ba)
  have HA3 := Lib.hid hA3
  have HS1 : Hid (w.heap.size + 2 ≤ w1.heap.size) := by show _ ≤ _; omega
  have HSO := Lib.hid (sortsD2 (c := c1) (hd1.later ba))
  have hc3 := hA3.cell 0
  simp only [List.getElem?_cons_zero] at hc3
  clear hd1 hg1 b1 HB HA1 HCL hglt hA3 HB1 HR1 ba HA0
  go_wp2_with fail
  refine HSO.out.mono ?_
  rintro e w2 ⟨rfl, b2, s2⟩
  have HS2 := Lib.hid s2
  have HGR := Lib.hid b2
  have HB2 : Hid (Below w.heap.size w w2) := HB3.out.trans ⟨b2.os, b2.tape, b2.output, b2.size, fun k hk => b2.block k (Nat.lt_of_lt_of_le hk HB3.out.size) fun e => by have := HG1.out; have := Option.some.inj e; omega⟩
  have HR2 : Hid (Arr w2 35 (w.heap.size + 1) [.slice none 0 0]) := (b2.block _ HR3.out.lt fun e => by have := HG1.out; have := Option.some.inj e; omega).trans HR3.out
  have HA2 : Hid (Arr w2 35 w1.heap.size [.slice (some ⟨g1, 0, none⟩) 2 c1]) := (b2.block _ HA3.out.lt fun e => by have := HLT.out; have := Option.some.inj e; omega).trans HA3.out
  have HA2c := HA2.out.cell 0
  simp only [List.getElem?_cons_zero] at HA2c
  obtain ⟨m1, m2, hm, hdm⟩ : ∃ m1 m2, (∀ w', DR w' g1 m1 m2 → SD w' g1 n1 n2) ∧ DR w2 g1 m1 m2 := by
    unfold SD at s2
    by_cases hq : ord n2 n1 < 0
    · rw [if_pos hq] at s2
      exact ⟨n2, n1, fun w' hd => by unfold SD; rw [if_pos hq]; exact hd, s2⟩
    · rw [if_neg hq] at s2
      exact ⟨n1, n2, fun w' hd => by unfold SD; rw [if_neg hq]; exact hd, s2⟩
  have HM := Lib.hid hm
  have HD2 := Lib.hid hdm
  clear b2 s2 hm hdm HSO HB3 HR3 HA3 HD3 hc3
  go_wp2_with fail
  go_loopw [16] (fun iv wr => ∃ i : Nat, i ≤ 2 ∧ iv = .int .i64 i ∧ Hid (DR wr g1 m1 m2) ∧ Hid (Below w.heap.size w wr) ∧ Hid (Arr wr 35 (w.heap.size + 1) [.slice none 0 0]) ∧ Hid (Arr wr 35 w1.heap.size [.slice (some ⟨g1, 0, none⟩) 2 c1])) (fun iv _ => 2 - (intOf iv).toNat)
  case atStart => exact ⟨0, by omega, rfl, HD2.out, HB2.out, HR2.out, HA2.out⟩
  case round =>
    obtain ⟨i, hi, rfl, HD, HB, HR, HA⟩ := hrel
    clear HD2 HB2 HR2 HA2 HA2c HS2 HGR
    by_cases h0 : i = 0
    · subst h0
      have ba : Below wr.heap.size wr (wr.alloc (.cells #[.string m1, .slice none 0 0] 39)) := (Below.refl _ _).alloc (Nat.le_refl _) _
      have HDa := Lib.hid (HD.out.later ba)
      have HBa := Lib.hid (HB.out.trans (ba.mono HB.out.size))
      have HRa := Lib.hid (HR.out.later ba)
      have HAa := Lib.hid (HA.out.later ba)
      have k0 := HD.out.2.1.1
      have k1 := HD.out.2.1.2.1
      have ka := HA.out.cell 0
      have kb := HAa.out.cell 0
      have hd5 : Arr (wr.alloc (.cells #[.string m1, .slice none 0 0] 39)) 39 wr.heap.size [.string m1, .slice none 0 0] := Arr.new' wr _ _ _ rfl
      have kc := hd5.cell 1
      simp only [List.getElem?_cons_zero, List.getElem?_cons_succ] at ka kb kc
      clear ba HD HB HR HA hd5
      go_wp2_with fail
      refine (sortsM_nil _ _).mono ?_
      rintro e w5 ⟨rfl, hw5⟩
      rw [hw5] at HDa HBa HRa HAa kb kc
      clear hw5 k0 k1 ka
      go_wp2_with fail
      go_loopw [26] (fun iv wr' => iv = .int .i64 0 ∧ wr' = w5) (fun _ _ => 0)
      case atStart => exact ⟨rfl, rfl⟩
      case round =>
        obtain ⟨rfl, rfl⟩ := hrel
        go_wp2_with fail
        go_roundw
        case rel => exact ⟨1, by omega, by go_num, HDa.out, HBa.out, HRa.out, HAa.out⟩
        case measure => simp [intOf]
    · by_cases h1 : i = 1
      · subst h1
        have ba : Below wr.heap.size wr (wr.alloc (.cells #[.string m2, .slice none 0 0] 39)) := (Below.refl _ _).alloc (Nat.le_refl _) _
        have HDa := Lib.hid (HD.out.later ba)
        have HBa := Lib.hid (HB.out.trans (ba.mono HB.out.size))
        have HRa := Lib.hid (HR.out.later ba)
        have HAa := Lib.hid (HA.out.later ba)
        have k0 := HD.out.2.1.2.2.1
        have k1 := HD.out.2.1.2.2.2
        have ka := HA.out.cell 0
        have kb := HAa.out.cell 0
        have hd5 : Arr (wr.alloc (.cells #[.string m2, .slice none 0 0] 39)) 39 wr.heap.size [.string m2, .slice none 0 0] := Arr.new' wr _ _ _ rfl
        have kc := hd5.cell 1
        simp only [List.getElem?_cons_zero, List.getElem?_cons_succ] at ka kb kc
        clear ba HD HB HR HA hd5
        go_wp2_with fail
        refine (sortsM_nil _ _).mono ?_
        rintro e w5 ⟨rfl, hw5⟩
        rw [hw5] at HDa HBa HRa HAa kb kc
        clear hw5 k0 k1 ka
        go_wp2_with fail
        go_loopw [26] (fun iv wr' => iv = .int .i64 0 ∧ wr' = w5) (fun _ _ => 0)
        case atStart => exact ⟨rfl, rfl⟩
        case round =>
          obtain ⟨rfl, rfl⟩ := hrel
          go_wp2_with fail
          go_roundw
          case rel => exact ⟨2, by omega, by go_num, HDa.out, HBa.out, HRa.out, HAa.out⟩
          case measure => simp [intOf]
      · obtain rfl : i = 2 := by omega
        clear h0 h1 hi
        go_wp2_with (first
          | ((with_reducible refine loadS2 (x := .tmp 3) (o := ⟨some 49, _, _, _, _, _⟩) HA.out ?_ ?_); exact ⟨rfl, rfl, rfl⟩)
          | ((with_reducible refine storeS2 (v := .slice (some ⟨g1, 0, none⟩) 2 c1) (x := .tmp 2) (y := .tmp 49) (o := ⟨none, .store _ _ _, _, _, _, _⟩) HR.out rfl ?_ ?_); exact ⟨rfl, rfl, rfl, rfl⟩))
        have hA := HR.out.row [.slice (some ⟨g1, 0, none⟩) 2 c1]
        have hD := HD.out.row (k := w.heap.size + 1) (by have := HG1.out; omega) #[.slice (some ⟨g1, 0, none⟩) 2 c1]
        have hB := below_row HB.out (g := w.heap.size + 1) (by omega) #[.slice (some ⟨g1, 0, none⟩) 2 c1]
        refine bodyPost_ret (results_cell_row rfl _ _ (w.heap.size + 1) 35 #[.slice (some ⟨g1, 0, none⟩) 2 c1] (0, 0) _ rfl hA Try.underlying35 rfl (by kernel_rfl)) rfl ⟨g1, c1, rfl, by have := HG1.out; omega, HM.out _ hD, hB⟩
end Go.Proofs.Ytdnmgemjhpkekaa
