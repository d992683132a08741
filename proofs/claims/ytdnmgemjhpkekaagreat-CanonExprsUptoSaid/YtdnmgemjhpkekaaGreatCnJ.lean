/-
  canon.ordered at allowed types, canon.Types.
-/
import Derived.Test.YtdnmgemjhpkekaaGreatCnH
namespace Go.Proofs.YtdnmgemjhpkekaaGreat
open Go.ChangeShapes Go.WideShapes Go.ChangeAt Go.RowKit Go.Lib Go.Sort
set_option linter.unusedVariables false

set_option maxRecDepth 100000 in
set_option maxHeartbeats 4000000 in
theorem eqY_any (x y : Yl) {W : World} {pb : Nat} (hb : FBox W pb 30) :
    Calls Tryz.prog 48 #[Yv x, Yv y, .pointer (some ⟨pb, 0, none⟩)] W fun e w' => e = .returned (.bool (decide (ykey x = ykey y))) ∧ Below W.heap.size W w' := by
  have hd : decide (ykey x = ykey y) = (ord2 x.1 x.2 y.1 y.2 == 0) := by
    by_cases e : x = y
    · rw [decide_eq_true (show ykey x = ykey y from e), e, (ord2_zero y.1 y.2 y.1 y.2).2 ⟨rfl, rfl⟩]; rfl
    · rw [decide_eq_false (show ¬ ykey x = ykey y from e)]
      have h1 : ¬ ord2 x.1 x.2 y.1 y.2 = 0 := fun h => e (ordYL.eq h)
      exact (beq_eq_false_iff_ne.2 h1).symm
  rw [hd]
  clear hd
  obtain ⟨t, r⟩ := x
  obtain ⟨u, q⟩ := y
  show Calls _ _ #[.agg #[.string t, .string r], .agg #[.string u, .string q], _] _ _
  have hbb : Below W.heap.size W ((W.alloc (.cells #[.string t, .string r] 41)).alloc (.cells #[.string u, .string q] 41)) := ((Below.refl _ _).alloc (Nat.le_refl _) _).alloc (by simp) _
  have HBX := Lib.hid (hb.later hbb)
  have hcb : ((W.alloc (.cells #[.string t, .string r] 41)).alloc (.cells #[.string u, .string q] 41)).cell? ⟨pb, 0, none⟩ = some (.func (.func 30) #[] #[]) := HBX.out.2
  have HB := Lib.hid hbb
  have HC := ncmp_gw t r u q ((W.alloc (.cells #[.string t, .string r] 41)).alloc (.cells #[.string u, .string q] 41))
  obtain ⟨E, hE⟩ : ∃ E, E = ord2 t r u q := ⟨_, rfl⟩
  dsimp only
  rw [← hE] at HC ⊢
  replace HC := Lib.hid HC
  clear hb hbb hE
  go_enter Tryz.func48, Tryz.ntmps48
  go_wp2_with fail
  refine HC.out.mono ?_
  rintro e w5 ⟨rfl, b5, _⟩
  have HB5 := Lib.hid (HB.out.trans (b5.mono HB.out.size))
  clear b5
  go_wp2_with fail
  go_ret
  exact ⟨rfl, HB5.out⟩
/-- SortFunc with Compare over the row. -/
theorem sortY_any {w : World} {g c : Nat} (d : Array Yl) (hH : HoldsK yenc 2 w g 0 d) (hg : g < w.heap.size) (hl : d.size ≤ 900000) :
    Calls Tryz.prog 46 #[.slice (some ⟨g, 0, none⟩) d.size c, .func (.func 30) #[] #[]] w fun e w' => e = .returned (.tuple #[]) ∧ w.grownBy w' (some g) ∧
      ∃ d' : Array Yl, HoldsK yenc 2 w' g 0 d' ∧ d'.size = d.size ∧ kpS ykey d' d'.size = sortedO ordY d.toList := by
  have eg : ∀ args w, (callFunc 30 args).run Tryz.prog w = .ok (.enter 30 args) w := enters_of Tryz.func30 (by kernel_rfl) rfl
  have hcon := AnyQ.slices_SortFunc Tryz.sortAl 2 (fun _ => by kernel_rfl) (fun _ => by kernel_rfl) yenc yenc_len yenc_one (fun x y => ordY (ykey x) (ykey y)) (swoG ordYL ykey) 30 #[] g 0 c d w eg cmpY hH hg (by omega)
  change Calls Tryz.prog 46 _ _ _ at hcon
  refine hcon.mono ?_
  rintro e w1 ⟨rfl, d2, n, os, hp, hs, rfl⟩
  have hd : d2.size = d.size := by simpa using hp.1
  have hk := kpS_sorted ordYL (key := ykey) (d := d2) (l := d.toList) (fun i j hij hj => by
    have := hs i j (Nat.zero_le _) hij (by simpa [hd] using hj)
    simp only [ltOf, decide_eq_false_iff_not] at this
    have := ordYL.flip (ykey d2[i]!) (ykey d2[j]!)
    omega) (fun x => ⟨fun ⟨j, hj, e⟩ => e ▸ (perm_mem hp _).1 (getB_mem hj), fun hx => mem_getB ((perm_mem hp _).2 hx)⟩)
  rw [show (kpS ykey d2 d2.size).map ykey = kpS ykey d2 d2.size from List.map_id _] at hk
  exact ⟨rfl, grownBy_sortG d2, d2, holdsK_sortWorldK yenc 2 w g 0 n d d2 os hg hH (by simpa using hd), hd, hk⟩
set_option maxRecDepth 100000 in
set_option maxHeartbeats 4000000 in
theorem ordYs_any {w : World} {b off c : Nat} {l : List Yl} (h : w.rangeAt b off (l.flatMap yenc)) (hb : b < w.heap.size) (hl : l.length ≤ 100000) :
    Calls Tryz.prog 29 #[.slice (some ⟨b, off, none⟩) l.length c, .func (.func 30) #[] #[]] w fun e w' => ∃ g c', e = .returned (.slice (some ⟨g, 0, none⟩) (sortedO ordY l).length c') ∧ (sortedO ordY l).length ≤ c' ∧ w.heap.size ≤ g ∧ g < w'.heap.size ∧ Below w.heap.size w w' ∧ w'.rangeAt g 0 ((sortedO ordY l).flatMap yenc) := by
  obtain ⟨w0, hw0⟩ : ∃ w0, w0 = w.alloc (.cells #[.func (.func 30) #[] #[]] 59) := ⟨_, rfl⟩
  have hb0 : Below w.heap.size w w0 := by rw [hw0]; exact (Below.refl _ _).alloc (Nat.le_refl _) _
  have hfb : FBox w0 w.heap.size 30 := by rw [hw0]; exact ⟨by simp, (Arr.new' w _ _ _ rfl).cell 0⟩
  have hz0 : w0.heap.size = w.heap.size + 1 := by rw [hw0]; simp
  have hr0 : w0.rangeAt b off (l.flatMap yenc) := fun j v hj => by
    rw [← h j v hj]; exact World.cell?_of_block (hb0.block b hb)
  have HW0 := Lib.hid hw0
  have HB0 := Lib.hid hb0
  have HFB := Lib.hid hfb
  have HZ0 := Lib.hid hz0
  have HLN := Lib.hid hl
  have hcb : w0.cell? ⟨w.heap.size, 0, none⟩ = some (.func (.func 30) #[] #[]) := hfb.2
  obtain ⟨i0, hi0⟩ : ∃ i, Tryz.prog.info? 41 = some i := Option.isSome_iff_exists.1 (by kernel_rfl)
  have q1 : (Tryz.prog.info? 41).bind (·.zero) = some (.agg #[.string ByteArray.empty, .string ByteArray.empty]) := by kernel_rfl
  have q2 : (Tryz.prog.info? 41).map (·.size) = some 2 := by kernel_rfl
  have q3 : (Tryz.prog.info? 41).map (·.bytes) = some 32 := by kernel_rfl
  rw [hi0] at q1 q2 q3
  have HCL := Lib.hid (AnyE.slices_Clone Tryz.cloneAl i0 _ 2 32 hi0 q1 (Option.some.inj q2) (Option.some.inj q3) (by kernel_rfl) (by omega) (fun _ => by kernel_rfl) b off l.length c (l.flatMap yenc) w0 (flatG_len yenc_len l) (Nat.le_trans hl (by decide)) (by omega) hr0 (fun u hu => by
    obtain ⟨x, _, hx⟩ := List.mem_flatMap.1 hu
    exact yenc_one x u hx))
  clear h hr0 hb0 hfb hz0 hw0 hl hb q1 q2 q3 hi0
  go_enter Tryz.func29, Tryz.ntmps29
  go_wp2_with fail
  rw [← HW0.out]
  refine HCL.out.mono ?_
  rintro e w1 ⟨v', rfl, ho, hn, b1⟩
  obtain ⟨g, c1, cur, rfl, g1, g2, g3, g6⟩ : ∃ g cap cur, v' = .slice (some ⟨g, 0, none⟩) l.length cap ∧ w0.heap.size ≤ g ∧ w1.heap[g]? = some (.cells cur 41 (0, 0)) ∧ l.length ≤ cap ∧ cur.toList.take (l.length * 2) = l.flatMap yenc := by
    rcases ho.2 with ⟨e0, _⟩ | ⟨g, cap, cur, e, g1, g2, g3, g4, g5, g6⟩
    · exact absurd e0 hn
    · exact ⟨g, cap, cur, e, g1, g2, g3, g6⟩
  have HFB1 := Lib.hid (HFB.out.later b1)
  have hcb1 : w1.cell? ⟨w.heap.size, 0, none⟩ = some (.func (.func 30) #[] #[]) := HFB1.out.2
  have hglt : g < w1.heap.size := (Array.getElem?_eq_some_iff.1 g2).1
  have hH : HoldsK yenc 2 w1 g 0 l.toArray := holds_of_rowG yenc_len (by decide) g2 g6
  have HS := sortY_any (c := c1) l.toArray hH hglt (by simp; have := HLN.out; omega)
  have hds : l.toArray.size = l.length := by simp
  rw [hds, show l.toArray.toList = l by simp] at HS
  have HS := Lib.hid HS
  have HB1 := Lib.hid (HB0.out.trans (b1.mono HB0.out.size))
  have HC1 := Lib.hid g3
  have HG := Lib.hid (show w.heap.size < g by have := HZ0.out; omega)
  have HGL := Lib.hid hglt
  clear HCL ho hn g1 g2 g3 g6 b1 hH hds hglt hcb
  go_wp2_with fail
  refine HS.out.mono ?_
  rintro e w2 ⟨rfl, gr, d2, hH2, hn2, hk2⟩
  have HFB2 := Lib.hid (HFB1.out.grown gr (by have := HG.out; omega))
  have HGR := Lib.hid gr
  have hle : (sortedO ordY l).length ≤ l.length := by rw [← hk2, ← hn2]; exact kpS_len _ _ _
  have HLE := Lib.hid hle
  have HCP := compactY_any (w := w2) (blk := g) (cap := c1) (pv := .pointer (some ⟨w.heap.size, 0, none⟩)) d2 ⟨grown_refl _ _, hH2, Nat.lt_of_lt_of_le HGL.out gr.size⟩ (by rw [hn2]; have := HLN.out; omega) (by rw [hn2]; exact HC1.out) (fun x y W hW => eqY_any x y (HFB2.out.grown hW (by have := HG.out; omega)))
  rw [hn2] at HCP hk2
  rw [hk2] at HCP
  have HCP := Lib.hid HCP
  have hmk : ∀ (fn : Fn) (first cap : Array Value) (w : World), (Instr.makeFunc fn first cap).run Tryz.prog w = .ok (.func fn first cap) w := fun _ _ _ _ => rfl
  clear gr hH2 hk2 hle HS hcb1
  go_wp2_with fail
  refine HCP.out.mono ?_
  rintro e w3 ⟨rfl, gr3, d3, hH3, hn3, he3⟩
  have hg3 := grown_tr HGR.out gr3
  have hB3 : Below w.heap.size w w3 := HB1.out.trans ⟨hg3.os, hg3.tape, hg3.output, hg3.size, fun k hk => hg3.block k (Nat.lt_of_lt_of_le hk HB1.out.size) fun e => by have := HG.out; have := Option.some.inj e; omega⟩
  have HRL := Lib.hid (row_of_holdsG yenc_len (by decide) hH3 (l := sortedO ordY l) (by rw [hn3]; exact HLE.out) he3)
  have HB3 := Lib.hid hB3
  have HG3 := Lib.hid (Nat.lt_of_lt_of_le HGL.out hg3.size)
  clear gr3 hH3 hn3 he3 hg3 hB3 HCP
  go_wp2_with fail
  go_ret
  exact ⟨g, c1, rfl, Nat.le_trans HLE.out HC1.out, Nat.le_of_lt HG.out, HG3.out, HB3.out, HRL.out⟩
set_option maxRecDepth 100000 in
set_option maxHeartbeats 4000000 in
theorem ctypes_any {w : World} {b off c : Nat} {l : List Yl} (h : w.rangeAt b off (l.flatMap yenc)) (hb : b < w.heap.size) (hl : l.length ≤ 100000) :
    Calls Tryz.prog 13 #[.slice (some ⟨b, off, none⟩) l.length c] w fun e w' => ∃ g c', e = .returned (.slice (some ⟨g, 0, none⟩) (sortedO ordY l).length c') ∧ (sortedO ordY l).length ≤ c' ∧ w.heap.size ≤ g ∧ g < w'.heap.size ∧ Below w.heap.size w w' ∧ w'.rangeAt g 0 ((sortedO ordY l).flatMap yenc) := by
  have HO := Lib.hid (ordYs_any (c := c) h hb hl)
  clear h hb hl
  go_enter Tryz.func13, Tryz.ntmps13
  go_wp2_with fail
  refine HO.out.mono ?_
  rintro e w1 ⟨g, c1, rfl, h1, h2, h3, h4, h5⟩
  have H1 := Lib.hid h1
  have H2 := Lib.hid h2
  have H3 := Lib.hid h3
  have H4 := Lib.hid h4
  have H5 := Lib.hid h5
  clear h1 h2 h3 h4 h5 HO
  go_wp2_with fail
  go_ret
  exact ⟨g, c1, rfl, H1.out, H2.out, H3.out, H4.out, H5.out⟩
end Go.Proofs.YtdnmgemjhpkekaaGreat
