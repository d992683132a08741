/-
  vestrylaw06.ShaBlocks: the walk.
-/
import Derived.Test.YtbnpnpoddnkaiaaDoorShaW
import Derived.Test.YtbnpnpoddnkaiaaDoorShaRB
import Derived.Test.YtbnpnpoddnkaiaaDoorEqA
import Derived.Test.YtbnpnpoddnkaiaaDoorStep
import Derived.Deep.RegionHeld3
namespace Go.Proofs.YtbnpnpoddnkaiaaDoor
open Go.ChangeShapes Go.WideShapes Go.ChangeAt Go.RowKit
set_option linter.unusedVariables false

section
variable {ops : Array Oper} {rest : List Oper} {o : Oper} {a : Act} {Q : Exit → Act → World → Prop} {w : World} {t : TypeId} {g : Nat} {x y : Operand}
theorem loadmid64b {off : Nat} {l : List UInt8} (hA : w.rangeAt g off (bvs l)) (hl : l.length = 64) (hs : o.guard = none ∧ o.op = .load 33 x ∧ a.eval x = .pointer (some ⟨g, off, none⟩))
    (hk : wpList Tryd.prog ops Q rest (a.put o.dst (.agg (bvs l).toArray)) w) : wpList Tryd.prog ops Q (o :: rest) a w :=
  wpList_load_mid hs.1 _ x hs.2.1 g off hs.2.2 _ _ hA Tryd.underlying33 rfl (by rw [bvs_length, hl]; kernel_rfl) hk
theorem new64b {l : List UInt8} {cs : Array Value} (hl : l.length = 64) (hs : o.guard = none ∧ o.op = .store 33 x y ∧ a.eval x = .pointer (some ⟨w.heap.size, 0, none⟩) ∧ a.eval y = .agg (bvs l).toArray ∧ cs.toList.length = 64)
    (hk : wpList Tryd.prog ops Q rest (a.put o.dst undef) (w.alloc (.cells (bvs l).toArray t))) : wpList Tryd.prog ops Q (o :: rest) a (w.alloc (.cells cs t)) :=
  store_arr hs.1 _ _ _ hs.2.1 (Arr.new w t cs) hs.2.2.1 hs.2.2.2.1 (by rw [bvs_length, hl]; kernel_rfl) (by rw [hs.2.2.2.2, bvs_length, hl]) (bvs_oneCell l) (by rw [World.setRow_alloc_new]; exact hk)
end
section
variable {P : Program} {ops : Array Oper} {Q : Exit → Act → World → Prop} {md : Region.Mode} {S : World → Prop}
/-- A whole array's load, taken first. -/
theorem take_arr {i : Nat} {o : Oper} {fuel : Nat} {listed : Array Bool} {a : Act} {w : World} (hi : ops[i]? = some o) (hs : Region.noSelect ops = true) (hf : Region.free md ops listed i = true) (hr : (Region.ready md ops listed).contains i = true)
    {v : Value} (hQ : ∀ c a w, Q (.panic c) (a.put o.dst v) w → Q (.panic c) a w) {ty : TypeId} {x : Operand} {b : Nat} {cs : List Value} {d : TypeDesc} (hv : v = .agg cs.toArray) (ho : o.guard = none ∧ o.op = .load ty x ∧ a.eval x = .pointer (some ⟨b, 0, none⟩)) (hS : ∀ w, S w → w.rangeAt b 0 cs)
    (hu : P.underlying ty = some d) (hd : d.isRow = true) (hz : (P.info? ty).map (·.size) = some cs.length) (hw : S w)
    (h : wpAnyH P md ops Q S fuel (listed.setIfInBounds i true) (a.put o.dst (.agg cs.toArray)) w) : wpAnyH P md ops Q S (fuel + 1) listed a w := by
  subst hv
  exact wpAnyH_take hi hs hf hr hQ (yieldsIf_load_mid (by simp [Region.wanted, ho.1]) ty x ho.2.1 b 0 ho.2.2 cs d hS hu hd hz) hw h
end
/-- What the region keeps: the state's block and the bytes' block. -/
def Ks (w0 : World) (B G : Nat) (s : S8) (l : List UInt8) (w' : World) : Prop := Arr w' 32 B (wvs s.list) ∧ Arr w' 33 G (bvs l) ∧ Env w' ∧ Below w0.heap.size w0 w'
theorem Ks.later {w0 w1 w2 : World} {B G : Nat} {s : S8} {l : List UInt8} (h : Ks w0 B G s l w1) (hb : Below w1.heap.size w1 w2) : Ks w0 B G s l w2 :=
  ⟨h.1.later hb, h.2.1.later hb, h.2.2.1.below hb, h.2.2.2.trans (hb.mono h.2.2.2.size)⟩
set_option maxRecDepth 100000 in
set_option maxHeartbeats 1000000 in
theorem blocks_walk (n : Nat) (hn : n < lim64) (s : S8) (w : World) (he : Env w) :
    Calls Tryd.prog 4 #[.int .u64 n, .agg (wvs s.list).toArray] w fun e w' => e = .returned (.bool true) ∧ Below w.heap.size w w' := by
  have HN := Lib.hid hn
  obtain ⟨sl, hsl⟩ : ∃ sl, sl = s.list := ⟨_, rfl⟩
  rw [← hsl]
  have HSL := Lib.hid hsl
  have HSN : Hid (sl.length = 8) := by rw [hsl]; rfl
  have HA : Hid (Arr (w.alloc (.cells (wvs sl).toArray 32)) 32 w.heap.size (wvs sl)) := Arr.new' w _ _ (wvs sl) (by simp)
  have HB0 : Hid (Below w.heap.size w (w.alloc (.cells (wvs sl).toArray 32))) := (Below.refl _ _).alloc (Nat.le_refl _) _
  have HE0 : Hid (Env (w.alloc (.cells (wvs sl).toArray 32))) := he.below HB0.out
  clear hsl hn he
  go_enter Tryd.func4, Tryd.ntmps4
  go_wp2_with fail
  refine (shawake_any _ HE0.out).mono ?_
  rintro e w1 ⟨rfl, b1⟩
  have HA1 := Lib.hid (HA.out.later b1)
  have HE1 := Lib.hid (HE0.out.below b1)
  have HB1 := Lib.hid (HB0.out.trans (b1.mono HB0.out.size))
  clear b1 HA HB0 HE0
  go_wp2_with fail
  refine (spread_any n HN.out 64 (by omega) _).mono ?_
  rintro e w2 ⟨l, hl, v2, rfl, o2, b2⟩
  have HLL := Lib.hid hl
  clear hl
  have HA2 := Lib.hid (HA1.out.later b2)
  have HE2 := Lib.hid (HE1.out.below b2)
  have HB2 := Lib.hid (HB1.out.trans (b2.mono HB1.out.size))
  have HH2 := Lib.hid (Held.of_own o2)
  clear o2 b2 HA1 HE1 HB1
  have HH3 := HH2.out
  rcases HH3 with ⟨_, h0⟩ | ⟨g, off, c, rfl, h1, h2, h3, h4, h5, h6⟩
  · have := HLL.out; rw [h0] at this; simp at this
  have HR := Lib.hid (range_bytes h5 64 (by have := HLL.out; omega))
  have e64 : l.length = 64 := HLL.out
  rw [e64] at HH2 ⊢
  have HT : Hid ((List.take 64 l).length = 64) := by show _ = _; rw [List.length_take]; omega
  have HTL : Hid (List.take 64 l = l) := List.take_of_length_le (by omega)
  rw [HTL.out] at HR HT
  clear h1 h2 h3 h4 h5 h6 e64
  have har := arr_at ⟨g, off, none⟩ 64 c (by omega)
  go_wp2_with (first
    | ((with_reducible refine loadmid64b (off := off) (l := l) (x := .tmp 10) (o := ⟨some 11, _, _, _, _, _⟩) HR.out HT.out ?_ ?_); exact ⟨rfl, rfl, rfl⟩)
    | ((with_reducible refine new64b (x := .tmp 5) (y := .tmp 11) (l := l) (o := ⟨none, .store _ _ _, _, _, _, _⟩) HT.out ?_ ?_); exact ⟨rfl, rfl, rfl, rfl, rfl⟩))
  have hks : Ks w w.heap.size w2.heap.size s l (w2.alloc (.cells (bvs l).toArray 33)) := by
    have hba : Below w2.heap.size w2 (w2.alloc (.cells (bvs l).toArray 33)) := (Below.refl _ _).alloc (Nat.le_refl _) _
    have := HA2.out.alloc (.cells (bvs l).toArray 33)
    rw [HSL.out] at this
    exact ⟨this, Arr.new' w2 _ _ (bvs l) (by simp), HE2.out.below hba, HB2.out.trans (hba.mono HB2.out.size)⟩
  obtain ⟨R, hR⟩ : ∃ R, R = (blk s l).list := ⟨_, rfl⟩
  obtain ⟨KK, hKK⟩ : ∃ KK, KK = kk := ⟨_, rfl⟩
  obtain ⟨G, hG⟩ : ∃ G, G = w2.heap.size := ⟨_, rfl⟩
  have HQ1 : Hid (∀ w' : World, Ks w w.heap.size G s l w' → Calls Tryd.prog 13 #[.agg (wvs s.list).toArray, .agg (bvs l).toArray] w' fun e w'' => ∃ v, e = .returned v ∧ (v = .agg (wvs R).toArray ∧ Ks w w.heap.size G s l w'')) := by
    intro w' hk; rw [hR]; exact (block_any s l HT.out w' hk.2.2.1).mono fun e w'' ⟨h1, h2⟩ => ⟨_, h1, rfl, hk.later h2⟩
  have HQ2 : Hid (∀ w' : World, Ks w w.heap.size G s l w' → Calls Tryd.prog 15 #[] w' fun e w'' => ∃ v, e = .returned v ∧ (v = .agg (wvs KK).toArray ∧ Ks w w.heap.size G s l w'')) := by
    intro w' hk; rw [hKK]; exact (rtable_any w').mono fun e w'' ⟨h1, h2⟩ => ⟨_, h1, rfl, hk.later h2⟩
  have HQ3 : Hid (∀ w' : World, Ks w w.heap.size G s l w' → Calls Tryd.prog 14 #[.agg (wvs s.list).toArray, .agg (bvs l).toArray, .agg (wvs KK).toArray] w' fun e w'' => ∃ v, e = .returned v ∧ (v = .agg (wvs R).toArray ∧ Ks w w.heap.size G s l w'')) := by
    intro w' hk; rw [hR, hKK]; exact (rblock_any s l HT.out w').mono fun e w'' ⟨h1, h2⟩ => ⟨_, h1, rfl, hk.later h2⟩
  have hq : ∀ w' : World, (binOp .eql 32 (.agg (wvs R).toArray) (.agg (wvs R).toArray)).run Tryd.prog w' = .ok (.bool true) w' := by
    intro w'
    have := eql_8words w' R R (by rw [hR]; rfl) (by rw [hR]; rfl)
    rw [beq_self_eq_true] at this
    exact this
  have HI8 : Hid ((Tryd.prog.info? 32).map (·.size) = some (wvs s.list).length) := by show _ = _; rw [wvs_length]; kernel_rfl
  have HI64 : Hid ((Tryd.prog.info? 33).map (·.size) = some (bvs l).length) := by show _ = _; rw [bvs_length, HT.out]; kernel_rfl
  rw [HSL.out]
  rw [← hG] at hks
  generalize w2.alloc (.cells (bvs l).toArray 33) = w3 at hks ⊢
  rw [← hG]
  have HKS := Lib.hid hks
  clear hR hKK hks HR HA2 HE2 HB2 HH2 har HSL HSN HTL HLL HT HN hG
  refine wp_region_noPanic ?_
  refine wp_region_held_drew (S := Ks w w.heap.size G s l) (by kernel_rfl) (HKS.out.later (Below.refl _ _).drew) (fun hHeld => ?_)
  refine take_arr (i := 0) (o := ⟨some 12, _, _, _, _, _⟩) rfl (by kernel_rfl) (by kernel_rfl) (by kernel_rfl) (fun _ _ _ h => h) (cs := wvs s.list) rfl ⟨rfl, rfl, rfl⟩ (fun _ h => h.1.range) Tryd.underlying32 rfl HI8.out hHeld ?_
  simp only [Act.put, List.setIfInBounds_toArray, List.set_cons_zero, List.set_cons_succ]
  refine take_arr (i := 1) (o := ⟨some 13, _, _, _, _, _⟩) rfl (by kernel_rfl) (by kernel_rfl) (by kernel_rfl) (fun _ _ _ h => h) (cs := bvs l) rfl ⟨rfl, rfl, rfl⟩ (fun _ h => h.2.1.range) Tryd.underlying33 rfl HI64.out hHeld ?_
  simp only [Act.put, List.setIfInBounds_toArray, List.set_cons_zero, List.set_cons_succ]
  refine take_arr (i := 3) (o := ⟨some 15, _, _, _, _, _⟩) rfl (by kernel_rfl) (by kernel_rfl) (by kernel_rfl) (fun _ _ _ h => h) (cs := wvs s.list) rfl ⟨rfl, rfl, rfl⟩ (fun _ h => h.1.range) Tryd.underlying32 rfl HI8.out hHeld ?_
  simp only [Act.put, List.setIfInBounds_toArray, List.set_cons_zero, List.set_cons_succ]
  refine take_arr (i := 4) (o := ⟨some 16, _, _, _, _, _⟩) rfl (by kernel_rfl) (by kernel_rfl) (by kernel_rfl) (fun _ _ _ h => h) (cs := bvs l) rfl ⟨rfl, rfl, rfl⟩ (fun _ h => h.2.1.range) Tryd.underlying33 rfl HI64.out hHeld ?_
  simp only [Act.put, List.setIfInBounds_toArray, List.set_cons_zero, List.set_cons_succ]
  refine wpAnyH_ready (rs := [2]) (by kernel_rfl) (by simp) ?_
  refine AllReadyH.cons (o := ⟨some 14, _, _, _, _, _⟩) rfl (fun K hK => ?_) AllReadyH.nil
  refine step_call rfl ?_ (HQ1.out _ hHeld) ?_
  · go_simp
  rintro v w4 ⟨rfl, hk4⟩
  refine hK.out _ _ hk4 (fun _ => ?_)
  clear hK K hHeld
  simp only [Act.put, List.setIfInBounds_toArray, List.set_cons_zero, List.set_cons_succ]
  refine wpAnyH_ready (rs := [5]) (by kernel_rfl) (by simp) ?_
  refine AllReadyH.cons (o := ⟨some 17, _, _, _, _, _⟩) rfl (fun K hK => ?_) AllReadyH.nil
  refine step_call rfl ?_ (HQ2.out _ hk4) ?_
  · go_simp
  rintro v w5 ⟨rfl, hk5⟩
  refine hK.out _ _ hk5 (fun _ => ?_)
  clear hK K hk4
  simp only [Act.put, List.setIfInBounds_toArray, List.set_cons_zero, List.set_cons_succ]
  refine wpAnyH_ready (rs := [6]) (by kernel_rfl) (by simp) ?_
  refine AllReadyH.cons (o := ⟨some 18, _, _, _, _, _⟩) rfl (fun K hK => ?_) AllReadyH.nil
  refine step_call rfl ?_ (HQ3.out _ hk5) ?_
  · go_simp
  rintro v w6 ⟨rfl, hk6⟩
  refine hK.out _ _ hk6 (fun _ => ?_)
  clear hK K hk5
  simp only [Act.put, List.setIfInBounds_toArray, List.set_cons_zero, List.set_cons_succ]
  refine wpAnyH_take (i := 7) (oi := ⟨some 19, _, _, _, _, _⟩) (v := .bool true) rfl (by kernel_rfl) (by kernel_rfl) (by kernel_rfl) (fun _ _ _ h => h) (.inl ⟨by rfl, fun w' _ => ?_⟩) hk6 ?_
  · have := hq w'
    go_simp
  simp only [Act.put, List.setIfInBounds_toArray, List.set_cons_zero, List.set_cons_succ]
  refine wpAnyH_take (i := 8) (oi := ⟨some 4, _, _, _, _, _⟩) (v := .bool true) rfl (by kernel_rfl) (by kernel_rfl) (by kernel_rfl) (fun _ _ _ h => h) (.inl ⟨by rfl, fun w' _ => ?_⟩) hk6 ?_
  · go_simp
  simp only [Act.put, List.setIfInBounds_toArray, List.set_cons_zero, List.set_cons_succ]
  refine wpAnyH_done (by kernel_rfl) ?_ _
  refine NoPanic.normal ?_
  have HB6 := Lib.hid hk6.2.2.2
  clear hk6
  go_wp2_with fail
  go_ret
  exact ⟨rfl, HB6.out⟩
end Go.Proofs.YtbnpnpoddnkaiaaDoor
