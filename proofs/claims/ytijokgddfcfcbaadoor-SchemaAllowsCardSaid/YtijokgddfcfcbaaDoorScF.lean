/-
  schema.Members' iterator and Count on the law's schema.
-/
import Derived.Test.YtijokgddfcfcbaaDoorScE
import Derived.Test.YtijokgddfcfcbaaDoorTurnB
import Derived.RangeFuncNested
import Derived.RangeFuncBound
import Derived.RangeFuncCalls
import Derived.RangeFuncLeaves
import Derived.Shelf.Abstract
import Derived.Shelf.RegionOpen
import Derived.WalkKit
import Derived.WalkMore
import Derived.OwnWalkIn
import Derived.TacticsInMore
import Derived.LoopNIn
import Derived.LoopIn
import Derived.Deep.Cut
import Derived.Deep.CutBlock
import Derived.StillTailTactics
import Derived.Sort.CutIn
namespace Go.Proofs.YtijokgddfcfcbaaDoor
open Go.ChangeShapes Go.WideShapes Go.ChangeAt Go.RowKit
set_option linter.unusedVariables false
attribute [local go_sem] Oper.semAt_some

def encU (p : Nat) (_ : Unit) : Array Value := #[.string ⟨#[100]⟩, .agg #[.string ⟨#[97]⟩, .int .i64 1, .slice (some ⟨p, 0, none⟩) 1 1, .int .i64 0, .string ⟨#[]⟩, .string ⟨#[]⟩, .slice none 0 0]]
set_option maxRecDepth 100000 in
set_option maxHeartbeats 2000000 in
theorem members1_reads (n₀ : Nat) (w : World) {g d m p : Nat} (hS : Arr w 37 g [.slice (some ⟨d, 0, none⟩) 1 1]) (hD : Arr w 34 d [.string ⟨#[100]⟩, .slice (some ⟨m, 0, none⟩) 1 1]) (hM : Arr w 27 m [.string ⟨#[97]⟩, .int .i64 1, .slice (some ⟨p, 0, none⟩) 1 1, .int .i64 0, .string ⟨#[]⟩, .string ⟨#[]⟩, .slice none 0 0]) (hn : n₀ ≤ w.heap.size) :
    SeqReads Fence.wide 5 Tryd.prog 25 #[.pointer (some ⟨g, 0, none⟩)] (encU p) n₀ (fun _ _ _ => True) (fun xs => xs = [()]) (fun _ => True) 1 w := by
  intro l J Jx W hW hJ hJx hY h0
  refine callsIn_wide.2 ?_
  have HJ2 : Hid (J [] ((W.alloc (.cells #[.string ⟨#[100]⟩, .slice (some ⟨m, 0, none⟩) 1 1] 34)).alloc (.cells #[.string ⟨#[97]⟩, .int .i64 1, .slice (some ⟨p, 0, none⟩) 1 1, .int .i64 0, .string ⟨#[]⟩, .string ⟨#[]⟩, .slice none 0 0] 27))) := hJ _ _ _ h0 (((Below.refl _ _).alloc (Nat.le_refl _) _).alloc (by simp) _)
  have HYY := Lib.hid (hY [] () _ HJ2.out trivial (by decide))
  have s0 := (hS.later hW).cell 0
  have e0 := (hD.later hW).cell 0
  have e1 := (hD.later hW).cell 1
  simp only [List.getElem?_cons_zero, List.getElem?_cons_succ] at s0 e0 e1
  have m0 := ((hM.later hW).alloc (.cells #[.string ⟨#[100]⟩, .slice (some ⟨m, 0, none⟩) 1 1] 34)).cell 0
  have m1 := ((hM.later hW).alloc (.cells #[.string ⟨#[100]⟩, .slice (some ⟨m, 0, none⟩) 1 1] 34)).cell 1
  have m2 := ((hM.later hW).alloc (.cells #[.string ⟨#[100]⟩, .slice (some ⟨m, 0, none⟩) 1 1] 34)).cell 2
  have m3 := ((hM.later hW).alloc (.cells #[.string ⟨#[100]⟩, .slice (some ⟨m, 0, none⟩) 1 1] 34)).cell 3
  have m4 := ((hM.later hW).alloc (.cells #[.string ⟨#[100]⟩, .slice (some ⟨m, 0, none⟩) 1 1] 34)).cell 4
  have m5 := ((hM.later hW).alloc (.cells #[.string ⟨#[100]⟩, .slice (some ⟨m, 0, none⟩) 1 1] 34)).cell 5
  have m6 := ((hM.later hW).alloc (.cells #[.string ⟨#[100]⟩, .slice (some ⟨m, 0, none⟩) 1 1] 34)).cell 6
  simp only [List.getElem?_cons_zero, List.getElem?_cons_succ] at m0 m1 m2 m3 m4 m5 m6
  clear hS hD hM hn hW hJ hJx hY h0
  go_enter Tryd.func25, Tryd.ntmps25
  go_wp2_with fail
  refine wp_loop_rounds 2 ?_
  rw [rounds_succ]
  go_wp2_with fail
  refine wp_loop_rounds 2 ?_
  rw [rounds_succ]
  go_upto_region 6 with (fail)
  obtain ⟨fn, tmps, assign, body, hy, hR⟩ := HYY.out
  dsimp only [encU] at hy
  refine (wpIn_wide (n := 5)).1 ?_
  gi_wp2
  refine hR.mono ?_
  rintro e W3 (⟨rfl, hJ3, hk3⟩ | ⟨rfl, hJx3⟩)
  · have HJ3 := Lib.hid hJ3
    clear hJ3 hk3 hy hR
    gi_wp2
    go_wp2_with fail
    rw [rounds_succ]
    go_wp2_with fail
    rw [rounds_succ]
    go_wp2_with fail
    go_end0
    exact ⟨⟨_, rfl⟩, .inl ⟨[()], rfl, HJ3.out⟩⟩
  · have HJ3 := Lib.hid hJx3
    clear hJx3 hy hR
    gi_wp2
    go_wp2_with fail
    refine bodyPost_ret (results_none rfl _ _ _) rfl ?_
    exact ⟨⟨_, rfl⟩, .inr ⟨[()], trivial, HJ3.out⟩⟩
/-- What Count's rounds keep. -/
def CI (w : World) (d : Nat) (r : Nat) (W : World) : Prop :=
  Arr W 37 w.heap.size [.slice (some ⟨d, 0, none⟩) 1 1] ∧ Arr W 3 (w.heap.size + 1) [.int .i64 (r : Nat)] ∧ Arr W 3 (w.heap.size + 2) [.int .i64 0] ∧ Below w.heap.size w W
theorem CI.later {w : World} {d r : Nat} {W W' : World} (h : CI w d r W) (hb : Below W.heap.size W W') : CI w d r W' := ⟨h.1.later hb, h.2.1.later hb, h.2.2.1.later hb, h.2.2.2.trans (hb.mono h.2.2.2.size)⟩
theorem CI.turns {w : World} {d r B : Nat} (hB : w.heap.size + 2 < B) : Turns B (CI w d r) := fun W l o o' hl h ho hx =>
  ⟨arr_turn (by omega) hx.1, arr_turn (by omega) hx.2.1, arr_turn (by omega) hx.2.2.1, hx.2.2.2.trans (below_put W l o' (by omega))⟩
theorem CI.put {w : World} {d r : Nat} {W : World} (h : CI w d r W) : CI w d (r + 1) (W.setCell ⟨w.heap.size + 1, 0, none⟩ (.int .i64 ((r : Int) + 1))) := by
  refine ⟨h.1.setCell (by simp) _, ?_, h.2.2.1.setCell (by simp) _, h.2.2.2.setCell (p := ⟨w.heap.size + 1, 0, none⟩) (by simp) _⟩
  have := h.2.1.set 0 (.int .i64 ((r : Int) + 1))
  rw [Int.natCast_add]
  exact this
def CJ (w : World) (d D0 : Nat) (W : World) : Prop := CI w d 1 W ∧ W.heap[D0]? = some (.deferred (some []))
theorem CJ.later {w : World} {d D0 : Nat} {W W' : World} (h : CJ w d D0 W) (hb : Below W.heap.size W W') : CJ w d D0 W' := ⟨h.1.later hb, (hb.block D0 (Array.getElem?_eq_some_iff.1 h.2).1).trans h.2⟩
theorem CJ.put1 {w : World} {d D0 : Nat} {W : World} (h : CJ w d D0 W) : CJ w d D0 (W.setCell ⟨w.heap.size + 1, 0, none⟩ (.int .i64 1)) :=
  ⟨⟨h.1.1.setCell (by simp) _, h.1.2.1.set 0 _, h.1.2.2.1.setCell (by simp) _, h.1.2.2.2.setCell (p := ⟨w.heap.size + 1, 0, none⟩) (by simp) _⟩, (Below.heap_setCell W ⟨w.heap.size + 1, 0, none⟩ _ D0 (fun e => by
    have := h.1.2.1
    have h2 := h.2
    unfold Arr at this
    rw [show D0 = w.heap.size + 1 from e, this] at h2
    cases h2)).trans h.2⟩
theorem CJ.put2 {w : World} {d D0 : Nat} {W : World} (h : CJ w d D0 W) : CJ w d D0 (W.setCell ⟨w.heap.size + 2, 0, none⟩ (.int .i64 0)) :=
  ⟨⟨h.1.1.setCell (by simp) _, h.1.2.1.setCell (by simp) _, h.1.2.2.1.set 0 _, h.1.2.2.2.setCell (p := ⟨w.heap.size + 2, 0, none⟩) (by simp) _⟩, (Below.heap_setCell W ⟨w.heap.size + 2, 0, none⟩ _ D0 (fun e => by
    have := h.1.2.2.1
    have h2 := h.2
    unfold Arr at this
    rw [show D0 = w.heap.size + 2 from e, this] at h2
    cases h2)).trans h.2⟩
def BU (N p g : Nat) (W : World) : Prop := N < g ∧ Arr W 27 g [.string ⟨#[97]⟩, .int .i64 1, .slice (some ⟨p, 0, none⟩) 1 1, .int .i64 0, .string ⟨#[]⟩, .string ⟨#[]⟩, .slice none 0 0]
theorem bu_turn {N p g : Nat} (W : World) (l : Nat) (o o' : Obj) (h : W.heap[l]? = some o) (ho : o.isCells = false) (hx : BU N p g W) : BU N p g (W.putObj l o') := by
  refine ⟨hx.1, arr_turn (fun e => ?_) hx.2⟩
  subst e
  have := hx.2
  unfold Arr at this
  rw [h] at this
  cases this
  cases ho
set_option maxRecDepth 100000 in
set_option maxHeartbeats 2000000 in
theorem count_one {w : World} {d m p : Nat} (hD : Arr w 34 d [.string ⟨#[100]⟩, .slice (some ⟨m, 0, none⟩) 1 1]) (hM : Arr w 27 m [.string ⟨#[97]⟩, .int .i64 1, .slice (some ⟨p, 0, none⟩) 1 1, .int .i64 0, .string ⟨#[]⟩, .string ⟨#[]⟩, .slice none 0 0]) : Calls Tryd.prog 7 #[.agg #[.slice (some ⟨d, 0, none⟩) 1 1]] w fun r w' => r = .returned (.tuple #[.int .i64 1, .int .i64 1, .int .i64 0]) ∧ Below w.heap.size w w' := by
  have HB0 : Hid (Below w.heap.size w (((w.alloc (.cells #[.slice (some ⟨d, 0, none⟩) 1 1] 37)).alloc (.cells #[.int .i64 0] 3)).alloc (.cells #[.int .i64 0] 3))) := (((Below.refl _ _).alloc (Nat.le_refl _) _).alloc (by simp) _).alloc (by simp; omega) _
  have HI0 : Hid (CI w d 0 (((w.alloc (.cells #[.slice (some ⟨d, 0, none⟩) 1 1] 37)).alloc (.cells #[.int .i64 0] 3)).alloc (.cells #[.int .i64 0] 3))) := ⟨((Arr.new' w _ _ _ rfl).alloc _).alloc _, (Arr.new2 w _ _ _ _ rfl).alloc _, Arr.new3 w _ _ _ _ _ rfl, HB0.out⟩
  have HD := Lib.hid ((((hD.alloc _).alloc _).alloc _ : Arr (((w.alloc (.cells #[.slice (some ⟨d, 0, none⟩) 1 1] 37)).alloc (.cells #[.int .i64 0] 3)).alloc (.cells #[.int .i64 0] 3)) _ _ _))
  have HM := Lib.hid ((((hM.alloc _).alloc _).alloc _ : Arr (((w.alloc (.cells #[.slice (some ⟨d, 0, none⟩) 1 1] 37)).alloc (.cells #[.int .i64 0] 3)).alloc (.cells #[.int .i64 0] 3)) _ _ _))
  have HMK := Lib.hid (members_mk (.slice (some ⟨d, 0, none⟩) 1 1) (((w.alloc (.cells #[.slice (some ⟨d, 0, none⟩) 1 1] 37)).alloc (.cells #[.int .i64 0] 3)).alloc (.cells #[.int .i64 0] 3)))
  have HZ : Hid ((((w.alloc (.cells #[.slice (some ⟨d, 0, none⟩) 1 1] 37)).alloc (.cells #[.int .i64 0] 3)).alloc (.cells #[.int .i64 0] 3)).heap.size = w.heap.size + 3) := by show _ = _; simp
  clear hD hM
  refine calls_marks Tryd.func7 rfl ?_
  simp only [Tryd.ntmps7, List.size_toArray, List.length_cons, List.length_nil, Nat.reduceAdd, Nat.reduceSub, Array.replicate_succ, Array.replicate_zero, List.push_toArray, List.append_toArray, List.nil_append, List.cons_append]
  go_wp2_with fail
  refine HMK.out.mono ?_
  rintro r w4 ⟨rfl, rfl⟩
  have hb4 : Below (((w.alloc (.cells #[.slice (some ⟨d, 0, none⟩) 1 1] 37)).alloc (.cells #[.int .i64 0] 3)).alloc (.cells #[.int .i64 0] 3)).heap.size (((w.alloc (.cells #[.slice (some ⟨d, 0, none⟩) 1 1] 37)).alloc (.cells #[.int .i64 0] 3)).alloc (.cells #[.int .i64 0] 3)) ((((w.alloc (.cells #[.slice (some ⟨d, 0, none⟩) 1 1] 37)).alloc (.cells #[.int .i64 0] 3)).alloc (.cells #[.int .i64 0] 3)).alloc (.cells #[.slice (some ⟨d, 0, none⟩) 1 1] 37)) := (Below.refl _ _).alloc (Nat.le_refl _) _
  have HI4 := Lib.hid (HI0.out.later hb4)
  have HSEQ : Hid (SeqReads Fence.wide 5 Tryd.prog 25 #[.pointer (some ⟨(((w.alloc (.cells #[.slice (some ⟨d, 0, none⟩) 1 1] 37)).alloc (.cells #[.int .i64 0] 3)).alloc (.cells #[.int .i64 0] 3)).heap.size, 0, none⟩)] (encU p) (w.heap.size + 1) (fun _ _ _ => True) (fun xs => xs = [()]) (fun _ => True) 1 ((((w.alloc (.cells #[.slice (some ⟨d, 0, none⟩) 1 1] 37)).alloc (.cells #[.int .i64 0] 3)).alloc (.cells #[.int .i64 0] 3)).alloc (.cells #[.slice (some ⟨d, 0, none⟩) 1 1] 37))) :=
    members1_reads _ _ (Arr.new' _ _ _ _ rfl) (HD.out.alloc _) (HM.out.alloc _) (by simp)
  have HZ4 : Hid (((((w.alloc (.cells #[.slice (some ⟨d, 0, none⟩) 1 1] 37)).alloc (.cells #[.int .i64 0] 3)).alloc (.cells #[.int .i64 0] 3)).alloc (.cells #[.slice (some ⟨d, 0, none⟩) 1 1] 37)).heap.size = w.heap.size + 4) := by show _ = _; simp
  rw [HZ.out] at HSEQ ⊢
  clear HI0 HD HM HMK HB0 hb4
  go_upto_block 0 with fail
  generalize ((((w.alloc (.cells #[.slice (some ⟨d, 0, none⟩) 1 1] 37)).alloc (.cells #[.int .i64 0] 3)).alloc (.cells #[.int .i64 0] 3)).alloc (.cells #[.slice (some ⟨d, 0, none⟩) 1 1] 37)) = w4 at HI4 HSEQ HZ4 ⊢
  clear HZ
  refine wp_block_put2 (gf := 25) (lb := #[.pointer (some ⟨w.heap.size + 3, 0, none⟩)]) rfl (enters_of Tryd.func25 (by kernel_rfl) rfl) HSEQ.out (by rw [HZ4.out]; omega) (fun pre x W l o o' _ _ _ _ => trivial) (by intro x; rfl)
    (fun pre W => CI w d pre.length W) (fun _ _ => False)
    (fun _ _ _ h hb => h.later hb) (fun _ _ _ h hb => h) (fun pre => CI.turns (by rw [HZ4.out]; omega)) (fun pre W l o o' hl h ho hx => hx)
    HI4.out (fun _ g W => BU (w.heap.size + 2) p g W) (fun x g W l o o' _ h ho hx => bu_turn W l o o' h ho hx) (fun _ g t => ((t.setIfInBounds 9 (.string ⟨#[100]⟩)).setIfInBounds 10 (.agg #[.string ⟨#[97]⟩, .int .i64 1, .slice (some ⟨p, 0, none⟩) 1 1, .int .i64 0, .string ⟨#[]⟩, .string ⟨#[]⟩, .slice none 0 0])).setIfInBounds 6 (.pointer (some ⟨g, 0, none⟩))) ?assign0 ?body0 ?done0
  case assign0 =>
    rintro lq pre x W K hi _ hK
    have HHI := Lib.hid hi
    have HK := Lib.hid hK
    clear hi hK
    dsimp only [encU]
    gi_wp2
    have hb : Below W.heap.size W (W.alloc (.cells #[.string ⟨#[97]⟩, .int .i64 1, .slice (some ⟨p, 0, none⟩) 1 1, .int .i64 0, .string ⟨#[]⟩, .string ⟨#[]⟩, .slice none 0 0] 27)) := (Below.refl _ _).alloc (Nat.le_refl _) _
    have hN : w.heap.size + 2 < W.heap.size := HHI.out.2.2.1.lt
    exact HK.out W.heap.size _ ⟨hN, Arr.new' W _ _ _ rfl⟩ (keeps_of_below hb) (hb.mono (by omega)) (HHI.out.later hb) trivial
  case body0 =>
    rintro lq pre x g W ⟨hg, ha⟩ hi _ hlen
    have h0 : pre.length = 0 := by omega
    rw [h0] at hi
    have HI := Lib.hid hi
    have HP := Lib.hid h0
    have a0 := ha.cell 0
    have a1 := ha.cell 1
    have a2 := ha.cell 2
    have a3 := ha.cell 3
    have a4 := ha.cell 4
    have a5 := ha.cell 5
    have a6 := ha.cell 6
    simp only [List.getElem?_cons_zero, List.getElem?_cons_succ] at a0 a1 a2 a3 a4 a5 a6
    have r0 := hi.2.1.cell 0
    have rf0 := hi.2.1.free 0
    simp only [List.getElem?_cons_zero] at r0
    clear hi hg ha hlen h0
    simp only [List.setIfInBounds_toArray, List.set_cons_zero, List.set_cons_succ]
    gi_wp2
    have HIP := Lib.hid HI.out.put
    have hWz := HI.out.2.2.1.lt
    refine ⟨KeepsOthers.setCell _ _ _, (Below.refl _ _).setCell (p := ⟨w.heap.size + 1, 0, none⟩) (Nat.le_refl _) _, ?_⟩
    show CI w d (pre ++ [x]).length _
    rw [List.length_append, HP.out]
    exact HIP.out
  case done0 =>
    rintro D0 xs W hDD hxs hK
    obtain hW : CI w d 1 W := by
      rcases hxs with ⟨h1, h2⟩ | h2
      · rw [h1] at h2; exact h2
      · exact h2.elim
    have HW := Lib.hid hW
    have HDM : Hid (W.heap[D0]? = some (.deferred (some [])) ∧ w4.heap.size ≤ D0) := ⟨hK, hDD⟩
    have s0 := hW.1.cell 0
    have r0 := hW.2.1.cell 0
    have p0 := hW.2.2.1.cell 0
    have rf0 := hW.2.1.free 0
    have pf0 := hW.2.2.1.free 0
    simp only [List.getElem?_cons_zero] at s0 r0 p0
    clear hW hDD hxs hK
    go_upto_region 6 with (fail)
    have HCJ : Hid (CJ w d D0 W) := ⟨HW.out, HDM.out.1⟩
    have HLT : Hid (w.heap.size + 2 < D0) := by have := HDM.out.2; have := HZ4.out; show _ < _; omega
    clear s0 r0 p0 rf0 pf0
    refine wp_region_noPanic ?_
    refine wp_region_held_drew (S := CJ w d D0) (by kernel_rfl) (HCJ.out.later (Below.refl _ _).drew) (fun hHeld => ?_)
    try simp only [Act.put]
    generalize W.drew = w5 at hHeld ⊢
    clear HCJ
    refine wpAnyH_take (i := 0) (oi := ⟨some 18, _, _, _, _, _⟩) (v := .pointer (some ⟨w.heap.size, 0, none⟩)) rfl (by kernel_rfl) (by kernel_rfl) (by kernel_rfl) (fun _ _ _ h => h) (.inl ⟨by rfl, fun w' hSw => ?_⟩) hHeld ?_
    focus (skip; clear hHeld; go_simp)
    try simp only [Act.put, List.setIfInBounds_toArray, List.set_cons_zero, List.set_cons_succ]
    refine wpAnyH_take (i := 1) (oi := ⟨some 19, _, _, _, _, _⟩) (v := .slice (some ⟨d, 0, none⟩) 1 1) rfl (by kernel_rfl) (by kernel_rfl) (by kernel_rfl) (fun _ _ _ h => h) (.inl ⟨by rfl, fun w' hSw => ?_⟩) hHeld ?_
    focus (have q0 := hSw.1.1.cell 0; simp only [List.getElem?_cons_zero] at q0; clear hHeld; go_simp)
    try simp only [Act.put, List.setIfInBounds_toArray, List.set_cons_zero, List.set_cons_succ]
    refine wpAnyH_take (i := 2) (oi := ⟨some 20, _, _, _, _, _⟩) (v := .int .i64 1) rfl (by kernel_rfl) (by kernel_rfl) (by kernel_rfl) (fun _ _ _ h => h) (.inl ⟨by rfl, fun w' hSw => ?_⟩) hHeld ?_
    focus (skip; clear hHeld; go_simp)
    try simp only [Act.put, List.setIfInBounds_toArray, List.set_cons_zero, List.set_cons_succ]
    refine wpAnyH_take (i := 3) (oi := ⟨some 21, _, _, _, _, _⟩) (v := .int .i64 1) rfl (by kernel_rfl) (by kernel_rfl) (by kernel_rfl) (fun _ _ _ h => h) (.inl ⟨by rfl, fun w' hSw => ?_⟩) hHeld ?_
    focus (have q0 := hSw.1.2.1.cell 0; simp only [List.getElem?_cons_zero] at q0; clear hHeld; go_simp)
    try simp only [Act.put, List.setIfInBounds_toArray, List.set_cons_zero, List.set_cons_succ]
    refine wpAnyH_take (i := 4) (oi := ⟨some 22, _, _, _, _, _⟩) (v := .int .i64 0) rfl (by kernel_rfl) (by kernel_rfl) (by kernel_rfl) (fun _ _ _ h => h) (.inl ⟨by rfl, fun w' hSw => ?_⟩) hHeld ?_
    focus (have q0 := hSw.1.2.2.1.cell 0; simp only [List.getElem?_cons_zero] at q0; clear hHeld; go_simp)
    try simp only [Act.put, List.setIfInBounds_toArray, List.set_cons_zero, List.set_cons_succ]
    refine wpAnyH_take (i := 5) (oi := ⟨some 2, _, _, _, _, _⟩) (v := .int .i64 1) rfl (by kernel_rfl) (by kernel_rfl) (by kernel_rfl) (fun _ _ _ h => h) (.inl ⟨by rfl, fun w' hSw => ?_⟩) hHeld ?_
    focus (skip; clear hHeld; go_simp)
    try simp only [Act.put, List.setIfInBounds_toArray, List.set_cons_zero, List.set_cons_succ]
    refine wpAnyH_ready (rs := [6]) (by kernel_rfl) (by simp) ?_
    refine AllReadyH.cons (o := ⟨none, _, _, _, _, _⟩) rfl (fun K' hK' => ?_) AllReadyH.nil
    have hc := hHeld.1.2.1.cell 0
    have hf := hHeld.1.2.1.free 0
    simp only [List.getElem?_cons_zero] at hc
    have HH := Lib.hid hHeld
    clear hHeld
    go_simp
    refine hK'.out _ _ (HH.out.put1) (fun _ => ?_)
    clear hK' K' hc hf
    have hHeld := HH.out.put1
    clear HH
    try simp only [Act.put, List.setIfInBounds_toArray, List.set_cons_zero, List.set_cons_succ]
    refine wpAnyH_ready (rs := [7]) (by kernel_rfl) (by simp) ?_
    refine AllReadyH.cons (o := ⟨none, _, _, _, _, _⟩) rfl (fun K' hK' => ?_) AllReadyH.nil
    have hc := hHeld.1.2.2.1.cell 0
    have hf := hHeld.1.2.2.1.free 0
    simp only [List.getElem?_cons_zero] at hc
    have HH := Lib.hid hHeld
    clear hHeld
    go_simp
    refine hK'.out _ _ (HH.out.put2) (fun _ => ?_)
    clear hK' K' hc hf
    have hHeld := HH.out.put2
    clear HH
    try simp only [Act.put, List.setIfInBounds_toArray, List.set_cons_zero, List.set_cons_succ]
    refine wpAnyH_done (by kernel_rfl) ?_ _
    refine NoPanic.normal ?_
    have HF := Lib.hid hHeld
    have hlt := HLT.out
    clear hHeld
    go_wp2_with fail
    refine ⟨by simp, .inl ⟨D0, _, rfl, run_takeDeferred HF.out.2, ?_⟩⟩
    have hc1 := cell_turn (o' := .deferred none) HF.out.2 rfl (HF.out.1.2.1.cell 0 : _ = some (.int .i64 1))
    have hc2 := cell_turn (o' := .deferred none) HF.out.2 rfl (HF.out.1.2.2.1.cell 0 : _ = some (.int .i64 0))
    refine ⟨.tuple #[.int .i64 1, .int .i64 1, .int .i64 0], ?_, rfl, ?_⟩
    · simp [results, Tryd.results7, go_sem, hc1, hc2]
    · exact HF.out.1.2.2.2.trans (below_put _ D0 _ (by omega))
end Go.Proofs.YtijokgddfcfcbaaDoor
